/- Plain mathematics for the law TapeNear: a run depends on the cells near the head. -/
import Derived.Test.YtkbaiegfloajlaaDoorVi
namespace Go.Proofs.YtkbaiegfloajlaaDoor.Tp

/-- A step within bounds that hold the cells and the head. -/
theorem step_box {m : MachS} {d : CfgS} {Lo Hi : Int} (h1 : Hi - Lo < 100000) (h2 : -maxPos ≤ Lo) (h3 : Hi ≤ maxPos) (hs : ∀ p, cellAt d.frm d.cells p ≠ 0 → Lo ≤ p ∧ p ≤ Hi) (hp : Lo ≤ d.pos ∧ d.pos ≤ Hi)
    (hm : Lo ≤ d.pos + (ruleAt m d.st (cellAt d.frm d.cells d.pos)).m ∧ d.pos + (ruleAt m d.st (cellAt d.frm d.cells d.pos)).m ≤ Hi) :
    ∃ e, stepC m d = some e ∧ (∀ p, cellAt e.frm e.cells p = if p = d.pos then (ruleAt m d.st (cellAt d.frm d.cells d.pos)).w else cellAt d.frm d.cells p) ∧ e.st = (ruleAt m d.st (cellAt d.frm d.cells d.pos)).n ∧ e.pos = d.pos + (ruleAt m d.st (cellAt d.frm d.cells d.pos)).m ∧ ∀ p, cellAt e.frm e.cells p ≠ 0 → Lo ≤ p ∧ p ≤ Hi := by
  obtain ⟨r, hr⟩ : ∃ r, r = ruleAt m d.st (cellAt d.frm d.cells d.pos) := ⟨_, rfl⟩
  rw [← hr] at hm ⊢
  obtain ⟨n, hn⟩ : ∃ n, n = normL (putL d.frm d.cells d.pos r.w).1 (putL d.frm d.cells d.pos r.w).2 := ⟨_, rfl⟩
  have hnn : Norm n.1 n.2 := by rw [hn]; exact normL_norm _ _
  have hnc : ∀ p, cellAt n.1 n.2 p = if p = d.pos then r.w else cellAt d.frm d.cells p := fun p => by rw [hn, normL_cell, putL_cell]
  have hs2 : ∀ p, cellAt n.1 n.2 p ≠ 0 → Lo ≤ p ∧ p ≤ Hi := by
    intro p h
    rw [hnc] at h
    split at h
    · rename_i e; rw [e]; exact hp
    · exact hs p h
  have hull := norm_hull hnn hs2
  have hmx : maxPos = 1099511627776 := rfl
  have hpos : inR (d.pos + r.m) = true := inR_iff.2 (by omega)
  have hlen : n.2.length ≤ 100000 := by
    rcases hull with e | ⟨_, e1, e2⟩
    · rw [e]; simp
    · omega
  have hfrm : inR n.1 = true := inR_iff.2 (by
    rcases hull with e | ⟨e0, e1, e2⟩
    · rcases hnn with ⟨_, e3⟩ | ⟨e3, _⟩
      · omega
      · exact absurd e e3
    · have : 0 < n.2.length := List.length_pos_iff.2 e0
      omega)
  refine ⟨⟨r.n, d.pos + r.m, n.1, n.2⟩, ?_, hnc, rfl, rfl, hs2⟩
  rw [stepC, ← hr, ← hn]
  rw [if_pos ⟨hlen, hpos, hfrm⟩]

/-- A configuration whose cells lie between bounds that leave room. -/
structure Box (P : Int) (Lo Hi : Int) (d : CfgS) : Prop where
  few : Hi - Lo < 100000
  low : -maxPos ≤ Lo
  high : Hi ≤ maxPos
  left : Lo ≤ P - 1001
  right : P + 1001 ≤ Hi
  sup : ∀ p, cellAt d.frm d.cells p ≠ 0 → Lo ≤ p ∧ p ≤ Hi

theorem rule_move {m : MachS} (hv : validM m = true) {d : CfgS} (hw : withinC d m.states m.symbols = true) (hs : d.st ≠ -1) : (ruleAt m d.st (cellAt d.frm d.cells d.pos)).m = -1 ∨ (ruleAt m d.st (cellAt d.frm d.cells d.pos)).m = 1 := by
  obtain ⟨w1, w2, _, _, _, _, w7⟩ := within_iff.1 hw
  obtain ⟨_, _, v3, _, _, _⟩ := validM_parts hv
  have hcl := (symB_cells (b := d.frm) (by omega)).1 w7
  obtain ⟨s, hse⟩ := Int.eq_ofNat_of_zero_le (show 0 ≤ d.st by omega)
  obtain ⟨x, hxe⟩ := Int.eq_ofNat_of_zero_le (hcl d.pos).1
  obtain ⟨_, r', _, _, h3, h4, _⟩ := rule_at hv (s := s) (x := x) (by omega) (by have := (hcl d.pos).2; omega)
  rw [hse, hxe, h3]
  exact (ruleB_yes.1 h4).2.2.2.2

theorem near_go {m : MachS} (hv : validM m = true) (P : Int) (k : Nat) (hk : k ≤ 1000) (Lx Hx Ly Hy : Int) : ∀ (n j : Nat) (x y : CfgS), j + n = k → withinC x m.states m.symbols = true → withinC y m.states m.symbols = true → x.st = y.st → x.pos = y.pos → P - j ≤ x.pos → x.pos ≤ P + j →
    (∀ p, P - k ≤ p → p ≤ P + k → cellAt x.frm x.cells p = cellAt y.frm y.cells p) → Box P Lx Hx x → Box P Ly Hy y →
    ∃ a b i, runC m n x = some (a, i) ∧ runC m n y = some (b, i) ∧ i ≤ n ∧ a.st = b.st ∧ a.pos = b.pos ∧ x.pos - i ≤ a.pos ∧ a.pos ≤ x.pos + i ∧ (∀ p, (p < P - k ∨ P + k < p) → cellAt a.frm a.cells p = cellAt x.frm x.cells p ∧ cellAt b.frm b.cells p = cellAt y.frm y.cells p) ∧
      withinC a m.states m.symbols = true ∧ withinC b m.states m.symbols = true := by
  intro n
  induction n with
  | zero =>
    intro j x y _ wx wy e1 e2 _ _ _ _ _
    exact ⟨x, y, 0, rfl, rfl, Nat.le_refl _, e1, e2, by simp, by simp, fun p _ => ⟨rfl, rfl⟩, wx, wy⟩
  | succ n ih =>
    intro j x y hj wx wy e1 e2 e3 e4 e5 bx bY
    by_cases hs : x.st = -1
    · exact ⟨x, y, 0, runC_zero m x hs _, runC_zero m y (by rw [← e1]; exact hs) _, Nat.zero_le _, e1, e2, by simp, by simp, fun p _ => ⟨rfl, rfl⟩, wx, wy⟩
    · have hsy : y.st ≠ -1 := by rw [← e1]; exact hs
      have hsym : cellAt x.frm x.cells x.pos = cellAt y.frm y.cells y.pos := by rw [← e2]; exact e5 _ (by omega) (by omega)
      have hrl : ruleAt m y.st (cellAt y.frm y.cells y.pos) = ruleAt m x.st (cellAt x.frm x.cells x.pos) := by rw [← e1, ← hsym]
      have hmv := rule_move hv wx hs
      obtain ⟨x', s1, s2, s3, s4, s5⟩ := step_box (m := m) bx.few bx.low bx.high bx.sup (by have := bx.left; have := bx.right; omega) (by have := bx.left; have := bx.right; rcases hmv with e | e <;> rw [e] <;> omega)
      obtain ⟨y', t1, t2, t3, t4, t5⟩ := step_box (m := m) bY.few bY.low bY.high bY.sup (by rw [← e2]; have := bY.left; have := bY.right; omega) (by rw [hrl, ← e2]; have := bY.left; have := bY.right; rcases hmv with e | e <;> rw [e] <;> omega)
      rw [hrl] at t2 t3 t4
      generalize ruleAt m x.st (cellAt x.frm x.cells x.pos) = r at *
      obtain ⟨a, b, i, r1, r2, r3, r4, r5, r6, r7, r8, r9, r10⟩ := ih (j + 1) x' y' (by omega) (step_within hv wx hs s1) (step_within hv wy hsy t1) (by rw [s3, t3]) (by rw [s4, t4, e2]) (by rw [s4]; rcases hmv with e | e <;> rw [e] <;> omega) (by rw [s4]; rcases hmv with e | e <;> rw [e] <;> omega)
        (fun p g1 g2 => by rw [s2, t2, ← e2]; split; rfl; exact e5 p g1 g2) ⟨bx.few, bx.low, bx.high, bx.left, bx.right, s5⟩ ⟨bY.few, bY.low, bY.high, bY.left, bY.right, t5⟩
      refine ⟨a, b, i + 1, by rw [runC, if_neg hs, s1]; simp only [r1], by rw [runC, if_neg hsy, t1]; simp only [r2], by omega, r4, r5, by rw [s4] at r6; rcases hmv with e | e <;> rw [e] at r6 <;> omega, by rw [s4] at r7; rcases hmv with e | e <;> rw [e] at r7 <;> omega, fun p g => ?_, r9, r10⟩
      obtain ⟨u1, u2⟩ := r8 p g
      refine ⟨?_, ?_⟩
      · rw [u1, s2, if_neg (by omega)]
      · rw [u2, t2, if_neg (by omega)]

def gapC (c : CfgS) : Int := if c.cells.length = 0 then 0 else max (max (c.frm - c.pos) (c.pos - c.frm - c.cells.length + 1)) 0
def farC (c : CfgS) : Bool := decide (-1099511427776 ≤ c.pos ∧ c.pos ≤ 1099511427776 ∧ -1099511427776 ≤ c.frm ∧ c.frm ≤ 1099511427776 ∧ c.cells.length ≤ 1000 ∧ gapC c ≤ 50000)
theorem far_box {c : CfgS} (h : farC c = true) : ∃ Lo Hi, Box c.pos Lo Hi c := by
  have hf := of_decide_eq_true h
  obtain ⟨f1, f2, f3, f4, f5, f6⟩ := hf
  have hmx : maxPos = 1099511627776 := rfl
  unfold gapC at f6
  split at f6
  · rename_i h0
    refine ⟨c.pos - 1001, c.pos + 1001, by omega, by omega, by omega, by omega, by omega, fun p hp => ?_⟩
    rw [List.eq_nil_of_length_eq_zero h0, cellAt_nil] at hp
    exact absurd rfl hp
  · have g1 : c.frm - c.pos ≤ 50000 := by omega
    have g2 : c.pos - c.frm - c.cells.length + 1 ≤ 50000 := by omega
    refine ⟨min c.frm (c.pos - 1001), max (c.frm + c.cells.length - 1) (c.pos + 1001), by omega, by omega, by omega, by omega, by omega, fun p hp => ?_⟩
    have := cellAt_in hp
    omega
/-- What two runs from configurations that are alike near the head return. -/
theorem near_two {m : MachS} {c d : CfgS} {k : Nat} (hc : fitsC m c = true) (hd : fitsC m d = true) (fc : farC c = true) (fd : farC d = true) (e1 : d.st = c.st) (e2 : d.pos = c.pos) (hk : k ≤ 1000) (hn : ∀ p, c.pos - k ≤ p → p ≤ c.pos + k → cellAt c.frm c.cells p = cellAt d.frm d.cells p) :
    ∃ a b i, runS m c k = ⟨a, (i : Nat), 0⟩ ∧ runS m d k = ⟨b, (i : Nat), 0⟩ ∧ i ≤ k ∧ a.st = b.st ∧ a.pos = b.pos ∧ c.pos - i ≤ a.pos ∧ a.pos ≤ c.pos + i ∧ (∀ p, (p < c.pos - k ∨ c.pos + k < p) → cellAt a.frm a.cells p = cellAt c.frm c.cells p ∧ cellAt b.frm b.cells p = cellAt d.frm d.cells p) ∧
      withinC a m.states m.symbols = true ∧ withinC b m.states m.symbols = true := by
  have hv : validM m = true := by rw [fitsC, Bool.and_eq_true] at hc; exact hc.1
  have wc : withinC c m.states m.symbols = true := by rw [fitsC, Bool.and_eq_true] at hc; exact hc.2
  have wd : withinC d m.states m.symbols = true := by rw [fitsC, Bool.and_eq_true] at hd; exact hd.2
  obtain ⟨L1, H1, b1⟩ := far_box fc
  obtain ⟨L2, H2, b2⟩ := far_box fd
  rw [e2] at b2
  obtain ⟨a, b, i, r1, r2, r3, r4, r5, r6, r7, r8, r9, r10⟩ := near_go hv c.pos k hk L1 H1 L2 H2 k 0 c d (by omega) wc wd e1.symm e2.symm (by simp) (by simp) hn b1 b2
  refine ⟨a, b, i, ?_, ?_, r3, r4, r5, r6, r7, r8, r9, r10⟩
  · rw [runS, if_neg (by rw [hc]; simp), if_neg (by omega), Int.toNat_natCast, r1]
  · rw [runS, if_neg (by rw [hd]; simp), if_neg (by omega), Int.toNat_natCast, r2]
end Go.Proofs.YtkbaiegfloajlaaDoor.Tp

/- Contracts: wide of the law package of layer 1. Plain: a run in two parts. -/
import Derived.Test.YtkbaiegfloajlaaDoorTn
namespace Go.Proofs.YtkbaiegfloajlaaDoor.Tp
open Go.RowKit

/-- How many rules and cells, and rows. -/
def sumTo (rows : List (List RuleS)) : Nat → Nat
  | 0 => 0
  | k + 1 => sumTo rows k + (rows.getD k []).length
def wideT (m : MachS) (c : CfgS) : Bool := decide (1000 < m.rules.length + c.cells.length + sumTo m.rules m.rules.length)
theorem sumTo_mono (rows : List (List RuleS)) (j : Nat) : ∀ d, sumTo rows j ≤ sumTo rows (j + d)
  | 0 => Nat.le_refl _
  | d + 1 => by
    have := sumTo_mono rows j d
    rw [← Nat.add_assoc, sumTo]
    omega

set_option maxRecDepth 100000 in
set_option maxHeartbeats 2000000 in
theorem wide_any (m : MachS) (c : CfgS) (v u : Value) (w : World) (hm : MachIn w w.heap.size v m) (hE : Elems w w.heap.size u (ints c.cells)) (hl : c.cells.length ≤ 17592186044416) :
    Calls Tryd.prog 9 #[.agg #[.int .i64 m.states, .int .i64 m.symbols, v], .agg #[.int .i64 c.st, .int .i64 c.pos, .int .i64 c.frm, u]] w fun e w' => e = .returned (.bool (wideT m c)) ∧ Below w.heap.size w w' := by
  obtain ⟨A1, c1, rfl⟩ := hm.rules.form
  obtain ⟨A2, c2, rfl⟩ := hE.form
  rw [ints_len]
  have hrl := hm.lim.1
  have hbW := below2 w (.cells #[.int .i64 m.states, .int .i64 m.symbols, .slice A1 m.rules.length c1] 24) (.cells #[.int .i64 c.st, .int .i64 c.pos, .int .i64 c.frm, .slice A2 c.cells.length c2] 27)
  have HM := hid_ (hm.to hbW)
  have B1 := (Blk.new w 24 #[.int .i64 m.states, .int .i64 m.symbols, .slice A1 m.rules.length c1]).alloc (.cells #[.int .i64 c.st, .int .i64 c.pos, .int .i64 c.frm, .slice A2 c.cells.length c2] 27)
  have B2 := Blk.new (w.alloc (.cells #[.int .i64 m.states, .int .i64 m.symbols, .slice A1 m.rules.length c1] 24)) 27 #[.int .i64 c.st, .int .i64 c.pos, .int .i64 c.frm, .slice A2 c.cells.length c2]
  rw [show (w.alloc (.cells #[.int .i64 m.states, .int .i64 m.symbols, .slice A1 m.rules.length c1] 24)).heap.size = w.heap.size + 1 by simp] at B2
  obtain ⟨R, hR⟩ : ∃ R, R = wideT m c := ⟨_, rfl⟩
  rw [← hR]
  have HR : Hid (R = decide (1000 < m.rules.length + c.cells.length + sumTo m.rules m.rules.length)) := hid_ hR
  have HMX := hid_ (fun k => sumTo_mono m.rules k (m.rules.length - k))
  clear hm hE hR
  go_enter Tryd.func9, Tryd.ntmps9
  go_upto_region 1 with fail
  generalize (w.alloc (.cells #[.int .i64 m.states, .int .i64 m.symbols, .slice A1 m.rules.length c1] 24)).alloc (.cells #[.int .i64 c.st, .int .i64 c.pos, .int .i64 c.frm, .slice A2 c.cells.length c2] 27) = W at *
  have p2 := B1.cell 2
  have q3 := B2.cell 3
  simp at p2 q3
  have m0 : IntKind.i64.wrap ((m.rules.length : Int) + (c.cells.length : Int)) = ((m.rules.length + c.cells.length : Nat) : Int) := by rw [IntWalk.i64_in _ (by omega)]; omega
  obtain ⟨T, hT⟩ : ∃ T, T = m.rules.length + c.cells.length := ⟨_, rfl⟩
  rw [← hT] at m0
  have HT := hid_ hT
  have hT2 : T ≤ 35184372088832 := by omega
  clear hT B1 B2
  go_wp2_with fail
  go_loopw [5, 6] (fun s t wr => ∃ (n k : Nat), s = .int .i64 (n : Int) ∧ t = .int .i64 (k : Int) ∧ k ≤ m.rules.length ∧ n ≤ 70368744177664 ∧ Hid (n = T + sumTo m.rules k) ∧ wr = W) (fun _ t _ => m.rules.length - (intOf t).toNat)
  case atStart => exact ⟨T, 0, rfl, rfl, Nat.zero_le _, by omega, hid_ rfl, rfl⟩
  case round =>
    obtain ⟨n, k, rfl, rfl, hk, hn, HN, rfl⟩ := hrel
    by_cases hkl : k < m.rules.length
    · by_cases hn1 : n ≤ 1000
      · obtain ⟨row, hrow⟩ : ∃ row, m.rules[k]? = some row := ⟨_, List.getElem?_eq_getElem hkl⟩
        have hrw := HM.out.lim.2 row (List.mem_of_getElem? hrow)
        obtain ⟨b2, o2, rfl, hb2⟩ := HM.out.rules.addr (by omega)
        obtain ⟨Ar, dr, hcr, -⟩ := HM.out.rules.row hrow
        have t0 : 0 ≤ (k : Int) := by omega
        have HST : Hid (sumTo m.rules (k + 1) = sumTo m.rules k + row.length) := hid_ (by simp [sumTo, List.getD, hrow])
        have m1 : IntKind.i64.wrap ((n : Int) + (row.length : Int)) = ((n + row.length : Nat) : Int) := by rw [IntWalk.i64_in _ (by omega)]; omega
        clear hrow
        go_wp2_with fail
        go_roundw
        case rel => exact ⟨n + row.length, k + 1, by go_num, by go_num, by omega, by omega, hid_ (by rw [HST.out, HN.out]; omega), by trivial⟩
        case measure => simp [intOf]; omega
      · have hd1 : decide (n ≤ 1000) = false := by simpa using hn1
        have hd2 : decide (1000 < n) = true := by simp; omega
        have hd3 : 1000 < n := by omega
        go_wp2_with fail
        go_ret
        refine ⟨ret_bool ?_, hbW⟩
        have h1 := HMX.out k
        rw [show k + (m.rules.length - k) = m.rules.length by omega] at h1
        have h2 := HN.out
        have h3 := HT.out
        rw [HR.out]
        symm
        first | exact decide_eq_true (by omega) | (simp; omega)
    · obtain rfl : k = m.rules.length := by omega
      have HRE : Hid (R = decide (1000 < n)) := hid_ (by rw [HR.out, HN.out, HT.out])
      go_wp2_with fail
      go_ret
      rw [HRE.out]
      exact ⟨ret_bool (by simp only [decide_eq_decide]; omega), hbW⟩

theorem runC_zero (m : MachS) (c : CfgS) (h : c.st = -1) : ∀ k, runC m k c = some (c, 0)
  | 0 => rfl
  | k + 1 => by rw [runC, if_pos h]
theorem parts_run {m : MachS} (hv : validM m = true) (K : Nat) : ∀ (N : Nat) (c : CfgS), withinC c m.states m.symbols = true →
    (runC m N c = none ∧ runC m (N + K) c = none) ∨ ∃ d j, runC m N c = some (d, j) ∧ withinC d m.states m.symbols = true ∧ ((runC m K d = none ∧ runC m (N + K) c = none) ∨ ∃ f l, runC m K d = some (f, l) ∧ runC m (N + K) c = some (f, j + l)) := by
  intro N
  induction N with
  | zero =>
    intro c hw
    refine .inr ⟨c, 0, rfl, hw, ?_⟩
    rw [Nat.zero_add]
    cases h : runC m K c with
    | none => exact .inl ⟨rfl, rfl⟩
    | some p => exact .inr ⟨p.1, p.2, rfl, by rw [Nat.zero_add]⟩
  | succ N ih =>
    intro c hw
    by_cases hs : c.st = -1
    · exact .inr ⟨c, 0, runC_zero m c hs _, hw, .inr ⟨c, 0, runC_zero m c hs _, runC_zero m c hs _⟩⟩
    · rw [show N + 1 + K = (N + K) + 1 by omega, runC, runC, if_neg hs, if_neg hs]
      cases h : stepC m c with
      | none => exact .inl ⟨rfl, rfl⟩
      | some d1 =>
        rcases ih d1 (step_within hv hw hs h) with ⟨h1, h2⟩ | ⟨d, j, h1, h2, h3⟩
        · left
          simp only [h1, h2]
          exact ⟨trivial, trivial⟩
        · right
          refine ⟨d, j + 1, by simp only [h1], h2, ?_⟩
          rcases h3 with ⟨h4, h5⟩ | ⟨f, l, h4, h5⟩
          · exact .inl ⟨h4, by simp only [h5]⟩
          · exact .inr ⟨f, l, h4, by simp only [h5]; rw [show j + l + 1 = j + 1 + l by omega]⟩
theorem runC_within {m : MachS} (hv : validM m = true) {n k : Nat} {c d : CfgS} (hw : withinC c m.states m.symbols = true) (h : runC m n c = some (d, k)) : withinC d m.states m.symbols = true := by
  rcases parts_run hv 0 n c hw with ⟨h1, _⟩ | ⟨d', j, h1, h2, _⟩
  · rw [h] at h1; cases h1
  · rw [h] at h1
    obtain ⟨rfl, rfl⟩ := Prod.mk.inj (Option.some.inj h1)
    exact h2
theorem within_few {c : CfgS} {S X : Int} (h : withinC c S X = true) : c.cells.length ≤ 100000 := by
  obtain ⟨_, _, _, _, h, _, _⟩ := within_iff.1 h
  exact h
/-- What three runs return: the whole, its first part, its second part. -/
theorem parts_three (m : MachS) (c : CfgS) (N K : Nat) (h : N + K ≤ 1000) :
    (∃ x, x ≠ 0 ∧ runS m c (N + K : Nat) = ⟨noC, 0, x⟩ ∧ runS m c N = ⟨noC, 0, x⟩) ∨ ∃ d j, runS m c N = ⟨d, (j : Nat), 0⟩ ∧ ∃ q i l y, runS m c (N + K : Nat) = ⟨q, (i : Nat), y⟩ ∧ runS m d K = ⟨q, (l : Nat), y⟩ ∧ (y = 4 ∨ (y = 0 ∧ i = j + l)) ∧ j ≤ 1000 ∧ l ≤ 1000 ∧ d.cells.length ≤ 100000 ∧ q.cells.length ≤ 100000 := by
  cases hf : fitsC m c with
  | false => exact .inl ⟨1, by decide, by rw [runS, if_pos hf], by rw [runS, if_pos hf]⟩
  | true =>
    have hvm : validM m = true := by rw [fitsC, Bool.and_eq_true] at hf; exact hf.1
    have hwc : withinC c m.states m.symbols = true := by rw [fitsC, Bool.and_eq_true] at hf; exact hf.2
    have hgo : ∀ (n : Nat) (d : CfgS), n ≤ 1000 → fitsC m d = true → runS m d n = match runC m n d with
      | none => ⟨noC, 0, 4⟩
      | some (e, k) => ⟨e, k, 0⟩ := fun n d hn hd => by
      rw [runS, if_neg (by rw [hd]; simp), if_neg (by omega), Int.toNat_natCast]
      cases runC m n d <;> rfl
    have hle : ∀ (n : Nat) (a b : CfgS) (k : Nat), runC m n a = some (b, k) → k ≤ n := by
      intro n
      induction n with
      | zero => intro a b k h; simp [runC] at h; omega
      | succ n ih =>
        intro a b k h
        rw [runC] at h
        split at h
        · simp at h; omega
        · cases h1 : stepC m a with
          | none => rw [h1] at h; cases h
          | some a1 =>
            rw [h1] at h
            simp only at h
            cases h2 : runC m n a1 with
            | none => rw [h2] at h; cases h
            | some p =>
              rw [h2] at h
              have := ih a1 p.1 p.2 h2
              simp at h
              omega
    rw [hgo _ _ h hf, hgo N _ (by omega) hf]
    rcases parts_run hvm K N c hwc with ⟨h1, h2⟩ | ⟨d, j, h1, h2, h3⟩
    · exact .inl ⟨4, by decide, by rw [h2], by rw [h1]⟩
    · right
      have hfd : fitsC m d = true := by rw [fitsC, hvm, h2]; rfl
      refine ⟨d, j, by rw [h1], ?_⟩
      have hj := hle _ _ _ _ h1
      rw [hgo K d (by omega) hfd]
      rcases h3 with ⟨h4, h5⟩ | ⟨f, l, h4, h5⟩
      · exact ⟨noC, 0, 0, 4, by rw [h5]; rfl, by rw [h4]; rfl, .inl rfl, by omega, by omega, within_few h2, by decide⟩
      · exact ⟨f, j + l, l, 0, by rw [h5], by rw [h4], .inr ⟨rfl, rfl⟩, by omega, by have := hle _ _ _ _ h4; omega, within_few h2, within_few (runC_within hvm h2 h4)⟩
theorem runL {m : MachS} {c q : CfgS} {n i y : Int} (hr : runS m c n = ⟨q, i, y⟩) (v u : Value) (w : World) (hm : MachIn w w.heap.size v m) (hE : Elems w w.heap.size u (ints c.cells)) (hl : c.cells.length ≤ 17592186044416) :
    Calls Tryd.prog 16 #[.agg #[.int .i64 m.states, .int .i64 m.symbols, v], .agg #[.int .i64 c.st, .int .i64 c.pos, .int .i64 c.frm, u], .int .i64 n] w fun e w' =>
      ∃ A d, e = .returned (.tuple #[.agg #[.int .i64 q.st, .int .i64 q.pos, .int .i64 q.frm, .slice A q.cells.length d], .int .i64 i, .int .i64 y]) ∧ Elems w' w'.heap.size (.slice A q.cells.length d) (ints q.cells) ∧ Below w.heap.size w w' := by
  have := run_any m c n v u w hm hE hl
  rw [hr] at this
  refine this.mono ?_
  rintro e w' ⟨v, he, hE, hb⟩
  obtain ⟨A, d, rfl⟩ := hE.form
  rw [ints_len] at he hE
  exact ⟨A, d, he, hE, hb⟩
/-- A law's answer. -/
def YesL (w : World) (e : Ending) (w' : World) : Prop := e = .returned (.bool true) ∧ Below w.heap.size w w'
end Go.Proofs.YtkbaiegfloajlaaDoor.Tp

/- Plain mathematics: machines that do the same in other words. -/
import Derived.Test.YtkbaiegfloajlaaDoorXh
import Derived.Test.YtkbaiegfloajlaaDoorWe
namespace Go.Proofs.YtkbaiegfloajlaaDoor.Tp

/-- A configuration in other words: positions e * p + t, states and symbols by other names. -/
structure Sim (e t : Int) (sg xi : Int → Int) (c c' : CfgS) : Prop where
  st : c'.st = sg c.st
  pos : c'.pos = e * c.pos + t
  cell : ∀ p, cellAt c'.frm c'.cells (e * p + t) = xi (cellAt c.frm c.cells p)
structure SimM (e : Int) (sg xi : Int → Int) (m m' : MachS) : Prop where
  rule : ∀ s x, 0 ≤ s → s < m.states → 0 ≤ x → x < m.symbols → ruleAt m' (sg s) (xi x) = ⟨xi (ruleAt m s x).w, e * (ruleAt m s x).m, sg (ruleAt m s x).n⟩
  stop : sg (-1) = -1
  on : ∀ s, 0 ≤ s → s < m.states → sg s ≠ -1
  dir : e = 1 ∨ e = -1

theorem sim_go {m m' : MachS} {e t : Int} {sg xi : Int → Int} (hv : validM m = true) (hv' : validM m' = true) (hm : SimM e sg xi m m') (P : Int) (k : Nat) (hk : k ≤ 1000) (Lx Hx Ly Hy : Int) : ∀ (n j : Nat) (x y : CfgS), j + n = k → withinC x m.states m.symbols = true → withinC y m'.states m'.symbols = true → Sim e t sg xi x y → P - j ≤ x.pos → x.pos ≤ P + j →
    Box P Lx Hx x → Box (e * P + t) Ly Hy y →
    ∃ a b i, runC m n x = some (a, i) ∧ runC m' n y = some (b, i) ∧ Sim e t sg xi a b ∧ withinC a m.states m.symbols = true ∧ withinC b m'.states m'.symbols = true := by
  intro n
  induction n with
  | zero =>
    intro j x y _ wx wy h _ _ _ _
    exact ⟨x, y, 0, rfl, rfl, h, wx, wy⟩
  | succ n ih =>
    intro j x y hj wx wy h e3 e4 bx bY
    by_cases hs : x.st = -1
    · exact ⟨x, y, 0, runC_zero m x hs _, runC_zero m' y (by rw [h.st, hs, hm.stop]) _, h, wx, wy⟩
    · obtain ⟨w1, w2, _, _, _, _, w7⟩ := within_iff.1 wx
      obtain ⟨_, _, v3, _, _, _⟩ := validM_parts hv
      have hsy : y.st ≠ -1 := by rw [h.st]; exact hm.on _ (by omega) w2
      have hcl := (symB_cells (b := x.frm) (by omega)).1 w7 x.pos
      have hsym : cellAt y.frm y.cells y.pos = xi (cellAt x.frm x.cells x.pos) := by rw [h.pos]; exact h.cell _
      have hrl := hm.rule x.st (cellAt x.frm x.cells x.pos) (by omega) w2 hcl.1 hcl.2
      rw [← h.st, ← hsym] at hrl
      have hmv := rule_move hv wx hs
      have hpe := h.pos
      obtain ⟨x', s1, s2, s3, s4, s5⟩ := step_box (m := m) bx.few bx.low bx.high bx.sup (by have := bx.left; have := bx.right; omega) (by have := bx.left; have := bx.right; rcases hmv with e | e <;> rw [e] <;> omega)
      obtain ⟨y', t1, t2, t3, t4, t5⟩ := step_box (m := m') bY.few bY.low bY.high bY.sup (by have := bY.left; have := bY.right; rcases hm.dir with rfl | rfl <;> omega) (by rw [hrl]; simp only; have := bY.left; have := bY.right; rcases hm.dir with rfl | rfl <;> rcases hmv with e | e <;> rw [e] <;> omega)
      rw [hrl] at t2 t3 t4
      generalize ruleAt m x.st (cellAt x.frm x.cells x.pos) = r at *
      have hS : Sim e t sg xi x' y' := ⟨by rw [t3, s3], by rw [t4, s4, hpe]; rcases hm.dir with rfl | rfl <;> simp only <;> omega, fun p => by
        rw [t2, s2, hpe]
        by_cases hp : p = x.pos
        · rw [if_pos hp, if_pos (by rw [hp])]
        · rw [if_neg hp, if_neg (by rcases hm.dir with rfl | rfl <;> omega)]
          exact h.cell p⟩
      obtain ⟨a, b, i, r1, r2, r3, r4, r5⟩ := ih (j + 1) x' y' (by omega) (step_within hv wx hs s1) (step_within hv' wy hsy t1) hS (by rw [s4]; rcases hmv with e | e <;> rw [e] <;> omega) (by rw [s4]; rcases hmv with e | e <;> rw [e] <;> omega)
        ⟨bx.few, bx.low, bx.high, bx.left, bx.right, s5⟩ ⟨bY.few, bY.low, bY.high, bY.left, bY.right, t5⟩
      exact ⟨a, b, i + 1, by rw [runC, if_neg hs, s1]; simp only [r1], by rw [runC, if_neg hsy, t1]; simp only [r2], r3, r4, r5⟩

/-- An injective map of the numbers below n into themselves reaches each. -/
theorem inj_surj : ∀ (n : Nat) (f : Nat → Nat), (∀ s, s < n → f s < n) → (∀ s t, s < n → t < n → f s = f t → s = t) → ∀ t, t < n → ∃ s, s < n ∧ f s = t
  | 0, _, _, _, _, h => absurd h (by omega)
  | n + 1, f, h1, h2, t, ht => by
    have hv := h1 n (by omega)
    have hg1 : ∀ s, s < n → (if f s = n then f n else f s) < n := fun s hs => by
      have hfs := h1 s (by omega)
      split
      · rename_i e
        have : f n ≠ n := fun e2 => by
          have := h2 s n (by omega) (by omega) (by rw [e, e2])
          omega
        omega
      · omega
    have hg2 : ∀ s u, s < n → u < n → (if f s = n then f n else f s) = (if f u = n then f n else f u) → s = u := fun s u hs hu he => by
      split at he <;> split at he
      · rename_i a b
        exact h2 s u (by omega) (by omega) (by rw [a, b])
      · have := h2 n u (by omega) (by omega) he
        omega
      · have := h2 s n (by omega) (by omega) he
        omega
      · exact h2 s u (by omega) (by omega) he
    by_cases e1 : t = f n
    · exact ⟨n, by omega, e1.symm⟩
    · by_cases e2 : t = n
      · obtain ⟨s, hs, he⟩ := inj_surj n _ hg1 hg2 (f n) (by omega)
        by_cases e3 : f s = n
        · exact ⟨s, by omega, by rw [e3, e2]⟩
        · rw [if_neg e3] at he
          have := h2 s n (by omega) (by omega) he
          omega
      · obtain ⟨s, hs, he⟩ := inj_surj n _ hg1 hg2 t (by omega)
        by_cases e3 : f s = n
        · rw [if_pos e3] at he
          exact absurd he.symm e1
        · rw [if_neg e3] at he
          exact ⟨s, by omega, he⟩

theorem ruleAt_mirror (m : MachS) (s x : Int) : ruleAt (mirrorM m) s x = mirR (ruleAt m s x) := by
  unfold ruleAt mirrorM
  simp only [List.getD_eq_getElem?_getD, List.getElem?_map]
  cases m.rules[s.toNat]? with
  | none => simp [mirR]
  | some row =>
    simp only [Option.map_some, Option.getD_some, List.getElem?_map]
    cases row[x.toNat]? with
    | none => simp [mirR]
    | some r => rfl
theorem valid_mirror {m : MachS} (hv : validM m = true) : validM (mirrorM m) = true := by
  obtain ⟨v1, v2, v3, v4, v5, v6⟩ := validM_parts hv
  rw [validM_rows (m := mirrorM m) ⟨v1, v2, v3, v4, by simp [mirrorM]; omega⟩]
  rw [List.all_eq_true] at v6 ⊢
  intro row hr
  obtain ⟨row0, h0, rfl⟩ := List.mem_map.1 hr
  have h := v6 row0 h0
  simp only [rowB, Bool.and_eq_true, decide_eq_true_eq, List.all_eq_true] at h ⊢
  refine ⟨by rw [List.length_map]; exact h.1, fun r hr => ?_⟩
  obtain ⟨r0, g0, rfl⟩ := List.mem_map.1 hr
  have g := ruleB_yes.1 (h.2 r0 g0)
  exact ruleB_yes.2 ⟨g.1, g.2.1, g.2.2.1, g.2.2.2.1, by show -r0.m = -1 ∨ -r0.m = 1; have := g.2.2.2.2; omega⟩
theorem simM_mirror (m : MachS) : SimM (-1) id id m (mirrorM m) :=
  ⟨fun s x _ _ _ _ => by rw [id, id, ruleAt_mirror, mirR, id, id, Int.neg_one_mul], rfl, fun s h _ => by show s ≠ -1; omega, .inr rfl⟩
theorem simM_self (m : MachS) : SimM 1 id id m m :=
  ⟨fun s x _ _ _ _ => by rw [id, id, id, id, Int.one_mul], rfl, fun s h _ => by show s ≠ -1; omega, .inl rfl⟩
theorem contK_val {m : MachS} {ss xs : List Int} {S X : Nat} (h1 : permB ss = true) (h2 : permB xs = true) (e1 : ss.length = S) (e2 : xs.length = X) {s x : Nat} (hs : s < S) (hx : x < X) :
    contK (renAt m ss xs) (pS ss) (pS xs) X S (pS ss s) (pS xs x) = renAt m ss xs s x :=
  contK_at (fun a b ha hb he => pS_inj h1 (by omega) (by omega) he) (fun a b ha hb he => pS_inj h2 (by omega) (by omega) he) S s x hs (Nat.le_refl _) hx
theorem ruleAt_rename {m : MachS} {ss xs : List Int} {S X : Nat} (hS : m.states = S) (hX : m.symbols = X) {t y : Nat} (ht : t < S) (hy : y < X) :
    ruleAt (renameM m ss xs) t y = contK (renAt m ss xs) (pS ss) (pS xs) X S t y := by
  unfold ruleAt renameM
  simp [hS, hX, ht, hy, List.getD_eq_getElem?_getD]
theorem nameS_get {l : List Int} (h : permB l = true) {s : Nat} (hs : s < l.length) : nameS l s = pS l s ∧ nameX l s = pS l s := by
  obtain ⟨h1, _⟩ := pS_get h hs
  constructor
  · rw [nameS, if_neg (by omega), Int.toNat_natCast, List.getD_eq_getElem?_getD, h1]; rfl
  · rw [nameX, Int.toNat_natCast, List.getD_eq_getElem?_getD, h1]; rfl
theorem simM_rename {m : MachS} {ss xs : List Int} (_hv : validM m = true) (h1 : permB ss = true) (h2 : permB xs = true) (e1 : (ss.length : Int) = m.states) (e2 : (xs.length : Int) = m.symbols) :
    SimM 1 (nameS ss) (nameX xs) m (renameM m ss xs) := by
  refine ⟨fun s x hs1 hs2 hx1 hx2 => ?_, by rw [nameS, if_pos rfl], fun s hs1 hs2 => ?_, .inl rfl⟩
  · obtain ⟨s, rfl⟩ := Int.eq_ofNat_of_zero_le hs1
    obtain ⟨x, rfl⟩ := Int.eq_ofNat_of_zero_le hx1
    rw [(nameS_get h1 (s := s) (by omega)).1, (nameS_get h2 (s := x) (by omega)).2]
    rw [ruleAt_rename e1.symm e2.symm (pS_get h1 (by omega)).2 (pS_get h2 (by omega)).2, contK_val h1 h2 rfl rfl (by omega) (by omega), renAt, renR, Int.one_mul]
  · obtain ⟨s, rfl⟩ := Int.eq_ofNat_of_zero_le hs1
    rw [(nameS_get h1 (s := s) (by omega)).1]
    omega
theorem ren_rule {S X : Nat} {ss xs : List Int} {r : RuleS} (h1 : permB ss = true) (h2 : permB xs = true) (e1 : ss.length = S) (e2 : xs.length = X) (h : ruleB S X r = true) : ruleB S X (renR ss xs r) = true := by
  obtain ⟨g1, g2, g3, g4, g5⟩ := ruleB_yes.1 h
  refine ruleB_yes.2 ?_
  obtain ⟨t, ht⟩ := Int.eq_ofNat_of_zero_le g1
  have ha := nameS_get h2 (s := t) (by omega)
  have hb := pS_get h2 (s := t) (by omega)
  rw [renR]
  simp only
  rw [ht, ha.2]
  refine ⟨by omega, by omega, ?_, ?_, g5⟩
  · by_cases e : r.n = -1
    · rw [nameS, if_pos e]; omega
    · obtain ⟨u, hu⟩ := Int.eq_ofNat_of_zero_le (show 0 ≤ r.n by omega)
      rw [hu, (nameS_get h1 (s := u) (by omega)).1]; omega
  · by_cases e : r.n = -1
    · rw [nameS, if_pos e]; omega
    · obtain ⟨u, hu⟩ := Int.eq_ofNat_of_zero_le (show 0 ≤ r.n by omega)
      rw [hu, (nameS_get h1 (s := u) (by omega)).1]
      have := (pS_get h1 (s := u) (by omega)).2
      omega
theorem valid_rename {m : MachS} {ss xs : List Int} (hv : validM m = true) (h1 : permB ss = true) (h2 : permB xs = true) (e1 : (ss.length : Int) = m.states) (e2 : (xs.length : Int) = m.symbols) : validM (renameM m ss xs) = true := by
  obtain ⟨v1, v2, v3, v4, v5, v6⟩ := validM_parts hv
  have hS : m.states.toNat = ss.length := by omega
  have hX : m.symbols.toNat = xs.length := by omega
  rw [validM_rows (m := renameM m ss xs) ⟨v1, v2, v3, v4, by simp [renameM]; omega⟩]
  rw [List.all_eq_true]
  intro row hr
  simp only [renameM, hS, hX, List.mem_map, List.mem_range] at hr
  obtain ⟨t, ht, rfl⟩ := hr
  simp only [rowB, Bool.and_eq_true, decide_eq_true_eq, List.all_eq_true]
  refine ⟨by simp [renameM]; omega, fun r hr => ?_⟩
  obtain ⟨y, hy, rfl⟩ := List.mem_map.1 hr
  rw [List.mem_range] at hy
  obtain ⟨s, hs, rfl⟩ := inj_surj ss.length (pS ss) (fun s hs => (pS_get h1 hs).2) (fun a b ha hb he => pS_inj h1 ha hb he) t ht
  obtain ⟨x, hx, rfl⟩ := inj_surj xs.length (pS xs) (fun s hs => (pS_get h2 hs).2) (fun a b ha hb he => pS_inj h2 ha hb he) y hy
  rw [contK_val h1 h2 rfl rfl hs hx]
  obtain ⟨_, r, _, _, g3, g4, _⟩ := rule_at hv (s := s) (x := x) (by omega) (by omega)
  show ruleB m.states m.symbols (renAt m ss xs s x) = true
  rw [renAt, g3, ← e1, ← e2]
  rw [← e1, ← e2] at g4
  exact ren_rule h1 h2 rfl rfl g4
end Go.Proofs.YtkbaiegfloajlaaDoor.Tp

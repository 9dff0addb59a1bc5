/- Contracts: inReach, validRule, Valid, fits, Fits of package tape. Contracts: fits, Fits of package tape. -/
import Derived.Test.YtonammaecpapmaaTa
namespace Go.Proofs.Ytonammaecpapmaa.Tp
open Go.RowKit

theorem inReach_any (p : Int) (w : World) : Calls Try.prog 45 #[.int .i64 p] w fun e w' => e = .returned (.bool (inR p)) ∧ w' = w := by
  have hc : p < -1099511627776 ∨ (-1099511627776 ≤ p ∧ p ≤ 1099511627776) ∨ (-1099511627776 ≤ p ∧ 1099511627776 < p) := by omega
  rcases hc with h | ⟨h, h2⟩ | ⟨h, h2⟩
  · have hr : inR p = false := by unfold inR maxPos; exact decide_eq_false (by omega)
    rw [hr]
    clear hr
    go_enter Try.func45, Try.ntmps45
    go_wp2_with fail
    go_ret
    exact ⟨rfl, rfl⟩
  · have hr : inR p = true := by unfold inR maxPos; exact decide_eq_true (by omega)
    rw [hr]
    clear hr
    go_enter Try.func45, Try.ntmps45
    go_wp2_with fail
    go_ret
    exact ⟨rfl, rfl⟩
  · have hr : inR p = false := by unfold inR maxPos; exact decide_eq_false (by omega)
    rw [hr]
    clear hr
    have h3 : ¬ p ≤ 1099511627776 := by omega
    go_enter Try.func45, Try.ntmps45
    go_wp2_with fail
    go_ret
    exact ⟨rfl, rfl⟩

theorem ruleB_no {S X : Int} {r : RuleS} (h : ¬ (0 ≤ r.w ∧ r.w < X ∧ -1 ≤ r.n ∧ r.n < S ∧ (r.m = -1 ∨ r.m = 1))) : ruleB S X r = false := by
  cases hb : ruleB S X r with
  | false => rfl
  | true =>
    simp only [ruleB, Bool.and_eq_true, Bool.or_eq_true, decide_eq_true_eq] at hb
    exact absurd ⟨hb.1.1.1.1, hb.1.1.1.2, hb.1.1.2, hb.1.2, hb.2⟩ h
theorem ruleB_yes {S X : Int} {r : RuleS} : ruleB S X r = true ↔ (0 ≤ r.w ∧ r.w < X ∧ -1 ≤ r.n ∧ r.n < S ∧ (r.m = -1 ∨ r.m = 1)) := by
  constructor
  · intro hb
    simp only [ruleB, Bool.and_eq_true, Bool.or_eq_true, decide_eq_true_eq] at hb
    exact ⟨hb.1.1.1.1, hb.1.1.1.2, hb.1.1.2, hb.1.2, hb.2⟩
  · intro h
    simp only [ruleB, Bool.and_eq_true, Bool.or_eq_true, decide_eq_true_eq]
    exact ⟨⟨⟨⟨h.1, h.2.1⟩, h.2.2.1⟩, h.2.2.2.1⟩, h.2.2.2.2⟩

set_option maxHeartbeats 1000000 in
theorem validRule_any (r : RuleS) (S X : Int) (w : World) :
    Calls Try.prog 50 #[.agg #[.int .i64 r.w, .int .i64 r.m, .int .i64 r.n], .int .i64 S, .int .i64 X] w fun e w' => e = .returned (.bool (ruleB S X r)) ∧ Below w.heap.size w w' := by
  obtain ⟨x, m, n⟩ := r
  have hc : x < 0 ∨ (0 ≤ x ∧ X ≤ x) ∨ (0 ≤ x ∧ x < X ∧ n < -1) ∨ (0 ≤ x ∧ x < X ∧ -1 ≤ n ∧ S ≤ n) ∨ (0 ≤ x ∧ x < X ∧ -1 ≤ n ∧ n < S ∧ m < -1) ∨ (0 ≤ x ∧ x < X ∧ -1 ≤ n ∧ n < S ∧ -1 ≤ m ∧ 1 < m) ∨ (0 ≤ x ∧ x < X ∧ -1 ≤ n ∧ n < S ∧ m = 0) ∨ (0 ≤ x ∧ x < X ∧ -1 ≤ n ∧ n < S ∧ m = 1) ∨ (0 ≤ x ∧ x < X ∧ -1 ≤ n ∧ n < S ∧ m = -1) := by omega
  rcases hc with h1 | ⟨h1, h2⟩ | ⟨h1, h2, h3⟩ | ⟨h1, h2, h3, h4⟩ | ⟨h1, h2, h3, h4, h5⟩ | ⟨h1, h2, h3, h4, h5, h6⟩ | ⟨h1, h2, h3, h4, rfl⟩ | ⟨h1, h2, h3, h4, rfl⟩ | ⟨h1, h2, h3, h4, rfl⟩
  · rw [ruleB_no (by simp only; omega)]
    go_enter Try.func50, Try.ntmps50
    go_wp2_with fail
    go_ret
    exact ⟨rfl, below1 w _⟩
  · rw [ruleB_no (by simp only; omega)]
    go_enter Try.func50, Try.ntmps50
    go_wp2_with fail
    go_ret
    exact ⟨rfl, below1 w _⟩
  · rw [ruleB_no (by simp only; omega)]
    have g2 : ¬ X ≤ x := by omega
    go_enter Try.func50, Try.ntmps50
    go_wp2_with fail
    go_ret
    exact ⟨rfl, below1 w _⟩
  · rw [ruleB_no (by simp only; omega)]
    have g2 : ¬ X ≤ x := by omega
    go_enter Try.func50, Try.ntmps50
    go_wp2_with fail
    go_ret
    exact ⟨rfl, below1 w _⟩
  · rw [ruleB_no (by simp only; omega)]
    have g2 : ¬ X ≤ x := by omega
    have g4 : ¬ S ≤ n := by omega
    have g5 : ¬ -1 ≤ m := by omega
    go_enter Try.func50, Try.ntmps50
    go_wp2_with fail
    go_ret
    exact ⟨rfl, below1 w _⟩
  · rw [ruleB_no (by simp only; omega)]
    have g2 : ¬ X ≤ x := by omega
    have g4 : ¬ S ≤ n := by omega
    have g5 : ¬ m ≤ 1 := by omega
    go_enter Try.func50, Try.ntmps50
    go_wp2_with fail
    go_ret
    exact ⟨rfl, below1 w _⟩
  · rw [ruleB_no (by simp only; omega)]
    have g2 : ¬ X ≤ x := by omega
    have g4 : ¬ S ≤ n := by omega
    go_enter Try.func50, Try.ntmps50
    go_wp2_with fail
    go_ret
    exact ⟨rfl, below1 w _⟩
  · rw [ruleB_yes.2 ⟨h1, h2, h3, h4, by simp⟩]
    have g2 : ¬ X ≤ x := by omega
    have g4 : ¬ S ≤ n := by omega
    go_enter Try.func50, Try.ntmps50
    go_wp2_with fail
    go_ret
    exact ⟨rfl, below1 w _⟩
  · rw [ruleB_yes.2 ⟨h1, h2, h3, h4, by simp⟩]
    have g2 : ¬ X ≤ x := by omega
    have g4 : ¬ S ≤ n := by omega
    go_enter Try.func50, Try.ntmps50
    go_wp2_with fail
    go_ret
    exact ⟨rfl, below1 w _⟩

theorem validM_no {m : MachS} (h : ¬ (1 ≤ m.states ∧ m.states ≤ 6 ∧ 2 ≤ m.symbols ∧ m.symbols ≤ 4 ∧ (m.rules.length : Int) = m.states)) : validM m = false := by
  cases hb : validM m with
  | false => rfl
  | true =>
    simp only [validM, Bool.and_eq_true, decide_eq_true_eq] at hb
    exact absurd ⟨hb.1.1.1.1, hb.1.1.1.2, hb.1.1.2.1, hb.1.1.2.2, hb.1.2⟩ h
theorem validM_rows {m : MachS} (h : 1 ≤ m.states ∧ m.states ≤ 6 ∧ 2 ≤ m.symbols ∧ m.symbols ≤ 4 ∧ (m.rules.length : Int) = m.states) : validM m = m.rules.all (rowB m.states m.symbols) := by
  rw [validM, decide_eq_true (⟨h.1, h.2.1⟩ : 1 ≤ m.states ∧ m.states ≤ 6), decide_eq_true (⟨h.2.2.1, h.2.2.2.1⟩ : 2 ≤ m.symbols ∧ m.symbols ≤ 4), decide_eq_true h.2.2.2.2]
  simp
theorem validM_parts {m : MachS} (h : validM m = true) : 1 ≤ m.states ∧ m.states ≤ 6 ∧ 2 ≤ m.symbols ∧ m.symbols ≤ 4 ∧ (m.rules.length : Int) = m.states ∧ m.rules.all (rowB m.states m.symbols) = true := by
  simp only [validM, Bool.and_eq_true, decide_eq_true_eq] at h
  exact ⟨h.1.1.1.1, h.1.1.1.2, h.1.1.2.1, h.1.1.2.2, h.1.2, h.2⟩
theorem rowB_len {S X : Int} {row : List RuleS} (h : (row.length : Int) ≠ X) : rowB S X row = false := by
  rw [rowB, decide_eq_false h, Bool.false_and]
theorem rowB_all {S X : Int} {row : List RuleS} (h : (row.length : Int) = X) : rowB S X row = row.all (ruleB S X) := by
  rw [rowB, decide_eq_true h, Bool.true_and]

set_option maxRecDepth 100000 in
set_option maxHeartbeats 1000000 in
theorem valid_short (m : MachS) (v : Value) (w : World) (hv : MachIn w w.heap.size v m) (h : ¬ (1 ≤ m.states ∧ m.states ≤ 6 ∧ 2 ≤ m.symbols ∧ m.symbols ≤ 4 ∧ (m.rules.length : Int) = m.states)) :
    Calls Try.prog 40 #[.agg #[.int .i64 m.states, .int .i64 m.symbols, v]] w fun e w' => e = .returned (.bool (validM m)) ∧ Below w.heap.size w w' := by
  rw [validM_no h]
  obtain ⟨S, X, rules⟩ := m
  obtain ⟨A, c, rfl⟩ := hv.rules.form
  have hl := hv.lim.1
  simp only at h hl ⊢
  clear hv
  have hc : S < 1 ∨ (1 ≤ S ∧ 6 < S) ∨ (1 ≤ S ∧ S ≤ 6 ∧ X < 2) ∨ (1 ≤ S ∧ S ≤ 6 ∧ 2 ≤ X ∧ 4 < X) ∨ (1 ≤ S ∧ S ≤ 6 ∧ 2 ≤ X ∧ X ≤ 4 ∧ (rules.length : Int) ≠ S) := by omega
  clear h
  rcases hc with h1 | ⟨h1, h2⟩ | ⟨h1, h2, h3⟩ | ⟨h1, h2, h3, h4⟩ | ⟨h1, h2, h3, h4, h5⟩
  · go_enter Try.func40, Try.ntmps40
    go_wp2_with fail
    go_ret
    exact ⟨rfl, below1 w _⟩
  · go_enter Try.func40, Try.ntmps40
    go_wp2_with fail
    go_ret
    exact ⟨rfl, below1 w _⟩
  · have g2 : ¬ 6 < S := by omega
    go_enter Try.func40, Try.ntmps40
    go_wp2_with fail
    go_ret
    exact ⟨rfl, below1 w _⟩
  · have g2 : ¬ 6 < S := by omega
    have g3 : ¬ X < 2 := by omega
    go_enter Try.func40, Try.ntmps40
    go_wp2_with fail
    go_ret
    exact ⟨rfl, below1 w _⟩
  · have g1 : ¬ S < 1 := by omega
    have g2 : ¬ 6 < S := by omega
    have g3 : ¬ X < 2 := by omega
    have g4 : ¬ 4 < X := by omega
    have g5 : ((rules.length : Int) != S) = true := by simpa using h5
    clear h5
    go_enter Try.func40, Try.ntmps40
    go_wp2_with fail
    go_ret
    exact ⟨rfl, below1 w _⟩

set_option maxRecDepth 100000 in
set_option maxHeartbeats 4000000 in
theorem valid_any (m : MachS) (v : Value) (w : World) (hv : MachIn w w.heap.size v m) :
    Calls Try.prog 40 #[.agg #[.int .i64 m.states, .int .i64 m.symbols, v]] w fun e w' => e = .returned (.bool (validM m)) ∧ Below w.heap.size w w' := by
  by_cases h : 1 ≤ m.states ∧ m.states ≤ 6 ∧ 2 ≤ m.symbols ∧ m.symbols ≤ 4 ∧ (m.rules.length : Int) = m.states
  · rw [validM_rows h]
    obtain ⟨S, X, rules⟩ := m
    obtain ⟨A, c, rfl⟩ := hv.rules.form
    simp only at h ⊢
    obtain ⟨h1, h2, h3, h4, h5⟩ := h
    have HR := hid_ hv.rules
    have HL := hid_ hv.lim.2
    simp only at HR HL
    obtain ⟨b, off, rfl, hb⟩ := HR.out.addr (by omega)
    have g1 : ¬ S < 1 := by omega
    have g2 : ¬ 6 < S := by omega
    have g3 : ¬ X < 2 := by omega
    have g4 : ¬ 4 < X := by omega
    have g5 : ((rules.length : Int) != S) = false := by simpa using h5
    have g6 : rules.length ≤ 6 := by omega
    clear hv h5
    go_enter Try.func40, Try.ntmps40
    go_wp2_with fail
    have BX := Blk.new w 55 #[.int .i64 S, .int .i64 X, .slice (some ⟨b, off, none⟩) rules.length c]
    have hW := below1 w (.cells #[.int .i64 S, .int .i64 X, .slice (some ⟨b, off, none⟩) rules.length c] 55)
    generalize w.alloc (.cells #[.int .i64 S, .int .i64 X, .slice (some ⟨b, off, none⟩) rules.length c] 55) = W at *
    have HBX := hid_ BX
    clear BX
    go_loopw [34] (fun s wr => ∃ k : Nat, s = .int .i64 ((k : Nat) : Int) ∧ k ≤ rules.length ∧ Hid ((rules.take k).all (rowB S X) = true) ∧ Below W.heap.size W wr) (fun s _ => rules.length - (intOf s).toNat)
    case atStart => exact ⟨0, rfl, Nat.zero_le _, hid_ rfl, Below.refl _ _⟩
    case round =>
      obtain ⟨k, rfl, hk, HT, hbr⟩ := hrel
      obtain ⟨wo, rfl⟩ : ∃ wo : World, wo = wr := ⟨_, rfl⟩
      have hwo := bnext hW hbr
      have HBo := hid_ (HBX.out.to hbr)
      have p0 := HBo.out.cell 0
      have p1 := HBo.out.cell 1
      simp at p0 p1
      by_cases hlt : k < rules.length
      · obtain ⟨r, hr⟩ : ∃ r, rules[k]? = some r := ⟨_, List.getElem?_eq_getElem hlt⟩
        obtain ⟨Ar, d, hcr, hEr⟩ := (HR.out.to hwo).row hr
        have hrl := HL.out r (List.mem_of_getElem? hr)
        have HRk := hid_ hr
        have HEr := hid_ hEr
        have k0 : 0 ≤ ((k : Nat) : Int) := by omega
        clear hr hEr
        by_cases hrx : (r.length : Int) = X
        · have g7 : ((r.length : Int) != X) = false := by simpa using hrx
          have hr0 : 0 < r.length := by omega
          obtain ⟨br, or, rfl, hbr', hcell⟩ := HEr.out.at_ hr0
          have HC := hid_ hcell
          have HRX := hid_ hrx
          clear hcell hrx
          go_wp2_with fail
          go_loopw [45] (fun s wr => ∃ j : Nat, s = .int .i64 ((j : Nat) : Int) ∧ j ≤ r.length ∧ Hid ((r.take j).all (ruleB S X) = true) ∧ Below wo.heap.size wo wr) (fun s _ => r.length - (intOf s).toNat)
          case atStart => exact ⟨0, rfl, Nat.zero_le _, hid_ rfl, Below.refl _ _⟩
          case round =>
            obtain ⟨j, rfl, hj, HJ, hbj⟩ := hrel
            obtain ⟨wj, rfl⟩ : ∃ wj : World, wj = wr := ⟨_, rfl⟩
            have q0 := keepc hbj p0
            have q1 := keepc hbj p1
            by_cases hjl : j < r.length
            · obtain ⟨x, hx⟩ : ∃ x, r[j]? = some x := ⟨_, List.getElem?_eq_getElem hjl⟩
              obtain ⟨i1, i2, i3⟩ := HC.out j x hx
              replace i1 := keepc hbj i1
              replace i2 := keepc hbj i2
              replace i3 := keepc hbj i3
              have HX := hid_ hx
              have z := hbj.size
              have z2 := hbr.size
              have zw : w.heap.size < wj.heap.size := cell_lt q0
              clear hx
              cases hv : ruleB S X x
              · have HV := hid_ hv
                clear hv
                go_wp2_with fail
                refine (validRule_any x S X _).mono ?_
                rw [HV.out]
                rintro e w2 ⟨rfl, hb2⟩
                go_wp2_with fail
                go_ret
                refine ⟨ret_bool ?_, bnext hwo (bnext hbj ((below1 wj _).trans (hb2.mono (by simp))))⟩
                rw [all_not HRk.out (by rw [rowB_all HRX.out]; exact all_not HX.out HV.out)]
              · have HV := hid_ hv
                clear hv
                go_wp2_with fail
                refine (validRule_any x S X _).mono ?_
                rw [HV.out]
                rintro e w2 ⟨rfl, hb2⟩
                go_wp2_with fail
                go_roundw
                case rel => exact ⟨j + 1, by go_num, by omega, hid_ (all_step HX.out HJ.out HV.out), bnext hbj ((below1 wj _).trans (hb2.mono (by simp)))⟩
                case measure => simp [intOf]; omega
            · have HJ2 : Hid (rowB S X r = true) := hid_ (by
                have := HJ.out
                rw [List.take_of_length_le (by omega)] at this
                rw [rowB_all HRX.out, this])
              go_wp2_with fail
              go_roundw
              case rel => exact ⟨k + 1, by go_num, by omega, hid_ (all_step HRk.out HT.out HJ2.out), bnext hbr hbj⟩
              case measure => simp [intOf]; omega
        · have g7 : ((r.length : Int) != X) = true := by simpa using hrx
          have HRX := hid_ hrx
          clear hrx
          go_wp2_with fail
          go_ret
          refine ⟨ret_bool ?_, hwo⟩
          rw [all_not HRk.out (rowB_len HRX.out)]
      · go_wp2_with fail
        go_ret
        refine ⟨ret_bool ?_, hwo⟩
        have := HT.out
        rw [List.take_of_length_le (by omega)] at this
        rw [this]
  · exact valid_short m v w hv h
end Go.Proofs.Ytonammaecpapmaa.Tp
namespace Go.Proofs.Ytonammaecpapmaa.Tp
open Go.RowKit

theorem within_iff {c : CfgS} {S X : Int} : withinC c S X = true ↔ (-1 ≤ c.st ∧ c.st < S ∧ inR c.pos = true ∧ inR c.frm = true ∧ c.cells.length ≤ 100000 ∧ Norm c.frm c.cells ∧ c.cells.all (symB X) = true) := by
  rw [← normB_iff]
  simp only [withinC, Bool.and_eq_true, decide_eq_true_eq]
  constructor
  · rintro ⟨⟨⟨⟨⟨⟨h1, h2⟩, h3⟩, h4⟩, h5⟩, h6⟩, h7⟩
    exact ⟨h1, h2, h3, h4, h5, h6, h7⟩
  · rintro ⟨h1, h2, h3, h4, h5, h6, h7⟩
    exact ⟨⟨⟨⟨⟨⟨h1, h2⟩, h3⟩, h4⟩, h5⟩, h6⟩, h7⟩
theorem within_no {c : CfgS} {S X : Int} (h : ¬ (-1 ≤ c.st ∧ c.st < S ∧ inR c.pos = true ∧ inR c.frm = true ∧ c.cells.length ≤ 100000 ∧ Norm c.frm c.cells ∧ c.cells.all (symB X) = true)) : withinC c S X = false := by
  cases hb : withinC c S X with
  | false => rfl
  | true => exact absurd (within_iff.1 hb) h
theorem norm_nil {b : Int} : Norm b [] ↔ b = 0 := by
  constructor
  · rintro (⟨_, h⟩ | ⟨h, _⟩)
    · exact h
    · exact absurd rfl h
  · intro h
    exact .inl ⟨rfl, h⟩

section
variable (c : CfgS) (S X : Int) (A : Option Addr) (cap : Nat) (w : World)
set_option maxRecDepth 100000 in
set_option maxHeartbeats 2000000 in
theorem fits_a (h1 : c.st < -1) :
    Calls Try.prog 41 #[.agg #[.int .i64 c.st, .int .i64 c.pos, .int .i64 c.frm, .slice A c.cells.length cap], .int .i64 S, .int .i64 X] w fun e w' => e = .returned (.bool (withinC c S X)) ∧ Below w.heap.size w w' := by
  obtain ⟨st, pos, frm, cells⟩ := c
  simp only at *
  rw [within_no (fun h => by have := h.1; simp only at this; omega)]
  go_enter Try.func41, Try.ntmps41
  go_wp2_with fail
  go_ret
  exact ⟨rfl, below1 w _⟩

set_option maxRecDepth 100000 in
set_option maxHeartbeats 2000000 in
theorem fits_b (h1 : -1 ≤ c.st) (h2 : S ≤ c.st) :
    Calls Try.prog 41 #[.agg #[.int .i64 c.st, .int .i64 c.pos, .int .i64 c.frm, .slice A c.cells.length cap], .int .i64 S, .int .i64 X] w fun e w' => e = .returned (.bool (withinC c S X)) ∧ Below w.heap.size w w' := by
  obtain ⟨st, pos, frm, cells⟩ := c
  simp only at *
  rw [within_no (fun h => by have := h.2.1; simp only at this; omega)]
  go_enter Try.func41, Try.ntmps41
  go_wp2_with fail
  go_ret
  exact ⟨rfl, below1 w _⟩

set_option maxRecDepth 100000 in
set_option maxHeartbeats 2000000 in
theorem fits_c (h1 : -1 ≤ c.st) (h2 : c.st < S) (h3 : inR c.pos = false) :
    Calls Try.prog 41 #[.agg #[.int .i64 c.st, .int .i64 c.pos, .int .i64 c.frm, .slice A c.cells.length cap], .int .i64 S, .int .i64 X] w fun e w' => e = .returned (.bool (withinC c S X)) ∧ Below w.heap.size w w' := by
  obtain ⟨st, pos, frm, cells⟩ := c
  simp only at *
  have g2 : ¬ S ≤ st := by omega
  rw [within_no (fun h => by have := h.2.2.1; simp only at this; rw [h3] at this; cases this)]
  have H3 := hid_ h3
  clear h3
  go_enter Try.func41, Try.ntmps41
  go_wp2_with fail
  refine (inReach_any _ _).mono ?_
  rw [H3.out]
  rintro e w1 ⟨rfl, rfl⟩
  go_wp2_with fail
  go_ret
  exact ⟨rfl, below1 w _⟩

set_option maxRecDepth 100000 in
set_option maxHeartbeats 2000000 in
theorem fits_d (h1 : -1 ≤ c.st) (h2 : c.st < S) (h3 : inR c.pos = true) (h4 : inR c.frm = false) :
    Calls Try.prog 41 #[.agg #[.int .i64 c.st, .int .i64 c.pos, .int .i64 c.frm, .slice A c.cells.length cap], .int .i64 S, .int .i64 X] w fun e w' => e = .returned (.bool (withinC c S X)) ∧ Below w.heap.size w w' := by
  obtain ⟨st, pos, frm, cells⟩ := c
  simp only at *
  have g2 : ¬ S ≤ st := by omega
  rw [within_no (fun h => by have := h.2.2.2.1; simp only at this; rw [h4] at this; cases this)]
  have H3 := hid_ h3
  have H4 := hid_ h4
  clear h3 h4
  go_enter Try.func41, Try.ntmps41
  go_wp2_with fail
  refine (inReach_any _ _).mono ?_
  rw [H3.out]
  rintro e w1 ⟨rfl, rfl⟩
  go_wp2_with fail
  refine (inReach_any _ _).mono ?_
  rw [H4.out]
  rintro e w1 ⟨rfl, rfl⟩
  go_wp2_with fail
  go_ret
  exact ⟨rfl, below1 w _⟩

set_option maxRecDepth 100000 in
set_option maxHeartbeats 2000000 in
theorem fits_e (h1 : -1 ≤ c.st) (h2 : c.st < S) (h3 : inR c.pos = true) (h4 : inR c.frm = true) (h5 : c.cells = []) :
    Calls Try.prog 41 #[.agg #[.int .i64 c.st, .int .i64 c.pos, .int .i64 c.frm, .slice A c.cells.length cap], .int .i64 S, .int .i64 X] w fun e w' => e = .returned (.bool (withinC c S X)) ∧ Below w.heap.size w w' := by
  obtain ⟨st, pos, frm, cells⟩ := c
  simp only at *
  have g2 : ¬ S ≤ st := by omega
  subst h5
  have hr : withinC ⟨st, pos, frm, []⟩ S X = (frm == 0) := by
    rw [Bool.eq_iff_iff, within_iff]
    simp only
    rw [norm_nil]
    simp
    exact ⟨fun h => h.2.2.2.2, fun h => ⟨h1, h2, h3, h4, h⟩⟩
  rw [hr]
  have H3 := hid_ h3
  have H4 := hid_ h4
  simp only [List.length_nil]
  clear h3 h4 hr
  go_enter Try.func41, Try.ntmps41
  go_wp2_with fail
  refine (inReach_any _ _).mono ?_
  rw [H3.out]
  rintro e w1 ⟨rfl, rfl⟩
  go_wp2_with fail
  refine (inReach_any _ _).mono ?_
  rw [H4.out]
  rintro e w1 ⟨rfl, rfl⟩
  go_wp2_with fail
  go_ret
  exact ⟨rfl, below1 w _⟩

set_option maxRecDepth 100000 in
set_option maxHeartbeats 2000000 in
theorem fits_f (h1 : -1 ≤ c.st) (h2 : c.st < S) (h3 : inR c.pos = true) (h4 : inR c.frm = true) (h5 : 100000 < c.cells.length) (h6 : c.cells.length ≤ 17592186044416) :
    Calls Try.prog 41 #[.agg #[.int .i64 c.st, .int .i64 c.pos, .int .i64 c.frm, .slice A c.cells.length cap], .int .i64 S, .int .i64 X] w fun e w' => e = .returned (.bool (withinC c S X)) ∧ Below w.heap.size w w' := by
  obtain ⟨st, pos, frm, cells⟩ := c
  simp only at *
  have g2 : ¬ S ≤ st := by omega
  rw [within_no (fun h => by have := h.2.2.2.2.1; simp only at this; omega)]
  have g5 : (100000 : Int) < cells.length := by omega
  have g6 : ((cells.length : Int) == 0) = false := by simp; intro e; simp [e] at h5
  have H3 := hid_ h3
  have H4 := hid_ h4
  clear h3 h4
  go_enter Try.func41, Try.ntmps41
  go_wp2_with fail
  refine (inReach_any _ _).mono ?_
  rw [H3.out]
  rintro e w1 ⟨rfl, rfl⟩
  go_wp2_with fail
  refine (inReach_any _ _).mono ?_
  rw [H4.out]
  rintro e w1 ⟨rfl, rfl⟩
  go_wp2_with fail
  go_ret
  exact ⟨rfl, below1 w _⟩

set_option maxRecDepth 100000 in
set_option maxHeartbeats 2000000 in
theorem fits_g (h1 : -1 ≤ c.st) (h2 : c.st < S) (h3 : inR c.pos = true) (h4 : inR c.frm = true) (h5 : 0 < c.cells.length) (h6 : c.cells.length ≤ 100000) (hE : Elems w w.heap.size (.slice A c.cells.length cap) (ints c.cells)) (h7 : c.cells.getD 0 0 = 0) :
    Calls Try.prog 41 #[.agg #[.int .i64 c.st, .int .i64 c.pos, .int .i64 c.frm, .slice A c.cells.length cap], .int .i64 S, .int .i64 X] w fun e w' => e = .returned (.bool (withinC c S X)) ∧ Below w.heap.size w w' := by
  obtain ⟨st, pos, frm, cells⟩ := c
  simp only at *
  have g2 : ¬ S ≤ st := by omega
  have g5 : ¬ (100000 : Int) < cells.length := by omega
  have g7 : cells.length ≤ 100000 := by omega
  have g6 : ((cells.length : Int) == 0) = false := by simp; intro e; simp [e] at h5
  obtain ⟨b, off, rfl, hb, hc⟩ := hE.at_ h5
  obtain ⟨x, hx⟩ : ∃ x, cells[0]? = some x := ⟨_, List.getElem?_eq_getElem h5⟩
  obtain ⟨y, hy⟩ : ∃ y, cells[cells.length - 1]? = some y := ⟨_, List.getElem?_eq_getElem (by omega)⟩
  have cx : w.cell? ⟨b, off, none⟩ = some (.int .i64 x) := by simpa using hc 0 _ (ints_at hx)
  have cy := hc (cells.length - 1) _ (ints_at hy)
  have m1 : IntKind.i64.wrap ((cells.length : Int) - 1) = (cells.length : Int) - 1 := IntWalk.i64_in _ (by omega)
  have m2 : ((cells.length : Int) - 1).toNat = cells.length - 1 := by omega
  have m3 : 0 ≤ (cells.length : Int) - 1 := by omega
  have m5 : 1 ≤ (cells.length : Int) := by omega
  have m4 : 0 < cells.length := h5
  replace cx := keepa (.cells #[.int .i64 st, .int .i64 pos, .int .i64 frm, .slice (some ⟨b, off, none⟩) cells.length cap] 50) cx
  replace cy := keepa (.cells #[.int .i64 st, .int .i64 pos, .int .i64 frm, .slice (some ⟨b, off, none⟩) cells.length cap] 50) cy
  have hgx : cells.getD 0 0 = x := getD_some hx
  have hgy : cells.getD (cells.length - 1) 0 = y := getD_some hy
  have x0 : x = 0 := by rw [← hgx]; exact h7
  subst x0
  rw [within_no (fun h => by
    rcases h.2.2.2.2.2.1 with ⟨e, _⟩ | ⟨_, e, _⟩
    · simp only at e; rw [e] at h5; simp at h5
    · exact e h7)]
  have H3 := hid_ h3
  have H4 := hid_ h4
  clear h3 h4 hc hx hy hgx hgy hE h7
  go_enter Try.func41, Try.ntmps41
  go_wp2_with fail
  refine (inReach_any _ _).mono ?_
  rw [H3.out]
  rintro e w1 ⟨rfl, rfl⟩
  go_wp2_with fail
  refine (inReach_any _ _).mono ?_
  rw [H4.out]
  rintro e w1 ⟨rfl, rfl⟩
  go_wp2_with fail
  go_ret
  exact ⟨rfl, below1 w _⟩

set_option maxRecDepth 100000 in
set_option maxHeartbeats 2000000 in
theorem fits_h (h1 : -1 ≤ c.st) (h2 : c.st < S) (h3 : inR c.pos = true) (h4 : inR c.frm = true) (h5 : 0 < c.cells.length) (h6 : c.cells.length ≤ 100000) (hE : Elems w w.heap.size (.slice A c.cells.length cap) (ints c.cells)) (h7 : c.cells.getD 0 0 ≠ 0) (h8 : c.cells.getD (c.cells.length - 1) 0 = 0) :
    Calls Try.prog 41 #[.agg #[.int .i64 c.st, .int .i64 c.pos, .int .i64 c.frm, .slice A c.cells.length cap], .int .i64 S, .int .i64 X] w fun e w' => e = .returned (.bool (withinC c S X)) ∧ Below w.heap.size w w' := by
  obtain ⟨st, pos, frm, cells⟩ := c
  simp only at *
  have g2 : ¬ S ≤ st := by omega
  have g5 : ¬ (100000 : Int) < cells.length := by omega
  have g7 : cells.length ≤ 100000 := by omega
  have g6 : ((cells.length : Int) == 0) = false := by simp; intro e; simp [e] at h5
  obtain ⟨b, off, rfl, hb, hc⟩ := hE.at_ h5
  obtain ⟨x, hx⟩ : ∃ x, cells[0]? = some x := ⟨_, List.getElem?_eq_getElem h5⟩
  obtain ⟨y, hy⟩ : ∃ y, cells[cells.length - 1]? = some y := ⟨_, List.getElem?_eq_getElem (by omega)⟩
  have cx : w.cell? ⟨b, off, none⟩ = some (.int .i64 x) := by simpa using hc 0 _ (ints_at hx)
  have cy := hc (cells.length - 1) _ (ints_at hy)
  have m1 : IntKind.i64.wrap ((cells.length : Int) - 1) = (cells.length : Int) - 1 := IntWalk.i64_in _ (by omega)
  have m2 : ((cells.length : Int) - 1).toNat = cells.length - 1 := by omega
  have m3 : 0 ≤ (cells.length : Int) - 1 := by omega
  have m5 : 1 ≤ (cells.length : Int) := by omega
  have m4 : 0 < cells.length := h5
  replace cx := keepa (.cells #[.int .i64 st, .int .i64 pos, .int .i64 frm, .slice (some ⟨b, off, none⟩) cells.length cap] 50) cx
  replace cy := keepa (.cells #[.int .i64 st, .int .i64 pos, .int .i64 frm, .slice (some ⟨b, off, none⟩) cells.length cap] 50) cy
  have hgx : cells.getD 0 0 = x := getD_some hx
  have hgy : cells.getD (cells.length - 1) 0 = y := getD_some hy
  have y0 : y = 0 := by rw [← hgy]; exact h8
  subst y0
  have x0 : (x == 0) = false := by rw [← hgx]; simpa using h7
  rw [within_no (fun h => by
    rcases h.2.2.2.2.2.1 with ⟨e, _⟩ | ⟨_, _, e⟩
    · simp only at e; rw [e] at h5; simp at h5
    · exact e h8)]
  have H3 := hid_ h3
  have H4 := hid_ h4
  clear h3 h4 hc hx hy hgx hgy hE h7 h8
  go_enter Try.func41, Try.ntmps41
  go_wp2_with fail
  refine (inReach_any _ _).mono ?_
  rw [H3.out]
  rintro e w1 ⟨rfl, rfl⟩
  go_wp2_with fail
  refine (inReach_any _ _).mono ?_
  rw [H4.out]
  rintro e w1 ⟨rfl, rfl⟩
  go_wp2_with fail
  go_ret
  exact ⟨rfl, below1 w _⟩

set_option maxRecDepth 100000 in
set_option maxHeartbeats 2000000 in
theorem fits_i (h1 : -1 ≤ c.st) (h2 : c.st < S) (h3 : inR c.pos = true) (h4 : inR c.frm = true) (h5 : 0 < c.cells.length) (h6 : c.cells.length ≤ 100000) (hE : Elems w w.heap.size (.slice A c.cells.length cap) (ints c.cells)) (h7 : c.cells.getD 0 0 ≠ 0) (h8 : c.cells.getD (c.cells.length - 1) 0 ≠ 0) :
    Calls Try.prog 41 #[.agg #[.int .i64 c.st, .int .i64 c.pos, .int .i64 c.frm, .slice A c.cells.length cap], .int .i64 S, .int .i64 X] w fun e w' => e = .returned (.bool (withinC c S X)) ∧ Below w.heap.size w w' := by
  obtain ⟨st, pos, frm, cells⟩ := c
  simp only at *
  have g2 : ¬ S ≤ st := by omega
  have g5 : ¬ (100000 : Int) < cells.length := by omega
  have g7 : cells.length ≤ 100000 := by omega
  have g6 : ((cells.length : Int) == 0) = false := by simp; intro e; simp [e] at h5
  obtain ⟨b, off, rfl, hb, hc⟩ := hE.at_ h5
  obtain ⟨x, hx⟩ : ∃ x, cells[0]? = some x := ⟨_, List.getElem?_eq_getElem h5⟩
  obtain ⟨y, hy⟩ : ∃ y, cells[cells.length - 1]? = some y := ⟨_, List.getElem?_eq_getElem (by omega)⟩
  have cx : w.cell? ⟨b, off, none⟩ = some (.int .i64 x) := by simpa using hc 0 _ (ints_at hx)
  have cy := hc (cells.length - 1) _ (ints_at hy)
  have m1 : IntKind.i64.wrap ((cells.length : Int) - 1) = (cells.length : Int) - 1 := IntWalk.i64_in _ (by omega)
  have m2 : ((cells.length : Int) - 1).toNat = cells.length - 1 := by omega
  have m3 : 0 ≤ (cells.length : Int) - 1 := by omega
  have m5 : 1 ≤ (cells.length : Int) := by omega
  have m4 : 0 < cells.length := h5
  replace cx := keepa (.cells #[.int .i64 st, .int .i64 pos, .int .i64 frm, .slice (some ⟨b, off, none⟩) cells.length cap] 50) cx
  replace cy := keepa (.cells #[.int .i64 st, .int .i64 pos, .int .i64 frm, .slice (some ⟨b, off, none⟩) cells.length cap] 50) cy
  have hgx : cells.getD 0 0 = x := getD_some hx
  have hgy : cells.getD (cells.length - 1) 0 = y := getD_some hy
  have y0 : (y == 0) = false := by rw [← hgy]; simpa using h8
  have x0 : (x == 0) = false := by rw [← hgx]; simpa using h7
  have hr : withinC ⟨st, pos, frm, cells⟩ S X = cells.all (symB X) := by
    rw [Bool.eq_iff_iff, within_iff]
    simp only
    constructor
    · intro h; exact h.2.2.2.2.2.2
    · intro h
      exact ⟨h1, h2, h3, h4, h6, .inr ⟨fun e => by rw [e] at h5; simp at h5, h7, h8⟩, h⟩
  rw [hr]
  have H3 := hid_ h3
  have H4 := hid_ h4
  have HC := hid_ hc
  clear h3 h4 hc hx hy hgx hgy hE h7 h8 hr
  go_enter Try.func41, Try.ntmps41
  go_wp2_with fail
  refine (inReach_any _ _).mono ?_
  rw [H3.out]
  rintro e w1 ⟨rfl, rfl⟩
  go_wp2_with fail
  refine (inReach_any _ _).mono ?_
  rw [H4.out]
  rintro e w1 ⟨rfl, rfl⟩
  go_wp2_with fail
  have hW := below1 w (.cells #[.int .i64 st, .int .i64 pos, .int .i64 frm, .slice (some ⟨b, off, none⟩) cells.length cap] 50)
  go_loopw [60] (fun s wr => ∃ k : Nat, s = .int .i64 ((k : Nat) : Int) ∧ k ≤ cells.length ∧ Hid ((cells.take k).all (symB X) = true) ∧ wr = w.alloc (.cells #[.int .i64 st, .int .i64 pos, .int .i64 frm, .slice (some ⟨b, off, none⟩) cells.length cap] 50)) (fun s _ => cells.length - (intOf s).toNat)
  case atStart => exact ⟨0, rfl, Nat.zero_le _, hid_ rfl, rfl⟩
  case round =>
    obtain ⟨k, rfl, hk, HT, rfl⟩ := hrel
    by_cases hlt : k < cells.length
    · obtain ⟨z, hz⟩ : ∃ z, cells[k]? = some z := ⟨_, List.getElem?_eq_getElem hlt⟩
      have cz := keepa (.cells #[.int .i64 st, .int .i64 pos, .int .i64 frm, .slice (some ⟨b, off, none⟩) cells.length cap] 50) (HC.out k _ (ints_at hz))
      have HZ := hid_ hz
      have k0 : 0 ≤ ((k : Nat) : Int) := by omega
      clear hz
      have hcs : z < 0 ∨ (0 ≤ z ∧ X ≤ z) ∨ (0 ≤ z ∧ z < X) := by omega
      rcases hcs with e1 | ⟨e1, e2⟩ | ⟨e1, e2⟩
      · have HB : Hid (symB X z = false) := hid_ (by simp [symB]; omega)
        go_wp2_with fail
        go_ret
        exact ⟨ret_bool (all_not HZ.out HB.out).symm, hW⟩
      · have HB : Hid (symB X z = false) := hid_ (by simp [symB]; omega)
        go_wp2_with fail
        go_ret
        exact ⟨ret_bool (all_not HZ.out HB.out).symm, hW⟩
      · have HB : Hid (symB X z = true) := hid_ (by simp [symB]; omega)
        have e3 : ¬ X ≤ z := by omega
        go_wp2_with fail
        go_roundw
        case rel => exact ⟨k + 1, by go_num, by omega, hid_ (all_step HZ.out HT.out HB.out), by first | rfl | trivial⟩
        case measure => simp [intOf]; omega
    · have HJ : Hid (cells.all (symB X) = true) := hid_ (by
        have := HT.out
        rw [List.take_of_length_le (by omega)] at this
        exact this)
      go_wp2_with fail
      go_ret
      exact ⟨ret_bool HJ.out.symm, hW⟩

end
theorem fits_any (c : CfgS) (S X : Int) (v : Value) (w : World) (hE : Elems w w.heap.size v (ints c.cells)) (hl : c.cells.length ≤ 17592186044416) :
    Calls Try.prog 41 #[.agg #[.int .i64 c.st, .int .i64 c.pos, .int .i64 c.frm, v], .int .i64 S, .int .i64 X] w fun e w' => e = .returned (.bool (withinC c S X)) ∧ Below w.heap.size w w' := by
  obtain ⟨A, cap, rfl⟩ := hE.form
  rw [ints_len] at hE ⊢
  by_cases h1 : c.st < -1
  · exact fits_a c S X A cap w h1
  · by_cases h2 : S ≤ c.st
    · exact fits_b c S X A cap w (by omega) h2
    · cases h3 : inR c.pos
      · exact fits_c c S X A cap w (by omega) (by omega) h3
      · cases h4 : inR c.frm
        · exact fits_d c S X A cap w (by omega) (by omega) h3 h4
        · by_cases h5 : c.cells = []
          · exact fits_e c S X A cap w (by omega) (by omega) h3 h4 h5
          · have h5' : 0 < c.cells.length := List.length_pos_iff.2 h5
            by_cases h6 : 100000 < c.cells.length
            · exact fits_f c S X A cap w (by omega) (by omega) h3 h4 h6 hl
            · by_cases h7 : c.cells.getD 0 0 = 0
              · exact fits_g c S X A cap w (by omega) (by omega) h3 h4 h5' (by omega) hE h7
              · by_cases h8 : c.cells.getD (c.cells.length - 1) 0 = 0
                · exact fits_h c S X A cap w (by omega) (by omega) h3 h4 h5' (by omega) hE h7 h8
                · exact fits_i c S X A cap w (by omega) (by omega) h3 h4 h5' (by omega) hE h7 h8

set_option maxRecDepth 100000 in
set_option maxHeartbeats 1000000 in
theorem fitsM_any (m : MachS) (c : CfgS) (v u : Value) (w : World) (hv : MachIn w w.heap.size v m) (hE : Elems w w.heap.size u (ints c.cells)) (hl : c.cells.length ≤ 17592186044416) :
    Calls Try.prog 29 #[.agg #[.int .i64 m.states, .int .i64 m.symbols, v], .agg #[.int .i64 c.st, .int .i64 c.pos, .int .i64 c.frm, u]] w fun e w' => e = .returned (.bool (fitsC m c)) ∧ Below w.heap.size w w' := by
  have HM := hid_ hv
  have HE := hid_ hE
  obtain ⟨A, d, rfl⟩ := hv.rules.form
  obtain ⟨A2, d2, rfl⟩ := hE.form
  rw [ints_len] at HE ⊢
  clear hv hE
  cases hvm : validM m
  · have HV := hid_ hvm
    have HF : Hid (fitsC m c = false) := hid_ (by rw [fitsC, hvm]; rfl)
    clear hvm
    go_enter Try.func29, Try.ntmps29
    go_wp2_with fail
    refine (valid_any m _ _ (HM.out.to (below2 w _ _))).mono ?_
    rw [HV.out]
    rintro e w1 ⟨rfl, hb1⟩
    go_wp2_with fail
    go_ret
    exact ⟨ret_bool HF.out.symm, (below2 w _ _).trans (hb1.mono (by simp; omega))⟩
  · have HV := hid_ hvm
    have HF : Hid (fitsC m c = withinC c m.states m.symbols) := hid_ (by rw [fitsC, hvm]; rfl)
    clear hvm
    go_enter Try.func29, Try.ntmps29
    go_wp2_with fail
    refine (valid_any m _ _ (HM.out.to (below2 w _ _))).mono ?_
    rw [HV.out]
    rintro e w1 ⟨rfl, hb1⟩
    have B0 : Blk w1 w.heap.size 55 #[.int .i64 m.states, .int .i64 m.symbols, .slice A m.rules.length d] := ((Blk.new w _ _).alloc _).to hb1
    have B1 : Blk w1 (w.heap.size + 1) 50 #[.int .i64 c.st, .int .i64 c.pos, .int .i64 c.frm, .slice A2 c.cells.length d2] := by
      have := (Blk.new (w.alloc (.cells #[.int .i64 m.states, .int .i64 m.symbols, .slice A m.rules.length d] 55)) 50 #[.int .i64 c.st, .int .i64 c.pos, .int .i64 c.frm, .slice A2 c.cells.length d2]).to hb1
      simpa using this
    have p0 := B0.cell 0
    have p1 := B0.cell 1
    have q0 := B1.cell 0
    have q1 := B1.cell 1
    have q2 := B1.cell 2
    have q3 := B1.cell 3
    simp at p0 p1 q0 q1 q2 q3
    have hw1 : Below w.heap.size w w1 := (below2 w _ _).trans (hb1.mono (by simp; omega))
    clear hb1 B0 B1
    go_wp2_with fail
    refine (fits_any c m.states m.symbols _ w1 (HE.out.to hw1) hl).mono ?_
    rintro e w2 ⟨rfl, hb2⟩
    go_wp2_with fail
    go_ret
    exact ⟨ret_bool HF.out.symm, bnext hw1 hb2⟩
end Go.Proofs.Ytonammaecpapmaa.Tp

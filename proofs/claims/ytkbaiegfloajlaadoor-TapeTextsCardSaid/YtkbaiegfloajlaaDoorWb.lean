/- Contracts: Valid of the specification. -/
import Derived.Test.YtkbaiegfloajlaaDoorTc
namespace Go.Proofs.YtkbaiegfloajlaaDoor.Tp
open Go.RowKit

set_option maxRecDepth 100000 in
set_option maxHeartbeats 1000000 in
theorem rvalid_short (m : MachS) (v : Value) (w : World) (hv : MachIn w w.heap.size v m) (h : ¬ (1 ≤ m.states ∧ m.states ≤ 6 ∧ 2 ≤ m.symbols ∧ m.symbols ≤ 4 ∧ (m.rules.length : Int) = m.states)) :
    Calls Tryd.prog 12 #[.agg #[.int .i64 m.states, .int .i64 m.symbols, v]] w fun e w' => e = .returned (.bool (validM m)) ∧ Below w.heap.size w w' := by
  rw [validM_no h]
  obtain ⟨S, X, rules⟩ := m
  obtain ⟨A, c, rfl⟩ := hv.rules.form
  have hl := hv.lim.1
  simp only at h hl ⊢
  clear hv
  have hc : S < 1 ∨ (1 ≤ S ∧ 6 < S) ∨ (1 ≤ S ∧ S ≤ 6 ∧ X < 2) ∨ (1 ≤ S ∧ S ≤ 6 ∧ 2 ≤ X ∧ 4 < X) ∨ (1 ≤ S ∧ S ≤ 6 ∧ 2 ≤ X ∧ X ≤ 4 ∧ (rules.length : Int) ≠ S) := by omega
  clear h
  rcases hc with h1 | ⟨h1, h2⟩ | ⟨h1, h2, h3⟩ | ⟨h1, h2, h3, h4⟩ | ⟨h1, h2, h3, h4, h5⟩
  · go_enter Tryd.func12, Tryd.ntmps12
    go_wp2_with fail
    go_ret
    exact ⟨rfl, below1 w _⟩
  · go_enter Tryd.func12, Tryd.ntmps12
    go_wp2_with fail
    go_ret
    exact ⟨rfl, below1 w _⟩
  · have g2 : ¬ 6 < S := by omega
    go_enter Tryd.func12, Tryd.ntmps12
    go_wp2_with fail
    go_ret
    exact ⟨rfl, below1 w _⟩
  · have g2 : ¬ 6 < S := by omega
    have g3 : ¬ X < 2 := by omega
    go_enter Tryd.func12, Tryd.ntmps12
    go_wp2_with fail
    go_ret
    exact ⟨rfl, below1 w _⟩
  · have g1 : ¬ S < 1 := by omega
    have g2 : ¬ 6 < S := by omega
    have g3 : ¬ X < 2 := by omega
    have g4 : ¬ 4 < X := by omega
    have g5 : ((rules.length : Int) != S) = true := by simpa using h5
    clear h5
    go_enter Tryd.func12, Tryd.ntmps12
    go_wp2_with fail
    go_ret
    exact ⟨rfl, below1 w _⟩

set_option maxRecDepth 100000 in
set_option maxHeartbeats 8000000 in
theorem rvalid_any (m : MachS) (v : Value) (w : World) (hv : MachIn w w.heap.size v m) :
    Calls Tryd.prog 12 #[.agg #[.int .i64 m.states, .int .i64 m.symbols, v]] w fun e w' => e = .returned (.bool (validM m)) ∧ Below w.heap.size w w' := by
  by_cases h : 1 ≤ m.states ∧ m.states ≤ 6 ∧ 2 ≤ m.symbols ∧ m.symbols ≤ 4 ∧ (m.rules.length : Int) = m.states
  · rw [validM_rows h]
    obtain ⟨S, X, rules⟩ := m
    obtain ⟨A, c, rfl⟩ := hv.rules.form
    simp only at h ⊢
    obtain ⟨h1, h2, h3, h4, h5⟩ := h
    have HR := hid_ hv.rules
    have HL := hid_ hv.lim.2
    simp only at HR HL
    obtain ⟨b, off, rfl, hb⟩ := HR.out.addr (by omega)
    have g1 : ¬ S < 1 := by omega
    have g2 : ¬ 6 < S := by omega
    have g3 : ¬ X < 2 := by omega
    have g4 : ¬ 4 < X := by omega
    have g5 : ((rules.length : Int) != S) = false := by simpa using h5
    have g6 : rules.length ≤ 6 := by omega
    have HLS := hid_ h5
    clear hv h5
    go_enter Tryd.func12, Tryd.ntmps12
    go_wp2_with fail
    have BX := Blk.new w 24 #[.int .i64 S, .int .i64 X, .slice (some ⟨b, off, none⟩) rules.length c]
    have hW := below1 w (.cells #[.int .i64 S, .int .i64 X, .slice (some ⟨b, off, none⟩) rules.length c] 24)
    generalize w.alloc (.cells #[.int .i64 S, .int .i64 X, .slice (some ⟨b, off, none⟩) rules.length c] 24) = W at *
    have HBX := hid_ BX
    clear BX
    go_loopw [3] (fun s wr => ∃ k : Nat, s = .int .i64 ((k : Nat) : Int) ∧ k ≤ rules.length ∧ Hid ((rules.take k).all (rowB S X) = true) ∧ Below W.heap.size W wr) (fun s _ => rules.length - (intOf s).toNat)
    case atStart => exact ⟨0, rfl, Nat.zero_le _, hid_ rfl, Below.refl _ _⟩
    case round =>
      obtain ⟨k, rfl, hk, HT, hbr⟩ := hrel
      obtain ⟨wo, rfl⟩ : ∃ wo : World, wo = wr := ⟨_, rfl⟩
      have hwo := bnext hW hbr
      have HBo := hid_ (HBX.out.to hbr)
      have p0 := HBo.out.cell 0
      have p1 := HBo.out.cell 1
      have p2 := HBo.out.cell 2
      simp at p0 p1 p2
      by_cases hlt : k < rules.length
      · obtain ⟨r, hr⟩ : ∃ r, rules[k]? = some r := ⟨_, List.getElem?_eq_getElem hlt⟩
        obtain ⟨Ar, d, hcr, hEr⟩ := (HR.out.to hwo).row hr
        have hrl := HL.out r (List.mem_of_getElem? hr)
        have HRk := hid_ hr
        have HEr := hid_ hEr
        have k0 : 0 ≤ ((k : Nat) : Int) := by omega
        have kS : (k : Int) < S := by have := HLS.out; omega
        clear hr hEr
        by_cases hrx : (r.length : Int) = X
        · have g7 : ((r.length : Int) != X) = false := by simpa using hrx
          have hr0 : 0 < r.length := by omega
          obtain ⟨br, or, rfl, hbr', hcell⟩ := HEr.out.at_ hr0
          have HC := hid_ hcell
          have HRX := hid_ hrx
          have hX4 : r.length ≤ 4 := by omega
          clear hcell hrx
          go_wp2_with fail
          go_quiet (fail)
          go_wp2_with fail
          have hbq : Below wo.heap.size wo (wo.drewN nq) := below_drewN (Below.refl _ _) nq
          go_loopw [4] (fun s wr => ∃ j : Nat, s = .int .i64 ((j : Nat) : Int) ∧ j ≤ r.length ∧ Hid ((r.take j).all (ruleB S X) = true) ∧ Below wo.heap.size wo wr) (fun s _ => r.length - (intOf s).toNat)
          case atStart => exact ⟨0, rfl, Nat.zero_le _, hid_ rfl, hbq⟩
          case round =>
            obtain ⟨j, rfl, hj, HJ, hbj⟩ := hrel
            obtain ⟨wj, rfl⟩ : ∃ wj : World, wj = wr := ⟨_, rfl⟩
            have q0 := keepc hbj p0
            have q1 := keepc hbj p1
            have q2 := keepc hbj p2
            have q3 := keepc hbj hcr
            by_cases hjl : j < r.length
            · have hjX : (j : Int) < X := by have := HRX.out; omega
              obtain ⟨x, hx⟩ : ∃ x, r[j]? = some x := ⟨_, List.getElem?_eq_getElem hjl⟩
              obtain ⟨i1, i2, i3⟩ := HC.out j x hx
              replace i1 := keepc hbj i1
              replace i2 := keepc hbj i2
              replace i3 := keepc hbj i3
              have HX := hid_ hx
              have z := hbj.size
              have j0 : 0 ≤ ((j : Nat) : Int) := by omega
              have zw : w.heap.size < wj.heap.size := cell_lt q0
              have HBJ := hid_ (bnext hwo (bnext hbj (below1 wj (.cells #[.int .i64 x.w, .int .i64 x.m, .int .i64 x.n] 74))))
              have HBJ2 := hid_ (bnext hbj (below1 wj (.cells #[.int .i64 x.w, .int .i64 x.m, .int .i64 x.n] 74)))
              clear hx
              obtain ⟨xw, xm, xn⟩ := x
              have hcs : xw < 0 ∨ (0 ≤ xw ∧ X ≤ xw) ∨ (0 ≤ xw ∧ xw < X ∧ xm ≠ 1 ∧ xm ≠ -1) ∨ (0 ≤ xw ∧ xw < X ∧ (xm = 1 ∨ xm = -1) ∧ xn < -1) ∨ (0 ≤ xw ∧ xw < X ∧ (xm = 1 ∨ xm = -1) ∧ -1 ≤ xn ∧ S ≤ xn) ∨ (0 ≤ xw ∧ xw < X ∧ (xm = 1 ∨ xm = -1) ∧ -1 ≤ xn ∧ xn < S) := by omega
              rcases hcs with e1 | ⟨e1, e2⟩ | ⟨e1, e2, e3, e4⟩ | ⟨e1, e2, e3, e4⟩ | ⟨e1, e2, e3, e4, e5⟩ | ⟨e1, e2, e3, e4, e5⟩
              · have HV : Hid (ruleB S X ⟨xw, xm, xn⟩ = false) := hid_ (ruleB_no (by simp only; omega))
                go_wp2_with fail
                go_ret
                exact ⟨ret_bool (all_not HRk.out (by rw [rowB_all HRX.out]; exact all_not HX.out HV.out)).symm, HBJ.out⟩
              · have HV : Hid (ruleB S X ⟨xw, xm, xn⟩ = false) := hid_ (ruleB_no (by simp only; omega))
                go_wp2_with fail
                go_ret
                exact ⟨ret_bool (all_not HRk.out (by rw [rowB_all HRX.out]; exact all_not HX.out HV.out)).symm, HBJ.out⟩
              · have HV : Hid (ruleB S X ⟨xw, xm, xn⟩ = false) := hid_ (ruleB_no (by simp only; omega))
                have n2 : ¬ X ≤ xw := by omega
                have n3 : (xm != 1) = true := by simpa using e3
                have n4 : (xm != -1) = true := by simpa using e4
                clear e3 e4
                go_wp2_with fail
                go_ret
                exact ⟨ret_bool (all_not HRk.out (by rw [rowB_all HRX.out]; exact all_not HX.out HV.out)).symm, HBJ.out⟩
              · have HV : Hid (ruleB S X ⟨xw, xm, xn⟩ = false) := hid_ (ruleB_no (by simp only; omega))
                have n2 : ¬ X ≤ xw := by omega
                rcases e3 with rfl | rfl
                all_goals
                  go_wp2_with fail
                  go_ret
                  exact ⟨ret_bool (all_not HRk.out (by rw [rowB_all HRX.out]; exact all_not HX.out HV.out)).symm, HBJ.out⟩
              · have HV : Hid (ruleB S X ⟨xw, xm, xn⟩ = false) := hid_ (ruleB_no (by simp only; omega))
                have n2 : ¬ X ≤ xw := by omega
                rcases e3 with rfl | rfl
                all_goals
                  go_wp2_with fail
                  go_ret
                  exact ⟨ret_bool (all_not HRk.out (by rw [rowB_all HRX.out]; exact all_not HX.out HV.out)).symm, HBJ.out⟩
              · have HV : Hid (ruleB S X ⟨xw, xm, xn⟩ = true) := hid_ (ruleB_yes.2 ⟨e1, e2, e4, e5, e3.symm⟩)
                have n2 : ¬ X ≤ xw := by omega
                have n5 : ¬ S ≤ xn := by omega
                rcases e3 with rfl | rfl
                all_goals
                  go_wp2_with fail
                  go_roundw
                  case rel => exact ⟨j + 1, by go_num, by omega, hid_ (all_step HX.out HJ.out HV.out), HBJ2.out⟩
                  case measure => simp [intOf]; omega
            · have hjX : ¬ (j : Int) < X := by have := HRX.out; omega
              have HJ2 : Hid (rowB S X r = true) := hid_ (by
                have := HJ.out
                rw [List.take_of_length_le (by omega)] at this
                rw [rowB_all HRX.out, this])
              go_wp2_with fail
              go_roundw
              case rel => exact ⟨k + 1, by go_num, by omega, hid_ (all_step HRk.out HT.out HJ2.out), bnext hbr hbj⟩
              case measure => simp [intOf]; omega
        · have g7 : ((r.length : Int) != X) = true := by simpa using hrx
          have HRX := hid_ hrx
          clear hrx
          go_wp2_with fail
          go_quiet (fail)
          go_wp2_with fail
          go_ret
          refine ⟨ret_bool ?_, below_drewN hwo _⟩
          rw [all_not HRk.out (rowB_len HRX.out)]
      · have kS : ¬ (k : Int) < S := by have := HLS.out; omega
        go_wp2_with fail
        go_ret
        refine ⟨ret_bool ?_, hwo⟩
        have := HT.out
        rw [List.take_of_length_le (by omega)] at this
        rw [this]
  · exact rvalid_short m v w hv h
end Go.Proofs.YtkbaiegfloajlaaDoor.Tp

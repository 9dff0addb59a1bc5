/- Contracts: place, Within, Fits of the specification. -/
import Derived.Test.YtkbaiegfloajlaaDoorWb
import Derived.Test.YtkbaiegfloajlaaDoorTn
namespace Go.Proofs.YtkbaiegfloajlaaDoor.Tp
open Go.RowKit

theorem place_any (p : Int) (w : World) : Calls Tryd.prog 68 #[.int .i64 p] w fun e w' => e = .returned (.bool (inR p)) ∧ w' = w := by
  have hc : p < -1099511627776 ∨ (-1099511627776 ≤ p ∧ p ≤ 1099511627776) ∨ (-1099511627776 ≤ p ∧ 1099511627776 < p) := by omega
  rcases hc with h | ⟨h, h2⟩ | ⟨h, h2⟩
  · have hr : inR p = false := by unfold inR maxPos; exact decide_eq_false (by omega)
    rw [hr]
    clear hr
    go_enter Tryd.func68, Tryd.ntmps68
    go_wp2_with fail
    go_ret
    first | exact ⟨rfl, rfl⟩ | exact ⟨ret_bool (decide_eq_true (by omega)), rfl⟩ | exact ⟨ret_bool (decide_eq_false (by omega)), rfl⟩
  · have hr : inR p = true := by unfold inR maxPos; exact decide_eq_true (by omega)
    rw [hr]
    clear hr
    go_enter Tryd.func68, Tryd.ntmps68
    go_wp2_with fail
    go_ret
    first | exact ⟨rfl, rfl⟩ | exact ⟨ret_bool (decide_eq_true (by omega)), rfl⟩ | exact ⟨ret_bool (decide_eq_false (by omega)), rfl⟩
  · have hr : inR p = false := by unfold inR maxPos; exact decide_eq_false (by omega)
    rw [hr]
    clear hr
    go_enter Tryd.func68, Tryd.ntmps68
    go_wp2_with fail
    go_ret
    first | exact ⟨rfl, rfl⟩ | exact ⟨ret_bool (decide_eq_true (by omega)), rfl⟩ | exact ⟨ret_bool (decide_eq_false (by omega)), rfl⟩

theorem within_false {c : CfgS} {S X : Int} (h : ¬ (-1 ≤ c.st ∧ c.st < S ∧ inR c.pos = true ∧ inR c.frm = true ∧ c.cells.length ≤ 100000 ∧ Norm c.frm c.cells ∧ c.cells.all (symB X) = true)) : withinC c S X = false :=
  Bool.eq_false_iff.2 fun e => h (within_iff.1 e)

set_option maxRecDepth 100000 in
set_option maxHeartbeats 4000000 in
theorem rwithin_any (c : CfgS) (S X : Int) (v : Value) (w : World) (hE : Elems w w.heap.size v (ints c.cells)) (hl : c.cells.length ≤ 17592186044416) :
    Calls Tryd.prog 44 #[.agg #[.int .i64 c.st, .int .i64 c.pos, .int .i64 c.frm, v], .int .i64 S, .int .i64 X] w fun e w' => e = .returned (.bool (withinC c S X)) ∧ Below w.heap.size w w' := by
  obtain ⟨A, cc, rfl⟩ := hE.form
  rw [ints_len] at hE ⊢
  have hbW := below1 w (.cells #[.int .i64 c.st, .int .i64 c.pos, .int .i64 c.frm, .slice A c.cells.length cc] 27)
  have HE := hid_ (hE.to hbW)
  clear hE
  by_cases h1 : c.st < -1
  · have HW : Hid (withinC c S X = false) := hid_ (within_false fun ⟨a1, a2, a3, a4, a5, a6, a7⟩ => by omega)
    go_enter Tryd.func44, Tryd.ntmps44
    go_wp2_with fail
    go_ret
    rw [HW.out]
    exact ⟨rfl, hbW⟩
  by_cases h2 : S ≤ c.st
  · have HW : Hid (withinC c S X = false) := hid_ (within_false fun ⟨a1, a2, a3, a4, a5, a6, a7⟩ => by omega)
    go_enter Tryd.func44, Tryd.ntmps44
    go_wp2_with fail
    go_ret
    rw [HW.out]
    exact ⟨rfl, hbW⟩
  have g2 : ¬ S ≤ c.st := h2
  cases h3 : inR c.pos with
  | false =>
    have H3 := hid_ h3
    have HW : Hid (withinC c S X = false) := hid_ (within_false fun ⟨a1, a2, a3, a4, a5, a6, a7⟩ => by rw [h3] at a3; cases a3)
    clear h3
    go_enter Tryd.func44, Tryd.ntmps44
    go_wp2_with fail
    refine (place_any _ _).mono ?_
    rw [H3.out]
    rintro e w1 ⟨rfl, rfl⟩
    go_wp2_with fail
    go_ret
    rw [HW.out]
    exact ⟨rfl, hbW⟩
  | true =>
    have H3 := hid_ h3
    clear h3
    cases h4 : inR c.frm with
    | false =>
      have H4 := hid_ h4
      have HW : Hid (withinC c S X = false) := hid_ (within_false fun ⟨a1, a2, a3, a4, a5, a6, a7⟩ => by rw [h4] at a4; cases a4)
      clear h4
      go_enter Tryd.func44, Tryd.ntmps44
      go_wp2_with fail
      refine (place_any _ _).mono ?_
      rw [H3.out]
      rintro e w1 ⟨rfl, rfl⟩
      go_wp2_with fail
      refine (place_any _ _).mono ?_
      rw [H4.out]
      rintro e w2 ⟨rfl, rfl⟩
      go_wp2_with fail
      go_ret
      rw [HW.out]
      exact ⟨rfl, hbW⟩
    | true =>
      have H4 := hid_ h4
      clear h4
      by_cases h5 : 100000 < c.cells.length
      · have HW : Hid (withinC c S X = false) := hid_ (within_false fun ⟨a1, a2, a3, a4, a5, a6, a7⟩ => by omega)
        have g5 : (100000 : Int) < (c.cells.length : Int) := by omega
        go_enter Tryd.func44, Tryd.ntmps44
        go_wp2_with fail
        refine (place_any _ _).mono ?_
        rw [H3.out]
        rintro e w1 ⟨rfl, rfl⟩
        go_wp2_with fail
        refine (place_any _ _).mono ?_
        rw [H4.out]
        rintro e w2 ⟨rfl, rfl⟩
        go_wp2_with fail
        go_ret
        rw [HW.out]
        exact ⟨rfl, hbW⟩
      have g5 : ¬ (100000 : Int) < (c.cells.length : Int) := by omega
      have d5 : decide ((100000 : Int) < (c.cells.length : Int)) = false := decide_eq_false g5
      have d6 : decide (100000 < c.cells.length) = false := decide_eq_false h5
      by_cases h6 : c.cells.length = 0
      · have hnil : c.cells = [] := List.eq_nil_of_length_eq_zero h6
        have g6 : ((c.cells.length : Int) == 0) = true := by simp [h6]
        have HNIL := hid_ hnil
        have H6 := hid_ h6
        clear hnil h6
        by_cases h7 : c.frm = 0
        · have t7 : (c.frm != 0) = false := by simpa using h7
          have HW : Hid (withinC c S X = true) := hid_ (within_iff.2 ⟨by omega, by omega, H3.out, H4.out, by omega, .inl ⟨HNIL.out, h7⟩, by rw [HNIL.out]; rfl⟩)
          have H7 := hid_ h7
          clear h7
          go_enter Tryd.func44, Tryd.ntmps44
          go_wp2_with fail
          refine (place_any _ _).mono ?_
          rw [H3.out]
          rintro e w1 ⟨rfl, rfl⟩
          go_wp2_with fail
          refine (place_any _ _).mono ?_
          rw [H4.out]
          rintro e w2 ⟨rfl, rfl⟩
          go_wp2_with fail
          go_loopw [8] (fun s wr => s = .int .i64 0 ∧ wr = w.alloc (.cells #[.int .i64 c.st, .int .i64 c.pos, .int .i64 c.frm, .slice A c.cells.length cc] 27)) (fun _ _ => 0)
          case atStart => exact ⟨rfl, rfl⟩
          case round =>
            obtain ⟨rfl, rfl⟩ := hrel
            have g9 : ¬ (0 : Int) < (c.cells.length : Int) := by have := H6.out; omega
            go_wp2_with fail
            go_ret
            rw [HW.out]
            exact ⟨rfl, hbW⟩
        · have t7 : (c.frm != 0) = true := by simpa using h7
          have HW : Hid (withinC c S X = false) := hid_ (within_false fun ⟨a1, a2, a3, a4, a5, a6, a7⟩ => by
            rcases a6 with ⟨_, h⟩ | ⟨h, _⟩
            · exact h7 h
            · exact h HNIL.out)
          have H7 := hid_ h7
          clear h7
          go_enter Tryd.func44, Tryd.ntmps44
          go_wp2_with fail
          refine (place_any _ _).mono ?_
          rw [H3.out]
          rintro e w1 ⟨rfl, rfl⟩
          go_wp2_with fail
          refine (place_any _ _).mono ?_
          rw [H4.out]
          rintro e w2 ⟨rfl, rfl⟩
          go_wp2_with fail
          go_ret
          rw [HW.out]
          exact ⟨rfl, hbW⟩
      · have g6 : ((c.cells.length : Int) == 0) = false := beq_eq_false_iff_ne.2 (by omega)
        have hnil : c.cells ≠ [] := fun e => h6 (by rw [e]; rfl)
        have HNIL := hid_ hnil
        obtain ⟨x0, hx0⟩ : ∃ x, c.cells[0]? = some x := ⟨_, List.getElem?_eq_getElem (by omega)⟩
        obtain ⟨xl, hxl⟩ : ∃ x, c.cells[c.cells.length - 1]? = some x := ⟨_, List.getElem?_eq_getElem (by omega)⟩
        have HX0 := hid_ hx0
        have HXL := hid_ hxl
        have hp : 0 < c.cells.length := by omega
        obtain ⟨n, hn⟩ : ∃ n, n = c.cells.length := ⟨_, rfl⟩
        have u1 : IntKind.i64.wrap ((c.cells.length : Int) - 1) = ((c.cells.length - 1 : Nat) : Int) := by rw [IntWalk.i64_in _ (by omega)]; omega
        have u2 : (0 : Int) ≤ ((c.cells.length - 1 : Nat) : Int) := by omega
        have u3 : ((c.cells.length - 1 : Nat) : Int) < (c.cells.length : Int) := by omega
        have u4 : c.cells.length - 1 < c.cells.length := by omega
        obtain ⟨b1, o1, rfl, hb1, hc1⟩ := HE.out.at_ hp
        have i0 := hc1 0 _ (ints_at hx0)
        have il := hc1 _ _ (ints_at hxl)
        rw [Nat.add_zero] at i0
        have HC := hid_ hc1
        have H6 := hid_ h6
        obtain ⟨lst, hlst⟩ : ∃ lst, lst = c.cells.length - 1 := ⟨_, rfl⟩
        rw [← hlst] at u1 u2 u3 u4 il HXL
        have HLST := hid_ hlst
        clear hnil hx0 hxl hc1 h6 hn hlst
        go_enter Tryd.func44, Tryd.ntmps44
        go_wp2_with fail
        refine (place_any _ _).mono ?_
        rw [H3.out]
        rintro e w1 ⟨rfl, rfl⟩
        go_wp2_with fail
        refine (place_any _ _).mono ?_
        rw [H4.out]
        rintro e w2 ⟨rfl, rfl⟩
        go_wp2_with fail
        have BW := Blk.new w 27 #[.int .i64 c.st, .int .i64 c.pos, .int .i64 c.frm, .slice (some ⟨b1, o1, none⟩) c.cells.length cc]
        generalize w.alloc (.cells #[.int .i64 c.st, .int .i64 c.pos, .int .i64 c.frm, .slice (some ⟨b1, o1, none⟩) c.cells.length cc] 27) = W at *
        have q3 := BW.cell 3
        simp at q3
        clear BW
        go_loopw [8] (fun s wr => ∃ k : Nat, s = .int .i64 (k : Int) ∧ k ≤ c.cells.length ∧ Hid ((c.cells.take k).all (symB X) = true) ∧ wr = W) (fun s _ => c.cells.length - (intOf s).toNat)
        case atStart => exact ⟨0, rfl, Nat.zero_le _, hid_ rfl, rfl⟩
        case round =>
          obtain ⟨k, rfl, hk, HT, rfl⟩ := hrel
          by_cases hkl : k < c.cells.length
          · obtain ⟨x, hx⟩ : ∃ x, c.cells[k]? = some x := ⟨_, List.getElem?_eq_getElem hkl⟩
            have ik := HC.out k _ (ints_at hx)
            have t0 : 0 ≤ (k : Int) := by omega
            have HX := hid_ hx
            clear hx
            by_cases x1 : x < 0
            · have HW : Hid (withinC c S X = false) := hid_ (within_false fun ⟨a1, a2, a3, a4, a5, a6, a7⟩ => by
                rw [all_not HX.out (p := symB X) (by simp [symB]; omega)] at a7
                cases a7)
              go_wp2_with fail
              go_ret
              rw [HW.out]
              exact ⟨rfl, hbW⟩
            · by_cases x2 : X ≤ x
              · have HW : Hid (withinC c S X = false) := hid_ (within_false fun ⟨a1, a2, a3, a4, a5, a6, a7⟩ => by
                  rw [all_not HX.out (p := symB X) (by simp [symB]; omega)] at a7
                  cases a7)
                have x3 : 0 ≤ x := by omega
                go_wp2_with fail
                go_ret
                rw [HW.out]
                exact ⟨rfl, hbW⟩
              · have HSB : Hid (symB X x = true) := hid_ (by simp [symB]; omega)
                have x3 : 0 ≤ x := by omega
                have x4 : x < X := by omega
                clear x1 x2
                go_wp2_with fail
                go_roundw
                case rel => exact ⟨k + 1, by go_num, by omega, hid_ (all_step HX.out HT.out HSB.out), by trivial⟩
                case measure => simp [intOf]; omega
          · obtain rfl : k = c.cells.length := by omega
            have HT2 : Hid (c.cells.all (symB X) = true) := hid_ (by have := HT.out; rwa [List.take_length] at this)
            by_cases y0 : x0 = 0
            · have HW : Hid (withinC c S X = false) := hid_ (within_false fun ⟨a1, a2, a3, a4, a5, a6, a7⟩ => by
                rcases a6 with ⟨h, _⟩ | ⟨_, h, _⟩
                · exact HNIL.out h
                · rw [getD_some HX0.out] at h
                  exact h y0)
              have z0 : (x0 != 0) = false := by simpa using y0
              have Y0 := hid_ y0
              clear y0
              go_wp2_with fail
              go_ret
              rw [HW.out]
              exact ⟨rfl, hbW⟩
            · have z0 : (x0 != 0) = true := by simpa using y0
              have Y0 := hid_ y0
              clear y0
              by_cases y1 : xl = 0
              · have HW : Hid (withinC c S X = false) := hid_ (within_false fun ⟨a1, a2, a3, a4, a5, a6, a7⟩ => by
                  rcases a6 with ⟨h, _⟩ | ⟨_, _, h⟩
                  · exact HNIL.out h
                  · rw [← HLST.out, getD_some HXL.out] at h
                    exact h y1)
                have z1 : (xl != 0) = false := by simpa using y1
                have Y1 := hid_ y1
                clear y1
                go_wp2_with fail
                go_ret
                rw [HW.out]
                exact ⟨rfl, hbW⟩
              · have HW : Hid (withinC c S X = true) := hid_ (within_iff.2 ⟨by omega, by omega, H3.out, H4.out, by omega, .inr ⟨HNIL.out, by rw [getD_some HX0.out]; exact Y0.out, by rw [← HLST.out, getD_some HXL.out]; exact y1⟩, HT2.out⟩)
                have z1 : (xl != 0) = true := by simpa using y1
                have Y1 := hid_ y1
                clear y1
                go_wp2_with fail
                go_ret
                rw [HW.out]
                exact ⟨rfl, hbW⟩

set_option maxRecDepth 100000 in
set_option maxHeartbeats 2000000 in
theorem rfits_any (m : MachS) (c : CfgS) (v u : Value) (w : World) (hm : MachIn w w.heap.size v m) (hE : Elems w w.heap.size u (ints c.cells)) (hl : c.cells.length ≤ 17592186044416) :
    Calls Tryd.prog 14 #[.agg #[.int .i64 m.states, .int .i64 m.symbols, v], .agg #[.int .i64 c.st, .int .i64 c.pos, .int .i64 c.frm, u]] w fun e w' => e = .returned (.bool (fitsC m c)) ∧ Below w.heap.size w w' := by
  obtain ⟨A1, c1, rfl⟩ := hm.rules.form
  obtain ⟨A2, c2, rfl⟩ := hE.form
  rw [ints_len] at hE ⊢
  have hbW := below2 w (.cells #[.int .i64 m.states, .int .i64 m.symbols, .slice A1 m.rules.length c1] 24) (.cells #[.int .i64 c.st, .int .i64 c.pos, .int .i64 c.frm, .slice A2 c.cells.length c2] 27)
  have HM := hid_ (hm.to hbW)
  have HE := hid_ (hE.to hbW)
  have B1 := (Blk.new w 24 #[.int .i64 m.states, .int .i64 m.symbols, .slice A1 m.rules.length c1]).alloc (.cells #[.int .i64 c.st, .int .i64 c.pos, .int .i64 c.frm, .slice A2 c.cells.length c2] 27)
  have B2 := Blk.new (w.alloc (.cells #[.int .i64 m.states, .int .i64 m.symbols, .slice A1 m.rules.length c1] 24)) 27 #[.int .i64 c.st, .int .i64 c.pos, .int .i64 c.frm, .slice A2 c.cells.length c2]
  rw [show (w.alloc (.cells #[.int .i64 m.states, .int .i64 m.symbols, .slice A1 m.rules.length c1] 24)).heap.size = w.heap.size + 1 by simp] at B2
  have HB1 := hid_ B1
  have HB2 := hid_ B2
  clear hm hE B1 B2
  cases hv : validM m with
  | false =>
    have HV := hid_ hv
    have HF : Hid (fitsC m c = false) := hid_ (by rw [fitsC, hv]; rfl)
    clear hv
    go_enter Tryd.func14, Tryd.ntmps14
    go_wp2_with fail
    refine (rvalid_any m _ _ HM.out).mono ?_
    rw [HV.out]
    rintro e w1 ⟨rfl, hb1⟩
    go_wp2_with fail
    go_ret
    rw [HF.out]
    exact ⟨rfl, bnext hbW hb1⟩
  | true =>
    have HV := hid_ hv
    have HF : Hid (fitsC m c = withinC c m.states m.symbols) := hid_ (by rw [fitsC, hv]; rfl)
    clear hv
    go_enter Tryd.func14, Tryd.ntmps14
    go_wp2_with fail
    refine (rvalid_any m _ _ HM.out).mono ?_
    rw [HV.out]
    rintro e w1 ⟨rfl, hb1⟩
    have B1 := HB1.out.to hb1
    have B2 := HB2.out.to hb1
    have p0 := B1.cell 0
    have p1 := B1.cell 1
    have q0 := B2.cell 0
    have q1 := B2.cell 1
    have q2 := B2.cell 2
    have q3 := B2.cell 3
    simp at p0 p1 q0 q1 q2 q3
    go_wp2_with fail
    refine (rwithin_any c m.states m.symbols _ w1 (HE.out.to hb1) hl).mono ?_
    rw [← HF.out]
    cases hf : fitsC m c
    all_goals
      rintro e w2 ⟨rfl, hb2⟩
      go_wp2_with fail
      go_ret
      exact ⟨ret_bool hf.symm, bnext (bnext hbW hb1) hb2⟩
end Go.Proofs.YtkbaiegfloajlaaDoor.Tp

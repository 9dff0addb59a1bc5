/- Contracts: gap, far of the law package of layer 1. -/
import Derived.Test.YtkbaiegfloajlaaDoorWe
namespace Go.Proofs.YtkbaiegfloajlaaDoor.Tp
open Go.RowKit

set_option maxRecDepth 100000 in
set_option maxHeartbeats 2000000 in
theorem gap_any (c : CfgS) (v : Value) (w : World) (hE : Elems w w.heap.size v (ints c.cells)) (hl : c.cells.length ≤ 100000) (hp : -1099511627776 ≤ c.pos ∧ c.pos ≤ 1099511627776) (hf : -1099511627776 ≤ c.frm ∧ c.frm ≤ 1099511627776) :
    Calls Tryd.prog 64 #[.agg #[.int .i64 c.st, .int .i64 c.pos, .int .i64 c.frm, v]] w fun e w' => e = .returned (.int .i64 (gapC c)) ∧ Below w.heap.size w w' := by
  obtain ⟨A, cc, rfl⟩ := hE.form
  rw [ints_len] at hE ⊢
  have hbW := below1 w (.cells #[.int .i64 c.st, .int .i64 c.pos, .int .i64 c.frm, .slice A c.cells.length cc] 27)
  obtain ⟨R, hR⟩ : ∃ R, R = gapC c := ⟨_, rfl⟩
  rw [← hR]
  have HR := hid_ hR
  clear hE hR
  by_cases h0 : c.cells.length = 0
  · have t0 : ((c.cells.length : Int) == 0) = true := by simp [h0]
    have HZ : Hid (R = 0) := hid_ (by rw [HR.out, gapC, if_pos h0])
    clear h0
    go_enter Tryd.func64, Tryd.ntmps64
    go_wp2_with fail
    go_ret
    rw [HZ.out]
    exact ⟨rfl, hbW⟩
  · have t0 : ((c.cells.length : Int) == 0) = false := beq_eq_false_iff_ne.2 (by omega)
    have m2 : IntKind.i64.wrap (c.pos - c.frm) = c.pos - c.frm := IntWalk.i64_in _ (by omega)
    have m3 : IntKind.i64.wrap (c.pos - c.frm - (c.cells.length : Int)) = c.pos - c.frm - (c.cells.length : Int) := IntWalk.i64_in _ (by omega)
    obtain ⟨X, hX⟩ : ∃ X, X = c.frm - c.pos := ⟨_, rfl⟩
    obtain ⟨Y, hY⟩ : ∃ Y, Y = c.pos - c.frm - (c.cells.length : Int) + 1 := ⟨_, rfl⟩
    have HZ : Hid (R = max (max X Y) 0) := hid_ (by rw [HR.out, gapC, if_neg h0, hX, hY])
    have m1 : IntKind.i64.wrap (c.frm - c.pos) = X := by rw [hX]; exact IntWalk.i64_in _ (by omega)
    have m4 : IntKind.i64.wrap (c.pos - c.frm - (c.cells.length : Int) + 1) = Y := by rw [hY]; exact IntWalk.i64_in _ (by omega)
    clear h0 hX hY
    by_cases c1 : X < Y
    · have d1 : ¬ Y < X := by omega
      by_cases c2 : Y < 0
      · have d2 : ¬ 0 < Y := by omega
        go_enter Tryd.func64, Tryd.ntmps64
        go_wp2_with fail
        go_ret
        exact ⟨by rw [HZ.out, show max (max X Y) 0 = 0 by omega]; rfl, hbW⟩
      · go_enter Tryd.func64, Tryd.ntmps64
        go_wp2_with fail
        go_ret
        exact ⟨by rw [HZ.out, show max (max X Y) 0 = Y by omega]; rfl, hbW⟩
    · by_cases c2 : X < 0
      · have d2 : ¬ 0 < X := by omega
        go_enter Tryd.func64, Tryd.ntmps64
        go_wp2_with fail
        go_ret
        exact ⟨by rw [HZ.out, show max (max X Y) 0 = 0 by omega]; rfl, hbW⟩
      · go_enter Tryd.func64, Tryd.ntmps64
        go_wp2_with fail
        go_ret
        exact ⟨by rw [HZ.out, show max (max X Y) 0 = X by omega]; rfl, hbW⟩

set_option maxRecDepth 100000 in
set_option maxHeartbeats 2000000 in
theorem far_any (c : CfgS) (v : Value) (w : World) (hE : Elems w w.heap.size v (ints c.cells)) (hl : c.cells.length ≤ 100000) (hp : -1099511627776 ≤ c.pos ∧ c.pos ≤ 1099511627776) (hf : -1099511627776 ≤ c.frm ∧ c.frm ≤ 1099511627776) :
    Calls Tryd.prog 36 #[.agg #[.int .i64 c.st, .int .i64 c.pos, .int .i64 c.frm, v]] w fun e w' => e = .returned (.bool (farC c)) ∧ Below w.heap.size w w' := by
  obtain ⟨A, cc, rfl⟩ := hE.form
  rw [ints_len] at hE ⊢
  have hbW := below1 w (.cells #[.int .i64 c.st, .int .i64 c.pos, .int .i64 c.frm, .slice A c.cells.length cc] 27)
  have HE := hid_ (hE.to hbW)
  obtain ⟨R, hR⟩ : ∃ R, R = farC c := ⟨_, rfl⟩
  rw [← hR]
  have HR : Hid (R = decide (-1099511427776 ≤ c.pos ∧ c.pos ≤ 1099511427776 ∧ -1099511427776 ≤ c.frm ∧ c.frm ≤ 1099511427776 ∧ c.cells.length ≤ 1000 ∧ gapC c ≤ 50000)) := hid_ hR
  have HP := hid_ hp
  have HF := hid_ hf
  clear hE hR hp hf
  have hcs : c.pos < -1099511427776 ∨ (-1099511427776 ≤ c.pos ∧ 1099511427776 < c.pos) ∨ (-1099511427776 ≤ c.pos ∧ c.pos ≤ 1099511427776 ∧ c.frm < -1099511427776) ∨ (-1099511427776 ≤ c.pos ∧ c.pos ≤ 1099511427776 ∧ -1099511427776 ≤ c.frm ∧ 1099511427776 < c.frm) ∨ (-1099511427776 ≤ c.pos ∧ c.pos ≤ 1099511427776 ∧ -1099511427776 ≤ c.frm ∧ c.frm ≤ 1099511427776) := by omega
  rcases hcs with h1 | ⟨h1, h2⟩ | ⟨h1, h2, h3⟩ | ⟨h1, h2, h3, h4⟩ | ⟨h1, h2, h3, h4⟩
  · have n1 : ¬ -1099511427776 ≤ c.pos := by omega
    have d1 : decide (-1099511427776 ≤ c.pos) = false := decide_eq_false n1
    go_enter Tryd.func36, Tryd.ntmps36
    go_wp2_with fail
    go_ret
    exact ⟨ret_bool (by rw [HR.out]; symm; exact decide_eq_false (by omega)), hbW⟩
  · have n1 : ¬ c.pos ≤ 1099511427776 := by omega
    have d1 : decide (c.pos ≤ 1099511427776) = false := decide_eq_false n1
    go_enter Tryd.func36, Tryd.ntmps36
    go_wp2_with fail
    go_ret
    exact ⟨ret_bool (by rw [HR.out]; symm; exact decide_eq_false (by omega)), hbW⟩
  · have n1 : ¬ -1099511427776 ≤ c.frm := by omega
    have d1 : decide (-1099511427776 ≤ c.frm) = false := decide_eq_false n1
    go_enter Tryd.func36, Tryd.ntmps36
    go_wp2_with fail
    go_ret
    exact ⟨ret_bool (by rw [HR.out]; symm; exact decide_eq_false (by omega)), hbW⟩
  · have n1 : ¬ c.frm ≤ 1099511427776 := by omega
    have d1 : decide (c.frm ≤ 1099511427776) = false := decide_eq_false n1
    go_enter Tryd.func36, Tryd.ntmps36
    go_wp2_with fail
    go_ret
    exact ⟨ret_bool (by rw [HR.out]; symm; exact decide_eq_false (by omega)), hbW⟩
  · by_cases h5 : c.cells.length ≤ 1000
    · have h6 : (c.cells.length : Int) ≤ 1000 := by omega
      obtain ⟨G, hG⟩ : ∃ G, G = gapC c := ⟨_, rfl⟩
      have HG := hid_ hG
      clear hG
      by_cases h7 : G ≤ 50000
      · go_enter Tryd.func36, Tryd.ntmps36
        go_wp2_with fail
        refine (gap_any c _ _ HE.out hl HP.out HF.out).mono ?_
        rw [← HG.out]
        rintro e w1 ⟨rfl, hb1⟩
        go_wp2_with fail
        go_ret
        exact ⟨ret_bool (by rw [HR.out, ← HG.out]; symm; exact decide_eq_true ⟨h1, h2, h3, h4, h5, h7⟩), bnext hbW hb1⟩
      · have d7 : decide (G ≤ 50000) = false := decide_eq_false h7
        go_enter Tryd.func36, Tryd.ntmps36
        go_wp2_with fail
        refine (gap_any c _ _ HE.out hl HP.out HF.out).mono ?_
        rw [← HG.out]
        rintro e w1 ⟨rfl, hb1⟩
        go_wp2_with fail
        go_ret
        exact ⟨ret_bool (by rw [HR.out, ← HG.out]; symm; exact decide_eq_false (fun e => by have := e.2.2.2.2.2; omega)), bnext hbW hb1⟩
    · have h6 : ¬ (c.cells.length : Int) ≤ 1000 := by omega
      have d6 : decide ((c.cells.length : Int) ≤ 1000) = false := decide_eq_false h6
      have d7 : decide (c.cells.length ≤ 1000) = false := decide_eq_false h5
      go_enter Tryd.func36, Tryd.ntmps36
      go_wp2_with fail
      go_ret
      exact ⟨ret_bool (by rw [HR.out]; symm; exact decide_eq_false (fun e => by have := e.2.2.2.2.1; omega)), hbW⟩
end Go.Proofs.YtkbaiegfloajlaaDoor.Tp

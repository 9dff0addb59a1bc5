/- The law CounterJoins. -/
import Derived.Test.YtgpcgjdnehlaeaaAe
import Derived.Test.YtgpcgjdnehlaeaaAf
import Derived.Test.YtgpcgjdnehlaeaaAg
import Derived.Test.YtgpcgjdnehlaeaaI
import Derived.Test.YtgpcgjdnehlaeaaN
namespace Go.Proofs.Ytgpcgjdnehlaeaa
open Go.RowKit

section
variable {R1 R2 : Int} {A1 A2 : Option Addr} {n1 n2 : Nat} (c1 c2 : Nat) {a b : List Ins} {w : World}
theorem join_small (h1 : CodeAt w w.heap.size A1 n1 a) (h2 : CodeAt w w.heap.size A2 n2 b) (hv1 : vCode R1 a = true) (hv2 : vCode R2 b = true) (hl : (joinC a b).length ≤ 2000) :
    Calls Try.prog 21 #[.agg #[.int .i64 R1, .slice A1 n1 c1], .agg #[.int .i64 R2, .slice A2 n2 c2]] w fun e w' =>
      ∃ A n c, e = .returned (.tuple #[.agg #[.int .i64 (if R1 < R2 then R2 else R1), .slice A n c], .int .i64 0]) ∧ CodeAt w' w'.heap.size A n (joinC a b) ∧ Below w.heap.size w w' := by
  by_cases h : R1 < R2
  · rw [if_pos h]
    refine (join_lt R1 R2 A1 A2 n1 c1 n2 c2 a b w h1 h2 hv1 hv2 h).mono ?_
    rintro e w' (⟨_, hh⟩ | ⟨hh, _⟩)
    · exact hh
    · omega
  · rw [if_neg h]
    refine (join_ge R1 R2 A1 A2 n1 c1 n2 c2 a b w h1 h2 hv1 hv2 (by omega)).mono ?_
    rintro e w' (⟨_, hh⟩ | ⟨hh, _⟩)
    · exact hh
    · omega
theorem join_long (h1 : CodeAt w w.heap.size A1 n1 a) (h2 : CodeAt w w.heap.size A2 n2 b) (hv1 : vCode R1 a = true) (hv2 : vCode R2 b = true) (hl : 2000 < (joinC a b).length) :
    Calls Try.prog 21 #[.agg #[.int .i64 R1, .slice A1 n1 c1], .agg #[.int .i64 R2, .slice A2 n2 c2]] w fun e w' =>
      e = .returned (.tuple #[.agg #[.int .i64 0, .slice none 0 0], .int .i64 4]) ∧ Below w.heap.size w w' := by
  by_cases h : R1 < R2
  · refine (join_lt R1 R2 A1 A2 n1 c1 n2 c2 a b w h1 h2 hv1 hv2 h).mono ?_
    rintro e w' (⟨hh, _⟩ | ⟨_, hh⟩)
    · omega
    · exact hh
  · refine (join_ge R1 R2 A1 A2 n1 c1 n2 c2 a b w h1 h2 hv1 hv2 (by omega)).mono ?_
    rintro e w' (⟨hh, _⟩ | ⟨_, hh⟩)
    · omega
    · exact hh
theorem rjoin_valid (h1 : CodeAt w w.heap.size A1 n1 a) (h2 : CodeAt w w.heap.size A2 n2 b) (hv1 : vCode R1 a = true) (hv2 : vCode R2 b = true) :
    Calls Try.prog 23 #[.agg #[.int .i64 R1, .slice A1 n1 c1], .agg #[.int .i64 R2, .slice A2 n2 c2]] w (RJRet w (if R1 < R2 then R2 else R1) (joinC a b)) := by
  by_cases h : R1 < R2
  · rw [if_pos h]
    exact rjoin_lt R1 R2 A1 A2 n1 c1 n2 c2 a b w h1 h2 hv1 hv2 h
  · rw [if_neg h]
    exact rjoin_ge R1 R2 A1 A2 n1 c1 n2 c2 a b w h1 h2 hv1 hv2 (by omega)
theorem icode_at {M : Int} {A A' : Option Addr} {n n' : Nat} (c c' : Nat) {code : List Ins} (h1 : CodeAt w w.heap.size A n code) (h2 : CodeAt w w.heap.size A' n' code) (hn : 0 < code.length) (hm : code.length ≤ 5000) :
    Calls Try.prog 22 #[.agg #[.int .i64 M, .slice A n c], .agg #[.int .i64 M, .slice A' n' c']] w fun e w' => e = .returned (.bool true) ∧ Below w.heap.size w w' := by
  have l1 := h1.len
  have l2 := h2.len
  obtain ⟨b1, o1, rfl, hb1, hi1⟩ := h1.at_ (by omega)
  obtain ⟨b2, o2, rfl, hb2, hi2⟩ := h2.at_ (by omega)
  obtain rfl : n = n' := by omega
  exact icode_in M b1 o1 b2 o2 n c c' code w l1 (by omega) hb1 hb2 hi1 hi2
end

set_option maxRecDepth 1000000 in
set_option maxHeartbeats 2000000 in
theorem joins_wide1 (R1 R2 : Int) (A1 A2 : Option Addr) (n1 c1 n2 c2 : Nat) (w : World) (hn : 4000 < n1) :
    Calls Try.prog 4 #[.agg #[.int .i64 R1, .slice A1 n1 c1], .agg #[.int .i64 R2, .slice A2 n2 c2]] w fun e w' => e = .returned (.bool true) ∧ Below w.heap.size w w' := by
  have W1 := hid_ (decide_eq_true (show 4000 < n1 ∨ 100 < 0 from .inl hn))
  go_enter Try.func4, Try.ntmps4
  go_wp2_with fail
  refine (wide_any R1 0 A1 none n1 c1 0 0 _).mono ?_
  rw [W1.out]
  rintro e wa ⟨rfl, hba⟩
  obtain ⟨p0, p1, q0, q1, hz, hwa⟩ := boxes2 hba
  clear hba
  go_wp2_with fail
  refine (awake_any _).mono ?_
  rintro e wz ⟨rfl, hbz⟩
  go_wp2_with fail
  go_ret
  exact ⟨rfl, bnext hwa hbz⟩

set_option maxRecDepth 1000000 in
set_option maxHeartbeats 2000000 in
theorem joins_wide2 (R1 R2 : Int) (A1 A2 : Option Addr) (n1 c1 n2 c2 : Nat) (w : World) (hn1 : n1 ≤ 4000) (hn : 4000 < n2) :
    Calls Try.prog 4 #[.agg #[.int .i64 R1, .slice A1 n1 c1], .agg #[.int .i64 R2, .slice A2 n2 c2]] w fun e w' => e = .returned (.bool true) ∧ Below w.heap.size w w' := by
  have W1 := hid_ (decide_eq_false (show ¬ (4000 < n1 ∨ 100 < 0) by omega))
  have W2 := hid_ (decide_eq_true (show 4000 < n2 ∨ 100 < 0 from .inl hn))
  go_enter Try.func4, Try.ntmps4
  go_wp2_with fail
  refine (wide_any R1 0 A1 none n1 c1 0 0 _).mono ?_
  rw [W1.out]
  rintro e wa ⟨rfl, hba⟩
  obtain ⟨p0, p1, q0, q1, hz, hwa⟩ := boxes2 hba
  clear hba
  go_wp2_with fail
  refine (wide_any R2 0 A2 none n2 c2 0 0 _).mono ?_
  rw [W2.out]
  rintro e wb ⟨rfl, hbwb⟩
  have hwb := bnext hwa hbwb
  go_wp2_with fail
  refine (awake_any _).mono ?_
  rintro e wz ⟨rfl, hbz⟩
  go_wp2_with fail
  go_ret
  exact ⟨rfl, bnext hwb hbz⟩

set_option maxRecDepth 1000000 in
set_option maxHeartbeats 2000000 in
theorem joins_bad1 (R1 R2 : Int) (A1 A2 : Option Addr) (n1 c1 n2 c2 : Nat) (a : List Ins) (w : World) (h1 : CodeAt w w.heap.size A1 n1 a) (hn1 : n1 ≤ 4000) (hn2 : n2 ≤ 4000) (hv1 : vCode R1 a = false) :
    Calls Try.prog 4 #[.agg #[.int .i64 R1, .slice A1 n1 c1], .agg #[.int .i64 R2, .slice A2 n2 c2]] w fun e w' => e = .returned (.bool true) ∧ Below w.heap.size w w' := by
  have H1 := hid_ h1; clear h1
  have V1 := hid_ hv1; clear hv1
  have W1 := hid_ (decide_eq_false (show ¬ (4000 < n1 ∨ 100 < 0) by omega))
  have W2 := hid_ (decide_eq_false (show ¬ (4000 < n2 ∨ 100 < 0) by omega))
  go_enter Try.func4, Try.ntmps4
  go_wp2_with fail
  refine (wide_any R1 0 A1 none n1 c1 0 0 _).mono ?_
  rw [W1.out]
  rintro e wa ⟨rfl, hba⟩
  obtain ⟨p0, p1, q0, q1, hz, hwa⟩ := boxes2 hba
  clear hba
  go_wp2_with fail
  refine (wide_any R2 0 A2 none n2 c2 0 0 _).mono ?_
  rw [W2.out]
  rintro e wb ⟨rfl, hbwb⟩
  replace p0 := keepc hbwb p0
  replace p1 := keepc hbwb p1
  replace q0 := keepc hbwb q0
  replace q1 := keepc hbwb q1
  have hwb := bnext hwa hbwb
  have zwb : w.heap.size + 1 < wb.heap.size := by have := hbwb.size; omega
  have ywb : w.heap.size < wb.heap.size := by omega
  go_wp2_with fail
  refine (join_bad1 R1 R2 A1 A2 n1 c1 n2 c2 a _ (H1.out.to hwb) V1.out).mono ?_
  rintro e wc ⟨rfl, hbwc⟩
  replace p0 := keepc hbwc p0
  replace p1 := keepc hbwc p1
  replace q0 := keepc hbwc q0
  replace q1 := keepc hbwc q1
  have hwc := bnext hwb hbwc
  have zwc : w.heap.size + 1 < wc.heap.size := by have := hbwc.size; omega
  have ywc : w.heap.size < wc.heap.size := by omega
  go_wp2_with fail
  refine (rvalid_any R1 A1 n1 c1 a _ (H1.out.to (hwc.alloc (by omega) _))).mono ?_
  rw [V1.out]
  rintro e wd ⟨rfl, hbwd⟩
  replace p0 := keepc hbwd (keepa _ p0)
  replace p1 := keepc hbwd (keepa _ p1)
  replace q0 := keepc hbwd (keepa _ q0)
  replace q1 := keepc hbwd (keepa _ q1)
  obtain ⟨u0, u1, zuwd, hkwd⟩ := box_keep hbwd
  have hwd := bnext hwc (((Below.refl _ wc).alloc (Nat.le_refl _) _).trans (hbwd.mono (by simp)))
  have zwd : w.heap.size + 1 < wd.heap.size := by have := hbwd.size; simp at this; omega
  have ywd : w.heap.size < wd.heap.size := by omega
  go_wp2_with fail
  refine (icode_nil none 0 wd).mono ?_
  rintro e wy ⟨rfl, hbwy⟩
  have hwy := bnext hwd hbwy
  go_wp2_with fail
  refine (awake_any _).mono ?_
  rintro e wz ⟨rfl, hbz⟩
  go_wp2_with fail
  go_ret
  exact ⟨rfl, bnext hwy hbz⟩

set_option maxRecDepth 1000000 in
set_option maxHeartbeats 2000000 in
theorem joins_bad2 (R1 R2 : Int) (A1 A2 : Option Addr) (n1 c1 n2 c2 : Nat) (a b : List Ins) (w : World) (h1 : CodeAt w w.heap.size A1 n1 a) (h2 : CodeAt w w.heap.size A2 n2 b) (hn1 : n1 ≤ 4000) (hn2 : n2 ≤ 4000) (hv1 : vCode R1 a = true) (hv2 : vCode R2 b = false) :
    Calls Try.prog 4 #[.agg #[.int .i64 R1, .slice A1 n1 c1], .agg #[.int .i64 R2, .slice A2 n2 c2]] w fun e w' => e = .returned (.bool true) ∧ Below w.heap.size w w' := by
  have H1 := hid_ h1; clear h1
  have H2 := hid_ h2; clear h2
  have V1 := hid_ hv1; clear hv1
  have V2 := hid_ hv2; clear hv2
  have W1 := hid_ (decide_eq_false (show ¬ (4000 < n1 ∨ 100 < 0) by omega))
  have W2 := hid_ (decide_eq_false (show ¬ (4000 < n2 ∨ 100 < 0) by omega))
  go_enter Try.func4, Try.ntmps4
  go_wp2_with fail
  refine (wide_any R1 0 A1 none n1 c1 0 0 _).mono ?_
  rw [W1.out]
  rintro e wa ⟨rfl, hba⟩
  obtain ⟨p0, p1, q0, q1, hz, hwa⟩ := boxes2 hba
  clear hba
  go_wp2_with fail
  refine (wide_any R2 0 A2 none n2 c2 0 0 _).mono ?_
  rw [W2.out]
  rintro e wb ⟨rfl, hbwb⟩
  replace p0 := keepc hbwb p0
  replace p1 := keepc hbwb p1
  replace q0 := keepc hbwb q0
  replace q1 := keepc hbwb q1
  have hwb := bnext hwa hbwb
  have zwb : w.heap.size + 1 < wb.heap.size := by have := hbwb.size; omega
  have ywb : w.heap.size < wb.heap.size := by omega
  go_wp2_with fail
  refine (join_bad2 R1 R2 A1 A2 n1 c1 n2 c2 a b _ (H1.out.to hwb) (H2.out.to hwb) V1.out V2.out).mono ?_
  rintro e wc ⟨rfl, hbwc⟩
  replace p0 := keepc hbwc p0
  replace p1 := keepc hbwc p1
  replace q0 := keepc hbwc q0
  replace q1 := keepc hbwc q1
  have hwc := bnext hwb hbwc
  have zwc : w.heap.size + 1 < wc.heap.size := by have := hbwc.size; omega
  have ywc : w.heap.size < wc.heap.size := by omega
  go_wp2_with fail
  refine (rvalid_any R1 A1 n1 c1 a _ (H1.out.to (hwc.alloc (by omega) _))).mono ?_
  rw [V1.out]
  rintro e wd ⟨rfl, hbwd⟩
  replace p0 := keepc hbwd (keepa _ p0)
  replace p1 := keepc hbwd (keepa _ p1)
  replace q0 := keepc hbwd (keepa _ q0)
  replace q1 := keepc hbwd (keepa _ q1)
  obtain ⟨u0, u1, zuwd, hkwd⟩ := box_keep hbwd
  have hwd := bnext hwc (((Below.refl _ wc).alloc (Nat.le_refl _) _).trans (hbwd.mono (by simp)))
  have zwd : w.heap.size + 1 < wd.heap.size := by have := hbwd.size; simp at this; omega
  have ywd : w.heap.size < wd.heap.size := by omega
  go_wp2_with fail
  refine (rvalid_any R2 A2 n2 c2 b _ (H2.out.to hwd)).mono ?_
  rw [V2.out]
  rintro e we ⟨rfl, hbwe⟩
  replace p0 := keepc hbwe p0
  replace p1 := keepc hbwe p1
  replace q0 := keepc hbwe q0
  replace q1 := keepc hbwe q1
  replace u0 := keepc hbwe u0
  replace u1 := keepc hbwe u1
  have hwe := bnext hwd hbwe
  have zwe : w.heap.size + 1 < we.heap.size := by have := hbwe.size; omega
  have ywe : w.heap.size < we.heap.size := by omega
  go_wp2_with fail
  refine (icode_nil none 0 we).mono ?_
  rintro e wy ⟨rfl, hbwy⟩
  have hwy := bnext hwe hbwy
  go_wp2_with fail
  refine (awake_any _).mono ?_
  rintro e wz ⟨rfl, hbz⟩
  go_wp2_with fail
  go_ret
  exact ⟨rfl, bnext hwy hbz⟩

set_option maxRecDepth 1000000 in
set_option maxHeartbeats 2000000 in
theorem joins_long (R1 R2 : Int) (A1 A2 : Option Addr) (n1 c1 n2 c2 : Nat) (a b : List Ins) (w : World) (h1 : CodeAt w w.heap.size A1 n1 a) (h2 : CodeAt w w.heap.size A2 n2 b) (hn1 : n1 ≤ 4000) (hn2 : n2 ≤ 4000) (hv1 : vCode R1 a = true) (hv2 : vCode R2 b = true) (hl : 2000 < (joinC a b).length) (M : Int) (hM : (if R1 < R2 then R2 else R1) = M) (hj : vCode M (joinC a b) = false) :
    Calls Try.prog 4 #[.agg #[.int .i64 R1, .slice A1 n1 c1], .agg #[.int .i64 R2, .slice A2 n2 c2]] w fun e w' => e = .returned (.bool true) ∧ Below w.heap.size w w' := by
  have H1 := hid_ h1; clear h1
  have H2 := hid_ h2; clear h2
  have V1 := hid_ hv1; clear hv1
  have V2 := hid_ hv2; clear hv2
  have HL := hid_ hl; clear hl
  have HJ := hid_ hj; clear hj
  have HM := hid_ hM; clear hM
  have W1 := hid_ (decide_eq_false (show ¬ (4000 < n1 ∨ 100 < 0) by omega))
  have W2 := hid_ (decide_eq_false (show ¬ (4000 < n2 ∨ 100 < 0) by omega))
  go_enter Try.func4, Try.ntmps4
  go_wp2_with fail
  refine (wide_any R1 0 A1 none n1 c1 0 0 _).mono ?_
  rw [W1.out]
  rintro e wa ⟨rfl, hba⟩
  obtain ⟨p0, p1, q0, q1, hz, hwa⟩ := boxes2 hba
  clear hba
  go_wp2_with fail
  refine (wide_any R2 0 A2 none n2 c2 0 0 _).mono ?_
  rw [W2.out]
  rintro e wb ⟨rfl, hbwb⟩
  replace p0 := keepc hbwb p0
  replace p1 := keepc hbwb p1
  replace q0 := keepc hbwb q0
  replace q1 := keepc hbwb q1
  have hwb := bnext hwa hbwb
  have zwb : w.heap.size + 1 < wb.heap.size := by have := hbwb.size; omega
  have ywb : w.heap.size < wb.heap.size := by omega
  go_wp2_with fail
  refine (join_long c1 c2 (H1.out.to hwb) (H2.out.to hwb) V1.out V2.out HL.out).mono ?_
  rintro e wc ⟨rfl, hbwc⟩
  replace p0 := keepc hbwc p0
  replace p1 := keepc hbwc p1
  replace q0 := keepc hbwc q0
  replace q1 := keepc hbwc q1
  have hwc := bnext hwb hbwc
  have zwc : w.heap.size + 1 < wc.heap.size := by have := hbwc.size; omega
  have ywc : w.heap.size < wc.heap.size := by omega
  go_wp2_with fail
  refine (rvalid_any R1 A1 n1 c1 a _ (H1.out.to (hwc.alloc (by omega) _))).mono ?_
  rw [V1.out]
  rintro e wd ⟨rfl, hbwd⟩
  replace p0 := keepc hbwd (keepa _ p0)
  replace p1 := keepc hbwd (keepa _ p1)
  replace q0 := keepc hbwd (keepa _ q0)
  replace q1 := keepc hbwd (keepa _ q1)
  obtain ⟨u0, u1, zuwd, hkwd⟩ := box_keep hbwd
  have hwd := bnext hwc (((Below.refl _ wc).alloc (Nat.le_refl _) _).trans (hbwd.mono (by simp)))
  have zwd : w.heap.size + 1 < wd.heap.size := by have := hbwd.size; simp at this; omega
  have ywd : w.heap.size < wd.heap.size := by omega
  go_wp2_with fail
  refine (rvalid_any R2 A2 n2 c2 b _ (H2.out.to hwd)).mono ?_
  rw [V2.out]
  rintro e we ⟨rfl, hbwe⟩
  replace p0 := keepc hbwe p0
  replace p1 := keepc hbwe p1
  replace q0 := keepc hbwe q0
  replace q1 := keepc hbwe q1
  replace u0 := keepc hbwe u0
  replace u1 := keepc hbwe u1
  have hwe := bnext hwd hbwe
  have zwe : w.heap.size + 1 < we.heap.size := by have := hbwe.size; omega
  have ywe : w.heap.size < we.heap.size := by omega
  go_wp2_with fail
  refine (rjoin_valid c1 c2 (H1.out.to hwe) (H2.out.to hwe) V1.out V2.out).mono ?_
  rw [HM.out]
  rintro e wf ⟨Aq, nq, cq, rfl, hq, hbwf⟩
  have HQ := hid_ hq; clear hq
  replace u0 := keepc hbwf u0
  replace u1 := keepc hbwf u1
  have hwf := bnext hwe hbwf
  have zwf : wc.heap.size < wf.heap.size := by have := hbwf.size; have := hbwe.size; omega
  go_wp2_with fail
  refine (rvalid_any _ Aq nq cq (joinC a b) _ (HQ.out.to ((Below.refl _ wf).alloc (Nat.le_refl _) _))).mono ?_
  rw [HJ.out]
  rintro e wg ⟨rfl, hbwg⟩
  replace u0 := keepc hbwg (keepa _ u0)
  replace u1 := keepc hbwg (keepa _ u1)
  obtain ⟨t0, t1, zt, hkg⟩ := box_keep hbwg
  have hwg := bnext hwf hkg
  go_wp2_with fail
  refine (icode_nil none 0 wg).mono ?_
  rintro e wy ⟨rfl, hbwy⟩
  have hwy := bnext hwg hbwy
  go_wp2_with fail
  refine (awake_any _).mono ?_
  rintro e wz ⟨rfl, hbz⟩
  go_wp2_with fail
  go_ret
  exact ⟨rfl, bnext hwy hbz⟩

set_option maxRecDepth 1000000 in
set_option maxHeartbeats 2000000 in
theorem joins_small (R1 R2 : Int) (A1 A2 : Option Addr) (n1 c1 n2 c2 : Nat) (a b : List Ins) (w : World) (h1 : CodeAt w w.heap.size A1 n1 a) (h2 : CodeAt w w.heap.size A2 n2 b) (hn1 : n1 ≤ 4000) (hn2 : n2 ≤ 4000) (hv1 : vCode R1 a = true) (hv2 : vCode R2 b = true) (hl : (joinC a b).length ≤ 2000) (M : Int) (hM : (if R1 < R2 then R2 else R1) = M) (hj : vCode M (joinC a b) = true) :
    Calls Try.prog 4 #[.agg #[.int .i64 R1, .slice A1 n1 c1], .agg #[.int .i64 R2, .slice A2 n2 c2]] w fun e w' => e = .returned (.bool true) ∧ Below w.heap.size w w' := by
  have H1 := hid_ h1; clear h1
  have H2 := hid_ h2; clear h2
  have V1 := hid_ hv1; clear hv1
  have V2 := hid_ hv2; clear hv2
  have HL := hid_ hl; clear hl
  have HJ := hid_ hj; clear hj
  have HM := hid_ hM; clear hM
  have W1 := hid_ (decide_eq_false (show ¬ (4000 < n1 ∨ 100 < 0) by omega))
  have W2 := hid_ (decide_eq_false (show ¬ (4000 < n2 ∨ 100 < 0) by omega))
  go_enter Try.func4, Try.ntmps4
  go_wp2_with fail
  refine (wide_any R1 0 A1 none n1 c1 0 0 _).mono ?_
  rw [W1.out]
  rintro e wa ⟨rfl, hba⟩
  obtain ⟨p0, p1, q0, q1, hz, hwa⟩ := boxes2 hba
  clear hba
  go_wp2_with fail
  refine (wide_any R2 0 A2 none n2 c2 0 0 _).mono ?_
  rw [W2.out]
  rintro e wb ⟨rfl, hbwb⟩
  replace p0 := keepc hbwb p0
  replace p1 := keepc hbwb p1
  replace q0 := keepc hbwb q0
  replace q1 := keepc hbwb q1
  have hwb := bnext hwa hbwb
  have zwb : w.heap.size + 1 < wb.heap.size := by have := hbwb.size; omega
  have ywb : w.heap.size < wb.heap.size := by omega
  go_wp2_with fail
  refine (join_small c1 c2 (H1.out.to hwb) (H2.out.to hwb) V1.out V2.out HL.out).mono ?_
  rw [HM.out]
  rintro e wc ⟨Ap, np, cp, rfl, hpj, hbwc⟩
  replace p0 := keepc hbwc p0
  replace p1 := keepc hbwc p1
  replace q0 := keepc hbwc q0
  replace q1 := keepc hbwc q1
  have HP := hid_ hpj; clear hpj
  have hwc := bnext hwb hbwc
  have zwc : w.heap.size + 1 < wc.heap.size := by have := hbwc.size; omega
  have ywc : w.heap.size < wc.heap.size := by omega
  go_wp2_with fail
  refine (rvalid_any R1 A1 n1 c1 a _ (H1.out.to (hwc.alloc (by omega) _))).mono ?_
  rw [V1.out]
  rintro e wd ⟨rfl, hbwd⟩
  replace p0 := keepc hbwd (keepa _ p0)
  replace p1 := keepc hbwd (keepa _ p1)
  replace q0 := keepc hbwd (keepa _ q0)
  replace q1 := keepc hbwd (keepa _ q1)
  obtain ⟨u0, u1, zuwd, hkwd⟩ := box_keep hbwd
  have hwd := bnext hwc (((Below.refl _ wc).alloc (Nat.le_refl _) _).trans (hbwd.mono (by simp)))
  have zwd : w.heap.size + 1 < wd.heap.size := by have := hbwd.size; simp at this; omega
  have ywd : w.heap.size < wd.heap.size := by omega
  go_wp2_with fail
  replace HP := hid_ (HP.out.to hkwd)
  refine (rvalid_any R2 A2 n2 c2 b _ (H2.out.to hwd)).mono ?_
  rw [V2.out]
  rintro e we ⟨rfl, hbwe⟩
  replace p0 := keepc hbwe p0
  replace p1 := keepc hbwe p1
  replace q0 := keepc hbwe q0
  replace q1 := keepc hbwe q1
  replace u0 := keepc hbwe u0
  replace u1 := keepc hbwe u1
  have hwe := bnext hwd hbwe
  have zwe : w.heap.size + 1 < we.heap.size := by have := hbwe.size; omega
  have ywe : w.heap.size < we.heap.size := by omega
  go_wp2_with fail
  replace HP := hid_ (HP.out.to hbwe)
  refine (rjoin_valid c1 c2 (H1.out.to hwe) (H2.out.to hwe) V1.out V2.out).mono ?_
  rw [HM.out]
  rintro e wf ⟨Aq, nq, cq, rfl, hq, hbwf⟩
  have HQ := hid_ hq; clear hq
  replace u0 := keepc hbwf u0
  replace u1 := keepc hbwf u1
  have hwf := bnext hwe hbwf
  have zwf : wc.heap.size < wf.heap.size := by have := hbwf.size; have := hbwe.size; omega
  replace HP := hid_ (HP.out.to hbwf)
  go_wp2_with fail
  refine (rvalid_any _ Aq nq cq (joinC a b) _ (HQ.out.to ((Below.refl _ wf).alloc (Nat.le_refl _) _))).mono ?_
  rw [HJ.out]
  rintro e wg ⟨rfl, hbwg⟩
  replace u0 := keepc hbwg (keepa _ u0)
  replace u1 := keepc hbwg (keepa _ u1)
  obtain ⟨t0, t1, zt, hkg⟩ := box_keep hbwg
  have hwg := bnext hwf hkg
  replace HP := hid_ (HP.out.to hkg)
  replace HQ := hid_ (HQ.out.to hkg)
  go_wp2_with fail
  refine (icode_at cp cq HP.out HQ.out (by have := vCode_reg HJ.out; omega) (by have := HL.out; omega)).mono ?_
  rintro e wy ⟨rfl, hbwy⟩
  have hwy := bnext hwg hbwy
  go_wp2_with fail
  refine (awake_any _).mono ?_
  rintro e wz ⟨rfl, hbz⟩
  go_wp2_with fail
  go_ret
  exact ⟨rfl, bnext hwy hbz⟩

end Go.Proofs.Ytgpcgjdnehlaeaa

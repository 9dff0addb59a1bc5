/- The law CounterNames. -/
import Derived.Test.YtgpcgjdnehlaeaaAk
import Derived.Test.YtgpcgjdnehlaeaaAd
namespace Go.Proofs.Ytgpcgjdnehlaeaa
open Go.RowKit

theorem put_zero (m : Nat) (tos rs : List Int) : (madeCells (Value.int .i64 0).cells ((m + 1) * 1)).toList = ints (putL m tos rs 0) := by
  rw [Nat.mul_one]
  refine (toList_madeCells_one _ _).trans ?_
  simp [ints, putL]
theorem keepc' {B : Nat} {w w' : World} {a : Addr} {v : Value} (hb : Below B w w') (h : w.cell? a = some v) (hl : a.block < B) : w'.cell? a = some v := (hb.cell hl).trans h
set_option maxRecDepth 1000000 in
set_option maxHeartbeats 4000000 in
theorem names_wide (R at_ ex x : Int) (A A' A2 : Option Addr) (n c m d q d2 : Nat) (w : World) (h : 4000 < n ∨ 100 < m) :
    Calls Try.prog 7 #[.agg #[.int .i64 R, .slice A n c], .agg #[.int .i64 at_, .slice A' m d], .slice A2 q d2, .int .i64 ex, .int .u16 x] w fun e w' => e = .returned (.bool true) ∧ Below w.heap.size w w' := by
  have hwd : decide (4000 < n ∨ 100 < m) = true := decide_eq_true h
  clear h
  go_enter Try.func7, Try.ntmps7
  go_wp2_with fail
  refine (wide_any R at_ A A' n c m d _).mono ?_
  rw [hwd]
  clear hwd
  rintro e w1 ⟨rfl, hb1⟩
  obtain ⟨p0, p1, c0, c1, hz, hw1⟩ := boxes2 hb1
  clear hb1
  go_wp2_with fail
  refine (awake_any _).mono ?_
  rintro e wz ⟨rfl, hbz⟩
  go_wp2_with fail
  go_ret
  exact ⟨rfl, bnext hw1 hbz⟩
set_option maxRecDepth 1000000 in
set_option maxHeartbeats 4000000 in
theorem names_bad (R at_ ex x : Int) (A A' A2 : Option Addr) (n c m d q d2 : Nat) (code : List Ins) (rs : List Int) (w : World) (hc : CodeAt w w.heap.size A n code) (hr : IntsAt w w.heap.size A' m rs) (h : ¬ (4000 < n ∨ 100 < m)) (hf : fitsB R code at_ rs = false) :
    Calls Try.prog 7 #[.agg #[.int .i64 R, .slice A n c], .agg #[.int .i64 at_, .slice A' m d], .slice A2 q d2, .int .i64 ex, .int .u16 x] w fun e w' => e = .returned (.bool true) ∧ Below w.heap.size w w' := by
  have hwd : decide (4000 < n ∨ 100 < m) = false := decide_eq_false h
  have HC := hid_ hc; clear hc
  have HR := hid_ hr; clear hr
  have HF := hid_ hf; clear hf
  clear h
  go_enter Try.func7, Try.ntmps7
  go_wp2_with fail
  refine (wide_any R at_ A A' n c m d _).mono ?_
  rw [hwd]
  clear hwd
  rintro e w1 ⟨rfl, hb1⟩
  obtain ⟨p0, p1, c0, c1, hz, hw1⟩ := boxes2 hb1
  clear hb1
  go_wp2_with fail
  refine (rfits_any R at_ A A' n c m d code rs _ (HC.out.to hw1) (HR.out.to hw1)).mono ?_
  rw [HF.out]
  rintro e w2 ⟨rfl, hb2⟩
  replace p0 := keepc hb2 p0
  replace p1 := keepc hb2 p1
  replace c0 := keepc hb2 c0
  replace c1 := keepc hb2 c1
  have hw2 := bnext hw1 hb2
  have hz2 : w.heap.size + 1 < w2.heap.size := by have := hb2.size; omega
  have hz20 : w.heap.size < w2.heap.size := by omega
  go_wp2_with fail
  refine (awake_any _).mono ?_
  rintro e wz ⟨rfl, hbz⟩
  go_wp2_with fail
  go_ret
  exact ⟨rfl, bnext hw2 hbz⟩
set_option maxRecDepth 1000000 in
set_option maxHeartbeats 4000000 in
theorem names_early (R at_ ex x : Int) (A A' A2 : Option Addr) (n c m d q d2 : Nat) (code : List Ins) (rs : List Int) (w : World) (hc : CodeAt w w.heap.size A n code) (hr : IntsAt w w.heap.size A' m rs) (h : ¬ (4000 < n ∨ 100 < m)) (hf : fitsB R code at_ rs = true)
    (h1 : 16 ≤ R ∨ (R < 16 ∧ ex < 0) ∨ (R < 16 ∧ 0 ≤ ex ∧ 1152921504606846976 < ex) ∨ (R < 16 ∧ 0 ≤ ex ∧ ex ≤ 1152921504606846976 ∧ 2000 < x) ∨ (R < 16 ∧ 0 ≤ ex ∧ ex ≤ 1152921504606846976 ∧ x ≤ 2000 ∧ ¬ (q : Int) = R)) :
    Calls Try.prog 7 #[.agg #[.int .i64 R, .slice A n c], .agg #[.int .i64 at_, .slice A' m d], .slice A2 q d2, .int .i64 ex, .int .u16 x] w fun e w' => e = .returned (.bool true) ∧ Below w.heap.size w w' := by
  have hwd : decide (4000 < n ∨ 100 < m) = false := decide_eq_false h
  have HC := hid_ hc; clear hc
  have HR := hid_ hr; clear hr
  have HF := hid_ hf; clear hf
  clear h
  rcases h1 with h1 | ⟨h1, h2⟩ | ⟨h1, h2, h3⟩ | ⟨h1, h2, h3, h4⟩ | ⟨h1, h2, h3, h4, h5⟩
  all_goals
    try have h6 : ((q : Int) != R) = true := by simpa using h5
    go_enter Try.func7, Try.ntmps7
    go_wp2_with fail
    refine (wide_any R at_ A A' n c m d _).mono ?_
    rw [hwd]
    clear hwd
    rintro e w1 ⟨rfl, hb1⟩
    obtain ⟨p0, p1, c0, c1, hz, hw1⟩ := boxes2 hb1
    clear hb1
    go_wp2_with fail
    refine (rfits_any R at_ A A' n c m d code rs _ (HC.out.to hw1) (HR.out.to hw1)).mono ?_
    rw [HF.out]
    rintro e w2 ⟨rfl, hb2⟩
    replace p0 := keepc hb2 p0
    replace p1 := keepc hb2 p1
    replace c0 := keepc hb2 c0
    replace c1 := keepc hb2 c1
    have hw2 := bnext hw1 hb2
    have hz2 : w.heap.size + 1 < w2.heap.size := by have := hb2.size; omega
    have hz20 : w.heap.size < w2.heap.size := by omega
    go_wp2_with fail
    refine (awake_any _).mono ?_
    rintro e wz ⟨rfl, hbz⟩
    go_wp2_with fail
    go_ret
    exact ⟨rfl, bnext hw2 hbz⟩
end Go.Proofs.Ytgpcgjdnehlaeaa

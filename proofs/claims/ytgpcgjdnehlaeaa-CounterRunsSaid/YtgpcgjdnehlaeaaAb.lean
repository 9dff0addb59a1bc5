/- The law CounterRuns, every way. -/
import Derived.Test.YtgpcgjdnehlaeaaAa
import Derived.Test.YtgpcgjdnehlaeaaN
namespace Go.Proofs.Ytgpcgjdnehlaeaa
open Go.RowKit

set_option maxRecDepth 1000000 in
set_option maxHeartbeats 4000000 in
theorem runs_wide (R at_ N : Int) (A A' A2 : Option Addr) (n c m d q d2 : Nat) (w : World) (h : 4000 < n ∨ 100 < m ∨ 4000 < q ∨ (5000 < N ∧ N ≤ 1000000)) :
    Calls Try.prog 3 #[.agg #[.int .i64 R, .slice A n c], .agg #[.int .i64 at_, .slice A' m d], .slice A2 q d2, .int .i64 N] w fun e w' => e = .returned (.bool true) ∧ Below w.heap.size w w' := by
  cases hwd : decide (4000 < n ∨ 100 < m)
  · have h' := of_decide_eq_false hwd
    by_cases hq : (4000 : Int) < q
    · clear h'
      clear h
      go_enter Try.func3, Try.ntmps3
      go_wp2_with fail
      refine (wide_any R at_ A A' n c m d _).mono ?_
      rw [hwd]
      clear hwd
      rintro e w1 ⟨rfl, hb1⟩
      obtain ⟨p0, p1, c0, c1, hz, hw1⟩ := boxes2 hb1
      clear hb1
      go_wp2_with fail
      refine (awake_any _).mono ?_
      rintro e w2 ⟨rfl, hb2⟩
      go_wp2_with fail
      go_ret
      exact ⟨rfl, bnext hw1 hb2⟩
    · have hN1 : 5000 < N := by omega
      have hN2 : N ≤ 1000000 := by omega
      clear h'
      clear h
      go_enter Try.func3, Try.ntmps3
      go_wp2_with fail
      refine (wide_any R at_ A A' n c m d _).mono ?_
      rw [hwd]
      clear hwd
      rintro e w1 ⟨rfl, hb1⟩
      obtain ⟨p0, p1, c0, c1, hz, hw1⟩ := boxes2 hb1
      clear hb1
      go_wp2_with fail
      refine (awake_any _).mono ?_
      rintro e w2 ⟨rfl, hb2⟩
      go_wp2_with fail
      go_ret
      exact ⟨rfl, bnext hw1 hb2⟩
  · clear h
    go_enter Try.func3, Try.ntmps3
    go_wp2_with fail
    refine (wide_any R at_ A A' n c m d _).mono ?_
    rw [hwd]
    clear hwd
    rintro e w1 ⟨rfl, hb1⟩
    obtain ⟨p0, p1, c0, c1, hz, hw1⟩ := boxes2 hb1
    clear hb1
    go_wp2_with fail
    refine (awake_any _).mono ?_
    rintro e w2 ⟨rfl, hb2⟩
    go_wp2_with fail
    go_ret
    exact ⟨rfl, bnext hw1 hb2⟩

set_option maxRecDepth 1000000 in
set_option maxHeartbeats 4000000 in
theorem runs_bad_lo (R at_ N : Int) (A A' A2 : Option Addr) (n c m d q d2 : Nat) (code : List Ins) (rs pts : List Int) (w : World) (hc : CodeAt w w.heap.size A n code) (hr : IntsAt w w.heap.size A' m rs) (hp : IntsAt w w.heap.size A2 q pts)
    (hn : n ≤ 4000) (hm : m ≤ 100) (hq : q ≤ 4000) (hs : stepS R code at_ rs = ⟨0, [], 0, 1⟩) (h1 : runS R code at_ rs N = ⟨0, [], 0, 1⟩) (h2 : untilS R code at_ rs pts N = ⟨0, [], 0, 1⟩) (hf : fitsB R code at_ rs = false) (hN1 : N ≤ 5000) :
    Calls Try.prog 3 #[.agg #[.int .i64 R, .slice A n c], .agg #[.int .i64 at_, .slice A' m d], .slice A2 q d2, .int .i64 N] w fun e w' => e = .returned (.bool true) ∧ Below w.heap.size w w' := by
  have HC := hid_ hc; clear hc
  have HR := hid_ hr; clear hr
  have HP := hid_ hp; clear hp
  have hwd : decide (4000 < n ∨ 100 < m) = false := decide_eq_false (by omega)
  have hq' : ¬ (4000 : Int) < q := by omega
  have HS := hid_ hs; clear hs
  have H1 := hid_ h1; clear h1
  have H2 := hid_ h2; clear h2
  have HF := hid_ hf; clear hf
  have hN' : ¬ 5000 < N := by omega
  clear hm hn
  go_enter Try.func3, Try.ntmps3
  go_wp2_with fail
  refine (wide_any R at_ A A' n c m d _).mono ?_
  rw [hwd]
  clear hwd
  rintro e w1 ⟨rfl, hb1⟩
  obtain ⟨p0, p1, c0, c1, hz, hw1⟩ := boxes2 hb1
  clear hb1
  go_wp2_with fail
  go_region_held3 (fun w' => w'.cell? ⟨w.heap.size, 0, none⟩ = some (.int .i64 R) ∧ w'.cell? ⟨w.heap.size, 1, none⟩ = some (.slice A n c) ∧ w'.cell? ⟨w.heap.size + 1, 0, none⟩ = some (.int .i64 at_) ∧ w'.cell? ⟨w.heap.size + 1, 1, none⟩ = some (.slice A' m d)) (first | assumption | exact ⟨p0, p1, c0, c1⟩ | exact keep4 hb2 (by assumption) | exact keep4 hb3 (by assumption) | exact keep4 hb4 (by assumption) | exact keep4 hb5 (by assumption))
    (first
      | (go_at_call 10; refine (valid_any _ _ _ _ code _ (HC.out.to hw1.drew)).mono ?_; rintro e w2 ⟨rfl, hb2⟩)
      | (go_at_call 11; refine (rvalid_any _ _ _ _ code _ (HC.out.to (bnext hw1 hb2.drewl))).mono ?_; rintro e w3 ⟨rfl, hb3⟩)
      | (go_at_call 12; refine (fits_any _ _ _ _ _ _ _ _ code rs _ (HC.out.to (bnext (bnext hw1 hb2.drewl) hb3)) (HR.out.to (bnext (bnext hw1 hb2.drewl) hb3))).mono ?_; rintro e w4 ⟨rfl, hb4⟩)
      | (go_at_call 13; refine (rfits_any _ _ _ _ _ _ _ _ code rs _ (HC.out.to (bnext (bnext (bnext hw1 hb2.drewl) hb3) hb4)) (HR.out.to (bnext (bnext (bnext hw1 hb2.drewl) hb3) hb4))).mono ?_; rintro e w5 ⟨rfl, hb5⟩))
  have hb15 : Below w1.heap.size w1 w5 := bnext (bnext (bnext hb2.drewl hb3) hb4) hb5
  have hw5 := bnext hw1 hb15
  replace p0 := keepc hb15 p0
  replace p1 := keepc hb15 p1
  replace c0 := keepc hb15 c0
  replace c1 := keepc hb15 c1
  have hz5 : w.heap.size + 1 < w5.heap.size := by have := hb15.size; omega
  have hz50 : w.heap.size < w5.heap.size := by omega
  clear hb2 hb3 hb4 hb5 hb15 hz
  go_wp2_with fail
  refine (step_any R at_ A A' n c m d code rs w5 (HC.out.to hw5) (HR.out.to hw5)).mono ?_
  rw [HS.out]
  rintro e w6 ⟨A3, n3, d3, rfl, hi3, _, hb6⟩
  have HI3 := hid_ hi3; clear hi3
  replace p0 := keepc hb6 p0
  replace p1 := keepc hb6 p1
  replace c0 := keepc hb6 c0
  replace c1 := keepc hb6 c1
  have hw6 := bnext hw5 hb6
  have hz6 : w.heap.size + 1 < w6.heap.size := by have := hb6.size; omega
  have hz60 : w.heap.size < w6.heap.size := by omega
  clear hb6
  go_wp2_with fail
  refine (run_any R at_ N A A' n c m d code rs _ (HC.out.to (hw6.alloc (by omega) _)) (HR.out.to (hw6.alloc (by omega) _))).mono ?_
  rw [H1.out]
  rintro e w7 ⟨A4, n4, d4, rfl, hi4, _, hb7⟩
  have HI4 := hid_ hi4; clear hi4
  replace p0 := keepc hb7 (keepa _ p0)
  replace p1 := keepc hb7 (keepa _ p1)
  replace c0 := keepc hb7 (keepa _ c0)
  replace c1 := keepc hb7 (keepa _ c1)
  obtain ⟨u0, u1, hz7u, hb7'⟩ := box_keep hb7
  have hw7 := bnext hw6 hb7'
  replace HI3 := hid_ (HI3.out.to hb7')
  have hz7 : w.heap.size + 1 < w7.heap.size := by omega
  have hz70 : w.heap.size < w7.heap.size := by omega
  clear hb7 hb7'
  go_wp2_with fail
  refine (until_any R at_ N A A' A2 n c m d q d2 code rs pts _ (HC.out.to (hw7.alloc (by omega) _)) (HR.out.to (hw7.alloc (by omega) _)) (HP.out.to (hw7.alloc (by omega) _)) hq).mono ?_
  rw [H2.out]
  rintro e w8 ⟨A5, n5, d5, rfl, hi5, _, hb8⟩
  have HI5 := hid_ hi5; clear hi5
  replace p0 := keepc hb8 (keepa _ p0)
  replace p1 := keepc hb8 (keepa _ p1)
  replace c0 := keepc hb8 (keepa _ c0)
  replace c1 := keepc hb8 (keepa _ c1)
  replace u0 := keepc hb8 (keepa _ u0)
  replace u1 := keepc hb8 (keepa _ u1)
  obtain ⟨v0, v1, hz8v, hb8'⟩ := box_keep hb8
  have hw8 := bnext hw7 hb8'
  replace HI3 := hid_ (HI3.out.to hb8')
  replace HI4 := hid_ (HI4.out.to hb8')
  have hz8 : w.heap.size + 1 < w8.heap.size := by omega
  have hz80 : w.heap.size < w8.heap.size := by omega
  have hz86 : w6.heap.size < w8.heap.size := by omega
  clear hb8 hb8'
  go_wp2_with fail
  refine (rfits_any R at_ A A' n c m d code rs _ (HC.out.to ((hw8.alloc (by omega) _).alloc (by simp; omega) _)) (HR.out.to ((hw8.alloc (by omega) _).alloc (by simp; omega) _))).mono ?_
  rw [HF.out]
  rintro e w9 ⟨rfl, hb9⟩
  replace p0 := keepc hb9 (keepa _ (keepa _ p0))
  replace p1 := keepc hb9 (keepa _ (keepa _ p1))
  replace c0 := keepc hb9 (keepa _ (keepa _ c0))
  replace c1 := keepc hb9 (keepa _ (keepa _ c1))
  replace u0 := keepc hb9 (keepa _ (keepa _ u0))
  replace u1 := keepc hb9 (keepa _ (keepa _ u1))
  replace v0 := keepc hb9 (keepa _ (keepa _ v0))
  replace v1 := keepc hb9 (keepa _ (keepa _ v1))
  obtain ⟨y0, y1, z0, z1, hz9v, hb9'⟩ := boxes2 hb9
  have hw9 := bnext hw8 hb9'
  replace HI3 := hid_ (HI3.out.to hb9')
  replace HI4 := hid_ (HI4.out.to hb9')
  replace HI5 := hid_ (HI5.out.to hb9')
  have hz9 : w.heap.size + 1 < w9.heap.size := by omega
  have hz90 : w.heap.size < w9.heap.size := by omega
  clear hb9 hb9'
  go_wp2_with fail
  refine (same_any 0 0 A3 none n3 0 d3 0 [] [] w9 HI3.out (IntsAt.nil _) (by rw [← HI3.out.len]; simp)).mono ?_
  rw [sameB_self]
  rintro e w10 ⟨rfl, hb10⟩
  replace v0 := keepc hb10 v0
  replace v1 := keepc hb10 v1
  replace y0 := keepc hb10 y0
  replace y1 := keepc hb10 y1
  replace z0 := keepc hb10 z0
  replace z1 := keepc hb10 z1
  have hw10 := bnext hw9 hb10
  replace HI4 := hid_ (HI4.out.to hb10)
  replace HI5 := hid_ (HI5.out.to hb10)
  clear hb10
  go_wp2_with fail
  refine (same_any 0 0 A4 none n4 0 d4 0 [] [] w10 HI4.out (IntsAt.nil _) (by rw [← HI4.out.len]; simp)).mono ?_
  rw [sameB_self]
  rintro e w11 ⟨rfl, hb11⟩
  replace y0 := keepc hb11 y0
  replace y1 := keepc hb11 y1
  replace z0 := keepc hb11 z0
  replace z1 := keepc hb11 z1
  have hw11 := bnext hw10 hb11
  replace HI5 := hid_ (HI5.out.to hb11)
  clear hb11
  go_wp2_with fail
  refine (same_any 0 0 A5 none n5 0 d5 0 [] [] w11 HI5.out (IntsAt.nil _) (by rw [← HI5.out.len]; simp)).mono ?_
  rw [sameB_self]
  rintro e w12 ⟨rfl, hb12⟩
  have hw12 := bnext hw11 hb12
  clear hb12
  go_wp2_with fail
  refine (awake_any _).mono ?_
  rintro e w13 ⟨rfl, hb13⟩
  go_wp2_with fail
  go_ret
  exact ⟨rfl, bnext hw12 hb13⟩


set_option maxRecDepth 1000000 in
set_option maxHeartbeats 4000000 in
theorem runs_ok_lo (R at_ N : Int) (A A' A2 : Option Addr) (n c m d q d2 : Nat) (code : List Ins) (rs pts : List Int) (w : World) (hc : CodeAt w w.heap.size A n code) (hr : IntsAt w w.heap.size A' m rs) (hp : IntsAt w w.heap.size A2 q pts)
    (hn : n ≤ 4000) (hm : m ≤ 100) (hq : q ≤ 4000) (a3 a4 a5 k3 k4 k5 e3 e4 e5 : Int) (l3 l4 l5 : List Int) (hs : stepS R code at_ rs = ⟨a3, l3, k3, e3⟩) (h1 : runS R code at_ rs N = ⟨a4, l4, k4, e4⟩) (h2 : untilS R code at_ rs pts N = ⟨a5, l5, k5, e5⟩) (hf : fitsB R code at_ rs = true) (hm3 : l3.length ≤ 4000) (hm4 : l4.length ≤ 4000) (hm5 : l5.length ≤ 4000) (hN1 : N ≤ 5000) :
    Calls Try.prog 3 #[.agg #[.int .i64 R, .slice A n c], .agg #[.int .i64 at_, .slice A' m d], .slice A2 q d2, .int .i64 N] w fun e w' => e = .returned (.bool true) ∧ Below w.heap.size w w' := by
  have HC := hid_ hc; clear hc
  have HR := hid_ hr; clear hr
  have HP := hid_ hp; clear hp
  have hwd : decide (4000 < n ∨ 100 < m) = false := decide_eq_false (by omega)
  have hq' : ¬ (4000 : Int) < q := by omega
  have HS := hid_ hs; clear hs
  have H1 := hid_ h1; clear h1
  have H2 := hid_ h2; clear h2
  have HF := hid_ hf; clear hf
  have hN' : ¬ 5000 < N := by omega
  clear hm hn
  go_enter Try.func3, Try.ntmps3
  go_wp2_with fail
  refine (wide_any R at_ A A' n c m d _).mono ?_
  rw [hwd]
  clear hwd
  rintro e w1 ⟨rfl, hb1⟩
  obtain ⟨p0, p1, c0, c1, hz, hw1⟩ := boxes2 hb1
  clear hb1
  go_wp2_with fail
  go_region_held3 (fun w' => w'.cell? ⟨w.heap.size, 0, none⟩ = some (.int .i64 R) ∧ w'.cell? ⟨w.heap.size, 1, none⟩ = some (.slice A n c) ∧ w'.cell? ⟨w.heap.size + 1, 0, none⟩ = some (.int .i64 at_) ∧ w'.cell? ⟨w.heap.size + 1, 1, none⟩ = some (.slice A' m d)) (first | assumption | exact ⟨p0, p1, c0, c1⟩ | exact keep4 hb2 (by assumption) | exact keep4 hb3 (by assumption) | exact keep4 hb4 (by assumption) | exact keep4 hb5 (by assumption))
    (first
      | (go_at_call 10; refine (valid_any _ _ _ _ code _ (HC.out.to hw1.drew)).mono ?_; rintro e w2 ⟨rfl, hb2⟩)
      | (go_at_call 11; refine (rvalid_any _ _ _ _ code _ (HC.out.to (bnext hw1 hb2.drewl))).mono ?_; rintro e w3 ⟨rfl, hb3⟩)
      | (go_at_call 12; refine (fits_any _ _ _ _ _ _ _ _ code rs _ (HC.out.to (bnext (bnext hw1 hb2.drewl) hb3)) (HR.out.to (bnext (bnext hw1 hb2.drewl) hb3))).mono ?_; rintro e w4 ⟨rfl, hb4⟩)
      | (go_at_call 13; refine (rfits_any _ _ _ _ _ _ _ _ code rs _ (HC.out.to (bnext (bnext (bnext hw1 hb2.drewl) hb3) hb4)) (HR.out.to (bnext (bnext (bnext hw1 hb2.drewl) hb3) hb4))).mono ?_; rintro e w5 ⟨rfl, hb5⟩))
  have hb15 : Below w1.heap.size w1 w5 := bnext (bnext (bnext hb2.drewl hb3) hb4) hb5
  have hw5 := bnext hw1 hb15
  replace p0 := keepc hb15 p0
  replace p1 := keepc hb15 p1
  replace c0 := keepc hb15 c0
  replace c1 := keepc hb15 c1
  have hz5 : w.heap.size + 1 < w5.heap.size := by have := hb15.size; omega
  have hz50 : w.heap.size < w5.heap.size := by omega
  clear hb2 hb3 hb4 hb5 hb15 hz
  go_wp2_with fail
  refine (step_any R at_ A A' n c m d code rs w5 (HC.out.to hw5) (HR.out.to hw5)).mono ?_
  rw [HS.out]
  rintro e w6 ⟨A3, n3, d3, rfl, hi3, _, hb6⟩
  have HI3 := hid_ hi3; clear hi3
  replace p0 := keepc hb6 p0
  replace p1 := keepc hb6 p1
  replace c0 := keepc hb6 c0
  replace c1 := keepc hb6 c1
  have hw6 := bnext hw5 hb6
  have hz6 : w.heap.size + 1 < w6.heap.size := by have := hb6.size; omega
  have hz60 : w.heap.size < w6.heap.size := by omega
  clear hb6
  go_wp2_with fail
  refine (run_any R at_ N A A' n c m d code rs _ (HC.out.to (hw6.alloc (by omega) _)) (HR.out.to (hw6.alloc (by omega) _))).mono ?_
  rw [H1.out]
  rintro e w7 ⟨A4, n4, d4, rfl, hi4, _, hb7⟩
  have HI4 := hid_ hi4; clear hi4
  replace p0 := keepc hb7 (keepa _ p0)
  replace p1 := keepc hb7 (keepa _ p1)
  replace c0 := keepc hb7 (keepa _ c0)
  replace c1 := keepc hb7 (keepa _ c1)
  obtain ⟨u0, u1, hz7u, hb7'⟩ := box_keep hb7
  have hw7 := bnext hw6 hb7'
  replace HI3 := hid_ (HI3.out.to hb7')
  have hz7 : w.heap.size + 1 < w7.heap.size := by omega
  have hz70 : w.heap.size < w7.heap.size := by omega
  clear hb7 hb7'
  go_wp2_with fail
  refine (until_any R at_ N A A' A2 n c m d q d2 code rs pts _ (HC.out.to (hw7.alloc (by omega) _)) (HR.out.to (hw7.alloc (by omega) _)) (HP.out.to (hw7.alloc (by omega) _)) hq).mono ?_
  rw [H2.out]
  rintro e w8 ⟨A5, n5, d5, rfl, hi5, _, hb8⟩
  have HI5 := hid_ hi5; clear hi5
  replace p0 := keepc hb8 (keepa _ p0)
  replace p1 := keepc hb8 (keepa _ p1)
  replace c0 := keepc hb8 (keepa _ c0)
  replace c1 := keepc hb8 (keepa _ c1)
  replace u0 := keepc hb8 (keepa _ u0)
  replace u1 := keepc hb8 (keepa _ u1)
  obtain ⟨v0, v1, hz8v, hb8'⟩ := box_keep hb8
  have hw8 := bnext hw7 hb8'
  replace HI3 := hid_ (HI3.out.to hb8')
  replace HI4 := hid_ (HI4.out.to hb8')
  have hz8 : w.heap.size + 1 < w8.heap.size := by omega
  have hz80 : w.heap.size < w8.heap.size := by omega
  have hz86 : w6.heap.size < w8.heap.size := by omega
  clear hb8 hb8'
  go_wp2_with fail
  refine (rfits_any R at_ A A' n c m d code rs _ (HC.out.to ((hw8.alloc (by omega) _).alloc (by simp; omega) _)) (HR.out.to ((hw8.alloc (by omega) _).alloc (by simp; omega) _))).mono ?_
  rw [HF.out]
  rintro e w9 ⟨rfl, hb9⟩
  replace p0 := keepc hb9 (keepa _ (keepa _ p0))
  replace p1 := keepc hb9 (keepa _ (keepa _ p1))
  replace c0 := keepc hb9 (keepa _ (keepa _ c0))
  replace c1 := keepc hb9 (keepa _ (keepa _ c1))
  replace u0 := keepc hb9 (keepa _ (keepa _ u0))
  replace u1 := keepc hb9 (keepa _ (keepa _ u1))
  replace v0 := keepc hb9 (keepa _ (keepa _ v0))
  replace v1 := keepc hb9 (keepa _ (keepa _ v1))
  obtain ⟨y0, y1, z0, z1, hz9v, hb9'⟩ := boxes2 hb9
  have hw9 := bnext hw8 hb9'
  replace HI3 := hid_ (HI3.out.to hb9')
  replace HI4 := hid_ (HI4.out.to hb9')
  replace HI5 := hid_ (HI5.out.to hb9')
  have hz9 : w.heap.size + 1 < w9.heap.size := by omega
  have hz90 : w.heap.size < w9.heap.size := by omega
  clear hb9 hb9'
  go_wp2_with fail
  refine (lstep_main c d d3 HF.out (HC.out.to hw9) (HR.out.to hw9) HI3.out (by rw [← HI3.out.len]; exact hm3) HS.out).mono ?_
  rintro e w10 ⟨rfl, hb10⟩
  replace p0 := keepc hb10 p0
  replace p1 := keepc hb10 p1
  replace c0 := keepc hb10 c0
  replace c1 := keepc hb10 c1
  replace v0 := keepc hb10 v0
  replace v1 := keepc hb10 v1
  replace y0 := keepc hb10 y0
  replace y1 := keepc hb10 y1
  have hw10 := bnext hw9 hb10
  replace HI4 := hid_ (HI4.out.to hb10)
  replace HI5 := hid_ (HI5.out.to hb10)
  clear hb10
  go_wp2_with fail
  refine (lrun_main c d d4 HF.out (HC.out.to hw10) (HR.out.to hw10) HI4.out (by rw [← HI4.out.len]; exact hm4) H1.out).mono ?_
  rintro e w11 ⟨rfl, hb11⟩
  replace p0 := keepc hb11 p0
  replace p1 := keepc hb11 p1
  replace c0 := keepc hb11 c0
  replace c1 := keepc hb11 c1
  replace y0 := keepc hb11 y0
  replace y1 := keepc hb11 y1
  have hw11 := bnext hw10 hb11
  replace HI5 := hid_ (HI5.out.to hb11)
  clear hb11
  go_wp2_with fail
  refine (luntil_main c d d2 d5 HF.out (HC.out.to hw11) (HR.out.to hw11) HI5.out (by rw [← HI5.out.len]; exact hm5) (HP.out.to hw11) hq H2.out).mono ?_
  rintro e w12 ⟨rfl, hb12⟩
  have hw12 := bnext hw11 hb12
  clear hb12
  go_wp2_with fail
  refine (awake_any _).mono ?_
  rintro e w13 ⟨rfl, hb13⟩
  go_wp2_with fail
  go_ret
  exact ⟨rfl, bnext hw12 hb13⟩


set_option maxRecDepth 1000000 in
set_option maxHeartbeats 4000000 in
theorem runs_bad_hi (R at_ N : Int) (A A' A2 : Option Addr) (n c m d q d2 : Nat) (code : List Ins) (rs pts : List Int) (w : World) (hc : CodeAt w w.heap.size A n code) (hr : IntsAt w w.heap.size A' m rs) (hp : IntsAt w w.heap.size A2 q pts)
    (hn : n ≤ 4000) (hm : m ≤ 100) (hq : q ≤ 4000) (hs : stepS R code at_ rs = ⟨0, [], 0, 1⟩) (h1 : runS R code at_ rs N = ⟨0, [], 0, 1⟩) (h2 : untilS R code at_ rs pts N = ⟨0, [], 0, 1⟩) (hf : fitsB R code at_ rs = false) (hN1 : 1000000 < N) :
    Calls Try.prog 3 #[.agg #[.int .i64 R, .slice A n c], .agg #[.int .i64 at_, .slice A' m d], .slice A2 q d2, .int .i64 N] w fun e w' => e = .returned (.bool true) ∧ Below w.heap.size w w' := by
  have HC := hid_ hc; clear hc
  have HR := hid_ hr; clear hr
  have HP := hid_ hp; clear hp
  have hwd : decide (4000 < n ∨ 100 < m) = false := decide_eq_false (by omega)
  have hq' : ¬ (4000 : Int) < q := by omega
  have HS := hid_ hs; clear hs
  have H1 := hid_ h1; clear h1
  have H2 := hid_ h2; clear h2
  have HF := hid_ hf; clear hf
  have hN' : 5000 < N := by omega
  have hN2 : ¬ N ≤ 1000000 := by omega
  clear hm hn
  go_enter Try.func3, Try.ntmps3
  go_wp2_with fail
  refine (wide_any R at_ A A' n c m d _).mono ?_
  rw [hwd]
  clear hwd
  rintro e w1 ⟨rfl, hb1⟩
  obtain ⟨p0, p1, c0, c1, hz, hw1⟩ := boxes2 hb1
  clear hb1
  go_wp2_with fail
  go_region_held3 (fun w' => w'.cell? ⟨w.heap.size, 0, none⟩ = some (.int .i64 R) ∧ w'.cell? ⟨w.heap.size, 1, none⟩ = some (.slice A n c) ∧ w'.cell? ⟨w.heap.size + 1, 0, none⟩ = some (.int .i64 at_) ∧ w'.cell? ⟨w.heap.size + 1, 1, none⟩ = some (.slice A' m d)) (first | assumption | exact ⟨p0, p1, c0, c1⟩ | exact keep4 hb2 (by assumption) | exact keep4 hb3 (by assumption) | exact keep4 hb4 (by assumption) | exact keep4 hb5 (by assumption))
    (first
      | (go_at_call 10; refine (valid_any _ _ _ _ code _ (HC.out.to hw1.drew)).mono ?_; rintro e w2 ⟨rfl, hb2⟩)
      | (go_at_call 11; refine (rvalid_any _ _ _ _ code _ (HC.out.to (bnext hw1 hb2.drewl))).mono ?_; rintro e w3 ⟨rfl, hb3⟩)
      | (go_at_call 12; refine (fits_any _ _ _ _ _ _ _ _ code rs _ (HC.out.to (bnext (bnext hw1 hb2.drewl) hb3)) (HR.out.to (bnext (bnext hw1 hb2.drewl) hb3))).mono ?_; rintro e w4 ⟨rfl, hb4⟩)
      | (go_at_call 13; refine (rfits_any _ _ _ _ _ _ _ _ code rs _ (HC.out.to (bnext (bnext (bnext hw1 hb2.drewl) hb3) hb4)) (HR.out.to (bnext (bnext (bnext hw1 hb2.drewl) hb3) hb4))).mono ?_; rintro e w5 ⟨rfl, hb5⟩))
  have hb15 : Below w1.heap.size w1 w5 := bnext (bnext (bnext hb2.drewl hb3) hb4) hb5
  have hw5 := bnext hw1 hb15
  replace p0 := keepc hb15 p0
  replace p1 := keepc hb15 p1
  replace c0 := keepc hb15 c0
  replace c1 := keepc hb15 c1
  have hz5 : w.heap.size + 1 < w5.heap.size := by have := hb15.size; omega
  have hz50 : w.heap.size < w5.heap.size := by omega
  clear hb2 hb3 hb4 hb5 hb15 hz
  go_wp2_with fail
  refine (step_any R at_ A A' n c m d code rs w5 (HC.out.to hw5) (HR.out.to hw5)).mono ?_
  rw [HS.out]
  rintro e w6 ⟨A3, n3, d3, rfl, hi3, _, hb6⟩
  have HI3 := hid_ hi3; clear hi3
  replace p0 := keepc hb6 p0
  replace p1 := keepc hb6 p1
  replace c0 := keepc hb6 c0
  replace c1 := keepc hb6 c1
  have hw6 := bnext hw5 hb6
  have hz6 : w.heap.size + 1 < w6.heap.size := by have := hb6.size; omega
  have hz60 : w.heap.size < w6.heap.size := by omega
  clear hb6
  go_wp2_with fail
  refine (run_any R at_ N A A' n c m d code rs _ (HC.out.to (hw6.alloc (by omega) _)) (HR.out.to (hw6.alloc (by omega) _))).mono ?_
  rw [H1.out]
  rintro e w7 ⟨A4, n4, d4, rfl, hi4, _, hb7⟩
  have HI4 := hid_ hi4; clear hi4
  replace p0 := keepc hb7 (keepa _ p0)
  replace p1 := keepc hb7 (keepa _ p1)
  replace c0 := keepc hb7 (keepa _ c0)
  replace c1 := keepc hb7 (keepa _ c1)
  obtain ⟨u0, u1, hz7u, hb7'⟩ := box_keep hb7
  have hw7 := bnext hw6 hb7'
  replace HI3 := hid_ (HI3.out.to hb7')
  have hz7 : w.heap.size + 1 < w7.heap.size := by omega
  have hz70 : w.heap.size < w7.heap.size := by omega
  clear hb7 hb7'
  go_wp2_with fail
  refine (until_any R at_ N A A' A2 n c m d q d2 code rs pts _ (HC.out.to (hw7.alloc (by omega) _)) (HR.out.to (hw7.alloc (by omega) _)) (HP.out.to (hw7.alloc (by omega) _)) hq).mono ?_
  rw [H2.out]
  rintro e w8 ⟨A5, n5, d5, rfl, hi5, _, hb8⟩
  have HI5 := hid_ hi5; clear hi5
  replace p0 := keepc hb8 (keepa _ p0)
  replace p1 := keepc hb8 (keepa _ p1)
  replace c0 := keepc hb8 (keepa _ c0)
  replace c1 := keepc hb8 (keepa _ c1)
  replace u0 := keepc hb8 (keepa _ u0)
  replace u1 := keepc hb8 (keepa _ u1)
  obtain ⟨v0, v1, hz8v, hb8'⟩ := box_keep hb8
  have hw8 := bnext hw7 hb8'
  replace HI3 := hid_ (HI3.out.to hb8')
  replace HI4 := hid_ (HI4.out.to hb8')
  have hz8 : w.heap.size + 1 < w8.heap.size := by omega
  have hz80 : w.heap.size < w8.heap.size := by omega
  have hz86 : w6.heap.size < w8.heap.size := by omega
  clear hb8 hb8'
  go_wp2_with fail
  refine (rfits_any R at_ A A' n c m d code rs _ (HC.out.to ((hw8.alloc (by omega) _).alloc (by simp; omega) _)) (HR.out.to ((hw8.alloc (by omega) _).alloc (by simp; omega) _))).mono ?_
  rw [HF.out]
  rintro e w9 ⟨rfl, hb9⟩
  replace p0 := keepc hb9 (keepa _ (keepa _ p0))
  replace p1 := keepc hb9 (keepa _ (keepa _ p1))
  replace c0 := keepc hb9 (keepa _ (keepa _ c0))
  replace c1 := keepc hb9 (keepa _ (keepa _ c1))
  replace u0 := keepc hb9 (keepa _ (keepa _ u0))
  replace u1 := keepc hb9 (keepa _ (keepa _ u1))
  replace v0 := keepc hb9 (keepa _ (keepa _ v0))
  replace v1 := keepc hb9 (keepa _ (keepa _ v1))
  obtain ⟨y0, y1, z0, z1, hz9v, hb9'⟩ := boxes2 hb9
  have hw9 := bnext hw8 hb9'
  replace HI3 := hid_ (HI3.out.to hb9')
  replace HI4 := hid_ (HI4.out.to hb9')
  replace HI5 := hid_ (HI5.out.to hb9')
  have hz9 : w.heap.size + 1 < w9.heap.size := by omega
  have hz90 : w.heap.size < w9.heap.size := by omega
  clear hb9 hb9'
  go_wp2_with fail
  refine (same_any 0 0 A3 none n3 0 d3 0 [] [] w9 HI3.out (IntsAt.nil _) (by rw [← HI3.out.len]; simp)).mono ?_
  rw [sameB_self]
  rintro e w10 ⟨rfl, hb10⟩
  replace v0 := keepc hb10 v0
  replace v1 := keepc hb10 v1
  replace y0 := keepc hb10 y0
  replace y1 := keepc hb10 y1
  replace z0 := keepc hb10 z0
  replace z1 := keepc hb10 z1
  have hw10 := bnext hw9 hb10
  replace HI4 := hid_ (HI4.out.to hb10)
  replace HI5 := hid_ (HI5.out.to hb10)
  clear hb10
  go_wp2_with fail
  refine (same_any 0 0 A4 none n4 0 d4 0 [] [] w10 HI4.out (IntsAt.nil _) (by rw [← HI4.out.len]; simp)).mono ?_
  rw [sameB_self]
  rintro e w11 ⟨rfl, hb11⟩
  replace y0 := keepc hb11 y0
  replace y1 := keepc hb11 y1
  replace z0 := keepc hb11 z0
  replace z1 := keepc hb11 z1
  have hw11 := bnext hw10 hb11
  replace HI5 := hid_ (HI5.out.to hb11)
  clear hb11
  go_wp2_with fail
  refine (same_any 0 0 A5 none n5 0 d5 0 [] [] w11 HI5.out (IntsAt.nil _) (by rw [← HI5.out.len]; simp)).mono ?_
  rw [sameB_self]
  rintro e w12 ⟨rfl, hb12⟩
  have hw12 := bnext hw11 hb12
  clear hb12
  go_wp2_with fail
  refine (awake_any _).mono ?_
  rintro e w13 ⟨rfl, hb13⟩
  go_wp2_with fail
  go_ret
  exact ⟨rfl, bnext hw12 hb13⟩


set_option maxRecDepth 1000000 in
set_option maxHeartbeats 4000000 in
theorem runs_ok_hi (R at_ N : Int) (A A' A2 : Option Addr) (n c m d q d2 : Nat) (code : List Ins) (rs pts : List Int) (w : World) (hc : CodeAt w w.heap.size A n code) (hr : IntsAt w w.heap.size A' m rs) (hp : IntsAt w w.heap.size A2 q pts)
    (hn : n ≤ 4000) (hm : m ≤ 100) (hq : q ≤ 4000) (a3 a4 a5 k3 k4 k5 e3 e4 e5 : Int) (l3 l4 l5 : List Int) (hs : stepS R code at_ rs = ⟨a3, l3, k3, e3⟩) (h1 : runS R code at_ rs N = ⟨a4, l4, k4, e4⟩) (h2 : untilS R code at_ rs pts N = ⟨a5, l5, k5, e5⟩) (hf : fitsB R code at_ rs = true) (hm3 : l3.length ≤ 4000) (hm4 : l4.length ≤ 4000) (hm5 : l5.length ≤ 4000) (hN1 : 1000000 < N) :
    Calls Try.prog 3 #[.agg #[.int .i64 R, .slice A n c], .agg #[.int .i64 at_, .slice A' m d], .slice A2 q d2, .int .i64 N] w fun e w' => e = .returned (.bool true) ∧ Below w.heap.size w w' := by
  have HC := hid_ hc; clear hc
  have HR := hid_ hr; clear hr
  have HP := hid_ hp; clear hp
  have hwd : decide (4000 < n ∨ 100 < m) = false := decide_eq_false (by omega)
  have hq' : ¬ (4000 : Int) < q := by omega
  have HS := hid_ hs; clear hs
  have H1 := hid_ h1; clear h1
  have H2 := hid_ h2; clear h2
  have HF := hid_ hf; clear hf
  have hN' : 5000 < N := by omega
  have hN2 : ¬ N ≤ 1000000 := by omega
  clear hm hn
  go_enter Try.func3, Try.ntmps3
  go_wp2_with fail
  refine (wide_any R at_ A A' n c m d _).mono ?_
  rw [hwd]
  clear hwd
  rintro e w1 ⟨rfl, hb1⟩
  obtain ⟨p0, p1, c0, c1, hz, hw1⟩ := boxes2 hb1
  clear hb1
  go_wp2_with fail
  go_region_held3 (fun w' => w'.cell? ⟨w.heap.size, 0, none⟩ = some (.int .i64 R) ∧ w'.cell? ⟨w.heap.size, 1, none⟩ = some (.slice A n c) ∧ w'.cell? ⟨w.heap.size + 1, 0, none⟩ = some (.int .i64 at_) ∧ w'.cell? ⟨w.heap.size + 1, 1, none⟩ = some (.slice A' m d)) (first | assumption | exact ⟨p0, p1, c0, c1⟩ | exact keep4 hb2 (by assumption) | exact keep4 hb3 (by assumption) | exact keep4 hb4 (by assumption) | exact keep4 hb5 (by assumption))
    (first
      | (go_at_call 10; refine (valid_any _ _ _ _ code _ (HC.out.to hw1.drew)).mono ?_; rintro e w2 ⟨rfl, hb2⟩)
      | (go_at_call 11; refine (rvalid_any _ _ _ _ code _ (HC.out.to (bnext hw1 hb2.drewl))).mono ?_; rintro e w3 ⟨rfl, hb3⟩)
      | (go_at_call 12; refine (fits_any _ _ _ _ _ _ _ _ code rs _ (HC.out.to (bnext (bnext hw1 hb2.drewl) hb3)) (HR.out.to (bnext (bnext hw1 hb2.drewl) hb3))).mono ?_; rintro e w4 ⟨rfl, hb4⟩)
      | (go_at_call 13; refine (rfits_any _ _ _ _ _ _ _ _ code rs _ (HC.out.to (bnext (bnext (bnext hw1 hb2.drewl) hb3) hb4)) (HR.out.to (bnext (bnext (bnext hw1 hb2.drewl) hb3) hb4))).mono ?_; rintro e w5 ⟨rfl, hb5⟩))
  have hb15 : Below w1.heap.size w1 w5 := bnext (bnext (bnext hb2.drewl hb3) hb4) hb5
  have hw5 := bnext hw1 hb15
  replace p0 := keepc hb15 p0
  replace p1 := keepc hb15 p1
  replace c0 := keepc hb15 c0
  replace c1 := keepc hb15 c1
  have hz5 : w.heap.size + 1 < w5.heap.size := by have := hb15.size; omega
  have hz50 : w.heap.size < w5.heap.size := by omega
  clear hb2 hb3 hb4 hb5 hb15 hz
  go_wp2_with fail
  refine (step_any R at_ A A' n c m d code rs w5 (HC.out.to hw5) (HR.out.to hw5)).mono ?_
  rw [HS.out]
  rintro e w6 ⟨A3, n3, d3, rfl, hi3, _, hb6⟩
  have HI3 := hid_ hi3; clear hi3
  replace p0 := keepc hb6 p0
  replace p1 := keepc hb6 p1
  replace c0 := keepc hb6 c0
  replace c1 := keepc hb6 c1
  have hw6 := bnext hw5 hb6
  have hz6 : w.heap.size + 1 < w6.heap.size := by have := hb6.size; omega
  have hz60 : w.heap.size < w6.heap.size := by omega
  clear hb6
  go_wp2_with fail
  refine (run_any R at_ N A A' n c m d code rs _ (HC.out.to (hw6.alloc (by omega) _)) (HR.out.to (hw6.alloc (by omega) _))).mono ?_
  rw [H1.out]
  rintro e w7 ⟨A4, n4, d4, rfl, hi4, _, hb7⟩
  have HI4 := hid_ hi4; clear hi4
  replace p0 := keepc hb7 (keepa _ p0)
  replace p1 := keepc hb7 (keepa _ p1)
  replace c0 := keepc hb7 (keepa _ c0)
  replace c1 := keepc hb7 (keepa _ c1)
  obtain ⟨u0, u1, hz7u, hb7'⟩ := box_keep hb7
  have hw7 := bnext hw6 hb7'
  replace HI3 := hid_ (HI3.out.to hb7')
  have hz7 : w.heap.size + 1 < w7.heap.size := by omega
  have hz70 : w.heap.size < w7.heap.size := by omega
  clear hb7 hb7'
  go_wp2_with fail
  refine (until_any R at_ N A A' A2 n c m d q d2 code rs pts _ (HC.out.to (hw7.alloc (by omega) _)) (HR.out.to (hw7.alloc (by omega) _)) (HP.out.to (hw7.alloc (by omega) _)) hq).mono ?_
  rw [H2.out]
  rintro e w8 ⟨A5, n5, d5, rfl, hi5, _, hb8⟩
  have HI5 := hid_ hi5; clear hi5
  replace p0 := keepc hb8 (keepa _ p0)
  replace p1 := keepc hb8 (keepa _ p1)
  replace c0 := keepc hb8 (keepa _ c0)
  replace c1 := keepc hb8 (keepa _ c1)
  replace u0 := keepc hb8 (keepa _ u0)
  replace u1 := keepc hb8 (keepa _ u1)
  obtain ⟨v0, v1, hz8v, hb8'⟩ := box_keep hb8
  have hw8 := bnext hw7 hb8'
  replace HI3 := hid_ (HI3.out.to hb8')
  replace HI4 := hid_ (HI4.out.to hb8')
  have hz8 : w.heap.size + 1 < w8.heap.size := by omega
  have hz80 : w.heap.size < w8.heap.size := by omega
  have hz86 : w6.heap.size < w8.heap.size := by omega
  clear hb8 hb8'
  go_wp2_with fail
  refine (rfits_any R at_ A A' n c m d code rs _ (HC.out.to ((hw8.alloc (by omega) _).alloc (by simp; omega) _)) (HR.out.to ((hw8.alloc (by omega) _).alloc (by simp; omega) _))).mono ?_
  rw [HF.out]
  rintro e w9 ⟨rfl, hb9⟩
  replace p0 := keepc hb9 (keepa _ (keepa _ p0))
  replace p1 := keepc hb9 (keepa _ (keepa _ p1))
  replace c0 := keepc hb9 (keepa _ (keepa _ c0))
  replace c1 := keepc hb9 (keepa _ (keepa _ c1))
  replace u0 := keepc hb9 (keepa _ (keepa _ u0))
  replace u1 := keepc hb9 (keepa _ (keepa _ u1))
  replace v0 := keepc hb9 (keepa _ (keepa _ v0))
  replace v1 := keepc hb9 (keepa _ (keepa _ v1))
  obtain ⟨y0, y1, z0, z1, hz9v, hb9'⟩ := boxes2 hb9
  have hw9 := bnext hw8 hb9'
  replace HI3 := hid_ (HI3.out.to hb9')
  replace HI4 := hid_ (HI4.out.to hb9')
  replace HI5 := hid_ (HI5.out.to hb9')
  have hz9 : w.heap.size + 1 < w9.heap.size := by omega
  have hz90 : w.heap.size < w9.heap.size := by omega
  clear hb9 hb9'
  go_wp2_with fail
  refine (lstep_main c d d3 HF.out (HC.out.to hw9) (HR.out.to hw9) HI3.out (by rw [← HI3.out.len]; exact hm3) HS.out).mono ?_
  rintro e w10 ⟨rfl, hb10⟩
  replace p0 := keepc hb10 p0
  replace p1 := keepc hb10 p1
  replace c0 := keepc hb10 c0
  replace c1 := keepc hb10 c1
  replace v0 := keepc hb10 v0
  replace v1 := keepc hb10 v1
  replace y0 := keepc hb10 y0
  replace y1 := keepc hb10 y1
  have hw10 := bnext hw9 hb10
  replace HI4 := hid_ (HI4.out.to hb10)
  replace HI5 := hid_ (HI5.out.to hb10)
  clear hb10
  go_wp2_with fail
  refine (lrun_main c d d4 HF.out (HC.out.to hw10) (HR.out.to hw10) HI4.out (by rw [← HI4.out.len]; exact hm4) H1.out).mono ?_
  rintro e w11 ⟨rfl, hb11⟩
  replace p0 := keepc hb11 p0
  replace p1 := keepc hb11 p1
  replace c0 := keepc hb11 c0
  replace c1 := keepc hb11 c1
  replace y0 := keepc hb11 y0
  replace y1 := keepc hb11 y1
  have hw11 := bnext hw10 hb11
  replace HI5 := hid_ (HI5.out.to hb11)
  clear hb11
  go_wp2_with fail
  refine (luntil_main c d d2 d5 HF.out (HC.out.to hw11) (HR.out.to hw11) HI5.out (by rw [← HI5.out.len]; exact hm5) (HP.out.to hw11) hq H2.out).mono ?_
  rintro e w12 ⟨rfl, hb12⟩
  have hw12 := bnext hw11 hb12
  clear hb12
  go_wp2_with fail
  refine (awake_any _).mono ?_
  rintro e w13 ⟨rfl, hb13⟩
  go_wp2_with fail
  go_ret
  exact ⟨rfl, bnext hw12 hb13⟩


end Go.Proofs.Ytgpcgjdnehlaeaa

/- The law CounterParts, walked. -/
import Derived.Test.YtgpcgjdnehlaeaaM
import Derived.Test.YtgpcgjdnehlaeaaI
namespace Go.Proofs.Ytgpcgjdnehlaeaa
open Go.RowKit

theorem box_keep {w w' : World} {t : TypeId} {a b : Value} (hb : Below (w.alloc (.cells #[a, b] t)).heap.size (w.alloc (.cells #[a, b] t)) w') : w'.cell? ⟨w.heap.size, 0, none⟩ = some a ∧ w'.cell? ⟨w.heap.size, 1, none⟩ = some b ∧ w.heap.size < w'.heap.size ∧ Below w.heap.size w w' := boxes1 hb
theorem IntsAt.res2 {w : World} {A : Option Addr} {n q : Nat} {xs : List Int} (h : IntsAt w w.heap.size A n xs) (hf : Fresh (q + 1) A) (u v : Value) :
    IntsAt ((w.setCell ⟨q, 0, none⟩ u).setCell ⟨q, 1, none⟩ v) ((w.setCell ⟨q, 0, none⟩ u).setCell ⟨q, 1, none⟩ v).heap.size A n xs :=
  h.same (by simp [World.setCell]) fun a ha hlt => by
    have := hf a ha
    exact (Below.heap_setCell _ _ _ _ (by simp; omega)).trans (Below.heap_setCell _ _ _ _ (by simp; omega))

set_option maxRecDepth 1000000 in
set_option maxHeartbeats 4000000 in
theorem parts_one (R at_ x y : Int) (A A' A2 : Option Addr) (n c m d q d2 : Nat) (code : List Ins) (rs pts : List Int) (w : World) (hc : CodeAt w w.heap.size A n code) (hr : IntsAt w w.heap.size A' m rs) (hp : IntsAt w w.heap.size A2 q pts)
    (hn : n ≤ 4000) (hm : m ≤ 100) (hq : q ≤ 4000) (hx : 0 ≤ x) (hy : 0 ≤ y) (hxy : x + y ≤ 2000)
    (a0 a1 k0 k1 e1 : Int) (l0 l1 : List Int) (h0 : runS R code at_ rs (x + y) = ⟨a0, l0, k0, e1⟩) (h1 : runS R code at_ rs x = ⟨a1, l1, k1, e1⟩) (he : e1 ≠ 0) :
    Calls Try.prog 5 #[.agg #[.int .i64 R, .slice A n c], .agg #[.int .i64 at_, .slice A' m d], .slice A2 q d2, .int .u16 x, .int .u16 y] w fun e w' => e = .returned (.bool true) ∧ Below w.heap.size w w' := by
  have hwd : decide (4000 < n ∨ 100 < m) = false := by simp; omega
  have HC := hid_ hc; clear hc
  have HR := hid_ hr; clear hr
  have HP := hid_ hp; clear hp
  have hx2 : x ≤ 2000 := by omega
  have hy2 : y ≤ 2000 := by omega
  have H0 := hid_ h0; clear h0
  have H1 := hid_ h1; clear h1
  have hne : (e1 != 0) = true := by simpa using he
  clear he
  go_enter Try.func5, Try.ntmps5
  go_wp2_with fail
  refine (wide_any R at_ A A' n c m d _).mono ?_
  rw [hwd]
  clear hwd
  rintro e w1 ⟨rfl, hb1⟩
  obtain ⟨p0, p1, c0, c1, hz, hw1⟩ := boxes2 hb1
  clear hb1
  go_wp2_with fail
  refine (run_any R at_ (x + y) A A' n c m d code rs w1 (HC.out.to hw1) (HR.out.to hw1)).mono ?_
  rw [H0.out]
  rintro e w2 ⟨A3, n3, d3, rfl, hi3, _, hb2⟩
  have HI3 := hid_ hi3; clear hi3
  replace p0 := keepc hb2 p0
  replace p1 := keepc hb2 p1
  replace c0 := keepc hb2 c0
  replace c1 := keepc hb2 c1
  have hw2 := bnext hw1 hb2
  have hz2 : w.heap.size + 1 < w2.heap.size := by have := hb2.size; omega
  have hz20 : w.heap.size < w2.heap.size := by omega
  clear hb2
  go_wp2_with fail
  refine (run_any R at_ x A A' n c m d code rs _ (HC.out.to (hw2.alloc (by omega) _)) (HR.out.to (hw2.alloc (by omega) _))).mono ?_
  rw [H1.out]
  rintro e w3 ⟨A4, n4, d4, rfl, hi4, _, hb3⟩
  have HI4 := hid_ hi4; clear hi4
  replace p0 := keepc hb3 (keepa _ p0)
  replace p1 := keepc hb3 (keepa _ p1)
  replace c0 := keepc hb3 (keepa _ c0)
  replace c1 := keepc hb3 (keepa _ c1)
  obtain ⟨u0, u1, hz3, hb3'⟩ := box_keep hb3
  have hw3 := bnext hw2 hb3'
  replace HI3 := hid_ (HI3.out.to hb3')
  have hz3w : w.heap.size + 1 < w3.heap.size := by omega
  have hz30 : w.heap.size < w3.heap.size := by omega
  clear hb3
  go_wp2_with fail
  refine (awake_any _).mono ?_
  rintro e w4 ⟨rfl, hb4⟩
  go_wp2_with fail
  go_ret
  exact ⟨rfl, bnext (hw3.alloc (by omega) _) hb4⟩

set_option maxRecDepth 1000000 in
set_option maxHeartbeats 4000000 in
theorem parts_two_ok (R at_ x y : Int) (A A' A2 : Option Addr) (n c m d q d2 : Nat) (code : List Ins) (rs pts : List Int) (w : World) (hc : CodeAt w w.heap.size A n code) (hr : IntsAt w w.heap.size A' m rs) (hp : IntsAt w w.heap.size A2 q pts)
    (hn : n ≤ 4000) (hm : m ≤ 100) (hq : q ≤ 4000) (hx : 0 ≤ x) (hy : 0 ≤ y) (hxy : x + y ≤ 2000)
    (a0 a1 a2 k0 k1 k2 e0 : Int) (l0 l1 l2 : List Int) (h0 : runS R code at_ rs (x + y) = ⟨a0, l0, k0, e0⟩) (h1 : runS R code at_ rs x = ⟨a1, l1, k1, 0⟩) (h2 : runS R code a1 l1 y = ⟨a2, l2, k2, e0⟩) (hs : sameB a0 l0 a2 l2 = true) (hl : l0.length ≤ 16) (hk1 : 0 ≤ k1 ∧ k1 ≤ 2000) (hk2 : 0 ≤ k2 ∧ k2 ≤ 2000) (he : e0 = 0) (hk : k0 = k1 + k2) (au ku eu : Int) (lu : List Int) (hu : untilS R code at_ rs pts x = ⟨au, lu, ku, eu⟩) (heu : eu = 6 ∨ eu = 2) :
    Calls Try.prog 5 #[.agg #[.int .i64 R, .slice A n c], .agg #[.int .i64 at_, .slice A' m d], .slice A2 q d2, .int .u16 x, .int .u16 y] w fun e w' => e = .returned (.bool true) ∧ Below w.heap.size w w' := by
  rcases heu with rfl | rfl
  all_goals
    have hwd : decide (4000 < n ∨ 100 < m) = false := by simp; omega
    have HC := hid_ hc; clear hc
    have HR := hid_ hr; clear hr
    have HP := hid_ hp; clear hp
    have hx2 : x ≤ 2000 := by omega
    have hy2 : y ≤ 2000 := by omega
    subst he
    subst hk
    obtain ⟨hk1, hk1'⟩ := hk1
    obtain ⟨hk2, hk2'⟩ := hk2
    have H0 := hid_ h0; clear h0
    have H1 := hid_ h1; clear h1
    have H2 := hid_ h2; clear h2
    have HS := hid_ hs; clear hs
    have HU := hid_ hu; clear hu
    go_enter Try.func5, Try.ntmps5
    go_wp2_with fail
    refine (wide_any R at_ A A' n c m d _).mono ?_
    rw [hwd]
    clear hwd
    rintro e w1 ⟨rfl, hb1⟩
    obtain ⟨p0, p1, c0, c1, hz, hw1⟩ := boxes2 hb1
    clear hb1
    go_wp2_with fail
    refine (run_any R at_ (x + y) A A' n c m d code rs w1 (HC.out.to hw1) (HR.out.to hw1)).mono ?_
    rw [H0.out]
    rintro e w2 ⟨A3, n3, d3, rfl, hi3, _, hb2⟩
    have HI3 := hid_ hi3; clear hi3
    replace p0 := keepc hb2 p0
    replace p1 := keepc hb2 p1
    replace c0 := keepc hb2 c0
    replace c1 := keepc hb2 c1
    have hw2 := bnext hw1 hb2
    have hz2 : w.heap.size + 1 < w2.heap.size := by have := hb2.size; omega
    have hz20 : w.heap.size < w2.heap.size := by omega
    clear hb2
    go_wp2_with fail
    refine (run_any R at_ x A A' n c m d code rs _ (HC.out.to (hw2.alloc (by omega) _)) (HR.out.to (hw2.alloc (by omega) _))).mono ?_
    rw [H1.out]
    rintro e w3 ⟨A4, n4, d4, rfl, hi4, _, hb3⟩
    have HI4 := hid_ hi4; clear hi4
    replace p0 := keepc hb3 (keepa _ p0)
    replace p1 := keepc hb3 (keepa _ p1)
    replace c0 := keepc hb3 (keepa _ c0)
    replace c1 := keepc hb3 (keepa _ c1)
    obtain ⟨u0, u1, hz3, hb3'⟩ := box_keep hb3
    have hw3 := bnext hw2 hb3'
    replace HI3 := hid_ (HI3.out.to hb3')
    have hz3w : w.heap.size + 1 < w3.heap.size := by omega
    have hz30 : w.heap.size < w3.heap.size := by omega
    clear hb3
    go_wp2_with fail
    refine (run_any R a1 y A A4 n c n4 d4 code l1 _ (HC.out.to (hw3.alloc (by omega) _)) (HI4.out.to ((Below.refl _ w3).alloc (Nat.le_refl _) _))).mono ?_
    rw [H2.out]
    rintro e w4 ⟨A5, n5, d5, rfl, hi5, _, hb4⟩
    have HI5 := hid_ hi5; clear hi5
    replace p0 := keepc hb4 (keepa _ p0)
    replace p1 := keepc hb4 (keepa _ p1)
    replace c0 := keepc hb4 (keepa _ c0)
    replace c1 := keepc hb4 (keepa _ c1)
    replace u0 := keepc hb4 (keepa _ u0)
    replace u1 := keepc hb4 (keepa _ u1)
    obtain ⟨v0, v1, hz4, hb4'⟩ := box_keep hb4
    have hw4 := bnext hw3 hb4'
    replace HI3 := hid_ (HI3.out.to hb4')
    have hz4w : w.heap.size + 1 < w4.heap.size := by omega
    have hz40 : w.heap.size < w4.heap.size := by omega
    have hz42 : w2.heap.size < w4.heap.size := by omega
    clear hb4
    go_wp2_with fail
    refine (same_any a0 a2 A3 A5 n3 n5 d3 d5 l0 l2 _ (HI3.out.to ((Below.refl _ w4).alloc (Nat.le_refl _) _)) (HI5.out.to ((Below.refl _ w4).alloc (Nat.le_refl _) _)) (by rw [← HI3.out.len]; omega)).mono ?_
    rw [HS.out]
    rintro e w5 ⟨rfl, hb5⟩
    replace p0 := keepc hb5 (keepa _ p0)
    replace p1 := keepc hb5 (keepa _ p1)
    replace c0 := keepc hb5 (keepa _ c0)
    replace c1 := keepc hb5 (keepa _ c1)
    obtain ⟨_, _, hz5, hb5'⟩ := box_keep hb5
    have hw5 := bnext hw4 hb5'
    have hz5w : w.heap.size + 1 < w5.heap.size := by omega
    have hz50 : w.heap.size < w5.heap.size := by omega
    clear hb5 u0 u1 v0 v1
    go_wp2_with fail
    refine (until_any R at_ x A A' A2 n c m d q d2 code rs pts _ (HC.out.to hw5) (HR.out.to hw5) (HP.out.to hw5) hq).mono ?_
    rw [HU.out]
    rintro e w6 ⟨A6, n6, d6, rfl, hi6, _, hb6⟩
    have HI6 := hid_ hi6; clear hi6
    replace p0 := keepc hb6 p0
    replace p1 := keepc hb6 p1
    replace c0 := keepc hb6 c0
    replace c1 := keepc hb6 c1
    have hw6 := bnext hw5 hb6
    have hz6w : w.heap.size + 1 < w6.heap.size := by have := hb6.size; omega
    have hz60 : w.heap.size < w6.heap.size := by omega
    clear hb6
    go_wp2_with fail
    refine (awake_any _).mono ?_
    rintro e w7 ⟨rfl, hb7⟩
    go_wp2_with fail
    go_ret
    exact ⟨rfl, bnext (hw6.alloc (by omega) _) hb7⟩

set_option maxRecDepth 1000000 in
set_option maxHeartbeats 4000000 in
theorem parts_two_no (R at_ x y : Int) (A A' A2 : Option Addr) (n c m d q d2 : Nat) (code : List Ins) (rs pts : List Int) (w : World) (hc : CodeAt w w.heap.size A n code) (hr : IntsAt w w.heap.size A' m rs) (hp : IntsAt w w.heap.size A2 q pts)
    (hn : n ≤ 4000) (hm : m ≤ 100) (hq : q ≤ 4000) (hx : 0 ≤ x) (hy : 0 ≤ y) (hxy : x + y ≤ 2000)
    (a0 a1 a2 k0 k1 k2 e0 : Int) (l0 l1 l2 : List Int) (h0 : runS R code at_ rs (x + y) = ⟨a0, l0, k0, e0⟩) (h1 : runS R code at_ rs x = ⟨a1, l1, k1, 0⟩) (h2 : runS R code a1 l1 y = ⟨a2, l2, k2, e0⟩) (hs : sameB a0 l0 a2 l2 = true) (hl : l0.length ≤ 16) (he : e0 ≠ 0) (au ku eu : Int) (lu : List Int) (hu : untilS R code at_ rs pts x = ⟨au, lu, ku, eu⟩) (heu : eu = 6 ∨ eu = 2) :
    Calls Try.prog 5 #[.agg #[.int .i64 R, .slice A n c], .agg #[.int .i64 at_, .slice A' m d], .slice A2 q d2, .int .u16 x, .int .u16 y] w fun e w' => e = .returned (.bool true) ∧ Below w.heap.size w w' := by
  rcases heu with rfl | rfl
  all_goals
    have hwd : decide (4000 < n ∨ 100 < m) = false := by simp; omega
    have HC := hid_ hc; clear hc
    have HR := hid_ hr; clear hr
    have HP := hid_ hp; clear hp
    have hx2 : x ≤ 2000 := by omega
    have hy2 : y ≤ 2000 := by omega
    have hne : (e0 == 0) = false := by simpa using he
    have hee : (e0 != e0) = false := by simp
    clear he
    have H0 := hid_ h0; clear h0
    have H1 := hid_ h1; clear h1
    have H2 := hid_ h2; clear h2
    have HS := hid_ hs; clear hs
    have HU := hid_ hu; clear hu
    go_enter Try.func5, Try.ntmps5
    go_wp2_with fail
    refine (wide_any R at_ A A' n c m d _).mono ?_
    rw [hwd]
    clear hwd
    rintro e w1 ⟨rfl, hb1⟩
    obtain ⟨p0, p1, c0, c1, hz, hw1⟩ := boxes2 hb1
    clear hb1
    go_wp2_with fail
    refine (run_any R at_ (x + y) A A' n c m d code rs w1 (HC.out.to hw1) (HR.out.to hw1)).mono ?_
    rw [H0.out]
    rintro e w2 ⟨A3, n3, d3, rfl, hi3, _, hb2⟩
    have HI3 := hid_ hi3; clear hi3
    replace p0 := keepc hb2 p0
    replace p1 := keepc hb2 p1
    replace c0 := keepc hb2 c0
    replace c1 := keepc hb2 c1
    have hw2 := bnext hw1 hb2
    have hz2 : w.heap.size + 1 < w2.heap.size := by have := hb2.size; omega
    have hz20 : w.heap.size < w2.heap.size := by omega
    clear hb2
    go_wp2_with fail
    refine (run_any R at_ x A A' n c m d code rs _ (HC.out.to (hw2.alloc (by omega) _)) (HR.out.to (hw2.alloc (by omega) _))).mono ?_
    rw [H1.out]
    rintro e w3 ⟨A4, n4, d4, rfl, hi4, _, hb3⟩
    have HI4 := hid_ hi4; clear hi4
    replace p0 := keepc hb3 (keepa _ p0)
    replace p1 := keepc hb3 (keepa _ p1)
    replace c0 := keepc hb3 (keepa _ c0)
    replace c1 := keepc hb3 (keepa _ c1)
    obtain ⟨u0, u1, hz3, hb3'⟩ := box_keep hb3
    have hw3 := bnext hw2 hb3'
    replace HI3 := hid_ (HI3.out.to hb3')
    have hz3w : w.heap.size + 1 < w3.heap.size := by omega
    have hz30 : w.heap.size < w3.heap.size := by omega
    clear hb3
    go_wp2_with fail
    refine (run_any R a1 y A A4 n c n4 d4 code l1 _ (HC.out.to (hw3.alloc (by omega) _)) (HI4.out.to ((Below.refl _ w3).alloc (Nat.le_refl _) _))).mono ?_
    rw [H2.out]
    rintro e w4 ⟨A5, n5, d5, rfl, hi5, _, hb4⟩
    have HI5 := hid_ hi5; clear hi5
    replace p0 := keepc hb4 (keepa _ p0)
    replace p1 := keepc hb4 (keepa _ p1)
    replace c0 := keepc hb4 (keepa _ c0)
    replace c1 := keepc hb4 (keepa _ c1)
    replace u0 := keepc hb4 (keepa _ u0)
    replace u1 := keepc hb4 (keepa _ u1)
    obtain ⟨v0, v1, hz4, hb4'⟩ := box_keep hb4
    have hw4 := bnext hw3 hb4'
    replace HI3 := hid_ (HI3.out.to hb4')
    have hz4w : w.heap.size + 1 < w4.heap.size := by omega
    have hz40 : w.heap.size < w4.heap.size := by omega
    have hz42 : w2.heap.size < w4.heap.size := by omega
    clear hb4
    go_wp2_with fail
    refine (same_any a0 a2 A3 A5 n3 n5 d3 d5 l0 l2 _ (HI3.out.to ((Below.refl _ w4).alloc (Nat.le_refl _) _)) (HI5.out.to ((Below.refl _ w4).alloc (Nat.le_refl _) _)) (by rw [← HI3.out.len]; omega)).mono ?_
    rw [HS.out]
    rintro e w5 ⟨rfl, hb5⟩
    replace p0 := keepc hb5 (keepa _ p0)
    replace p1 := keepc hb5 (keepa _ p1)
    replace c0 := keepc hb5 (keepa _ c0)
    replace c1 := keepc hb5 (keepa _ c1)
    obtain ⟨_, _, hz5, hb5'⟩ := box_keep hb5
    have hw5 := bnext hw4 hb5'
    have hz5w : w.heap.size + 1 < w5.heap.size := by omega
    have hz50 : w.heap.size < w5.heap.size := by omega
    clear hb5 u0 u1 v0 v1
    go_wp2_with fail
    refine (until_any R at_ x A A' A2 n c m d q d2 code rs pts _ (HC.out.to hw5) (HR.out.to hw5) (HP.out.to hw5) hq).mono ?_
    rw [HU.out]
    rintro e w6 ⟨A6, n6, d6, rfl, hi6, _, hb6⟩
    have HI6 := hid_ hi6; clear hi6
    replace p0 := keepc hb6 p0
    replace p1 := keepc hb6 p1
    replace c0 := keepc hb6 c0
    replace c1 := keepc hb6 c1
    have hw6 := bnext hw5 hb6
    have hz6w : w.heap.size + 1 < w6.heap.size := by have := hb6.size; omega
    have hz60 : w.heap.size < w6.heap.size := by omega
    clear hb6
    go_wp2_with fail
    refine (awake_any _).mono ?_
    rintro e w7 ⟨rfl, hb7⟩
    go_wp2_with fail
    go_ret
    exact ⟨rfl, bnext (hw6.alloc (by omega) _) hb7⟩

set_option maxRecDepth 1000000 in
set_option maxHeartbeats 4000000 in
theorem parts_three_ok (R at_ x y : Int) (A A' A2 : Option Addr) (n c m d q d2 : Nat) (code : List Ins) (rs pts : List Int) (w : World) (hc : CodeAt w w.heap.size A n code) (hr : IntsAt w w.heap.size A' m rs) (hp : IntsAt w w.heap.size A2 q pts)
    (hn : n ≤ 4000) (hm : m ≤ 100) (hq : q ≤ 4000) (hx : 0 ≤ x) (hy : 0 ≤ y) (hxy : x + y ≤ 2000)
    (a0 a1 a2 k0 k1 k2 e0 : Int) (l0 l1 l2 : List Int) (h0 : runS R code at_ rs (x + y) = ⟨a0, l0, k0, e0⟩) (h1 : runS R code at_ rs x = ⟨a1, l1, k1, 0⟩) (h2 : runS R code a1 l1 y = ⟨a2, l2, k2, e0⟩) (hs : sameB a0 l0 a2 l2 = true) (hl : l0.length ≤ 16) (hk1 : 0 ≤ k1 ∧ k1 ≤ 2000) (hk2 : 0 ≤ k2 ∧ k2 ≤ 2000) (he : e0 = 0) (hk : k0 = k1 + k2) (au : Int) (t : Nat) (lu : List Int) (f : Nat → Int × List Int) (hu : untilS R code at_ rs pts x = ⟨au, lu, t, 0⟩) (ht1 : 1 ≤ t) (htx : (t : Int) ≤ x) (ht : runS R code at_ rs t = ⟨au, lu, t, 0⟩) (hlu : lu.length ≤ 16) (hmu : memB au pts = true) (hch : Chain R code at_ rs pts t f) :
    Calls Try.prog 5 #[.agg #[.int .i64 R, .slice A n c], .agg #[.int .i64 at_, .slice A' m d], .slice A2 q d2, .int .u16 x, .int .u16 y] w fun e w' => e = .returned (.bool true) ∧ Below w.heap.size w w' := by
  have hwd : decide (4000 < n ∨ 100 < m) = false := by simp; omega
  have HC := hid_ hc; clear hc
  have HR := hid_ hr; clear hr
  have HP := hid_ hp; clear hp
  have hx2 : x ≤ 2000 := by omega
  have hy2 : y ≤ 2000 := by omega
  subst he
  subst hk
  obtain ⟨hk1, hk1'⟩ := hk1
  obtain ⟨hk2, hk2'⟩ := hk2
  have H0 := hid_ h0; clear h0
  have H1 := hid_ h1; clear h1
  have H2 := hid_ h2; clear h2
  have HS := hid_ hs; clear hs
  have HU := hid_ hu; clear hu
  have HT := hid_ ht; clear ht
  have HMU := hid_ hmu; clear hmu
  have HCH := hid_ hch; clear hch
  have HSU : Hid (sameB au lu au lu = true) := by simp [Hid, sameB]
  have ht1' : (1 : Int) ≤ t := by omega
  have htt : ((t : Int) != t) = false := by simp
  go_enter Try.func5, Try.ntmps5
  go_wp2_with fail
  refine (wide_any R at_ A A' n c m d _).mono ?_
  rw [hwd]
  clear hwd
  rintro e w1 ⟨rfl, hb1⟩
  obtain ⟨p0, p1, c0, c1, hz, hw1⟩ := boxes2 hb1
  clear hb1
  go_wp2_with fail
  refine (run_any R at_ (x + y) A A' n c m d code rs w1 (HC.out.to hw1) (HR.out.to hw1)).mono ?_
  rw [H0.out]
  rintro e w2 ⟨A3, n3, d3, rfl, hi3, _, hb2⟩
  have HI3 := hid_ hi3; clear hi3
  replace p0 := keepc hb2 p0
  replace p1 := keepc hb2 p1
  replace c0 := keepc hb2 c0
  replace c1 := keepc hb2 c1
  have hw2 := bnext hw1 hb2
  have hz2 : w.heap.size + 1 < w2.heap.size := by have := hb2.size; omega
  have hz20 : w.heap.size < w2.heap.size := by omega
  clear hb2
  go_wp2_with fail
  refine (run_any R at_ x A A' n c m d code rs _ (HC.out.to (hw2.alloc (by omega) _)) (HR.out.to (hw2.alloc (by omega) _))).mono ?_
  rw [H1.out]
  rintro e w3 ⟨A4, n4, d4, rfl, hi4, _, hb3⟩
  have HI4 := hid_ hi4; clear hi4
  replace p0 := keepc hb3 (keepa _ p0)
  replace p1 := keepc hb3 (keepa _ p1)
  replace c0 := keepc hb3 (keepa _ c0)
  replace c1 := keepc hb3 (keepa _ c1)
  obtain ⟨u0, u1, hz3, hb3'⟩ := box_keep hb3
  have hw3 := bnext hw2 hb3'
  replace HI3 := hid_ (HI3.out.to hb3')
  have hz3w : w.heap.size + 1 < w3.heap.size := by omega
  have hz30 : w.heap.size < w3.heap.size := by omega
  clear hb3
  go_wp2_with fail
  refine (run_any R a1 y A A4 n c n4 d4 code l1 _ (HC.out.to (hw3.alloc (by omega) _)) (HI4.out.to ((Below.refl _ w3).alloc (Nat.le_refl _) _))).mono ?_
  rw [H2.out]
  rintro e w4 ⟨A5, n5, d5, rfl, hi5, _, hb4⟩
  have HI5 := hid_ hi5; clear hi5
  replace p0 := keepc hb4 (keepa _ p0)
  replace p1 := keepc hb4 (keepa _ p1)
  replace c0 := keepc hb4 (keepa _ c0)
  replace c1 := keepc hb4 (keepa _ c1)
  replace u0 := keepc hb4 (keepa _ u0)
  replace u1 := keepc hb4 (keepa _ u1)
  obtain ⟨v0, v1, hz4, hb4'⟩ := box_keep hb4
  have hw4 := bnext hw3 hb4'
  replace HI3 := hid_ (HI3.out.to hb4')
  have hz4w : w.heap.size + 1 < w4.heap.size := by omega
  have hz40 : w.heap.size < w4.heap.size := by omega
  have hz42 : w2.heap.size < w4.heap.size := by omega
  clear hb4
  go_wp2_with fail
  refine (same_any a0 a2 A3 A5 n3 n5 d3 d5 l0 l2 _ (HI3.out.to ((Below.refl _ w4).alloc (Nat.le_refl _) _)) (HI5.out.to ((Below.refl _ w4).alloc (Nat.le_refl _) _)) (by rw [← HI3.out.len]; omega)).mono ?_
  rw [HS.out]
  rintro e w5 ⟨rfl, hb5⟩
  replace p0 := keepc hb5 (keepa _ p0)
  replace p1 := keepc hb5 (keepa _ p1)
  replace c0 := keepc hb5 (keepa _ c0)
  replace c1 := keepc hb5 (keepa _ c1)
  obtain ⟨_, _, hz5, hb5'⟩ := box_keep hb5
  have hw5 := bnext hw4 hb5'
  have hz5w : w.heap.size + 1 < w5.heap.size := by omega
  have hz50 : w.heap.size < w5.heap.size := by omega
  clear hb5 u0 u1 v0 v1
  go_wp2_with fail
  refine (until_any R at_ x A A' A2 n c m d q d2 code rs pts _ (HC.out.to hw5) (HR.out.to hw5) (HP.out.to hw5) hq).mono ?_
  rw [HU.out]
  rintro e w6 ⟨A6, n6, d6, rfl, hi6, _, hb6⟩
  have HI6 := hid_ hi6; clear hi6
  replace p0 := keepc hb6 p0
  replace p1 := keepc hb6 p1
  replace c0 := keepc hb6 c0
  replace c1 := keepc hb6 c1
  have hw6 := bnext hw5 hb6
  have hz6w : w.heap.size + 1 < w6.heap.size := by have := hb6.size; omega
  have hz60 : w.heap.size < w6.heap.size := by omega
  clear hb6
  go_wp2_with fail
  refine (run_any R at_ t A A' n c m d code rs _ (HC.out.to (hw6.alloc (by omega) _)) (HR.out.to (hw6.alloc (by omega) _))).mono ?_
  rw [HT.out]
  rintro e w7 ⟨A7, n7, d7, rfl, hi7, _, hb7⟩
  have HI7 := hid_ hi7; clear hi7
  replace p0 := keepc hb7 (keepa _ p0)
  replace p1 := keepc hb7 (keepa _ p1)
  replace c0 := keepc hb7 (keepa _ c0)
  replace c1 := keepc hb7 (keepa _ c1)
  obtain ⟨u0, u1, hz7, hb7'⟩ := box_keep hb7
  have hw7 := bnext hw6 hb7'
  replace HI6 := hid_ (HI6.out.to hb7')
  have hz7w : w.heap.size + 1 < w7.heap.size := by omega
  have hz70 : w.heap.size < w7.heap.size := by omega
  clear hb7
  go_wp2_with fail
  refine (same_any au au A6 A7 n6 n7 d6 d7 lu lu _ (HI6.out.to ((Below.refl _ w7).alloc (Nat.le_refl _) _)) (HI7.out.to ((Below.refl _ w7).alloc (Nat.le_refl _) _)) (by rw [← HI6.out.len]; omega)).mono ?_
  rw [HSU.out]
  rintro e w8 ⟨rfl, hb8⟩
  replace p0 := keepc hb8 (keepa _ p0)
  replace p1 := keepc hb8 (keepa _ p1)
  replace c0 := keepc hb8 (keepa _ c0)
  replace c1 := keepc hb8 (keepa _ c1)
  replace u0 := keepc hb8 (keepa _ u0)
  replace u1 := keepc hb8 (keepa _ u1)
  obtain ⟨_, _, hz8, hb8'⟩ := box_keep hb8
  have hw8 := bnext hw7 hb8'
  have hz8w : w.heap.size + 1 < w8.heap.size := by omega
  have hz80 : w.heap.size < w8.heap.size := by omega
  clear hb8
  go_wp2_with fail
  refine (in_any au A2 q d2 pts _ (HP.out.to hw8) hq).mono ?_
  rw [HMU.out]
  rintro e w9 ⟨rfl, rfl⟩
  go_wp2_with fail
  go_loopw [27] (fun s wr => ∃ j Aq nq dq, s = .int .i64 ((j : Nat) : Int) ∧ 1 ≤ j ∧ j ≤ t ∧ Blk wr w8.heap.size 27 #[.int .i64 (f (j - 1)).1, .slice Aq nq dq] ∧ IntsAt wr wr.heap.size Aq nq (f (j - 1)).2 ∧ Below w8.heap.size w8 wr)
    (fun s _ => t - (intOf s).toNat)
  case atStart => exact ⟨1, A', m, d, rfl, Nat.le_refl _, ht1, by rw [Nat.sub_self, HCH.out.zero]; exact Blk.new _ _ _, by rw [Nat.sub_self, HCH.out.zero]; exact (HR.out.to hw8).to ((Below.refl _ w8).alloc (Nat.le_refl _) _), (Below.refl _ w8).alloc (Nat.le_refl _) _⟩
  case round =>
    obtain ⟨j, Aq, nq, dq, rfl, hj1, hjt, hbq, hiq, hbr⟩ := hrel
    have HB := hid_ hbq
    have HIQ := hid_ hiq; clear hiq
    have q0 := hbq.cell 0
    have q1 := hbq.cell 1
    have g0 := hbq.free 0
    have g1 := hbq.free 1
    simp at q0 q1
    have hqz := hbq.lt
    replace p0 := keepc hbr p0
    replace p1 := keepc hbr p1
    have hwr := bnext hw8 hbr
    have hwrz : w.heap.size + 1 < wr.heap.size := by omega
    have hwrz0 : w.heap.size < wr.heap.size := by omega
    clear hbq
    by_cases hlt : j < t
    · obtain ⟨hst, hmm⟩ := HCH.out.step j hj1 hlt
      have HST := hid_ hst; clear hst
      have HMM := hid_ hmm; clear hmm
      go_wp2_with fail
      refine (step_any R (f (j - 1)).1 A Aq n c nq dq code (f (j - 1)).2 wr (HC.out.to hwr) HIQ.out).mono ?_
      rw [HST.out]
      rintro e w10 ⟨A10, n10, d10, rfl, hi10, hfr10, hb10⟩
      have HI10 := hid_ hi10; clear hi10
      have HF10 := hid_ hfr10; clear hfr10
      have D := HB.out.below hb10 hqz
      replace p0 := keepc hb10 p0
      replace p1 := keepc hb10 p1
      have q0' := D.cell 0
      have q1' := D.cell 1
      have g0' := D.free 0
      have g1' := D.free 1
      simp at q0' q1'
      have hqz' := D.lt
      have hw10 := bnext hwr hb10
      clear q0 q1 g0 g1
      go_wp2_with fail
      refine (in_any (f j).1 A2 q d2 pts _ (HP.out.to (below_res hw10 (q := w8.heap.size) (by omega) _ _)) hq).mono ?_
      rw [HMM.out]
      rintro e w11 ⟨rfl, rfl⟩
      go_wp2_with fail
      go_roundw
      case rel => exact ⟨j + 1, A10, n10, d10, by go_num, by omega, by omega, by rw [Nat.add_sub_cancel]; simpa using (D.set_ 0 (.int .i64 (f j).1)).set_ 1 (.slice A10 n10 d10), by rw [Nat.add_sub_cancel]; exact HI10.out.res2 (fresh_le HF10.out (by omega)) _ _, below_res (hbr.trans (hb10.mono (by omega))) (Nat.le_refl _) _ _⟩
      case measure => simp [intOf]; omega
    · have hjt' : j = t := by omega
      go_wp2_with fail
      refine (awake_any _).mono ?_
      rintro e w10 ⟨rfl, hb10⟩
      go_wp2_with fail
      go_ret
      exact ⟨rfl, bnext hwr hb10⟩

set_option maxRecDepth 1000000 in
set_option maxHeartbeats 4000000 in
theorem parts_three_no (R at_ x y : Int) (A A' A2 : Option Addr) (n c m d q d2 : Nat) (code : List Ins) (rs pts : List Int) (w : World) (hc : CodeAt w w.heap.size A n code) (hr : IntsAt w w.heap.size A' m rs) (hp : IntsAt w w.heap.size A2 q pts)
    (hn : n ≤ 4000) (hm : m ≤ 100) (hq : q ≤ 4000) (hx : 0 ≤ x) (hy : 0 ≤ y) (hxy : x + y ≤ 2000)
    (a0 a1 a2 k0 k1 k2 e0 : Int) (l0 l1 l2 : List Int) (h0 : runS R code at_ rs (x + y) = ⟨a0, l0, k0, e0⟩) (h1 : runS R code at_ rs x = ⟨a1, l1, k1, 0⟩) (h2 : runS R code a1 l1 y = ⟨a2, l2, k2, e0⟩) (hs : sameB a0 l0 a2 l2 = true) (hl : l0.length ≤ 16) (he : e0 ≠ 0) (au : Int) (t : Nat) (lu : List Int) (f : Nat → Int × List Int) (hu : untilS R code at_ rs pts x = ⟨au, lu, t, 0⟩) (ht1 : 1 ≤ t) (htx : (t : Int) ≤ x) (ht : runS R code at_ rs t = ⟨au, lu, t, 0⟩) (hlu : lu.length ≤ 16) (hmu : memB au pts = true) (hch : Chain R code at_ rs pts t f) :
    Calls Try.prog 5 #[.agg #[.int .i64 R, .slice A n c], .agg #[.int .i64 at_, .slice A' m d], .slice A2 q d2, .int .u16 x, .int .u16 y] w fun e w' => e = .returned (.bool true) ∧ Below w.heap.size w w' := by
  have hwd : decide (4000 < n ∨ 100 < m) = false := by simp; omega
  have HC := hid_ hc; clear hc
  have HR := hid_ hr; clear hr
  have HP := hid_ hp; clear hp
  have hx2 : x ≤ 2000 := by omega
  have hy2 : y ≤ 2000 := by omega
  have hne : (e0 == 0) = false := by simpa using he
  have hee : (e0 != e0) = false := by simp
  clear he
  have H0 := hid_ h0; clear h0
  have H1 := hid_ h1; clear h1
  have H2 := hid_ h2; clear h2
  have HS := hid_ hs; clear hs
  have HU := hid_ hu; clear hu
  have HT := hid_ ht; clear ht
  have HMU := hid_ hmu; clear hmu
  have HCH := hid_ hch; clear hch
  have HSU : Hid (sameB au lu au lu = true) := by simp [Hid, sameB]
  have ht1' : (1 : Int) ≤ t := by omega
  have htt : ((t : Int) != t) = false := by simp
  go_enter Try.func5, Try.ntmps5
  go_wp2_with fail
  refine (wide_any R at_ A A' n c m d _).mono ?_
  rw [hwd]
  clear hwd
  rintro e w1 ⟨rfl, hb1⟩
  obtain ⟨p0, p1, c0, c1, hz, hw1⟩ := boxes2 hb1
  clear hb1
  go_wp2_with fail
  refine (run_any R at_ (x + y) A A' n c m d code rs w1 (HC.out.to hw1) (HR.out.to hw1)).mono ?_
  rw [H0.out]
  rintro e w2 ⟨A3, n3, d3, rfl, hi3, _, hb2⟩
  have HI3 := hid_ hi3; clear hi3
  replace p0 := keepc hb2 p0
  replace p1 := keepc hb2 p1
  replace c0 := keepc hb2 c0
  replace c1 := keepc hb2 c1
  have hw2 := bnext hw1 hb2
  have hz2 : w.heap.size + 1 < w2.heap.size := by have := hb2.size; omega
  have hz20 : w.heap.size < w2.heap.size := by omega
  clear hb2
  go_wp2_with fail
  refine (run_any R at_ x A A' n c m d code rs _ (HC.out.to (hw2.alloc (by omega) _)) (HR.out.to (hw2.alloc (by omega) _))).mono ?_
  rw [H1.out]
  rintro e w3 ⟨A4, n4, d4, rfl, hi4, _, hb3⟩
  have HI4 := hid_ hi4; clear hi4
  replace p0 := keepc hb3 (keepa _ p0)
  replace p1 := keepc hb3 (keepa _ p1)
  replace c0 := keepc hb3 (keepa _ c0)
  replace c1 := keepc hb3 (keepa _ c1)
  obtain ⟨u0, u1, hz3, hb3'⟩ := box_keep hb3
  have hw3 := bnext hw2 hb3'
  replace HI3 := hid_ (HI3.out.to hb3')
  have hz3w : w.heap.size + 1 < w3.heap.size := by omega
  have hz30 : w.heap.size < w3.heap.size := by omega
  clear hb3
  go_wp2_with fail
  refine (run_any R a1 y A A4 n c n4 d4 code l1 _ (HC.out.to (hw3.alloc (by omega) _)) (HI4.out.to ((Below.refl _ w3).alloc (Nat.le_refl _) _))).mono ?_
  rw [H2.out]
  rintro e w4 ⟨A5, n5, d5, rfl, hi5, _, hb4⟩
  have HI5 := hid_ hi5; clear hi5
  replace p0 := keepc hb4 (keepa _ p0)
  replace p1 := keepc hb4 (keepa _ p1)
  replace c0 := keepc hb4 (keepa _ c0)
  replace c1 := keepc hb4 (keepa _ c1)
  replace u0 := keepc hb4 (keepa _ u0)
  replace u1 := keepc hb4 (keepa _ u1)
  obtain ⟨v0, v1, hz4, hb4'⟩ := box_keep hb4
  have hw4 := bnext hw3 hb4'
  replace HI3 := hid_ (HI3.out.to hb4')
  have hz4w : w.heap.size + 1 < w4.heap.size := by omega
  have hz40 : w.heap.size < w4.heap.size := by omega
  have hz42 : w2.heap.size < w4.heap.size := by omega
  clear hb4
  go_wp2_with fail
  refine (same_any a0 a2 A3 A5 n3 n5 d3 d5 l0 l2 _ (HI3.out.to ((Below.refl _ w4).alloc (Nat.le_refl _) _)) (HI5.out.to ((Below.refl _ w4).alloc (Nat.le_refl _) _)) (by rw [← HI3.out.len]; omega)).mono ?_
  rw [HS.out]
  rintro e w5 ⟨rfl, hb5⟩
  replace p0 := keepc hb5 (keepa _ p0)
  replace p1 := keepc hb5 (keepa _ p1)
  replace c0 := keepc hb5 (keepa _ c0)
  replace c1 := keepc hb5 (keepa _ c1)
  obtain ⟨_, _, hz5, hb5'⟩ := box_keep hb5
  have hw5 := bnext hw4 hb5'
  have hz5w : w.heap.size + 1 < w5.heap.size := by omega
  have hz50 : w.heap.size < w5.heap.size := by omega
  clear hb5 u0 u1 v0 v1
  go_wp2_with fail
  refine (until_any R at_ x A A' A2 n c m d q d2 code rs pts _ (HC.out.to hw5) (HR.out.to hw5) (HP.out.to hw5) hq).mono ?_
  rw [HU.out]
  rintro e w6 ⟨A6, n6, d6, rfl, hi6, _, hb6⟩
  have HI6 := hid_ hi6; clear hi6
  replace p0 := keepc hb6 p0
  replace p1 := keepc hb6 p1
  replace c0 := keepc hb6 c0
  replace c1 := keepc hb6 c1
  have hw6 := bnext hw5 hb6
  have hz6w : w.heap.size + 1 < w6.heap.size := by have := hb6.size; omega
  have hz60 : w.heap.size < w6.heap.size := by omega
  clear hb6
  go_wp2_with fail
  refine (run_any R at_ t A A' n c m d code rs _ (HC.out.to (hw6.alloc (by omega) _)) (HR.out.to (hw6.alloc (by omega) _))).mono ?_
  rw [HT.out]
  rintro e w7 ⟨A7, n7, d7, rfl, hi7, _, hb7⟩
  have HI7 := hid_ hi7; clear hi7
  replace p0 := keepc hb7 (keepa _ p0)
  replace p1 := keepc hb7 (keepa _ p1)
  replace c0 := keepc hb7 (keepa _ c0)
  replace c1 := keepc hb7 (keepa _ c1)
  obtain ⟨u0, u1, hz7, hb7'⟩ := box_keep hb7
  have hw7 := bnext hw6 hb7'
  replace HI6 := hid_ (HI6.out.to hb7')
  have hz7w : w.heap.size + 1 < w7.heap.size := by omega
  have hz70 : w.heap.size < w7.heap.size := by omega
  clear hb7
  go_wp2_with fail
  refine (same_any au au A6 A7 n6 n7 d6 d7 lu lu _ (HI6.out.to ((Below.refl _ w7).alloc (Nat.le_refl _) _)) (HI7.out.to ((Below.refl _ w7).alloc (Nat.le_refl _) _)) (by rw [← HI6.out.len]; omega)).mono ?_
  rw [HSU.out]
  rintro e w8 ⟨rfl, hb8⟩
  replace p0 := keepc hb8 (keepa _ p0)
  replace p1 := keepc hb8 (keepa _ p1)
  replace c0 := keepc hb8 (keepa _ c0)
  replace c1 := keepc hb8 (keepa _ c1)
  replace u0 := keepc hb8 (keepa _ u0)
  replace u1 := keepc hb8 (keepa _ u1)
  obtain ⟨_, _, hz8, hb8'⟩ := box_keep hb8
  have hw8 := bnext hw7 hb8'
  have hz8w : w.heap.size + 1 < w8.heap.size := by omega
  have hz80 : w.heap.size < w8.heap.size := by omega
  clear hb8
  go_wp2_with fail
  refine (in_any au A2 q d2 pts _ (HP.out.to hw8) hq).mono ?_
  rw [HMU.out]
  rintro e w9 ⟨rfl, rfl⟩
  go_wp2_with fail
  go_loopw [27] (fun s wr => ∃ j Aq nq dq, s = .int .i64 ((j : Nat) : Int) ∧ 1 ≤ j ∧ j ≤ t ∧ Blk wr w8.heap.size 27 #[.int .i64 (f (j - 1)).1, .slice Aq nq dq] ∧ IntsAt wr wr.heap.size Aq nq (f (j - 1)).2 ∧ Below w8.heap.size w8 wr)
    (fun s _ => t - (intOf s).toNat)
  case atStart => exact ⟨1, A', m, d, rfl, Nat.le_refl _, ht1, by rw [Nat.sub_self, HCH.out.zero]; exact Blk.new _ _ _, by rw [Nat.sub_self, HCH.out.zero]; exact (HR.out.to hw8).to ((Below.refl _ w8).alloc (Nat.le_refl _) _), (Below.refl _ w8).alloc (Nat.le_refl _) _⟩
  case round =>
    obtain ⟨j, Aq, nq, dq, rfl, hj1, hjt, hbq, hiq, hbr⟩ := hrel
    have HB := hid_ hbq
    have HIQ := hid_ hiq; clear hiq
    have q0 := hbq.cell 0
    have q1 := hbq.cell 1
    have g0 := hbq.free 0
    have g1 := hbq.free 1
    simp at q0 q1
    have hqz := hbq.lt
    replace p0 := keepc hbr p0
    replace p1 := keepc hbr p1
    have hwr := bnext hw8 hbr
    have hwrz : w.heap.size + 1 < wr.heap.size := by omega
    have hwrz0 : w.heap.size < wr.heap.size := by omega
    clear hbq
    by_cases hlt : j < t
    · obtain ⟨hst, hmm⟩ := HCH.out.step j hj1 hlt
      have HST := hid_ hst; clear hst
      have HMM := hid_ hmm; clear hmm
      go_wp2_with fail
      refine (step_any R (f (j - 1)).1 A Aq n c nq dq code (f (j - 1)).2 wr (HC.out.to hwr) HIQ.out).mono ?_
      rw [HST.out]
      rintro e w10 ⟨A10, n10, d10, rfl, hi10, hfr10, hb10⟩
      have HI10 := hid_ hi10; clear hi10
      have HF10 := hid_ hfr10; clear hfr10
      have D := HB.out.below hb10 hqz
      replace p0 := keepc hb10 p0
      replace p1 := keepc hb10 p1
      have q0' := D.cell 0
      have q1' := D.cell 1
      have g0' := D.free 0
      have g1' := D.free 1
      simp at q0' q1'
      have hqz' := D.lt
      have hw10 := bnext hwr hb10
      clear q0 q1 g0 g1
      go_wp2_with fail
      refine (in_any (f j).1 A2 q d2 pts _ (HP.out.to (below_res hw10 (q := w8.heap.size) (by omega) _ _)) hq).mono ?_
      rw [HMM.out]
      rintro e w11 ⟨rfl, rfl⟩
      go_wp2_with fail
      go_roundw
      case rel => exact ⟨j + 1, A10, n10, d10, by go_num, by omega, by omega, by rw [Nat.add_sub_cancel]; simpa using (D.set_ 0 (.int .i64 (f j).1)).set_ 1 (.slice A10 n10 d10), by rw [Nat.add_sub_cancel]; exact HI10.out.res2 (fresh_le HF10.out (by omega)) _ _, below_res (hbr.trans (hb10.mono (by omega))) (Nat.le_refl _) _ _⟩
      case measure => simp [intOf]; omega
    · have hjt' : j = t := by omega
      go_wp2_with fail
      refine (awake_any _).mono ?_
      rintro e w10 ⟨rfl, hb10⟩
      go_wp2_with fail
      go_ret
      exact ⟨rfl, bnext hwr hb10⟩
end Go.Proofs.Ytgpcgjdnehlaeaa

/- The law TagCyclic: all fits (stop). -/
import Derived.Test.YtpnjffdjoacejaaNd
namespace Go.Proofs.Ytpnjffdjoacejaa
open Go.RowKit

set_option maxRecDepth 1000000 in
set_option maxHeartbeats 8000000 in
theorem cyclic_stop (dn : Nat) (rules : List (List Int)) (stops : List Bool) (q : List Int) (n : Nat) (v2 v3 v : Value) (w : World) (hB : TagBig w w.heap.size v2 v3 ⟨dn, rules, stops⟩) (hq : Elems w w.heap.size v (ints q)) (hl : q.length ≤ 17592186044416) (hn8 : n ≤ 255) (h1 : rules.length ≤ 40) (hw : wideB ⟨dn, rules, stops⟩ q = false) (hf : fitsT ⟨dn, rules, stops⟩ q = true) (h4 : q.length ≤ 400) (h5 : ¬ 16000 < sumL rules * rules.length) (h6 : n ≤ 12)
    (a : List Int) (k : Nat) (e1 : runTS ⟨dn, rules, stops⟩ q n = ⟨a, k, 0⟩) (e2 : k ≤ n) (e3 : fitsT ⟨dn, rules, stops⟩ a = true) (e4 : a.length ≤ 2800) (e5 : bitsS ⟨dn, rules, stops⟩ q = ⟨encF rules.length q, 0, 0⟩) (e6 : bitsS ⟨dn, rules, stops⟩ a = ⟨encF rules.length a, 0, 0⟩)
    (e7 : rollS (cycL ⟨dn, rules, stops⟩) 0 (encF rules.length q) ((k * (dn * rules.length) : Nat) : Int) = ⟨0, encF rules.length a, ((k * (dn * rules.length) : Nat) : Int), 0⟩) (hk : k ≠ n) (hs : ¬ ((a.length : Int) < dn)) (hst : stoppedT ⟨dn, rules, stops⟩ a = true) :
    Calls Try.prog 8 #[.agg #[.int .i64 dn, v2, v3], v, .int .u8 n] w (Yes w) := by
  have HB := hid_ hB
  have HT := hid_ (hB.in_ hw)
  obtain ⟨hv, _, _⟩ := fitsT_parts hf
  obtain ⟨d1, d2, r1, r2, r3, _⟩ := validT_parts hv
  simp only at d1 d2 r1 r2 r3
  obtain ⟨A2, c2, rfl⟩ := hB.rules.form
  obtain ⟨A3, c3, rfl⟩ := hB.stops.form
  obtain ⟨A, c, rfl⟩ := hq.form
  rw [ints_len] at hq ⊢
  rw [bools_len] at HB HT ⊢
  simp only at HB HT ⊢
  have HQ := hid_ hq
  have HW := hid_ hw
  have HF := hid_ hf
  have HV := hid_ hv
  have hl3 : q.length ≤ 1000000 := by omega
  have i1 : ¬ (40 : Int) < rules.length := by omega
  have i4 : ¬ (400 : Int) < q.length := by omega
  obtain ⟨P, hP⟩ : ∃ P, P = sumL rules * rules.length := ⟨_, rfl⟩
  rw [← hP] at h5
  have HP := hid_ hP
  have i5 : ¬ (16000 : Int) < (P : Int) := by omega
  have i6 : ¬ (12 : Int) < (n : Int) := by omega
  have n0 : 0 ≤ (n : Int) := by omega
  obtain ⟨K1, hK1⟩ : ∃ K1, K1 = k * dn := ⟨_, rfl⟩
  obtain ⟨M, hM⟩ : ∃ M, M = k * (dn * rules.length) := ⟨_, rfl⟩
  have m1 : (k : Int) * (dn : Int) = (K1 : Int) := by rw [hK1]; simp
  have m2 : (K1 : Int) * (rules.length : Int) = (M : Int) := by rw [hK1, hM, ← Nat.mul_assoc]; simp
  have mb1 : K1 ≤ 48 := by rw [hK1]; exact Nat.le_trans (Nat.mul_le_mul (show k ≤ 12 by omega) (show dn ≤ 4 by omega)) (by omega)
  have mb2 : M ≤ 1920 := by rw [hM, ← Nat.mul_assoc, ← hK1]; exact Nat.le_trans (Nat.mul_le_mul mb1 h1) (by omega)
  have g1 : IntKind.i64.wrap (K1 : Int) = (K1 : Int) := IntWalk.i64_in _ (by omega)
  have g2 : IntKind.i64.wrap (M : Int) = (M : Int) := IntWalk.i64_in _ (by omega)
  have g3 : IntKind.i64.wrap (n : Int) = (n : Int) := IntWalk.i64_in _ (by omega)
  rw [← hM] at e7
  have E1 := hid_ e1
  have E3 := hid_ e3
  have E5 := hid_ e5
  have E6 := hid_ e6
  have E7 := hid_ e7
  have hal : a.length ≤ 1000000 := by omega
  have HLQ : Hid ((encF rules.length q).length ≤ 1000000) := hid_ (by
    have : q.length * rules.length ≤ 400 * 40 := Nat.mul_le_mul h4 h1
    rw [encF_len]; omega)
  have HLA : Hid ((encF rules.length a).length ≤ 1000000) := hid_ (by
    have : a.length * rules.length ≤ 2800 * 40 := Nat.mul_le_mul e4 h1
    rw [encF_len]; omega)
  have HVC : Hid (validC (cycL ⟨dn, rules, stops⟩) = true) := hid_ (cycL_valid hv h1)
  generalize encF rules.length q = EQ at E5 E7 HLQ
  generalize encF rules.length a = EA at E6 E7 HLA
  have i7 : ((k : Int) == (n : Int)) = false := by rw [beq_eq_false_iff_ne]; omega
  have i7n : (k == n) = false := by rw [beq_eq_false_iff_ne]; exact hk
  have i7d : decide (k = n) = false := decide_eq_false hk
  have i8 : decide ((a.length : Int) < (dn : Int)) = false := decide_eq_false hs
  have i8n : decide (a.length < dn) = false := decide_eq_false (by omega)
  obtain ⟨j, r, bb, hj, hjr, hr, hb⟩ := head_get e3 hs
  simp only at hjr hr
  have hbt : bb = true := by rw [← hst]; exact (stoppedT_eq hj hs hb).symm
  subst hbt
  obtain ⟨b3, o3, rfl, hb3, hc3⟩ := HT.out.stops.at_ (by omega)
  have HI3 := hid_ (hc3 j _ (bools_at hb))
  have HJ := hid_ hj
  have t1 : 0 ≤ (j : Int) := by omega
  have t2 : (j : Int) < stops.length := by omega
  have t3 : 0 < a.length := (List.getElem?_eq_some_iff.1 hj).1
  clear hj hr hb hc3 hst
  clear hB hq hw hf hv e1 e3 e5 e6 e7 hP hK1 hM r3
  go_enter Try.func8, Try.ntmps8
  go_wp2_with fail
  refine (wide_any ⟨dn, rules, stops⟩ q _ _ _ _ (HB.out.to (below1 w _)) (HQ.out.to (below1 w _)) hl).mono ?_
  rw [HW.out]
  rintro e w1 ⟨rfl, hb1⟩
  obtain ⟨p0, p1, p2, hz, hw1⟩ := box3 hb1
  clear hb1
  go_wp2_with fail
  refine (rfits_any ⟨dn, rules, stops⟩ q _ _ _ _ (HT.out.to hw1) (HQ.out.to hw1) hl3).mono ?_
  rw [HF.out]
  rintro e w2 ⟨rfl, hb2⟩
  replace p0 := keepc hb2 (p0)
  replace p1 := keepc hb2 (p1)
  replace p2 := keepc hb2 (p2)
  have hw2 := bnext hw1 hb2
  go_wp2_with fail
  refine (rules_any ⟨dn, rules, stops⟩ _ _ _ (HT.out.to hw2) HV.out).mono ?_
  simp only
  rw [← HP.out]
  rintro e w3 ⟨rfl, hb3'⟩
  replace p0 := keepc hb3' (p0)
  replace p1 := keepc hb3' (p1)
  replace p2 := keepc hb3' (p2)
  have hw3 := bnext hw2 hb3'
  go_wp2_with fail
  refine (toCyclic_any ⟨dn, rules, stops⟩ _ _ _ (HT.out.to hw3)).mono ?_
  rintro e w4 ⟨hb4, hc⟩
  rw [if_pos HV.out] at hc
  obtain ⟨vc, rfl, hrows⟩ := hc
  obtain ⟨Ac, cc, rfl⟩ := hrows.form
  have HRW := hid_ hrows
  replace p0 := keepc hb4 (p0)
  replace p1 := keepc hb4 (p1)
  replace p2 := keepc hb4 (p2)
  have hw4 := bnext hw3 hb4
  have z0 : w.heap.size < w4.heap.size := cell_lt p0
  clear hrows
  go_wp2_with fail
  have hw4' := hw4.alloc hw4.size (.cells #[.slice Ac (cycL ⟨dn, rules, stops⟩).length cc] 43)
  refine (bits_any ⟨dn, rules, stops⟩ q _ _ _ _ (HT.out.to hw4') (HQ.out.to hw4') hl3).mono ?_
  rw [E5.out]
  rintro e w5 ⟨vb, rfl, hEb, hb5⟩
  obtain ⟨Ab, cb, rfl⟩ := hEb.form
  rw [ints_len] at hEb ⊢
  have HEb := hid_ hEb
  have BC := (Blk.new w4 43 #[.slice Ac (cycL ⟨dn, rules, stops⟩).length cc]).to hb5
  have x0 := BC.cell 0
  simp at x0
  replace p0 := keepc hb5 (keepa _ p0)
  replace p1 := keepc hb5 (keepa _ p1)
  replace p2 := keepc hb5 (keepa _ p2)
  have hw5 := bnext hw4' hb5
  have HRW5 := hid_ ((HRW.out.to (below1 w4 _)).to hb5)
  clear hEb BC z0
  simp only
  go_wp2_with fail
  refine (run_any ⟨dn, rules, stops⟩ q n _ _ _ w5 (HT.out.to hw5) (HQ.out.to hw5) hl3).mono ?_
  rw [E1.out]
  rintro e w6 ⟨va, rfl, hEa, hb6⟩
  obtain ⟨Aa, ca, rfl⟩ := hEa.form
  rw [ints_len] at hEa ⊢
  have HEa := hid_ hEa
  replace p0 := keepc hb6 (p0)
  replace p1 := keepc hb6 (p1)
  replace p2 := keepc hb6 (p2)
  replace x0 := keepc hb6 (x0)
  have hw6 := bnext hw5 hb6
  have HRW6 := hid_ (HRW5.out.to hb6)
  have HEb6 := hid_ (HEb.out.to hb6)
  clear hEa
  simp only
  go_wp2_with fail
  have HCY : Hid (CycIn w6 w6.heap.size (.slice Ac (cycL ⟨dn, rules, stops⟩).length cc) (cycL ⟨dn, rules, stops⟩)) := hid_ ⟨HRW6.out, by have := (validC_parts HVC.out).2.1; omega, fun r hr => by
    obtain ⟨i, hi⟩ := List.mem_iff_getElem?.1 hr
    have := (wordC_get HVC.out hi).1
    omega⟩
  refine (roll_any (cycL ⟨dn, rules, stops⟩) 0 EQ M _ _ w6 HCY.out HEb6.out HLQ.out).mono ?_
  rw [E7.out]
  rintro e w7 ⟨vr, rfl, hEr, -, hb7⟩
  obtain ⟨Ar, cr, rfl⟩ := hEr.form
  rw [ints_len] at hEr ⊢
  have HEr := hid_ hEr
  replace p0 := keepc hb7 (p0)
  replace p1 := keepc hb7 (p1)
  replace p2 := keepc hb7 (p2)
  replace x0 := keepc hb7 (x0)
  have hw7 := bnext hw6 hb7
  have HEa7 := hid_ (HEa.out.to hb7)
  have z7 : w.heap.size < w7.heap.size := cell_lt p0
  clear hEr
  simp only
  have f0 : ((0 : Int) != 0) = false := rfl
  have fM : ((M : Int) != (M : Int)) = false := by simp
  go_wp2_with fail
  have hw7' := hw7.alloc hw7.size (.cells #[.int .i64 0, .slice Ar EA.length cr] 45)
  have HEa7' := hid_ (HEa7.out.to (below1 w7 (.cells #[.int .i64 0, .slice Ar EA.length cr] 45)))
  refine (rfits_any ⟨dn, rules, stops⟩ a _ _ _ _ (HT.out.to hw7') HEa7'.out hal).mono ?_
  rw [E3.out]
  rintro e w8 ⟨rfl, hb8⟩
  have BR := (Blk.new w7 45 #[.int .i64 0, .slice Ar EA.length cr]).to hb8
  have y0 := BR.cell 0
  have y1 := BR.cell 1
  simp at y0 y1
  replace p0 := keepc hb8 (keepa _ p0)
  replace p1 := keepc hb8 (keepa _ p1)
  replace p2 := keepc hb8 (keepa _ p2)
  have hw8 := bnext hw7' hb8
  have HEa8 := hid_ (HEa7'.out.to hb8)
  have HEr8 := hid_ ((HEr.out.to (below1 w7 _)).to hb8)
  clear BR z7 HEa7'
  go_wp2_with fail
  refine (bits_any ⟨dn, rules, stops⟩ a _ _ _ w8 (HT.out.to hw8) HEa8.out hal).mono ?_
  rw [E6.out]
  rintro e w9 ⟨vw, rfl, hEw, hb9⟩
  obtain ⟨Aw, cw, rfl⟩ := hEw.form
  rw [ints_len] at hEw ⊢
  have HEw := hid_ hEw
  replace p0 := keepc hb9 (p0)
  replace p1 := keepc hb9 (p1)
  replace p2 := keepc hb9 (p2)
  replace y0 := keepc hb9 (y0)
  replace y1 := keepc hb9 (y1)
  have hw9 := bnext hw8 hb9
  have HEa9 := hid_ (HEa8.out.to hb9)
  have HEr9 := hid_ (HEr8.out.to hb9)
  clear hEw
  simp only
  go_wp2_with fail
  refine (samewheel_any 0 0 EA EA _ _ w9 HEr9.out HEw.out HLA.out).mono ?_
  rw [show (decide ((0 : Int) = 0) && decide (EA = EA)) = true from by simp]
  rintro e wA ⟨rfl, hbA⟩
  replace p0 := keepc hbA (p0)
  replace p1 := keepc hbA (p1)
  replace p2 := keepc hbA (p2)
  have hwA := bnext hw9 hbA
  have HEaA := hid_ (HEa9.out.to hbA)
  obtain ⟨b1, o1, rfl, hb1', hc1⟩ := HEaA.out.at_ t3
  have q1 : wA.cell? ⟨b1, o1, none⟩ = some (.int .i64 (j : Int)) := by simpa using hc1 0 _ (ints_at HJ.out)
  have q2 : wA.cell? ⟨b3, o3 + j, none⟩ = some (.bool true) := (hwA.cell (p := ⟨b3, o3 + j, none⟩) hb3).trans HI3.out
  clear hc1
  go_upto_region 14 with fail
  go_still_tail 21, (by kernel_rfl)
  all_goals
    change wpList _ _ _ _ _ wA.drew
    go_wp2_with fail
    refine (awake_any _).mono ?_
    rintro e wz ⟨rfl, hbz⟩
    go_wp2_with fail
    go_ret
    exact ⟨rfl, bnext hwA hbz.drewl⟩
end Go.Proofs.Ytpnjffdjoacejaa

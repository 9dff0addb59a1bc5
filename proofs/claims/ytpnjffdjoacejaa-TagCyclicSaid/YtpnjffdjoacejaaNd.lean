/- The law TagCyclic. -/
import Derived.Test.YtpnjffdjoacejaaNc
import Derived.StillTailTactics
namespace Go.Proofs.Ytpnjffdjoacejaa
open Go.RowKit

/-- An operation of a still region that runs, with what follows it hidden. -/
theorem still_run {P : Program} {ops : Array Oper} {w : World} {Q : Act → Prop} {a : Act} {o : Oper} {rest : List Oper} (hw : Region.wanted o (yielded ops a.tmps) = true) (h : ∀ K : Act → Prop, Hid (K = wpStill P ops w Q rest) → o.still P a w K) : wpStill P ops w Q (o :: rest) a :=
  wpStill_step (fun K hK => by rw [if_pos hw]; exact Oper.still_mono hK (h _ (hid_ rfl)))

/-- An operation of a still region that is guarded and does not run. -/
theorem still_skip {P : Program} {ops : Array Oper} {w : World} {Q : Act → Prop} {a : Act} {o : Oper} {rest : List Oper} (hw : Region.wanted o (yielded ops a.tmps) = false) (h : wpStill P ops w Q rest (a.put o.dst undef)) : wpStill P ops w Q (o :: rest) a :=
  wpStill_step (fun K hK => by rw [if_neg (by rw [hw]; simp)]; exact hK _ h)

section
variable (t : TagS) (q : List Int) (n : Nat) (v2 v3 v : Value) (w : World)

set_option maxRecDepth 1000000 in
set_option maxHeartbeats 4000000 in
theorem cyclic_e0 (hB : TagBig w w.heap.size v2 v3 t) (hq : Elems w w.heap.size v (ints q)) (_ : q.length ≤ 17592186044416) (_ : n ≤ 255) (h1 : 40 < t.rules.length) :
    Calls Try.prog 8 #[.agg #[.int .i64 t.del, v2, v3], v, .int .u8 n] w (Yes w) := by
  have HB := hid_ hB
  obtain ⟨A2, c2, rfl⟩ := hB.rules.form
  obtain ⟨A, c, rfl⟩ := hq.form
  rw [ints_len] at hq ⊢
  have HQ := hid_ hq
  have i1 : (40 : Int) < t.rules.length := by omega
  clear hB hq
  go_enter Try.func8, Try.ntmps8
  go_wp2_with fail
  refine (awake_any _).mono ?_
  rintro e wz ⟨rfl, hbz⟩
  go_wp2_with fail
  go_ret
  exact ⟨rfl, bnext (below1 w _) hbz⟩

set_option maxRecDepth 1000000 in
set_option maxHeartbeats 4000000 in
theorem cyclic_e1 (hB : TagBig w w.heap.size v2 v3 t) (hq : Elems w w.heap.size v (ints q)) (hl : q.length ≤ 17592186044416) (_ : n ≤ 255) (h1 : t.rules.length ≤ 40) (hw : wideB t q = true) :
    Calls Try.prog 8 #[.agg #[.int .i64 t.del, v2, v3], v, .int .u8 n] w (Yes w) := by
  have HB := hid_ hB
  obtain ⟨A2, c2, rfl⟩ := hB.rules.form
  obtain ⟨A, c, rfl⟩ := hq.form
  rw [ints_len] at hq ⊢
  have HQ := hid_ hq
  have i1 : ¬ (40 : Int) < t.rules.length := by omega
  have HW := hid_ hw
  clear hB hq hw
  go_enter Try.func8, Try.ntmps8
  go_wp2_with fail
  refine (wide_any t q _ v3 _ _ (HB.out.to (below1 w _)) (HQ.out.to (below1 w _)) hl).mono ?_
  rw [HW.out]
  rintro e w1 ⟨rfl, hb1⟩
  obtain ⟨p0, p1, p2, hz, hw1⟩ := box3 hb1
  clear hb1
  go_wp2_with fail
  refine (awake_any _).mono ?_
  rintro e wz ⟨rfl, hbz⟩
  go_wp2_with fail
  go_ret
  exact ⟨rfl, bnext hw1 hbz⟩

set_option maxRecDepth 1000000 in
set_option maxHeartbeats 4000000 in
theorem cyclic_e2 (hB : TagBig w w.heap.size v2 v3 t) (hq : Elems w w.heap.size v (ints q)) (hl : q.length ≤ 17592186044416) (_ : n ≤ 255) (h1 : t.rules.length ≤ 40) (hw : wideB t q = false) (hf : fitsT t q = false) :
    Calls Try.prog 8 #[.agg #[.int .i64 t.del, v2, v3], v, .int .u8 n] w (Yes w) := by
  have HB := hid_ hB
  obtain ⟨A2, c2, rfl⟩ := hB.rules.form
  obtain ⟨A, c, rfl⟩ := hq.form
  rw [ints_len] at hq ⊢
  have HQ := hid_ hq
  have i1 : ¬ (40 : Int) < t.rules.length := by omega
  have HW := hid_ hw
  have HT := hid_ (hB.in_ hw)
  have hl3 : q.length ≤ 1000000 := by have := (wideB_no hw).1; omega
  have HF := hid_ hf
  clear hB hq hw hf
  go_enter Try.func8, Try.ntmps8
  go_wp2_with fail
  refine (wide_any t q _ v3 _ _ (HB.out.to (below1 w _)) (HQ.out.to (below1 w _)) hl).mono ?_
  rw [HW.out]
  rintro e w1 ⟨rfl, hb1⟩
  obtain ⟨p0, p1, p2, hz, hw1⟩ := box3 hb1
  clear hb1
  go_wp2_with fail
  refine (rfits_any t q _ v3 _ _ (HT.out.to hw1) (HQ.out.to hw1) hl3).mono ?_
  rw [HF.out]
  rintro e w2 ⟨rfl, hb2⟩
  replace p0 := keepc hb2 p0
  replace p1 := keepc hb2 p1
  replace p2 := keepc hb2 p2
  have hw2 := bnext hw1 hb2
  go_wp2_with fail
  refine (awake_any _).mono ?_
  rintro e wz ⟨rfl, hbz⟩
  go_wp2_with fail
  go_ret
  exact ⟨rfl, bnext hw2 hbz⟩

set_option maxRecDepth 1000000 in
set_option maxHeartbeats 4000000 in
theorem cyclic_e3 (hB : TagBig w w.heap.size v2 v3 t) (hq : Elems w w.heap.size v (ints q)) (hl : q.length ≤ 17592186044416) (_ : n ≤ 255) (h1 : t.rules.length ≤ 40) (hw : wideB t q = false) (hf : fitsT t q = true) (h4 : 400 < q.length) :
    Calls Try.prog 8 #[.agg #[.int .i64 t.del, v2, v3], v, .int .u8 n] w (Yes w) := by
  have HB := hid_ hB
  obtain ⟨A2, c2, rfl⟩ := hB.rules.form
  obtain ⟨A, c, rfl⟩ := hq.form
  rw [ints_len] at hq ⊢
  have HQ := hid_ hq
  have i1 : ¬ (40 : Int) < t.rules.length := by omega
  have HW := hid_ hw
  have HT := hid_ (hB.in_ hw)
  have hl3 : q.length ≤ 1000000 := by have := (wideB_no hw).1; omega
  have HF := hid_ hf
  have i4 : (400 : Int) < q.length := by omega
  clear hB hq hw hf
  go_enter Try.func8, Try.ntmps8
  go_wp2_with fail
  refine (wide_any t q _ v3 _ _ (HB.out.to (below1 w _)) (HQ.out.to (below1 w _)) hl).mono ?_
  rw [HW.out]
  rintro e w1 ⟨rfl, hb1⟩
  obtain ⟨p0, p1, p2, hz, hw1⟩ := box3 hb1
  clear hb1
  go_wp2_with fail
  refine (rfits_any t q _ v3 _ _ (HT.out.to hw1) (HQ.out.to hw1) hl3).mono ?_
  rw [HF.out]
  rintro e w2 ⟨rfl, hb2⟩
  replace p0 := keepc hb2 p0
  replace p1 := keepc hb2 p1
  replace p2 := keepc hb2 p2
  have hw2 := bnext hw1 hb2
  go_wp2_with fail
  refine (awake_any _).mono ?_
  rintro e wz ⟨rfl, hbz⟩
  go_wp2_with fail
  go_ret
  exact ⟨rfl, bnext hw2 hbz⟩

set_option maxRecDepth 1000000 in
set_option maxHeartbeats 4000000 in
theorem cyclic_e4 (hB : TagBig w w.heap.size v2 v3 t) (hq : Elems w w.heap.size v (ints q)) (hl : q.length ≤ 17592186044416) (_ : n ≤ 255) (h1 : t.rules.length ≤ 40) (hw : wideB t q = false) (hf : fitsT t q = true) (h4 : q.length ≤ 400) (h5 : 16000 < sumL t.rules * t.rules.length) :
    Calls Try.prog 8 #[.agg #[.int .i64 t.del, v2, v3], v, .int .u8 n] w (Yes w) := by
  have HB := hid_ hB
  obtain ⟨A2, c2, rfl⟩ := hB.rules.form
  obtain ⟨A, c, rfl⟩ := hq.form
  rw [ints_len] at hq ⊢
  have HQ := hid_ hq
  have i1 : ¬ (40 : Int) < t.rules.length := by omega
  have HW := hid_ hw
  have HT := hid_ (hB.in_ hw)
  have hl3 : q.length ≤ 1000000 := by have := (wideB_no hw).1; omega
  have HF := hid_ hf
  have i4 : ¬ (400 : Int) < q.length := by omega
  have HV := hid_ (fitsT_parts hf).1
  obtain ⟨P, hP⟩ : ∃ P, P = sumL t.rules * t.rules.length := ⟨_, rfl⟩
  rw [← hP] at h5
  have HP := hid_ hP
  clear hP
  have i5 : (16000 : Int) < (P : Int) := by omega
  clear hB hq hw hf
  go_enter Try.func8, Try.ntmps8
  go_wp2_with fail
  refine (wide_any t q _ v3 _ _ (HB.out.to (below1 w _)) (HQ.out.to (below1 w _)) hl).mono ?_
  rw [HW.out]
  rintro e w1 ⟨rfl, hb1⟩
  obtain ⟨p0, p1, p2, hz, hw1⟩ := box3 hb1
  clear hb1
  go_wp2_with fail
  refine (rfits_any t q _ v3 _ _ (HT.out.to hw1) (HQ.out.to hw1) hl3).mono ?_
  rw [HF.out]
  rintro e w2 ⟨rfl, hb2⟩
  replace p0 := keepc hb2 p0
  replace p1 := keepc hb2 p1
  replace p2 := keepc hb2 p2
  have hw2 := bnext hw1 hb2
  go_wp2_with fail
  refine (rules_any t _ v3 _ (HT.out.to hw2) HV.out).mono ?_
  rw [← HP.out]
  rintro e w3 ⟨rfl, hb3⟩
  have hw3 := bnext hw2 hb3
  go_wp2_with fail
  refine (awake_any _).mono ?_
  rintro e wz ⟨rfl, hbz⟩
  go_wp2_with fail
  go_ret
  exact ⟨rfl, bnext hw3 hbz⟩

set_option maxRecDepth 1000000 in
set_option maxHeartbeats 4000000 in
theorem cyclic_e5 (hB : TagBig w w.heap.size v2 v3 t) (hq : Elems w w.heap.size v (ints q)) (hl : q.length ≤ 17592186044416) (hn8 : n ≤ 255) (h1 : t.rules.length ≤ 40) (hw : wideB t q = false) (hf : fitsT t q = true) (h4 : q.length ≤ 400) (h5 : ¬ 16000 < sumL t.rules * t.rules.length) (h6 : 12 < n) :
    Calls Try.prog 8 #[.agg #[.int .i64 t.del, v2, v3], v, .int .u8 n] w (Yes w) := by
  have HB := hid_ hB
  obtain ⟨A2, c2, rfl⟩ := hB.rules.form
  obtain ⟨A, c, rfl⟩ := hq.form
  rw [ints_len] at hq ⊢
  have HQ := hid_ hq
  have i1 : ¬ (40 : Int) < t.rules.length := by omega
  have HW := hid_ hw
  have HT := hid_ (hB.in_ hw)
  have hl3 : q.length ≤ 1000000 := by have := (wideB_no hw).1; omega
  have HF := hid_ hf
  have i4 : ¬ (400 : Int) < q.length := by omega
  have HV := hid_ (fitsT_parts hf).1
  obtain ⟨P, hP⟩ : ∃ P, P = sumL t.rules * t.rules.length := ⟨_, rfl⟩
  rw [← hP] at h5
  have HP := hid_ hP
  clear hP
  have i5 : ¬ (16000 : Int) < (P : Int) := by omega
  have i6 : (12 : Int) < (n : Int) := by omega
  clear hB hq hw hf
  go_enter Try.func8, Try.ntmps8
  go_wp2_with fail
  refine (wide_any t q _ v3 _ _ (HB.out.to (below1 w _)) (HQ.out.to (below1 w _)) hl).mono ?_
  rw [HW.out]
  rintro e w1 ⟨rfl, hb1⟩
  obtain ⟨p0, p1, p2, hz, hw1⟩ := box3 hb1
  clear hb1
  go_wp2_with fail
  refine (rfits_any t q _ v3 _ _ (HT.out.to hw1) (HQ.out.to hw1) hl3).mono ?_
  rw [HF.out]
  rintro e w2 ⟨rfl, hb2⟩
  replace p0 := keepc hb2 p0
  replace p1 := keepc hb2 p1
  replace p2 := keepc hb2 p2
  have hw2 := bnext hw1 hb2
  go_wp2_with fail
  refine (rules_any t _ v3 _ (HT.out.to hw2) HV.out).mono ?_
  rw [← HP.out]
  rintro e w3 ⟨rfl, hb3⟩
  have hw3 := bnext hw2 hb3
  go_wp2_with fail
  refine (awake_any _).mono ?_
  rintro e wz ⟨rfl, hbz⟩
  go_wp2_with fail
  go_ret
  exact ⟨rfl, bnext hw3 hbz⟩
end
end Go.Proofs.Ytpnjffdjoacejaa

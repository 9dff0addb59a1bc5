/- The law TagRuns where the queue fits the system: it has stopped. -/
import Derived.Test.YtpnjffdjoacejaaLc
namespace Go.Proofs.Ytpnjffdjoacejaa
open Go.RowKit

set_option maxRecDepth 1000000 in
set_option maxHeartbeats 8000000 in
theorem runs_stop_neg (dn : Nat) (rules : List (List Int)) (stops : List Bool) (q : List Int) (v2 v3 v : Value) (w : World) (hB : TagBig w w.heap.size v2 v3 ⟨dn, rules, stops⟩) (hq : Elems w w.heap.size v (ints q)) (hl : q.length ≤ 17592186044416) (hw : wideB ⟨dn, rules, stops⟩ q = false) (hf : fitsT ⟨dn, rules, stops⟩ q = true) (hs : stoppedT ⟨dn, rules, stops⟩ q = true) (n : Int) (hn : n < 0) :
    Calls Try.prog 3 #[.agg #[.int .i64 dn, v2, v3], v, .int .i64 n] w (Yes w) := by
  have HR := hid_ (runTS_out (n := n) hf (by omega))
  have hn3 : n ≤ 300 := by omega
  have HB := hid_ hB
  have HT := hid_ (hB.in_ hw)
  have hl2 := (wideB_no hw).1
  have HQ := hid_ hq
  have HW := hid_ hw
  have HF := hid_ hf
  have HV := hid_ (fitsT_parts hf).1
  have HS := hid_ hs
  have HST : Hid (stepTS ⟨dn, rules, stops⟩ q = ⟨[], 0, 5⟩) := hid_ (stepTS_stop hf hs)
  have hl3 : q.length ≤ 1000000 := by omega
  clear hB hq hw hf hs
  go_enter Try.func3, Try.ntmps3
  go_wp2_with fail
  refine (wide_any ⟨dn, rules, stops⟩ q v2 v3 v _ (HB.out.to (below1 w _)) (HQ.out.to (below1 w _)) hl).mono ?_
  rw [HW.out]
  rintro e w1 ⟨rfl, hb1⟩
  obtain ⟨p0, p1, p2, hz, hw1⟩ := box3 hb1
  clear hb1
  go_wp2_with fail
  have hS : w1.cell? ⟨w.heap.size, 0, none⟩ = some (.int .i64 dn) ∧ w1.cell? ⟨w.heap.size, 1, none⟩ = some v2 ∧ w1.cell? ⟨w.heap.size, 2, none⟩ = some v3 ∧ Below w.heap.size w w1 := ⟨p0, p1, p2, hw1⟩
  go_region_held3 (fun w' => w'.cell? ⟨w.heap.size, 0, none⟩ = some (.int .i64 dn) ∧ w'.cell? ⟨w.heap.size, 1, none⟩ = some v2 ∧ w'.cell? ⟨w.heap.size, 2, none⟩ = some v3 ∧ Below w.heap.size w w')
    (first | assumption | exact ⟨p0, p1, p2, hw1.drew⟩ | exact keepT hba (by assumption) | exact keepT hbb (by assumption) | exact keepT hbc (by assumption) | exact keepT hbd (by assumption))
    (first
      | (go_at_call 12; refine (valid_any ⟨dn, rules, stops⟩ v2 v3 _ (HT.out.to (by first | exact hw1.drew | exact (And.right (And.right (And.right (by assumption))))))).mono ?_; rw [HV.out]; rintro e wa ⟨rfl, hba⟩)
      | (go_at_call 13; refine (rvalid_any ⟨dn, rules, stops⟩ v2 v3 _ (HT.out.to (by first | exact hw1.drew | exact (And.right (And.right (And.right (by assumption))))))).mono ?_; rw [HV.out]; rintro e wb ⟨rfl, hbb⟩)
      | (go_at_call 14; refine (fits_any ⟨dn, rules, stops⟩ q v2 v3 v _ (HT.out.to (by first | exact hw1.drew | exact (And.right (And.right (And.right (by assumption)))))) (HQ.out.to (by first | exact hw1.drew | exact (And.right (And.right (And.right (by assumption)))))) hl3).mono ?_; rw [HF.out]; rintro e wc ⟨rfl, hbc⟩)
      | (go_at_call 15; refine (rfits_any ⟨dn, rules, stops⟩ q v2 v3 v _ (HT.out.to (by first | exact hw1.drew | exact (And.right (And.right (And.right (by assumption)))))) (HQ.out.to (by first | exact hw1.drew | exact (And.right (And.right (And.right (by assumption)))))) hl3).mono ?_; rw [HF.out]; rintro e wd ⟨rfl, hbd⟩))
  go_wp2_with fail
  obtain ⟨p0, p1, p2, hwd⟩ : wd.cell? ⟨w.heap.size, 0, none⟩ = some (.int .i64 dn) ∧ wd.cell? ⟨w.heap.size, 1, none⟩ = some v2 ∧ wd.cell? ⟨w.heap.size, 2, none⟩ = some v3 ∧ Below w.heap.size w wd := (by assumption)
  clear hS hw1 hba hbb hbc hbd
  refine (step_any ⟨dn, rules, stops⟩ q v2 v3 v wd (HT.out.to hwd) (HQ.out.to hwd) hl3).mono ?_
  rw [HST.out]
  rintro e we ⟨va, rfl, hEa, hbe⟩
  obtain ⟨Aa, ca, rfl⟩ := hEa.form
  simp only at hEa
  have HEa := hid_ hEa
  have hwe := bnext hwd hbe
  replace p0 := keepc hbe p0
  replace p1 := keepc hbe p1
  replace p2 := keepc hbe p2
  clear hEa
  rw [show (ints ([] : List Int)).length = 0 from rfl]
  rw [show (ints ([] : List Int)).length = 0 from rfl] at HEa
  go_wp2_with fail
  refine (run_any ⟨dn, rules, stops⟩ q n v2 v3 v we (HT.out.to hwe) (HQ.out.to hwe) hl3).mono ?_
  rw [HR.out]
  rintro e wf ⟨vb, rfl, hEb, hbf⟩
  obtain ⟨Ab, cb, rfl⟩ := hEb.form
  simp only at hEb
  have HEb := hid_ hEb
  have hwf := bnext hwe hbf
  replace p0 := keepc hbf p0
  replace p1 := keepc hbf p1
  replace p2 := keepc hbf p2
  have HEa1 := hid_ (HEa.out.to hbf)
  clear hEb
  rw [show (ints ([] : List Int)).length = 0 from rfl]
  rw [show (ints ([] : List Int)).length = 0 from rfl] at HEb
  go_wp2_with fail
  refine (rfits_any ⟨dn, rules, stops⟩ q v2 v3 v wf (HT.out.to hwf) (HQ.out.to hwf) hl3).mono ?_
  rw [HF.out]
  rintro e wg ⟨rfl, hbg⟩
  have hwg := bnext hwf hbg
  replace p0 := keepc hbg p0
  replace p1 := keepc hbg p1
  replace p2 := keepc hbg p2
  have HEa2 := hid_ (HEa1.out.to hbg)
  have HEb1 := hid_ (HEb.out.to hbg)
  go_wp2_with fail
  refine (rstopped_any ⟨dn, rules, stops⟩ q v2 v3 v wg (HT.out.to hwg) (HQ.out.to hwg) HF.out).mono ?_
  rw [HS.out]
  rintro e wh ⟨rfl, hbh⟩
  have hwh := bnext hwg hbh
  replace p0 := keepc hbh p0
  replace p1 := keepc hbh p1
  replace p2 := keepc hbh p2
  have HEa3 := hid_ (HEa2.out.to hbh)
  have HEb2 := hid_ (HEb1.out.to hbh)
  go_wp2_with fail
  refine (awake_any _).mono ?_
  rintro e wz ⟨rfl, hbz⟩
  go_wp2_with fail
  go_ret
  exact ⟨rfl, bnext hwh hbz⟩

set_option maxRecDepth 1000000 in
set_option maxHeartbeats 8000000 in
theorem runs_stop_far (dn : Nat) (rules : List (List Int)) (stops : List Bool) (q : List Int) (v2 v3 v : Value) (w : World) (hB : TagBig w w.heap.size v2 v3 ⟨dn, rules, stops⟩) (hq : Elems w w.heap.size v (ints q)) (hl : q.length ≤ 17592186044416) (hw : wideB ⟨dn, rules, stops⟩ q = false) (hf : fitsT ⟨dn, rules, stops⟩ q = true) (hs : stoppedT ⟨dn, rules, stops⟩ q = true) (n : Int) (hn : 300 < n) (hn2 : 1000000 < n) :
    Calls Try.prog 3 #[.agg #[.int .i64 dn, v2, v3], v, .int .i64 n] w (Yes w) := by
  have HR := hid_ (runTS_out (n := n) hf (by omega))
  have HB := hid_ hB
  have HT := hid_ (hB.in_ hw)
  have hl2 := (wideB_no hw).1
  have HQ := hid_ hq
  have HW := hid_ hw
  have HF := hid_ hf
  have HV := hid_ (fitsT_parts hf).1
  have HS := hid_ hs
  have HST : Hid (stepTS ⟨dn, rules, stops⟩ q = ⟨[], 0, 5⟩) := hid_ (stepTS_stop hf hs)
  have hl3 : q.length ≤ 1000000 := by omega
  clear hB hq hw hf hs
  go_enter Try.func3, Try.ntmps3
  go_wp2_with fail
  refine (wide_any ⟨dn, rules, stops⟩ q v2 v3 v _ (HB.out.to (below1 w _)) (HQ.out.to (below1 w _)) hl).mono ?_
  rw [HW.out]
  rintro e w1 ⟨rfl, hb1⟩
  obtain ⟨p0, p1, p2, hz, hw1⟩ := box3 hb1
  clear hb1
  go_wp2_with fail
  have hS : w1.cell? ⟨w.heap.size, 0, none⟩ = some (.int .i64 dn) ∧ w1.cell? ⟨w.heap.size, 1, none⟩ = some v2 ∧ w1.cell? ⟨w.heap.size, 2, none⟩ = some v3 ∧ Below w.heap.size w w1 := ⟨p0, p1, p2, hw1⟩
  go_region_held3 (fun w' => w'.cell? ⟨w.heap.size, 0, none⟩ = some (.int .i64 dn) ∧ w'.cell? ⟨w.heap.size, 1, none⟩ = some v2 ∧ w'.cell? ⟨w.heap.size, 2, none⟩ = some v3 ∧ Below w.heap.size w w')
    (first | assumption | exact ⟨p0, p1, p2, hw1.drew⟩ | exact keepT hba (by assumption) | exact keepT hbb (by assumption) | exact keepT hbc (by assumption) | exact keepT hbd (by assumption))
    (first
      | (go_at_call 12; refine (valid_any ⟨dn, rules, stops⟩ v2 v3 _ (HT.out.to (by first | exact hw1.drew | exact (And.right (And.right (And.right (by assumption))))))).mono ?_; rw [HV.out]; rintro e wa ⟨rfl, hba⟩)
      | (go_at_call 13; refine (rvalid_any ⟨dn, rules, stops⟩ v2 v3 _ (HT.out.to (by first | exact hw1.drew | exact (And.right (And.right (And.right (by assumption))))))).mono ?_; rw [HV.out]; rintro e wb ⟨rfl, hbb⟩)
      | (go_at_call 14; refine (fits_any ⟨dn, rules, stops⟩ q v2 v3 v _ (HT.out.to (by first | exact hw1.drew | exact (And.right (And.right (And.right (by assumption)))))) (HQ.out.to (by first | exact hw1.drew | exact (And.right (And.right (And.right (by assumption)))))) hl3).mono ?_; rw [HF.out]; rintro e wc ⟨rfl, hbc⟩)
      | (go_at_call 15; refine (rfits_any ⟨dn, rules, stops⟩ q v2 v3 v _ (HT.out.to (by first | exact hw1.drew | exact (And.right (And.right (And.right (by assumption)))))) (HQ.out.to (by first | exact hw1.drew | exact (And.right (And.right (And.right (by assumption)))))) hl3).mono ?_; rw [HF.out]; rintro e wd ⟨rfl, hbd⟩))
  go_wp2_with fail
  obtain ⟨p0, p1, p2, hwd⟩ : wd.cell? ⟨w.heap.size, 0, none⟩ = some (.int .i64 dn) ∧ wd.cell? ⟨w.heap.size, 1, none⟩ = some v2 ∧ wd.cell? ⟨w.heap.size, 2, none⟩ = some v3 ∧ Below w.heap.size w wd := (by assumption)
  clear hS hw1 hba hbb hbc hbd
  refine (step_any ⟨dn, rules, stops⟩ q v2 v3 v wd (HT.out.to hwd) (HQ.out.to hwd) hl3).mono ?_
  rw [HST.out]
  rintro e we ⟨va, rfl, hEa, hbe⟩
  obtain ⟨Aa, ca, rfl⟩ := hEa.form
  simp only at hEa
  have HEa := hid_ hEa
  have hwe := bnext hwd hbe
  replace p0 := keepc hbe p0
  replace p1 := keepc hbe p1
  replace p2 := keepc hbe p2
  clear hEa
  rw [show (ints ([] : List Int)).length = 0 from rfl]
  rw [show (ints ([] : List Int)).length = 0 from rfl] at HEa
  go_wp2_with fail
  refine (run_any ⟨dn, rules, stops⟩ q n v2 v3 v we (HT.out.to hwe) (HQ.out.to hwe) hl3).mono ?_
  rw [HR.out]
  rintro e wf ⟨vb, rfl, hEb, hbf⟩
  obtain ⟨Ab, cb, rfl⟩ := hEb.form
  simp only at hEb
  have HEb := hid_ hEb
  have hwf := bnext hwe hbf
  replace p0 := keepc hbf p0
  replace p1 := keepc hbf p1
  replace p2 := keepc hbf p2
  have HEa1 := hid_ (HEa.out.to hbf)
  clear hEb
  rw [show (ints ([] : List Int)).length = 0 from rfl]
  rw [show (ints ([] : List Int)).length = 0 from rfl] at HEb
  go_wp2_with fail
  refine (rfits_any ⟨dn, rules, stops⟩ q v2 v3 v wf (HT.out.to hwf) (HQ.out.to hwf) hl3).mono ?_
  rw [HF.out]
  rintro e wg ⟨rfl, hbg⟩
  have hwg := bnext hwf hbg
  replace p0 := keepc hbg p0
  replace p1 := keepc hbg p1
  replace p2 := keepc hbg p2
  have HEa2 := hid_ (HEa1.out.to hbg)
  have HEb1 := hid_ (HEb.out.to hbg)
  go_wp2_with fail
  refine (rstopped_any ⟨dn, rules, stops⟩ q v2 v3 v wg (HT.out.to hwg) (HQ.out.to hwg) HF.out).mono ?_
  rw [HS.out]
  rintro e wh ⟨rfl, hbh⟩
  have hwh := bnext hwg hbh
  replace p0 := keepc hbh p0
  replace p1 := keepc hbh p1
  replace p2 := keepc hbh p2
  have HEa3 := hid_ (HEa2.out.to hbh)
  have HEb2 := hid_ (HEb1.out.to hbh)
  go_wp2_with fail
  refine (awake_any _).mono ?_
  rintro e wz ⟨rfl, hbz⟩
  go_wp2_with fail
  go_ret
  exact ⟨rfl, bnext hwh hbz⟩

set_option maxRecDepth 1000000 in
set_option maxHeartbeats 8000000 in
theorem runs_stop_none (dn : Nat) (rules : List (List Int)) (stops : List Bool) (q : List Int) (v2 v3 v : Value) (w : World) (hB : TagBig w w.heap.size v2 v3 ⟨dn, rules, stops⟩) (hq : Elems w w.heap.size v (ints q)) (hl : q.length ≤ 17592186044416) (hw : wideB ⟨dn, rules, stops⟩ q = false) (hf : fitsT ⟨dn, rules, stops⟩ q = true) (hs : stoppedT ⟨dn, rules, stops⟩ q = true) (N : Nat) (hN : N ≤ 300) (ho : runT ⟨dn, rules, stops⟩ N q = none) :
    Calls Try.prog 3 #[.agg #[.int .i64 dn, v2, v3], v, .int .i64 N] w (Yes w) := by
  have HR : Hid (runTS ⟨dn, rules, stops⟩ q N = ⟨[], 0, 4⟩) := hid_ (by rw [runTS_in hf (by omega), ho]; rfl)
  have HRT := hid_ ho
  have hN2 : (N : Int) ≤ 300 := by omega
  clear ho
  have HB := hid_ hB
  have HT := hid_ (hB.in_ hw)
  have hl2 := (wideB_no hw).1
  have HQ := hid_ hq
  have HW := hid_ hw
  have HF := hid_ hf
  have HV := hid_ (fitsT_parts hf).1
  have HS := hid_ hs
  have HST : Hid (stepTS ⟨dn, rules, stops⟩ q = ⟨[], 0, 5⟩) := hid_ (stepTS_stop hf hs)
  have hl3 : q.length ≤ 1000000 := by omega
  clear hB hq hw hf hs
  go_enter Try.func3, Try.ntmps3
  go_wp2_with fail
  refine (wide_any ⟨dn, rules, stops⟩ q v2 v3 v _ (HB.out.to (below1 w _)) (HQ.out.to (below1 w _)) hl).mono ?_
  rw [HW.out]
  rintro e w1 ⟨rfl, hb1⟩
  obtain ⟨p0, p1, p2, hz, hw1⟩ := box3 hb1
  clear hb1
  go_wp2_with fail
  have hS : w1.cell? ⟨w.heap.size, 0, none⟩ = some (.int .i64 dn) ∧ w1.cell? ⟨w.heap.size, 1, none⟩ = some v2 ∧ w1.cell? ⟨w.heap.size, 2, none⟩ = some v3 ∧ Below w.heap.size w w1 := ⟨p0, p1, p2, hw1⟩
  go_region_held3 (fun w' => w'.cell? ⟨w.heap.size, 0, none⟩ = some (.int .i64 dn) ∧ w'.cell? ⟨w.heap.size, 1, none⟩ = some v2 ∧ w'.cell? ⟨w.heap.size, 2, none⟩ = some v3 ∧ Below w.heap.size w w')
    (first | assumption | exact ⟨p0, p1, p2, hw1.drew⟩ | exact keepT hba (by assumption) | exact keepT hbb (by assumption) | exact keepT hbc (by assumption) | exact keepT hbd (by assumption))
    (first
      | (go_at_call 12; refine (valid_any ⟨dn, rules, stops⟩ v2 v3 _ (HT.out.to (by first | exact hw1.drew | exact (And.right (And.right (And.right (by assumption))))))).mono ?_; rw [HV.out]; rintro e wa ⟨rfl, hba⟩)
      | (go_at_call 13; refine (rvalid_any ⟨dn, rules, stops⟩ v2 v3 _ (HT.out.to (by first | exact hw1.drew | exact (And.right (And.right (And.right (by assumption))))))).mono ?_; rw [HV.out]; rintro e wb ⟨rfl, hbb⟩)
      | (go_at_call 14; refine (fits_any ⟨dn, rules, stops⟩ q v2 v3 v _ (HT.out.to (by first | exact hw1.drew | exact (And.right (And.right (And.right (by assumption)))))) (HQ.out.to (by first | exact hw1.drew | exact (And.right (And.right (And.right (by assumption)))))) hl3).mono ?_; rw [HF.out]; rintro e wc ⟨rfl, hbc⟩)
      | (go_at_call 15; refine (rfits_any ⟨dn, rules, stops⟩ q v2 v3 v _ (HT.out.to (by first | exact hw1.drew | exact (And.right (And.right (And.right (by assumption)))))) (HQ.out.to (by first | exact hw1.drew | exact (And.right (And.right (And.right (by assumption)))))) hl3).mono ?_; rw [HF.out]; rintro e wd ⟨rfl, hbd⟩))
  go_wp2_with fail
  obtain ⟨p0, p1, p2, hwd⟩ : wd.cell? ⟨w.heap.size, 0, none⟩ = some (.int .i64 dn) ∧ wd.cell? ⟨w.heap.size, 1, none⟩ = some v2 ∧ wd.cell? ⟨w.heap.size, 2, none⟩ = some v3 ∧ Below w.heap.size w wd := (by assumption)
  clear hS hw1 hba hbb hbc hbd
  refine (step_any ⟨dn, rules, stops⟩ q v2 v3 v wd (HT.out.to hwd) (HQ.out.to hwd) hl3).mono ?_
  rw [HST.out]
  rintro e we ⟨va, rfl, hEa, hbe⟩
  obtain ⟨Aa, ca, rfl⟩ := hEa.form
  simp only at hEa
  have HEa := hid_ hEa
  have hwe := bnext hwd hbe
  replace p0 := keepc hbe p0
  replace p1 := keepc hbe p1
  replace p2 := keepc hbe p2
  clear hEa
  rw [show (ints ([] : List Int)).length = 0 from rfl]
  rw [show (ints ([] : List Int)).length = 0 from rfl] at HEa
  go_wp2_with fail
  refine (run_any ⟨dn, rules, stops⟩ q N v2 v3 v we (HT.out.to hwe) (HQ.out.to hwe) hl3).mono ?_
  rw [HR.out]
  rintro e wf ⟨vb, rfl, hEb, hbf⟩
  obtain ⟨Ab, cb, rfl⟩ := hEb.form
  simp only at hEb
  have HEb := hid_ hEb
  have hwf := bnext hwe hbf
  replace p0 := keepc hbf p0
  replace p1 := keepc hbf p1
  replace p2 := keepc hbf p2
  have HEa1 := hid_ (HEa.out.to hbf)
  clear hEb
  rw [show (ints ([] : List Int)).length = 0 from rfl]
  rw [show (ints ([] : List Int)).length = 0 from rfl] at HEb
  go_wp2_with fail
  refine (rfits_any ⟨dn, rules, stops⟩ q v2 v3 v wf (HT.out.to hwf) (HQ.out.to hwf) hl3).mono ?_
  rw [HF.out]
  rintro e wg ⟨rfl, hbg⟩
  have hwg := bnext hwf hbg
  replace p0 := keepc hbg p0
  replace p1 := keepc hbg p1
  replace p2 := keepc hbg p2
  have HEa2 := hid_ (HEa1.out.to hbg)
  have HEb1 := hid_ (HEb.out.to hbg)
  go_wp2_with fail
  refine (rstopped_any ⟨dn, rules, stops⟩ q v2 v3 v wg (HT.out.to hwg) (HQ.out.to hwg) HF.out).mono ?_
  rw [HS.out]
  rintro e wh ⟨rfl, hbh⟩
  have hwh := bnext hwg hbh
  replace p0 := keepc hbh p0
  replace p1 := keepc hbh p1
  replace p2 := keepc hbh p2
  have HEa3 := hid_ (HEa2.out.to hbh)
  have HEb2 := hid_ (HEb1.out.to hbh)
  go_wp2_with fail
  refine (rrun_any dn N rules stops q v2 v3 v wh (HT.out.to hwh) (HQ.out.to hwh) HF.out (by omega)).mono ?_
  rw [HRT.out]
  rintro e wl ⟨vl, rfl, hEl, hbl⟩
  obtain ⟨Al, cl, rfl⟩ := hEl.form
  have HEl : Hid (Elems wl wl.heap.size (.slice Al (ints []).length cl) (ints [])) := hid_ hEl
  have hwl := bnext hwh hbl
  have HEb9 := hid_ (HEb2.out.to hbl)
  clear hEl
  rw [show (tresOf none).q = [] from rfl, show (tresOf none).k = 0 from rfl, show decide ((tresOf none).err = 0) = false from rfl]
  rw [ints_len] at HEl ⊢
  go_wp2_with fail
  refine (size_any false wl).mono ?_
  rw [show sizeI false = 4 from rfl]
  rintro e wm ⟨rfl, rfl⟩
  go_wp2_with fail
  refine (same_any [] [] _ _ wl HEb9.out HEl.out (by simp)).mono ?_
  rw [decide_eq_true (rfl : [] = [])]
  rintro e wn ⟨rfl, nn, rfl⟩
  go_wp2_with fail
  refine (awake_any _).mono ?_
  rintro e wz ⟨rfl, hbz⟩
  go_wp2_with fail
  go_ret
  exact ⟨rfl, bnext (bnext hwl (below_drewN (Below.refl wl.heap.size wl) nn)) hbz⟩

set_option maxRecDepth 1000000 in
set_option maxHeartbeats 8000000 in
theorem runs_stop_some (dn : Nat) (rules : List (List Int)) (stops : List Bool) (q : List Int) (v2 v3 v : Value) (w : World) (hB : TagBig w w.heap.size v2 v3 ⟨dn, rules, stops⟩) (hq : Elems w w.heap.size v (ints q)) (hl : q.length ≤ 17592186044416) (hw : wideB ⟨dn, rules, stops⟩ q = false) (hf : fitsT ⟨dn, rules, stops⟩ q = true) (hs : stoppedT ⟨dn, rules, stops⟩ q = true) (N : Nat) (hN : N ≤ 300) (r : List Int × Nat) (ho : runT ⟨dn, rules, stops⟩ N q = some r) :
    Calls Try.prog 3 #[.agg #[.int .i64 dn, v2, v3], v, .int .i64 N] w (Yes w) := by
  have HR : Hid (runTS ⟨dn, rules, stops⟩ q N = ⟨r.1, r.2, 0⟩) := hid_ (by rw [runTS_in hf (by omega), ho]; rfl)
  have HRT := hid_ ho
  have hrf := runT_fits hf ho
  have hrl := (fitsT_parts hrf.1).2.1
  have hr2 : r.2 ≤ 300 := by omega
  clear hrf
  have hN2 : (N : Int) ≤ 300 := by omega
  clear ho
  have HB := hid_ hB
  have HT := hid_ (hB.in_ hw)
  have hl2 := (wideB_no hw).1
  have HQ := hid_ hq
  have HW := hid_ hw
  have HF := hid_ hf
  have HV := hid_ (fitsT_parts hf).1
  have HS := hid_ hs
  have HST : Hid (stepTS ⟨dn, rules, stops⟩ q = ⟨[], 0, 5⟩) := hid_ (stepTS_stop hf hs)
  have hl3 : q.length ≤ 1000000 := by omega
  clear hB hq hw hf hs
  go_enter Try.func3, Try.ntmps3
  go_wp2_with fail
  refine (wide_any ⟨dn, rules, stops⟩ q v2 v3 v _ (HB.out.to (below1 w _)) (HQ.out.to (below1 w _)) hl).mono ?_
  rw [HW.out]
  rintro e w1 ⟨rfl, hb1⟩
  obtain ⟨p0, p1, p2, hz, hw1⟩ := box3 hb1
  clear hb1
  go_wp2_with fail
  have hS : w1.cell? ⟨w.heap.size, 0, none⟩ = some (.int .i64 dn) ∧ w1.cell? ⟨w.heap.size, 1, none⟩ = some v2 ∧ w1.cell? ⟨w.heap.size, 2, none⟩ = some v3 ∧ Below w.heap.size w w1 := ⟨p0, p1, p2, hw1⟩
  go_region_held3 (fun w' => w'.cell? ⟨w.heap.size, 0, none⟩ = some (.int .i64 dn) ∧ w'.cell? ⟨w.heap.size, 1, none⟩ = some v2 ∧ w'.cell? ⟨w.heap.size, 2, none⟩ = some v3 ∧ Below w.heap.size w w')
    (first | assumption | exact ⟨p0, p1, p2, hw1.drew⟩ | exact keepT hba (by assumption) | exact keepT hbb (by assumption) | exact keepT hbc (by assumption) | exact keepT hbd (by assumption))
    (first
      | (go_at_call 12; refine (valid_any ⟨dn, rules, stops⟩ v2 v3 _ (HT.out.to (by first | exact hw1.drew | exact (And.right (And.right (And.right (by assumption))))))).mono ?_; rw [HV.out]; rintro e wa ⟨rfl, hba⟩)
      | (go_at_call 13; refine (rvalid_any ⟨dn, rules, stops⟩ v2 v3 _ (HT.out.to (by first | exact hw1.drew | exact (And.right (And.right (And.right (by assumption))))))).mono ?_; rw [HV.out]; rintro e wb ⟨rfl, hbb⟩)
      | (go_at_call 14; refine (fits_any ⟨dn, rules, stops⟩ q v2 v3 v _ (HT.out.to (by first | exact hw1.drew | exact (And.right (And.right (And.right (by assumption)))))) (HQ.out.to (by first | exact hw1.drew | exact (And.right (And.right (And.right (by assumption)))))) hl3).mono ?_; rw [HF.out]; rintro e wc ⟨rfl, hbc⟩)
      | (go_at_call 15; refine (rfits_any ⟨dn, rules, stops⟩ q v2 v3 v _ (HT.out.to (by first | exact hw1.drew | exact (And.right (And.right (And.right (by assumption)))))) (HQ.out.to (by first | exact hw1.drew | exact (And.right (And.right (And.right (by assumption)))))) hl3).mono ?_; rw [HF.out]; rintro e wd ⟨rfl, hbd⟩))
  go_wp2_with fail
  obtain ⟨p0, p1, p2, hwd⟩ : wd.cell? ⟨w.heap.size, 0, none⟩ = some (.int .i64 dn) ∧ wd.cell? ⟨w.heap.size, 1, none⟩ = some v2 ∧ wd.cell? ⟨w.heap.size, 2, none⟩ = some v3 ∧ Below w.heap.size w wd := (by assumption)
  clear hS hw1 hba hbb hbc hbd
  refine (step_any ⟨dn, rules, stops⟩ q v2 v3 v wd (HT.out.to hwd) (HQ.out.to hwd) hl3).mono ?_
  rw [HST.out]
  rintro e we ⟨va, rfl, hEa, hbe⟩
  obtain ⟨Aa, ca, rfl⟩ := hEa.form
  simp only at hEa
  have HEa := hid_ hEa
  have hwe := bnext hwd hbe
  replace p0 := keepc hbe p0
  replace p1 := keepc hbe p1
  replace p2 := keepc hbe p2
  clear hEa
  rw [show (ints ([] : List Int)).length = 0 from rfl]
  rw [show (ints ([] : List Int)).length = 0 from rfl] at HEa
  go_wp2_with fail
  refine (run_any ⟨dn, rules, stops⟩ q N v2 v3 v we (HT.out.to hwe) (HQ.out.to hwe) hl3).mono ?_
  rw [HR.out]
  rintro e wf ⟨vb, rfl, hEb, hbf⟩
  obtain ⟨Ab, cb, rfl⟩ := hEb.form
  simp only at hEb
  have HEb := hid_ hEb
  have hwf := bnext hwe hbf
  replace p0 := keepc hbf p0
  replace p1 := keepc hbf p1
  replace p2 := keepc hbf p2
  have HEa1 := hid_ (HEa.out.to hbf)
  clear hEb
  rw [ints_len] at HEb ⊢
  go_wp2_with fail
  refine (rfits_any ⟨dn, rules, stops⟩ q v2 v3 v wf (HT.out.to hwf) (HQ.out.to hwf) hl3).mono ?_
  rw [HF.out]
  rintro e wg ⟨rfl, hbg⟩
  have hwg := bnext hwf hbg
  replace p0 := keepc hbg p0
  replace p1 := keepc hbg p1
  replace p2 := keepc hbg p2
  have HEa2 := hid_ (HEa1.out.to hbg)
  have HEb1 := hid_ (HEb.out.to hbg)
  go_wp2_with fail
  refine (rstopped_any ⟨dn, rules, stops⟩ q v2 v3 v wg (HT.out.to hwg) (HQ.out.to hwg) HF.out).mono ?_
  rw [HS.out]
  rintro e wh ⟨rfl, hbh⟩
  have hwh := bnext hwg hbh
  replace p0 := keepc hbh p0
  replace p1 := keepc hbh p1
  replace p2 := keepc hbh p2
  have HEa3 := hid_ (HEa2.out.to hbh)
  have HEb2 := hid_ (HEb1.out.to hbh)
  go_wp2_with fail
  refine (rrun_any dn N rules stops q v2 v3 v wh (HT.out.to hwh) (HQ.out.to hwh) HF.out (by omega)).mono ?_
  rw [HRT.out]
  rintro e wl ⟨vl, rfl, hEl, hbl⟩
  obtain ⟨Al, cl, rfl⟩ := hEl.form
  have HEl : Hid (Elems wl wl.heap.size (.slice Al (ints r.1).length cl) (ints r.1)) := hid_ hEl
  have hwl := bnext hwh hbl
  have HEb9 := hid_ (HEb2.out.to hbl)
  clear hEl
  rw [show (tresOf (some r)).q = r.1 from rfl, show (tresOf (some r)).k = r.2 from rfl, show decide ((tresOf (some r)).err = 0) = true from rfl]
  rw [ints_len] at HEl ⊢
  go_wp2_with fail
  refine (size_any true wl).mono ?_
  rw [show sizeI true = 0 from rfl]
  rintro e wm ⟨rfl, rfl⟩
  go_wp2_with fail
  refine (same_any r.1 r.1 _ _ wl HEb9.out HEl.out (by omega)).mono ?_
  rw [decide_eq_true (rfl : r.1 = r.1)]
  rintro e wn ⟨rfl, nn, rfl⟩
  go_wp2_with fail
  refine (awake_any _).mono ?_
  rintro e wz ⟨rfl, hbz⟩
  go_wp2_with fail
  go_ret
  exact ⟨rfl, bnext (bnext hwl (below_drewN (Below.refl wl.heap.size wl) nn)) hbz⟩
end Go.Proofs.Ytpnjffdjoacejaa

/- Words for the laws of the law package: a law's first test. -/
import Derived.Test.YtpnjffdjoacejaaLb
namespace Go.Proofs.Ytpnjffdjoacejaa
open Go.RowKit

theorem TagBig.to {w w' : World} {v2 v3 : Value} {t : TagS} (h : TagBig w w.heap.size v2 v3 t) (hb : Below w.heap.size w w') : TagBig w' w'.heap.size v2 v3 t :=
  ⟨h.rules.to hb, h.stops.to hb, h.lim⟩
theorem TagBig.in_ {w : World} {B : Nat} {v2 v3 : Value} {t : TagS} {q : List Int} (h : TagBig w B v2 v3 t) (hw : wideB t q = false) : TagIn w B v2 v3 t := by
  obtain ⟨_, h2, h3, h4⟩ := wideB_no hw
  exact ⟨h.rules, h.stops, by omega, by omega, fun r hr => by have := h4 r hr; omega⟩
/-- A law's answer. -/
def Yes (w : World) (e : Ending) (w' : World) : Prop := e = .returned (.bool true) ∧ Below w.heap.size w w'
theorem keepT {w0 w w' : World} {a1 a2 a3 : Addr} {x1 x2 x3 : Value} (hb : Below w.heap.size w w') (h : w.cell? a1 = some x1 ∧ w.cell? a2 = some x2 ∧ w.cell? a3 = some x3 ∧ Below w0.heap.size w0 w) : w'.cell? a1 = some x1 ∧ w'.cell? a2 = some x2 ∧ w'.cell? a3 = some x3 ∧ Below w0.heap.size w0 w' :=
  ⟨keepc hb h.1, keepc hb h.2.1, keepc hb h.2.2.1, bnext h.2.2.2 hb⟩

theorem stepTS_big {t : TagS} {q : List Int} (hf : fitsT t q = true) (hs : stoppedT t q = false) (hb : 100000 < (stepT t q).length) : stepTS t q = ⟨[], 0, 4⟩ := by
  rw [stepTS, if_neg (by rw [hf]; simp), if_neg (by rw [hs]; simp), runTS, if_neg (by rw [hf]; simp), if_neg (by omega), ← tbump_zero (runT t (Int.toNat 1) q), show Int.toNat 1 = 0 + 1 from rfl, runT_big hs hb]
  rfl
theorem stepTS_on {t : TagS} {q : List Int} (hf : fitsT t q = true) (hs : stoppedT t q = false) (hb : ¬ 100000 < (stepT t q).length) : stepTS t q = ⟨stepT t q, 1, 0⟩ := by
  rw [stepTS, if_neg (by rw [hf]; simp), if_neg (by rw [hs]; simp), runTS, if_neg (by rw [hf]; simp), if_neg (by omega), ← tbump_zero (runT t (Int.toNat 1) q), show Int.toNat 1 = 0 + 1 from rfl, runT_on hs hb]
  rfl
theorem stepTS_stop {t : TagS} {q : List Int} (hf : fitsT t q = true) (hs : stoppedT t q = true) : stepTS t q = ⟨[], 0, 5⟩ := by
  rw [stepTS, if_neg (by rw [hf]; simp), if_pos hs]
theorem runTS_in {t : TagS} {q : List Int} {N : Nat} (hf : fitsT t q = true) (hN : N ≤ 1000000) : runTS t q N = tresOf (runT t N q) := by
  rw [runTS, if_neg (by rw [hf]; simp), if_neg (by omega), Int.toNat_natCast]
theorem runTS_out {t : TagS} {q : List Int} {n : Int} (hf : fitsT t q = true) (hn : n < 0 ∨ 1000000 < n) : runTS t q n = ⟨[], 0, 2⟩ := by
  rw [runTS, if_neg (by rw [hf]; simp), if_pos hn]

section
variable (t : TagS) (q : List Int) (n : Int) (v2 v3 v : Value) (w : World)

set_option maxRecDepth 1000000 in
set_option maxHeartbeats 4000000 in
theorem runs_wide (hB : TagBig w w.heap.size v2 v3 t) (hq : Elems w w.heap.size v (ints q)) (hl : q.length ≤ 17592186044416) (hw : wideB t q = true) :
    Calls Try.prog 3 #[.agg #[.int .i64 t.del, v2, v3], v, .int .i64 n] w (Yes w) := by
  have HB := hid_ hB
  have HQ := hid_ hq
  have HW := hid_ hw
  clear hB hq hw
  go_enter Try.func3, Try.ntmps3
  go_wp2_with fail
  refine (wide_any t q v2 v3 v _ (HB.out.to (below1 w _)) (HQ.out.to (below1 w _)) hl).mono ?_
  rw [HW.out]
  rintro e w1 ⟨rfl, hb1⟩
  go_wp2_with fail
  refine (awake_any _).mono ?_
  rintro e w2 ⟨rfl, hb2⟩
  go_wp2_with fail
  go_ret
  exact ⟨rfl, bnext (bnext (below1 w _) hb1) hb2⟩

set_option maxRecDepth 1000000 in
set_option maxHeartbeats 4000000 in
theorem runs_far (hB : TagBig w w.heap.size v2 v3 t) (hq : Elems w w.heap.size v (ints q)) (hl : q.length ≤ 17592186044416) (hw : wideB t q = false) (h1 : 300 < n) (h2 : n ≤ 1000000) :
    Calls Try.prog 3 #[.agg #[.int .i64 t.del, v2, v3], v, .int .i64 n] w (Yes w) := by
  have HB := hid_ hB
  have HQ := hid_ hq
  have HW := hid_ hw
  clear hB hq hw
  go_enter Try.func3, Try.ntmps3
  go_wp2_with fail
  refine (wide_any t q v2 v3 v _ (HB.out.to (below1 w _)) (HQ.out.to (below1 w _)) hl).mono ?_
  rw [HW.out]
  rintro e w1 ⟨rfl, hb1⟩
  go_wp2_with fail
  refine (awake_any _).mono ?_
  rintro e w2 ⟨rfl, hb2⟩
  go_wp2_with fail
  go_ret
  exact ⟨rfl, bnext (bnext (below1 w _) hb1) hb2⟩

set_option maxRecDepth 1000000 in
set_option maxHeartbeats 4000000 in
theorem runs_bad (hB : TagBig w w.heap.size v2 v3 t) (hq : Elems w w.heap.size v (ints q)) (hl : q.length ≤ 17592186044416) (hw : wideB t q = false) (hn : n ≤ 300 ∨ (300 < n ∧ 1000000 < n)) (hf : fitsT t q = false) :
    Calls Try.prog 3 #[.agg #[.int .i64 t.del, v2, v3], v, .int .i64 n] w (Yes w) := by
  have HB := hid_ hB
  have HT := hid_ (hB.in_ hw)
  have hl2 := (wideB_no hw).1
  have HQ := hid_ hq
  have HW := hid_ hw
  have HF := hid_ hf
  have hl3 : q.length ≤ 1000000 := by omega
  clear hB hq hw hf
  rcases hn with hn | ⟨hn, hn2⟩
  all_goals cases hv : validT t
  all_goals
    have HV := hid_ hv
    clear hv
    go_enter Try.func3, Try.ntmps3
    go_wp2_with fail
    refine (wide_any t q v2 v3 v _ (HB.out.to (below1 w _)) (HQ.out.to (below1 w _)) hl).mono ?_
    rw [HW.out]
    rintro e w1 ⟨rfl, hb1⟩
    obtain ⟨p0, p1, p2, hz, hw1⟩ := box3 hb1
    clear hb1
    go_wp2_with fail
    have hS : w1.cell? ⟨w.heap.size, 0, none⟩ = some (.int .i64 t.del) ∧ w1.cell? ⟨w.heap.size, 1, none⟩ = some v2 ∧ w1.cell? ⟨w.heap.size, 2, none⟩ = some v3 ∧ Below w.heap.size w w1 := ⟨p0, p1, p2, hw1⟩
    go_region_held3 (fun w' => w'.cell? ⟨w.heap.size, 0, none⟩ = some (.int .i64 t.del) ∧ w'.cell? ⟨w.heap.size, 1, none⟩ = some v2 ∧ w'.cell? ⟨w.heap.size, 2, none⟩ = some v3 ∧ Below w.heap.size w w')
      (first | assumption | exact ⟨p0, p1, p2, hw1.drew⟩ | exact keepT hba (by assumption) | exact keepT hbb (by assumption) | exact keepT hbc (by assumption) | exact keepT hbd (by assumption))
      (first
        | (go_at_call 12; refine (valid_any t v2 v3 _ (HT.out.to (by first | exact hw1.drew | exact (And.right (And.right (And.right (by assumption))))))).mono ?_; rw [HV.out]; rintro e wa ⟨rfl, hba⟩)
        | (go_at_call 13; refine (rvalid_any t v2 v3 _ (HT.out.to (by first | exact hw1.drew | exact (And.right (And.right (And.right (by assumption))))))).mono ?_; rw [HV.out]; rintro e wb ⟨rfl, hbb⟩)
        | (go_at_call 14; refine (fits_any t q v2 v3 v _ (HT.out.to (by first | exact hw1.drew | exact (And.right (And.right (And.right (by assumption))))) ) (HQ.out.to (by first | exact hw1.drew | exact (And.right (And.right (And.right (by assumption)))))) hl3).mono ?_; rw [HF.out]; rintro e wc ⟨rfl, hbc⟩)
        | (go_at_call 15; refine (rfits_any t q v2 v3 v _ (HT.out.to (by first | exact hw1.drew | exact (And.right (And.right (And.right (by assumption)))))) (HQ.out.to (by first | exact hw1.drew | exact (And.right (And.right (And.right (by assumption)))))) hl3).mono ?_; rw [HF.out]; rintro e wd ⟨rfl, hbd⟩))
    go_wp2_with fail
    obtain ⟨p0, p1, p2, hwd⟩ : wd.cell? ⟨w.heap.size, 0, none⟩ = some (.int .i64 t.del) ∧ wd.cell? ⟨w.heap.size, 1, none⟩ = some v2 ∧ wd.cell? ⟨w.heap.size, 2, none⟩ = some v3 ∧ Below w.heap.size w wd := (by assumption)
    refine (step_any t q v2 v3 v wd (HT.out.to hwd) (HQ.out.to hwd) hl3).mono ?_
    rw [show stepTS t q = ⟨[], 0, 1⟩ from if_pos HF.out]
    rintro e we ⟨va, rfl, hEa, hbe⟩
    obtain ⟨Aa, ca, rfl⟩ := hEa.form
    rw [show (ints ([] : List Int)).length = 0 from rfl]
    have hwe := bnext hwd hbe
    replace p0 := keepc hbe p0
    replace p1 := keepc hbe p1
    replace p2 := keepc hbe p2
    clear hEa
    go_wp2_with fail
    refine (run_any t q n v2 v3 v we (HT.out.to hwe) (HQ.out.to hwe) hl3).mono ?_
    rw [show runTS t q n = ⟨[], 0, 1⟩ from if_pos HF.out]
    rintro e wf ⟨vb, rfl, hEb, hbf⟩
    obtain ⟨Ab, cb, rfl⟩ := hEb.form
    rw [show (ints ([] : List Int)).length = 0 from rfl]
    have hwf := bnext hwe hbf
    replace p0 := keepc hbf p0
    replace p1 := keepc hbf p1
    replace p2 := keepc hbf p2
    clear hEb
    go_wp2_with fail
    refine (rfits_any t q v2 v3 v wf (HT.out.to hwf) (HQ.out.to hwf) hl3).mono ?_
    rw [HF.out]
    rintro e wg ⟨rfl, hbg⟩
    go_wp2_with fail
    refine (awake_any _).mono ?_
    rintro e wh ⟨rfl, hbh⟩
    go_wp2_with fail
    go_ret
    exact ⟨rfl, bnext (bnext hwf hbg) hbh⟩
end
end Go.Proofs.Ytpnjffdjoacejaa

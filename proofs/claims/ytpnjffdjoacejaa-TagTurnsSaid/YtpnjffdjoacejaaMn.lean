/- The law TagTurns where the state fits (zero). -/
import Derived.Test.YtpnjffdjoacejaaMm
namespace Go.Proofs.Ytpnjffdjoacejaa
open Go.RowKit

set_option maxRecDepth 1000000 in
set_option maxHeartbeats 8000000 in
theorem turns_zero_neg (ws : List (List Int)) (a : Nat) (q : List Int) (v v2 : Value) (w : World) (hB : CycBig w w.heap.size v ws) (hq : Elems w w.heap.size v2 (ints q)) (hcap : Capped v2) (hl : q.length ≤ 17592186044416) (hw : wideC ws q = false) (hf : fitsC ws a q = true) (hz : q = []) (n : Int) (hn : n < 0) :
    Calls Try.prog 4 #[.agg #[v], .agg #[.int .i64 a, v2], .int .i64 n] w (Yes w) := by
  have HB := hid_ hB
  obtain ⟨A2, c2, rfl⟩ := hB.rows.form
  obtain ⟨A, c, rfl⟩ := hq.form
  rw [ints_len] at hq hcap ⊢
  have HQ := hid_ hq
  have hcp := hcap _ _ _ rfl
  have HW := hid_ hw
  have HT := hid_ (hB.in_ hw)
  have hl3 : q.length ≤ 1000000 := by have := wideC_no hw; omega
  have HF := hid_ hf
  have HV := hid_ (fitsC_parts hf).1
  have HTU : Hid (turnS ws a q = ⟨0, [], 0, 5⟩) := hid_ (turnS_zero hf hz)
  have HR := hid_ (rollS_out (n := n) hf (by omega))
  have hn3 : n ≤ 200 := by omega
  have hl0 : q.length = 0 := by rw [hz]; rfl
  have HZ := hid_ hz
  have HL0 := hid_ hl0
  have hlz : ((q.length : Int) == 0) = true := by rw [hl0]; rfl
  clear hl0
  clear hB hq hcap hw hf hz
  go_enter Try.func4, Try.ntmps4
  go_wp2_with fail
  refine (widec_any ws q _ a _ _ (HB.out.to (below2 w _ _)) (HQ.out.to (below2 w _ _)) hl).mono ?_
  rw [HW.out]
  rintro e w1 ⟨rfl, hb1⟩
  obtain ⟨p0, p1, p2, hz, hw1⟩ := box12 hb1
  clear hb1
  go_wp2_with fail
  have hS : w1.cell? ⟨w.heap.size, 0, none⟩ = some (.slice A2 ws.length c2) ∧ w1.cell? ⟨w.heap.size + 1, 0, none⟩ = some (.int .i64 a) ∧ w1.cell? ⟨w.heap.size + 1, 1, none⟩ = some (.slice A q.length c) ∧ Below w.heap.size w w1 := ⟨p0, p1, p2, hw1⟩
  go_region_held3 (fun w' => w'.cell? ⟨w.heap.size, 0, none⟩ = some (.slice A2 ws.length c2) ∧ w'.cell? ⟨w.heap.size + 1, 0, none⟩ = some (.int .i64 a) ∧ w'.cell? ⟨w.heap.size + 1, 1, none⟩ = some (.slice A q.length c) ∧ Below w.heap.size w w')
    (first | assumption | exact ⟨p0, p1, p2, hw1.drew⟩ | exact keepT hba (by assumption) | exact keepT hbb (by assumption) | exact keepT hbc (by assumption) | exact keepT hbd (by assumption))
    (first
      | (go_at_call 24; refine (vcyc_any ws _ _ (HT.out.to (by first | exact hw1.drew | exact (And.right (And.right (And.right (by assumption))))))).mono ?_; rw [HV.out]; rintro e wa ⟨rfl, hba⟩)
      | (go_at_call 25; refine (rvcyc_any ws _ _ (HT.out.to (by first | exact hw1.drew | exact (And.right (And.right (And.right (by assumption))))))).mono ?_; rw [HV.out]; rintro e wb ⟨rfl, hbb⟩)
      | (go_at_call 26; refine (fcyc_any ws a q _ _ _ (HT.out.to (by first | exact hw1.drew | exact (And.right (And.right (And.right (by assumption)))))) (HQ.out.to (by first | exact hw1.drew | exact (And.right (And.right (And.right (by assumption)))))) hl3).mono ?_; rw [HF.out]; rintro e wc ⟨rfl, hbc⟩)
      | (go_at_call 27; refine (rfcyc_any ws a q _ _ _ (HT.out.to (by first | exact hw1.drew | exact (And.right (And.right (And.right (by assumption)))))) (HQ.out.to (by first | exact hw1.drew | exact (And.right (And.right (And.right (by assumption)))))) hl3).mono ?_; rw [HF.out]; rintro e wd ⟨rfl, hbd⟩))
  go_wp2_with fail
  obtain ⟨p0, p1, p2, hwd⟩ : wd.cell? ⟨w.heap.size, 0, none⟩ = some (.slice A2 ws.length c2) ∧ wd.cell? ⟨w.heap.size + 1, 0, none⟩ = some (.int .i64 a) ∧ wd.cell? ⟨w.heap.size + 1, 1, none⟩ = some (.slice A q.length c) ∧ Below w.heap.size w wd := (by assumption)
  clear hS hw1 hba hbb hbc hbd
  refine (turn_any ws a q _ _ wd (HT.out.to hwd) (HQ.out.to hwd) hl3).mono ?_
  rw [HTU.out]
  rintro e we ⟨va, rfl, hEa, -, hbe⟩
  obtain ⟨Aa, ca, rfl⟩ := hEa.form
  simp only at hEa
  have HEa := hid_ hEa
  have hwe := bnext hwd hbe
  clear hEa
  rw [show (ints ([] : List Int)).length = 0 from rfl]
  rw [show (ints ([] : List Int)).length = 0 from rfl] at HEa
  replace p0 := keepc hbe (p0)
  replace p1 := keepc hbe (p1)
  replace p2 := keepc hbe (p2)
  have zp0 : w.heap.size < we.heap.size := cell_lt p0
  have zp1 : w.heap.size + 1 < we.heap.size := cell_lt p1
  go_wp2_with fail
  have hwe2 := hwe.alloc hwe.size (.cells #[.int .i64 0, .slice Aa 0 ca] 45)
  refine (roll_any ws a q n _ _ _ (HT.out.to hwe2) (HQ.out.to hwe2) hl3).mono ?_
  rw [HR.out]
  rintro e wf ⟨vb, rfl, hEb, -, hbf⟩
  obtain ⟨Ab, cb, rfl⟩ := hEb.form
  simp only at hEb
  have HEb := hid_ hEb
  have hwf := bnext hwe2 hbf
  have BA := (Blk.new we 45 #[.int .i64 0, .slice Aa 0 ca]).to hbf
  have a0 := BA.cell 0
  have a1 := BA.cell 1
  simp at a0 a1
  clear hEb BA hwe2
  rw [show (ints ([] : List Int)).length = 0 from rfl]
  rw [show (ints ([] : List Int)).length = 0 from rfl] at HEb
  replace p0 := keepc hbf (keepa _ p0)
  replace p1 := keepc hbf (keepa _ p1)
  replace p2 := keepc hbf (keepa _ p2)
  replace HEa := hid_ ((HEa.out.to (below1 _ _)).to hbf)
  clear zp0 zp1
  have zp0 : w.heap.size < wf.heap.size := cell_lt p0
  have zp1 : w.heap.size + 1 < wf.heap.size := cell_lt p1
  have za0 : we.heap.size < wf.heap.size := cell_lt a0
  go_wp2_with fail
  have hwf2 := (hwf.alloc hwf.size (.cells #[.int .i64 0, .slice Ab 0 cb] 45)).alloc (by have := hwf.size; simp; omega) (.cells #[.int .i64 0, .slice none 0 0] 45)
  refine (rfcyc_any ws a q _ _ _ (HT.out.to hwf2) (HQ.out.to hwf2) hl3).mono ?_
  rw [HF.out]
  rintro e wg ⟨rfl, hbg⟩
  have hwg := bnext hwf2 hbg
  have BB := ((Blk.new wf 45 #[.int .i64 0, .slice Ab 0 cb]).alloc (.cells #[.int .i64 0, .slice none 0 0] 45)).to hbg
  have b0 := BB.cell 0
  have b1 := BB.cell 1
  have BN := (show Blk ((wf.alloc (.cells #[.int .i64 0, .slice Ab 0 cb] 45)).alloc (.cells #[.int .i64 0, .slice none 0 0] 45)) (wf.heap.size + 1) 45 #[.int .i64 0, .slice none 0 0] from (by have h := Blk.new (wf.alloc (.cells #[.int .i64 0, .slice Ab 0 cb] 45)) 45 #[.int .i64 0, .slice none 0 0]; simpa using h)).to hbg
  have n0 := BN.cell 0
  have n1 := BN.cell 1
  simp at b0 b1 n0 n1
  clear BB BN hwf2
  replace p0 := keepc hbg (keepa _ (keepa _ p0))
  replace p1 := keepc hbg (keepa _ (keepa _ p1))
  replace p2 := keepc hbg (keepa _ (keepa _ p2))
  replace a0 := keepc hbg (keepa _ (keepa _ a0))
  replace a1 := keepc hbg (keepa _ (keepa _ a1))
  replace HEa := hid_ ((HEa.out.to (below2 _ _ _)).to hbg)
  replace HEb := hid_ ((HEb.out.to (below2 _ _ _)).to hbg)
  clear zp0 zp1 za0
  have zp0 : w.heap.size < wg.heap.size := cell_lt p0
  have zp1 : w.heap.size + 1 < wg.heap.size := cell_lt p1
  have za0 : we.heap.size < wg.heap.size := cell_lt a0
  have zb0 : wf.heap.size < wg.heap.size := cell_lt b0
  have zn0 : wf.heap.size + 1 < wg.heap.size := cell_lt n0
  go_wp2_with fail
  refine (samewheel_any 0 0 ([] : List Int) ([] : List Int) _ _ wg HEa.out (Elems.nil _ _) (by simp)).mono ?_
  rw [show (decide ((0 : Int) = 0) && decide ((([] : List Int) : List Int) = ([] : List Int))) = true from by simp]
  rintro e wh ⟨rfl, hwh⟩
  have bwh := bnext hwg hwh
  replace p0 := keepc hwh (p0)
  replace p1 := keepc hwh (p1)
  replace p2 := keepc hwh (p2)
  replace a0 := keepc hwh (a0)
  replace a1 := keepc hwh (a1)
  replace b0 := keepc hwh (b0)
  replace b1 := keepc hwh (b1)
  replace n0 := keepc hwh (n0)
  replace n1 := keepc hwh (n1)
  replace HEa := hid_ ((HEa.out).to hwh)
  replace HEb := hid_ ((HEb.out).to hwh)
  clear zp0 zp1 za0 zb0 zn0
  have zp0 : w.heap.size < wh.heap.size := cell_lt p0
  have zp1 : w.heap.size + 1 < wh.heap.size := cell_lt p1
  have za0 : we.heap.size < wh.heap.size := cell_lt a0
  have zb0 : wf.heap.size < wh.heap.size := cell_lt b0
  have zn0 : wf.heap.size + 1 < wh.heap.size := cell_lt n0
  go_wp2_with fail
  refine (samewheel_any 0 0 ([] : List Int) ([] : List Int) _ _ wh HEb.out (Elems.nil _ _) (by simp)).mono ?_
  rw [show (decide ((0 : Int) = 0) && decide ((([] : List Int) : List Int) = ([] : List Int))) = true from by simp]
  rintro e wk ⟨rfl, hwk⟩
  have bwk := bnext bwh hwk
  replace p0 := keepc hwk (p0)
  replace p1 := keepc hwk (p1)
  replace p2 := keepc hwk (p2)
  replace b0 := keepc hwk (b0)
  replace b1 := keepc hwk (b1)
  replace n0 := keepc hwk (n0)
  replace n1 := keepc hwk (n1)
  replace HEb := hid_ ((HEb.out).to hwk)
  clear zp0 zp1 za0 zb0 zn0
  have zp0 : w.heap.size < wk.heap.size := cell_lt p0
  have zp1 : w.heap.size + 1 < wk.heap.size := cell_lt p1
  have zb0 : wf.heap.size < wk.heap.size := cell_lt b0
  have zn0 : wf.heap.size + 1 < wk.heap.size := cell_lt n0
  go_wp2_with fail
  refine (awake_any _).mono ?_
  rintro e wz ⟨rfl, hbz⟩
  go_wp2_with fail
  go_ret
  exact ⟨rfl, bnext bwk hbz⟩

set_option maxRecDepth 1000000 in
set_option maxHeartbeats 8000000 in
theorem turns_zero_far (ws : List (List Int)) (a : Nat) (q : List Int) (v v2 : Value) (w : World) (hB : CycBig w w.heap.size v ws) (hq : Elems w w.heap.size v2 (ints q)) (hcap : Capped v2) (hl : q.length ≤ 17592186044416) (hw : wideC ws q = false) (hf : fitsC ws a q = true) (hz : q = []) (n : Int) (hn : 200 < n) (hn2 : 1000000 < n) :
    Calls Try.prog 4 #[.agg #[v], .agg #[.int .i64 a, v2], .int .i64 n] w (Yes w) := by
  have HB := hid_ hB
  obtain ⟨A2, c2, rfl⟩ := hB.rows.form
  obtain ⟨A, c, rfl⟩ := hq.form
  rw [ints_len] at hq hcap ⊢
  have HQ := hid_ hq
  have hcp := hcap _ _ _ rfl
  have HW := hid_ hw
  have HT := hid_ (hB.in_ hw)
  have hl3 : q.length ≤ 1000000 := by have := wideC_no hw; omega
  have HF := hid_ hf
  have HV := hid_ (fitsC_parts hf).1
  have HTU : Hid (turnS ws a q = ⟨0, [], 0, 5⟩) := hid_ (turnS_zero hf hz)
  have HR := hid_ (rollS_out (n := n) hf (by omega))
  have hl0 : q.length = 0 := by rw [hz]; rfl
  have HZ := hid_ hz
  have HL0 := hid_ hl0
  have hlz : ((q.length : Int) == 0) = true := by rw [hl0]; rfl
  clear hl0
  clear hB hq hcap hw hf hz
  go_enter Try.func4, Try.ntmps4
  go_wp2_with fail
  refine (widec_any ws q _ a _ _ (HB.out.to (below2 w _ _)) (HQ.out.to (below2 w _ _)) hl).mono ?_
  rw [HW.out]
  rintro e w1 ⟨rfl, hb1⟩
  obtain ⟨p0, p1, p2, hz, hw1⟩ := box12 hb1
  clear hb1
  go_wp2_with fail
  have hS : w1.cell? ⟨w.heap.size, 0, none⟩ = some (.slice A2 ws.length c2) ∧ w1.cell? ⟨w.heap.size + 1, 0, none⟩ = some (.int .i64 a) ∧ w1.cell? ⟨w.heap.size + 1, 1, none⟩ = some (.slice A q.length c) ∧ Below w.heap.size w w1 := ⟨p0, p1, p2, hw1⟩
  go_region_held3 (fun w' => w'.cell? ⟨w.heap.size, 0, none⟩ = some (.slice A2 ws.length c2) ∧ w'.cell? ⟨w.heap.size + 1, 0, none⟩ = some (.int .i64 a) ∧ w'.cell? ⟨w.heap.size + 1, 1, none⟩ = some (.slice A q.length c) ∧ Below w.heap.size w w')
    (first | assumption | exact ⟨p0, p1, p2, hw1.drew⟩ | exact keepT hba (by assumption) | exact keepT hbb (by assumption) | exact keepT hbc (by assumption) | exact keepT hbd (by assumption))
    (first
      | (go_at_call 24; refine (vcyc_any ws _ _ (HT.out.to (by first | exact hw1.drew | exact (And.right (And.right (And.right (by assumption))))))).mono ?_; rw [HV.out]; rintro e wa ⟨rfl, hba⟩)
      | (go_at_call 25; refine (rvcyc_any ws _ _ (HT.out.to (by first | exact hw1.drew | exact (And.right (And.right (And.right (by assumption))))))).mono ?_; rw [HV.out]; rintro e wb ⟨rfl, hbb⟩)
      | (go_at_call 26; refine (fcyc_any ws a q _ _ _ (HT.out.to (by first | exact hw1.drew | exact (And.right (And.right (And.right (by assumption)))))) (HQ.out.to (by first | exact hw1.drew | exact (And.right (And.right (And.right (by assumption)))))) hl3).mono ?_; rw [HF.out]; rintro e wc ⟨rfl, hbc⟩)
      | (go_at_call 27; refine (rfcyc_any ws a q _ _ _ (HT.out.to (by first | exact hw1.drew | exact (And.right (And.right (And.right (by assumption)))))) (HQ.out.to (by first | exact hw1.drew | exact (And.right (And.right (And.right (by assumption)))))) hl3).mono ?_; rw [HF.out]; rintro e wd ⟨rfl, hbd⟩))
  go_wp2_with fail
  obtain ⟨p0, p1, p2, hwd⟩ : wd.cell? ⟨w.heap.size, 0, none⟩ = some (.slice A2 ws.length c2) ∧ wd.cell? ⟨w.heap.size + 1, 0, none⟩ = some (.int .i64 a) ∧ wd.cell? ⟨w.heap.size + 1, 1, none⟩ = some (.slice A q.length c) ∧ Below w.heap.size w wd := (by assumption)
  clear hS hw1 hba hbb hbc hbd
  refine (turn_any ws a q _ _ wd (HT.out.to hwd) (HQ.out.to hwd) hl3).mono ?_
  rw [HTU.out]
  rintro e we ⟨va, rfl, hEa, -, hbe⟩
  obtain ⟨Aa, ca, rfl⟩ := hEa.form
  simp only at hEa
  have HEa := hid_ hEa
  have hwe := bnext hwd hbe
  clear hEa
  rw [show (ints ([] : List Int)).length = 0 from rfl]
  rw [show (ints ([] : List Int)).length = 0 from rfl] at HEa
  replace p0 := keepc hbe (p0)
  replace p1 := keepc hbe (p1)
  replace p2 := keepc hbe (p2)
  have zp0 : w.heap.size < we.heap.size := cell_lt p0
  have zp1 : w.heap.size + 1 < we.heap.size := cell_lt p1
  go_wp2_with fail
  have hwe2 := hwe.alloc hwe.size (.cells #[.int .i64 0, .slice Aa 0 ca] 45)
  refine (roll_any ws a q n _ _ _ (HT.out.to hwe2) (HQ.out.to hwe2) hl3).mono ?_
  rw [HR.out]
  rintro e wf ⟨vb, rfl, hEb, -, hbf⟩
  obtain ⟨Ab, cb, rfl⟩ := hEb.form
  simp only at hEb
  have HEb := hid_ hEb
  have hwf := bnext hwe2 hbf
  have BA := (Blk.new we 45 #[.int .i64 0, .slice Aa 0 ca]).to hbf
  have a0 := BA.cell 0
  have a1 := BA.cell 1
  simp at a0 a1
  clear hEb BA hwe2
  rw [show (ints ([] : List Int)).length = 0 from rfl]
  rw [show (ints ([] : List Int)).length = 0 from rfl] at HEb
  replace p0 := keepc hbf (keepa _ p0)
  replace p1 := keepc hbf (keepa _ p1)
  replace p2 := keepc hbf (keepa _ p2)
  replace HEa := hid_ ((HEa.out.to (below1 _ _)).to hbf)
  clear zp0 zp1
  have zp0 : w.heap.size < wf.heap.size := cell_lt p0
  have zp1 : w.heap.size + 1 < wf.heap.size := cell_lt p1
  have za0 : we.heap.size < wf.heap.size := cell_lt a0
  go_wp2_with fail
  have hwf2 := (hwf.alloc hwf.size (.cells #[.int .i64 0, .slice Ab 0 cb] 45)).alloc (by have := hwf.size; simp; omega) (.cells #[.int .i64 0, .slice none 0 0] 45)
  refine (rfcyc_any ws a q _ _ _ (HT.out.to hwf2) (HQ.out.to hwf2) hl3).mono ?_
  rw [HF.out]
  rintro e wg ⟨rfl, hbg⟩
  have hwg := bnext hwf2 hbg
  have BB := ((Blk.new wf 45 #[.int .i64 0, .slice Ab 0 cb]).alloc (.cells #[.int .i64 0, .slice none 0 0] 45)).to hbg
  have b0 := BB.cell 0
  have b1 := BB.cell 1
  have BN := (show Blk ((wf.alloc (.cells #[.int .i64 0, .slice Ab 0 cb] 45)).alloc (.cells #[.int .i64 0, .slice none 0 0] 45)) (wf.heap.size + 1) 45 #[.int .i64 0, .slice none 0 0] from (by have h := Blk.new (wf.alloc (.cells #[.int .i64 0, .slice Ab 0 cb] 45)) 45 #[.int .i64 0, .slice none 0 0]; simpa using h)).to hbg
  have n0 := BN.cell 0
  have n1 := BN.cell 1
  simp at b0 b1 n0 n1
  clear BB BN hwf2
  replace p0 := keepc hbg (keepa _ (keepa _ p0))
  replace p1 := keepc hbg (keepa _ (keepa _ p1))
  replace p2 := keepc hbg (keepa _ (keepa _ p2))
  replace a0 := keepc hbg (keepa _ (keepa _ a0))
  replace a1 := keepc hbg (keepa _ (keepa _ a1))
  replace HEa := hid_ ((HEa.out.to (below2 _ _ _)).to hbg)
  replace HEb := hid_ ((HEb.out.to (below2 _ _ _)).to hbg)
  clear zp0 zp1 za0
  have zp0 : w.heap.size < wg.heap.size := cell_lt p0
  have zp1 : w.heap.size + 1 < wg.heap.size := cell_lt p1
  have za0 : we.heap.size < wg.heap.size := cell_lt a0
  have zb0 : wf.heap.size < wg.heap.size := cell_lt b0
  have zn0 : wf.heap.size + 1 < wg.heap.size := cell_lt n0
  go_wp2_with fail
  refine (samewheel_any 0 0 ([] : List Int) ([] : List Int) _ _ wg HEa.out (Elems.nil _ _) (by simp)).mono ?_
  rw [show (decide ((0 : Int) = 0) && decide ((([] : List Int) : List Int) = ([] : List Int))) = true from by simp]
  rintro e wh ⟨rfl, hwh⟩
  have bwh := bnext hwg hwh
  replace p0 := keepc hwh (p0)
  replace p1 := keepc hwh (p1)
  replace p2 := keepc hwh (p2)
  replace a0 := keepc hwh (a0)
  replace a1 := keepc hwh (a1)
  replace b0 := keepc hwh (b0)
  replace b1 := keepc hwh (b1)
  replace n0 := keepc hwh (n0)
  replace n1 := keepc hwh (n1)
  replace HEa := hid_ ((HEa.out).to hwh)
  replace HEb := hid_ ((HEb.out).to hwh)
  clear zp0 zp1 za0 zb0 zn0
  have zp0 : w.heap.size < wh.heap.size := cell_lt p0
  have zp1 : w.heap.size + 1 < wh.heap.size := cell_lt p1
  have za0 : we.heap.size < wh.heap.size := cell_lt a0
  have zb0 : wf.heap.size < wh.heap.size := cell_lt b0
  have zn0 : wf.heap.size + 1 < wh.heap.size := cell_lt n0
  go_wp2_with fail
  refine (samewheel_any 0 0 ([] : List Int) ([] : List Int) _ _ wh HEb.out (Elems.nil _ _) (by simp)).mono ?_
  rw [show (decide ((0 : Int) = 0) && decide ((([] : List Int) : List Int) = ([] : List Int))) = true from by simp]
  rintro e wk ⟨rfl, hwk⟩
  have bwk := bnext bwh hwk
  replace p0 := keepc hwk (p0)
  replace p1 := keepc hwk (p1)
  replace p2 := keepc hwk (p2)
  replace b0 := keepc hwk (b0)
  replace b1 := keepc hwk (b1)
  replace n0 := keepc hwk (n0)
  replace n1 := keepc hwk (n1)
  replace HEb := hid_ ((HEb.out).to hwk)
  clear zp0 zp1 za0 zb0 zn0
  have zp0 : w.heap.size < wk.heap.size := cell_lt p0
  have zp1 : w.heap.size + 1 < wk.heap.size := cell_lt p1
  have zb0 : wf.heap.size < wk.heap.size := cell_lt b0
  have zn0 : wf.heap.size + 1 < wk.heap.size := cell_lt n0
  go_wp2_with fail
  refine (awake_any _).mono ?_
  rintro e wz ⟨rfl, hbz⟩
  go_wp2_with fail
  go_ret
  exact ⟨rfl, bnext bwk hbz⟩

set_option maxRecDepth 1000000 in
set_option maxHeartbeats 8000000 in
theorem turns_zero_none (ws : List (List Int)) (a : Nat) (q : List Int) (v v2 : Value) (w : World) (hB : CycBig w w.heap.size v ws) (hq : Elems w w.heap.size v2 (ints q)) (hcap : Capped v2) (hl : q.length ≤ 17592186044416) (hw : wideC ws q = false) (hf : fitsC ws a q = true) (hz : q = []) (N : Nat) (hN : N ≤ 200) (ho : rollC ws N a q = none) :
    Calls Try.prog 4 #[.agg #[v], .agg #[.int .i64 a, v2], .int .i64 N] w (Yes w) := by
  have HB := hid_ hB
  obtain ⟨A2, c2, rfl⟩ := hB.rows.form
  obtain ⟨A, c, rfl⟩ := hq.form
  rw [ints_len] at hq hcap ⊢
  have HQ := hid_ hq
  have hcp := hcap _ _ _ rfl
  have HW := hid_ hw
  have HT := hid_ (hB.in_ hw)
  have hl3 : q.length ≤ 1000000 := by have := wideC_no hw; omega
  have HF := hid_ hf
  have HV := hid_ (fitsC_parts hf).1
  have HTU : Hid (turnS ws a q = ⟨0, [], 0, 5⟩) := hid_ (turnS_zero hf hz)
  have hN2 : (N : Int) ≤ 200 := by omega
  have HR : Hid (rollS ws a q N = ⟨0, [], 0, 4⟩) := hid_ (by rw [rollS_in hf (by omega), ho]; rfl)
  have HRT := hid_ ho
  clear ho
  have hl0 : q.length = 0 := by rw [hz]; rfl
  have HZ := hid_ hz
  have HL0 := hid_ hl0
  have hlz : ((q.length : Int) == 0) = true := by rw [hl0]; rfl
  clear hl0
  clear hB hq hcap hw hf hz
  go_enter Try.func4, Try.ntmps4
  go_wp2_with fail
  refine (widec_any ws q _ a _ _ (HB.out.to (below2 w _ _)) (HQ.out.to (below2 w _ _)) hl).mono ?_
  rw [HW.out]
  rintro e w1 ⟨rfl, hb1⟩
  obtain ⟨p0, p1, p2, hz, hw1⟩ := box12 hb1
  clear hb1
  go_wp2_with fail
  have hS : w1.cell? ⟨w.heap.size, 0, none⟩ = some (.slice A2 ws.length c2) ∧ w1.cell? ⟨w.heap.size + 1, 0, none⟩ = some (.int .i64 a) ∧ w1.cell? ⟨w.heap.size + 1, 1, none⟩ = some (.slice A q.length c) ∧ Below w.heap.size w w1 := ⟨p0, p1, p2, hw1⟩
  go_region_held3 (fun w' => w'.cell? ⟨w.heap.size, 0, none⟩ = some (.slice A2 ws.length c2) ∧ w'.cell? ⟨w.heap.size + 1, 0, none⟩ = some (.int .i64 a) ∧ w'.cell? ⟨w.heap.size + 1, 1, none⟩ = some (.slice A q.length c) ∧ Below w.heap.size w w')
    (first | assumption | exact ⟨p0, p1, p2, hw1.drew⟩ | exact keepT hba (by assumption) | exact keepT hbb (by assumption) | exact keepT hbc (by assumption) | exact keepT hbd (by assumption))
    (first
      | (go_at_call 24; refine (vcyc_any ws _ _ (HT.out.to (by first | exact hw1.drew | exact (And.right (And.right (And.right (by assumption))))))).mono ?_; rw [HV.out]; rintro e wa ⟨rfl, hba⟩)
      | (go_at_call 25; refine (rvcyc_any ws _ _ (HT.out.to (by first | exact hw1.drew | exact (And.right (And.right (And.right (by assumption))))))).mono ?_; rw [HV.out]; rintro e wb ⟨rfl, hbb⟩)
      | (go_at_call 26; refine (fcyc_any ws a q _ _ _ (HT.out.to (by first | exact hw1.drew | exact (And.right (And.right (And.right (by assumption)))))) (HQ.out.to (by first | exact hw1.drew | exact (And.right (And.right (And.right (by assumption)))))) hl3).mono ?_; rw [HF.out]; rintro e wc ⟨rfl, hbc⟩)
      | (go_at_call 27; refine (rfcyc_any ws a q _ _ _ (HT.out.to (by first | exact hw1.drew | exact (And.right (And.right (And.right (by assumption)))))) (HQ.out.to (by first | exact hw1.drew | exact (And.right (And.right (And.right (by assumption)))))) hl3).mono ?_; rw [HF.out]; rintro e wd ⟨rfl, hbd⟩))
  go_wp2_with fail
  obtain ⟨p0, p1, p2, hwd⟩ : wd.cell? ⟨w.heap.size, 0, none⟩ = some (.slice A2 ws.length c2) ∧ wd.cell? ⟨w.heap.size + 1, 0, none⟩ = some (.int .i64 a) ∧ wd.cell? ⟨w.heap.size + 1, 1, none⟩ = some (.slice A q.length c) ∧ Below w.heap.size w wd := (by assumption)
  clear hS hw1 hba hbb hbc hbd
  refine (turn_any ws a q _ _ wd (HT.out.to hwd) (HQ.out.to hwd) hl3).mono ?_
  rw [HTU.out]
  rintro e we ⟨va, rfl, hEa, -, hbe⟩
  obtain ⟨Aa, ca, rfl⟩ := hEa.form
  simp only at hEa
  have HEa := hid_ hEa
  have hwe := bnext hwd hbe
  clear hEa
  rw [show (ints ([] : List Int)).length = 0 from rfl]
  rw [show (ints ([] : List Int)).length = 0 from rfl] at HEa
  replace p0 := keepc hbe (p0)
  replace p1 := keepc hbe (p1)
  replace p2 := keepc hbe (p2)
  have zp0 : w.heap.size < we.heap.size := cell_lt p0
  have zp1 : w.heap.size + 1 < we.heap.size := cell_lt p1
  go_wp2_with fail
  have hwe2 := hwe.alloc hwe.size (.cells #[.int .i64 0, .slice Aa 0 ca] 45)
  refine (roll_any ws a q N _ _ _ (HT.out.to hwe2) (HQ.out.to hwe2) hl3).mono ?_
  rw [HR.out]
  rintro e wf ⟨vb, rfl, hEb, -, hbf⟩
  obtain ⟨Ab, cb, rfl⟩ := hEb.form
  simp only at hEb
  have HEb := hid_ hEb
  have hwf := bnext hwe2 hbf
  have BA := (Blk.new we 45 #[.int .i64 0, .slice Aa 0 ca]).to hbf
  have a0 := BA.cell 0
  have a1 := BA.cell 1
  simp at a0 a1
  clear hEb BA hwe2
  rw [show (ints ([] : List Int)).length = 0 from rfl]
  rw [show (ints ([] : List Int)).length = 0 from rfl] at HEb
  replace p0 := keepc hbf (keepa _ p0)
  replace p1 := keepc hbf (keepa _ p1)
  replace p2 := keepc hbf (keepa _ p2)
  replace HEa := hid_ ((HEa.out.to (below1 _ _)).to hbf)
  clear zp0 zp1
  have zp0 : w.heap.size < wf.heap.size := cell_lt p0
  have zp1 : w.heap.size + 1 < wf.heap.size := cell_lt p1
  have za0 : we.heap.size < wf.heap.size := cell_lt a0
  go_wp2_with fail
  have hwf2 := (hwf.alloc hwf.size (.cells #[.int .i64 0, .slice Ab 0 cb] 45)).alloc (by have := hwf.size; simp; omega) (.cells #[.int .i64 0, .slice none 0 0] 45)
  refine (rfcyc_any ws a q _ _ _ (HT.out.to hwf2) (HQ.out.to hwf2) hl3).mono ?_
  rw [HF.out]
  rintro e wg ⟨rfl, hbg⟩
  have hwg := bnext hwf2 hbg
  have BB := ((Blk.new wf 45 #[.int .i64 0, .slice Ab 0 cb]).alloc (.cells #[.int .i64 0, .slice none 0 0] 45)).to hbg
  have b0 := BB.cell 0
  have b1 := BB.cell 1
  have BN := (show Blk ((wf.alloc (.cells #[.int .i64 0, .slice Ab 0 cb] 45)).alloc (.cells #[.int .i64 0, .slice none 0 0] 45)) (wf.heap.size + 1) 45 #[.int .i64 0, .slice none 0 0] from (by have h := Blk.new (wf.alloc (.cells #[.int .i64 0, .slice Ab 0 cb] 45)) 45 #[.int .i64 0, .slice none 0 0]; simpa using h)).to hbg
  have n0 := BN.cell 0
  have n1 := BN.cell 1
  simp at b0 b1 n0 n1
  clear BB BN hwf2
  replace p0 := keepc hbg (keepa _ (keepa _ p0))
  replace p1 := keepc hbg (keepa _ (keepa _ p1))
  replace p2 := keepc hbg (keepa _ (keepa _ p2))
  replace a0 := keepc hbg (keepa _ (keepa _ a0))
  replace a1 := keepc hbg (keepa _ (keepa _ a1))
  replace HEa := hid_ ((HEa.out.to (below2 _ _ _)).to hbg)
  replace HEb := hid_ ((HEb.out.to (below2 _ _ _)).to hbg)
  clear zp0 zp1 za0
  have zp0 : w.heap.size < wg.heap.size := cell_lt p0
  have zp1 : w.heap.size + 1 < wg.heap.size := cell_lt p1
  have za0 : we.heap.size < wg.heap.size := cell_lt a0
  have zb0 : wf.heap.size < wg.heap.size := cell_lt b0
  have zn0 : wf.heap.size + 1 < wg.heap.size := cell_lt n0
  go_wp2_with fail
  refine (samewheel_any 0 0 ([] : List Int) ([] : List Int) _ _ wg HEa.out (Elems.nil _ _) (by simp)).mono ?_
  rw [show (decide ((0 : Int) = 0) && decide ((([] : List Int) : List Int) = ([] : List Int))) = true from by simp]
  rintro e wh ⟨rfl, hwh⟩
  have bwh := bnext hwg hwh
  replace p0 := keepc hwh (p0)
  replace p1 := keepc hwh (p1)
  replace p2 := keepc hwh (p2)
  replace a0 := keepc hwh (a0)
  replace a1 := keepc hwh (a1)
  replace b0 := keepc hwh (b0)
  replace b1 := keepc hwh (b1)
  replace n0 := keepc hwh (n0)
  replace n1 := keepc hwh (n1)
  replace HEa := hid_ ((HEa.out).to hwh)
  replace HEb := hid_ ((HEb.out).to hwh)
  clear zp0 zp1 za0 zb0 zn0
  have zp0 : w.heap.size < wh.heap.size := cell_lt p0
  have zp1 : w.heap.size + 1 < wh.heap.size := cell_lt p1
  have za0 : we.heap.size < wh.heap.size := cell_lt a0
  have zb0 : wf.heap.size < wh.heap.size := cell_lt b0
  have zn0 : wf.heap.size + 1 < wh.heap.size := cell_lt n0
  go_wp2_with fail
  refine (rroll_any ws a N q _ _ _ wh (HT.out.to bwh) (HQ.out.to bwh) HF.out (by omega)).mono ?_
  rw [HRT.out]
  rintro e wl ⟨vl, rfl, hEl, hbl⟩
  obtain ⟨Al, cl, rfl⟩ := hEl.form
  have HEl : Hid (Elems wl wl.heap.size (.slice Al (ints ([] : List Int)).length cl) (ints ([] : List Int))) := hid_ hEl
  have bwl := bnext bwh hbl
  clear hEl
  rw [show (wresOf none).q = ([] : List Int) from rfl, show (wresOf none).pos = 0 from rfl, show (wresOf none).k = 0 from rfl, show decide ((wresOf none).err = 0) = false from rfl]
  rw [show (ints ([] : List Int)).length = 0 from rfl]
  rw [show (ints ([] : List Int)).length = 0 from rfl] at HEl
  replace p0 := keepc hbl (p0)
  replace p1 := keepc hbl (p1)
  replace p2 := keepc hbl (p2)
  replace b0 := keepc hbl (b0)
  replace b1 := keepc hbl (b1)
  replace n0 := keepc hbl (n0)
  replace n1 := keepc hbl (n1)
  replace HEb := hid_ ((HEb.out).to hbl)
  clear zp0 zp1 za0 zb0 zn0
  have zp0 : w.heap.size < wl.heap.size := cell_lt p0
  have zp1 : w.heap.size + 1 < wl.heap.size := cell_lt p1
  have zb0 : wf.heap.size < wl.heap.size := cell_lt b0
  have zn0 : wf.heap.size + 1 < wl.heap.size := cell_lt n0
  go_wp2_with fail
  have bwl2 := bwl.alloc bwl.size (.cells #[.int .i64 0, .slice Al 0 cl] 45)
  refine (size_any false _).mono ?_
  rw [show sizeI false = 4 from rfl]
  rintro e wm ⟨rfl, rfl⟩
  replace p0 := keepa (.cells #[.int .i64 0, .slice Al 0 cl] 45) p0
  replace p1 := keepa (.cells #[.int .i64 0, .slice Al 0 cl] 45) p1
  replace p2 := keepa (.cells #[.int .i64 0, .slice Al 0 cl] 45) p2
  replace b0 := keepa (.cells #[.int .i64 0, .slice Al 0 cl] 45) b0
  replace b1 := keepa (.cells #[.int .i64 0, .slice Al 0 cl] 45) b1
  replace n0 := keepa (.cells #[.int .i64 0, .slice Al 0 cl] 45) n0
  replace n1 := keepa (.cells #[.int .i64 0, .slice Al 0 cl] 45) n1
  replace HEb := hid_ (HEb.out.to (below1 _ (.cells #[.int .i64 0, .slice Al 0 cl] 45)))
  replace HEl := hid_ (HEl.out.to (below1 _ (.cells #[.int .i64 0, .slice Al 0 cl] 45)))
  go_wp2_with fail
  refine (samewheel_any 0 0 ([] : List Int) ([] : List Int) _ _ (wl.alloc (.cells #[.int .i64 0, .slice Al 0 cl] 45)) HEb.out HEl.out (by simp)).mono ?_
  rw [show (decide ((0 : Int) = 0) && decide ((([] : List Int) : List Int) = ([] : List Int))) = true from by simp]
  rintro e wo ⟨rfl, hwo⟩
  have bwo := bnext bwl2 hwo
  replace p0 := keepc hwo (p0)
  replace p1 := keepc hwo (p1)
  replace p2 := keepc hwo (p2)
  replace b0 := keepc hwo (b0)
  replace b1 := keepc hwo (b1)
  replace n0 := keepc hwo (n0)
  replace n1 := keepc hwo (n1)
  replace HEb := hid_ ((HEb.out).to hwo)
  replace HEl := hid_ ((HEl.out).to hwo)
  clear zp0 zp1 zb0 zn0
  have zp0 : w.heap.size < wo.heap.size := cell_lt p0
  have zp1 : w.heap.size + 1 < wo.heap.size := cell_lt p1
  have zb0 : wf.heap.size < wo.heap.size := cell_lt b0
  have zn0 : wf.heap.size + 1 < wo.heap.size := cell_lt n0
  go_wp2_with fail
  refine (awake_any _).mono ?_
  rintro e wz ⟨rfl, hbz⟩
  go_wp2_with fail
  go_ret
  exact ⟨rfl, bnext bwo hbz⟩

set_option maxRecDepth 1000000 in
set_option maxHeartbeats 8000000 in
theorem turns_zero_some (ws : List (List Int)) (a : Nat) (q : List Int) (v v2 : Value) (w : World) (hB : CycBig w w.heap.size v ws) (hq : Elems w w.heap.size v2 (ints q)) (hcap : Capped v2) (hl : q.length ≤ 17592186044416) (hw : wideC ws q = false) (hf : fitsC ws a q = true) (hz : q = []) (N : Nat) (hN : N ≤ 200) (r : Nat × List Int × Nat) (ho : rollC ws N a q = some r) :
    Calls Try.prog 4 #[.agg #[v], .agg #[.int .i64 a, v2], .int .i64 N] w (Yes w) := by
  have HB := hid_ hB
  obtain ⟨A2, c2, rfl⟩ := hB.rows.form
  obtain ⟨A, c, rfl⟩ := hq.form
  rw [ints_len] at hq hcap ⊢
  have HQ := hid_ hq
  have hcp := hcap _ _ _ rfl
  have HW := hid_ hw
  have HT := hid_ (hB.in_ hw)
  have hl3 : q.length ≤ 1000000 := by have := wideC_no hw; omega
  have HF := hid_ hf
  have HV := hid_ (fitsC_parts hf).1
  have HTU : Hid (turnS ws a q = ⟨0, [], 0, 5⟩) := hid_ (turnS_zero hf hz)
  have hN2 : (N : Int) ≤ 200 := by omega
  have HR : Hid (rollS ws a q N = ⟨r.1, r.2.1, r.2.2, 0⟩) := hid_ (by rw [rollS_in hf (by omega), ho]; rfl)
  have HRT := hid_ ho
  have hrf := rollC_fits hf ho
  have hrl := (fitsC_parts hrf.1).2.2.2.1
  have hr2 : r.2.2 ≤ 200 := by omega
  clear hrf
  clear ho
  have hl0 : q.length = 0 := by rw [hz]; rfl
  have HZ := hid_ hz
  have HL0 := hid_ hl0
  have hlz : ((q.length : Int) == 0) = true := by rw [hl0]; rfl
  clear hl0
  clear hB hq hcap hw hf hz
  go_enter Try.func4, Try.ntmps4
  go_wp2_with fail
  refine (widec_any ws q _ a _ _ (HB.out.to (below2 w _ _)) (HQ.out.to (below2 w _ _)) hl).mono ?_
  rw [HW.out]
  rintro e w1 ⟨rfl, hb1⟩
  obtain ⟨p0, p1, p2, hz, hw1⟩ := box12 hb1
  clear hb1
  go_wp2_with fail
  have hS : w1.cell? ⟨w.heap.size, 0, none⟩ = some (.slice A2 ws.length c2) ∧ w1.cell? ⟨w.heap.size + 1, 0, none⟩ = some (.int .i64 a) ∧ w1.cell? ⟨w.heap.size + 1, 1, none⟩ = some (.slice A q.length c) ∧ Below w.heap.size w w1 := ⟨p0, p1, p2, hw1⟩
  go_region_held3 (fun w' => w'.cell? ⟨w.heap.size, 0, none⟩ = some (.slice A2 ws.length c2) ∧ w'.cell? ⟨w.heap.size + 1, 0, none⟩ = some (.int .i64 a) ∧ w'.cell? ⟨w.heap.size + 1, 1, none⟩ = some (.slice A q.length c) ∧ Below w.heap.size w w')
    (first | assumption | exact ⟨p0, p1, p2, hw1.drew⟩ | exact keepT hba (by assumption) | exact keepT hbb (by assumption) | exact keepT hbc (by assumption) | exact keepT hbd (by assumption))
    (first
      | (go_at_call 24; refine (vcyc_any ws _ _ (HT.out.to (by first | exact hw1.drew | exact (And.right (And.right (And.right (by assumption))))))).mono ?_; rw [HV.out]; rintro e wa ⟨rfl, hba⟩)
      | (go_at_call 25; refine (rvcyc_any ws _ _ (HT.out.to (by first | exact hw1.drew | exact (And.right (And.right (And.right (by assumption))))))).mono ?_; rw [HV.out]; rintro e wb ⟨rfl, hbb⟩)
      | (go_at_call 26; refine (fcyc_any ws a q _ _ _ (HT.out.to (by first | exact hw1.drew | exact (And.right (And.right (And.right (by assumption)))))) (HQ.out.to (by first | exact hw1.drew | exact (And.right (And.right (And.right (by assumption)))))) hl3).mono ?_; rw [HF.out]; rintro e wc ⟨rfl, hbc⟩)
      | (go_at_call 27; refine (rfcyc_any ws a q _ _ _ (HT.out.to (by first | exact hw1.drew | exact (And.right (And.right (And.right (by assumption)))))) (HQ.out.to (by first | exact hw1.drew | exact (And.right (And.right (And.right (by assumption)))))) hl3).mono ?_; rw [HF.out]; rintro e wd ⟨rfl, hbd⟩))
  go_wp2_with fail
  obtain ⟨p0, p1, p2, hwd⟩ : wd.cell? ⟨w.heap.size, 0, none⟩ = some (.slice A2 ws.length c2) ∧ wd.cell? ⟨w.heap.size + 1, 0, none⟩ = some (.int .i64 a) ∧ wd.cell? ⟨w.heap.size + 1, 1, none⟩ = some (.slice A q.length c) ∧ Below w.heap.size w wd := (by assumption)
  clear hS hw1 hba hbb hbc hbd
  refine (turn_any ws a q _ _ wd (HT.out.to hwd) (HQ.out.to hwd) hl3).mono ?_
  rw [HTU.out]
  rintro e we ⟨va, rfl, hEa, -, hbe⟩
  obtain ⟨Aa, ca, rfl⟩ := hEa.form
  simp only at hEa
  have HEa := hid_ hEa
  have hwe := bnext hwd hbe
  clear hEa
  rw [show (ints ([] : List Int)).length = 0 from rfl]
  rw [show (ints ([] : List Int)).length = 0 from rfl] at HEa
  replace p0 := keepc hbe (p0)
  replace p1 := keepc hbe (p1)
  replace p2 := keepc hbe (p2)
  have zp0 : w.heap.size < we.heap.size := cell_lt p0
  have zp1 : w.heap.size + 1 < we.heap.size := cell_lt p1
  go_wp2_with fail
  have hwe2 := hwe.alloc hwe.size (.cells #[.int .i64 0, .slice Aa 0 ca] 45)
  refine (roll_any ws a q N _ _ _ (HT.out.to hwe2) (HQ.out.to hwe2) hl3).mono ?_
  rw [HR.out]
  rintro e wf ⟨vb, rfl, hEb, -, hbf⟩
  obtain ⟨Ab, cb, rfl⟩ := hEb.form
  simp only at hEb
  have HEb := hid_ hEb
  have hwf := bnext hwe2 hbf
  have BA := (Blk.new we 45 #[.int .i64 0, .slice Aa 0 ca]).to hbf
  have a0 := BA.cell 0
  have a1 := BA.cell 1
  simp at a0 a1
  clear hEb BA hwe2
  rw [ints_len] at HEb ⊢
  replace p0 := keepc hbf (keepa _ p0)
  replace p1 := keepc hbf (keepa _ p1)
  replace p2 := keepc hbf (keepa _ p2)
  replace HEa := hid_ ((HEa.out.to (below1 _ _)).to hbf)
  clear zp0 zp1
  have zp0 : w.heap.size < wf.heap.size := cell_lt p0
  have zp1 : w.heap.size + 1 < wf.heap.size := cell_lt p1
  have za0 : we.heap.size < wf.heap.size := cell_lt a0
  go_wp2_with fail
  have hwf2 := (hwf.alloc hwf.size (.cells #[.int .i64 (r.1 : Int), .slice Ab r.2.1.length cb] 45)).alloc (by have := hwf.size; simp; omega) (.cells #[.int .i64 0, .slice none 0 0] 45)
  refine (rfcyc_any ws a q _ _ _ (HT.out.to hwf2) (HQ.out.to hwf2) hl3).mono ?_
  rw [HF.out]
  rintro e wg ⟨rfl, hbg⟩
  have hwg := bnext hwf2 hbg
  have BB := ((Blk.new wf 45 #[.int .i64 (r.1 : Int), .slice Ab r.2.1.length cb]).alloc (.cells #[.int .i64 0, .slice none 0 0] 45)).to hbg
  have b0 := BB.cell 0
  have b1 := BB.cell 1
  have BN := (show Blk ((wf.alloc (.cells #[.int .i64 (r.1 : Int), .slice Ab r.2.1.length cb] 45)).alloc (.cells #[.int .i64 0, .slice none 0 0] 45)) (wf.heap.size + 1) 45 #[.int .i64 0, .slice none 0 0] from (by have h := Blk.new (wf.alloc (.cells #[.int .i64 (r.1 : Int), .slice Ab r.2.1.length cb] 45)) 45 #[.int .i64 0, .slice none 0 0]; simpa using h)).to hbg
  have n0 := BN.cell 0
  have n1 := BN.cell 1
  simp at b0 b1 n0 n1
  clear BB BN hwf2
  replace p0 := keepc hbg (keepa _ (keepa _ p0))
  replace p1 := keepc hbg (keepa _ (keepa _ p1))
  replace p2 := keepc hbg (keepa _ (keepa _ p2))
  replace a0 := keepc hbg (keepa _ (keepa _ a0))
  replace a1 := keepc hbg (keepa _ (keepa _ a1))
  replace HEa := hid_ ((HEa.out.to (below2 _ _ _)).to hbg)
  replace HEb := hid_ ((HEb.out.to (below2 _ _ _)).to hbg)
  clear zp0 zp1 za0
  have zp0 : w.heap.size < wg.heap.size := cell_lt p0
  have zp1 : w.heap.size + 1 < wg.heap.size := cell_lt p1
  have za0 : we.heap.size < wg.heap.size := cell_lt a0
  have zb0 : wf.heap.size < wg.heap.size := cell_lt b0
  have zn0 : wf.heap.size + 1 < wg.heap.size := cell_lt n0
  go_wp2_with fail
  refine (samewheel_any 0 0 ([] : List Int) ([] : List Int) _ _ wg HEa.out (Elems.nil _ _) (by simp)).mono ?_
  rw [show (decide ((0 : Int) = 0) && decide ((([] : List Int) : List Int) = ([] : List Int))) = true from by simp]
  rintro e wh ⟨rfl, hwh⟩
  have bwh := bnext hwg hwh
  replace p0 := keepc hwh (p0)
  replace p1 := keepc hwh (p1)
  replace p2 := keepc hwh (p2)
  replace a0 := keepc hwh (a0)
  replace a1 := keepc hwh (a1)
  replace b0 := keepc hwh (b0)
  replace b1 := keepc hwh (b1)
  replace n0 := keepc hwh (n0)
  replace n1 := keepc hwh (n1)
  replace HEa := hid_ ((HEa.out).to hwh)
  replace HEb := hid_ ((HEb.out).to hwh)
  clear zp0 zp1 za0 zb0 zn0
  have zp0 : w.heap.size < wh.heap.size := cell_lt p0
  have zp1 : w.heap.size + 1 < wh.heap.size := cell_lt p1
  have za0 : we.heap.size < wh.heap.size := cell_lt a0
  have zb0 : wf.heap.size < wh.heap.size := cell_lt b0
  have zn0 : wf.heap.size + 1 < wh.heap.size := cell_lt n0
  go_wp2_with fail
  refine (rroll_any ws a N q _ _ _ wh (HT.out.to bwh) (HQ.out.to bwh) HF.out (by omega)).mono ?_
  rw [HRT.out]
  rintro e wl ⟨vl, rfl, hEl, hbl⟩
  obtain ⟨Al, cl, rfl⟩ := hEl.form
  have HEl : Hid (Elems wl wl.heap.size (.slice Al (ints r.2.1).length cl) (ints r.2.1)) := hid_ hEl
  have bwl := bnext bwh hbl
  clear hEl
  rw [show (wresOf (some r)).q = r.2.1 from rfl, show (wresOf (some r)).pos = (r.1 : Int) from rfl, show (wresOf (some r)).k = (r.2.2 : Int) from rfl, show decide ((wresOf (some r)).err = 0) = true from rfl]
  rw [ints_len] at HEl ⊢
  replace p0 := keepc hbl (p0)
  replace p1 := keepc hbl (p1)
  replace p2 := keepc hbl (p2)
  replace b0 := keepc hbl (b0)
  replace b1 := keepc hbl (b1)
  replace n0 := keepc hbl (n0)
  replace n1 := keepc hbl (n1)
  replace HEb := hid_ ((HEb.out).to hbl)
  clear zp0 zp1 za0 zb0 zn0
  have zp0 : w.heap.size < wl.heap.size := cell_lt p0
  have zp1 : w.heap.size + 1 < wl.heap.size := cell_lt p1
  have zb0 : wf.heap.size < wl.heap.size := cell_lt b0
  have zn0 : wf.heap.size + 1 < wl.heap.size := cell_lt n0
  go_wp2_with fail
  have bwl2 := bwl.alloc bwl.size (.cells #[.int .i64 (r.1 : Int), .slice Al r.2.1.length cl] 45)
  refine (size_any true _).mono ?_
  rw [show sizeI true = 0 from rfl]
  rintro e wm ⟨rfl, rfl⟩
  replace p0 := keepa (.cells #[.int .i64 (r.1 : Int), .slice Al r.2.1.length cl] 45) p0
  replace p1 := keepa (.cells #[.int .i64 (r.1 : Int), .slice Al r.2.1.length cl] 45) p1
  replace p2 := keepa (.cells #[.int .i64 (r.1 : Int), .slice Al r.2.1.length cl] 45) p2
  replace b0 := keepa (.cells #[.int .i64 (r.1 : Int), .slice Al r.2.1.length cl] 45) b0
  replace b1 := keepa (.cells #[.int .i64 (r.1 : Int), .slice Al r.2.1.length cl] 45) b1
  replace n0 := keepa (.cells #[.int .i64 (r.1 : Int), .slice Al r.2.1.length cl] 45) n0
  replace n1 := keepa (.cells #[.int .i64 (r.1 : Int), .slice Al r.2.1.length cl] 45) n1
  replace HEb := hid_ (HEb.out.to (below1 _ (.cells #[.int .i64 (r.1 : Int), .slice Al r.2.1.length cl] 45)))
  replace HEl := hid_ (HEl.out.to (below1 _ (.cells #[.int .i64 (r.1 : Int), .slice Al r.2.1.length cl] 45)))
  go_wp2_with fail
  refine (samewheel_any (r.1 : Int) (r.1 : Int) r.2.1 r.2.1 _ _ (wl.alloc (.cells #[.int .i64 (r.1 : Int), .slice Al r.2.1.length cl] 45)) HEb.out HEl.out (by omega)).mono ?_
  rw [show (decide (((r.1 : Int) : Int) = (r.1 : Int)) && decide ((r.2.1 : List Int) = r.2.1)) = true from by simp]
  rintro e wo ⟨rfl, hwo⟩
  have bwo := bnext bwl2 hwo
  replace p0 := keepc hwo (p0)
  replace p1 := keepc hwo (p1)
  replace p2 := keepc hwo (p2)
  replace b0 := keepc hwo (b0)
  replace b1 := keepc hwo (b1)
  replace n0 := keepc hwo (n0)
  replace n1 := keepc hwo (n1)
  replace HEb := hid_ ((HEb.out).to hwo)
  replace HEl := hid_ ((HEl.out).to hwo)
  clear zp0 zp1 zb0 zn0
  have zp0 : w.heap.size < wo.heap.size := cell_lt p0
  have zp1 : w.heap.size + 1 < wo.heap.size := cell_lt p1
  have zb0 : wf.heap.size < wo.heap.size := cell_lt b0
  have zn0 : wf.heap.size + 1 < wo.heap.size := cell_lt n0
  go_wp2_with fail
  refine (awake_any _).mono ?_
  rintro e wz ⟨rfl, hbz⟩
  go_wp2_with fail
  go_ret
  exact ⟨rfl, bnext bwo hbz⟩
end Go.Proofs.Ytpnjffdjoacejaa

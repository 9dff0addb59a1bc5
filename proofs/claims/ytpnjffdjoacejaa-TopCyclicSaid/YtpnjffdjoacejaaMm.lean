/- Words for the laws on cyclic tag systems: wideCyclic; the law TagTurns, its early ways. -/
import Derived.Test.YtpnjffdjoacejaaMl
namespace Go.Proofs.Ytpnjffdjoacejaa
open Go.RowKit

structure CycBig (w : World) (B : Nat) (v : Value) (ws : List (List Int)) : Prop where
  rows : Rows2 w B v ws
  lim : ws.length ≤ 17592186044416 ∧ ∀ r ∈ ws, r.length ≤ 17592186044416
theorem CycBig.to {w w' : World} {v : Value} {ws : List (List Int)} (h : CycBig w w.heap.size v ws) (hb : Below w.heap.size w w') : CycBig w' w'.heap.size v ws := ⟨h.rows.to hb, h.lim⟩
def wideC (ws : List (List Int)) (q : List Int) : Bool := decide (300000 < q.length + sumL (ws.take 3001)) || decide (3000 < ws.length)
theorem wideC_no {ws : List (List Int)} {q : List Int} (h : wideC ws q = false) : q.length ≤ 300000 ∧ ws.length ≤ 3000 ∧ ∀ r ∈ ws, r.length ≤ 300000 := by
  simp only [wideC, Bool.or_eq_false_iff] at h
  have h1 : ¬ 300000 < q.length + sumL (ws.take 3001) := of_decide_eq_false h.1
  have h2 : ¬ 3000 < ws.length := of_decide_eq_false h.2
  rw [List.take_of_length_le (by omega)] at h1
  refine ⟨by omega, by omega, fun r hr => ?_⟩
  have := sumL_mem hr
  omega
theorem CycBig.in_ {w : World} {B : Nat} {v : Value} {ws : List (List Int)} {q : List Int} (h : CycBig w B v ws) (hw : wideC ws q = false) : CycIn w B v ws := by
  obtain ⟨_, h3, h4⟩ := wideC_no hw
  exact ⟨h.rows, by omega, fun r hr => by have := h4 r hr; omega⟩

set_option maxRecDepth 100000 in
set_option maxHeartbeats 2000000 in
theorem widec_any (ws : List (List Int)) (q : List Int) (v : Value) (a : Int) (v2 : Value) (w : World) (ht : CycBig w w.heap.size v ws) (hq : Elems w w.heap.size v2 (ints q)) (hl : q.length ≤ 17592186044416) :
    Calls Try.prog 23 #[.agg #[v], .agg #[.int .i64 a, v2]] w fun e w' => e = .returned (.bool (wideC ws q)) ∧ Below w.heap.size w w' := by
  obtain ⟨hr, hl1, hl3⟩ := ht
  obtain ⟨A2, c2, rfl⟩ := hr.form
  obtain ⟨A, c, rfl⟩ := hq.form
  rw [ints_len]
  have HR := hid_ hr
  have HL3 := hid_ hl3
  have HSB := hid_ (sumL_bound hl3)
  clear hr hq hl3
  go_enter Try.func23, Try.ntmps23
  go_wp2_with fail
  go_loopw [5, 6] (fun s5 s6 wr => ∃ k : Nat, s6 = .int .i64 ((k : Nat) : Int) ∧ k ≤ ws.length ∧ k ≤ 3001 ∧ s5 = .int .i64 ((q.length + sumL (ws.take k) : Nat) : Int) ∧ wr = (w.alloc (.cells #[.slice A2 ws.length c2] 43)).alloc (.cells #[.int .i64 a, .slice A q.length c] 45)) (fun _ s _ => ws.length - (intOf s).toNat)
  case atStart => exact ⟨0, rfl, Nat.zero_le _, Nat.zero_le _, by simp [sumL], rfl⟩
  case round =>
    obtain ⟨k, rfl, hk, hk7, rfl, rfl⟩ := hrel
    have hsb := HSB.out k
    have hsb2 : sumL (ws.take k) ≤ 3001 * 17592186044416 := Nat.le_trans hsb (Nat.mul_le_mul_right _ hk7)
    clear hsb
    by_cases hlt : k < ws.length ∧ k ≤ 3000
    · obtain ⟨hlt, h7⟩ := hlt
      obtain ⟨b2, o2, rfl, hb2⟩ := HR.out.addr (by omega)
      obtain ⟨r, hrk⟩ : ∃ r, ws[k]? = some r := ⟨_, List.getElem?_eq_getElem hlt⟩
      obtain ⟨Ar, dr, hcr, _⟩ := HR.out.row hrk
      have hrl := HL3.out r (List.mem_of_getElem? hrk)
      have HST := hid_ (sumL_step hrk)
      have t0 : 0 ≤ ((k : Nat) : Int) := by omega
      have t7 : ((k : Nat) : Int) ≤ 3000 := by omega
      generalize sumL (ws.take k) = S at hsb2 HST ⊢
      clear hrk
      go_wp2_with fail
      go_roundw
      case rel => exact ⟨k + 1, by go_num, by omega, by omega, by rw [HST.out]; go_num, trivial⟩
      case measure => simp [intOf]; omega
    · have hkk : sumL (ws.take 3001) = sumL (ws.take k) := by
        by_cases h : k < ws.length
        · rw [show k = 3001 by omega]
        · rw [List.take_of_length_le (by omega), List.take_of_length_le (by omega)]
      have HKK := hid_ hkk
      generalize hS : sumL (ws.take k) = S at hsb2 HKK ⊢
      clear hS hkk
      have hN : wideC ws q = (decide (300000 < q.length + S) || decide (3000 < ws.length)) := by
        rw [wideC, HKK.out]
      have HN := hid_ hN
      clear hN
      have hor : ¬ k < ws.length ∨ (k < ws.length ∧ ¬ k ≤ 3000) := by omega
      by_cases hbig : 300000 < q.length + S
      · have hb1 : (300000 : Int) < (q.length : Int) + (S : Int) := by omega
        rcases hor with h1 | ⟨h1, h7⟩
        · go_wp2_with fail
          go_ret
          exact ⟨ret_bool (by rw [HN.out]; simp; omega), below2 w _ _⟩
        · have h7 : ¬ ((k : Nat) : Int) ≤ 3000 := by omega
          go_wp2_with fail
          go_ret
          exact ⟨ret_bool (by rw [HN.out]; simp; omega), below2 w _ _⟩
      · have hb1 : ¬ (300000 : Int) < (q.length : Int) + (S : Int) := by omega
        rcases hor with h1 | ⟨h1, h7⟩
        · by_cases hr7 : (3000 : Int) < ws.length
          · go_wp2_with fail
            go_ret
            exact ⟨ret_bool (by rw [HN.out]; simp; omega), below2 w _ _⟩
          · go_wp2_with fail
            go_ret
            exact ⟨ret_bool (by rw [HN.out]; simp; omega), below2 w _ _⟩
        · have h7 : ¬ ((k : Nat) : Int) ≤ 3000 := by omega
          have hr7 : (3000 : Int) < ws.length := by omega
          go_wp2_with fail
          go_ret
          exact ⟨ret_bool (by rw [HN.out]; simp; omega), below2 w _ _⟩

theorem rollS_in {ws : List (List Int)} {a N : Nat} {q : List Int} (hf : fitsC ws a q = true) (hN : N ≤ 1000000) : rollS ws a q N = wresOf (rollC ws N a q) := by
  rw [rollS, if_neg (by rw [hf]; simp), if_neg (by omega), Int.toNat_natCast, Int.toNat_natCast]
theorem rollS_out {ws : List (List Int)} {a n : Int} {q : List Int} (hf : fitsC ws a q = true) (hn : n < 0 ∨ 1000000 < n) : rollS ws a q n = ⟨0, [], 0, 2⟩ := by
  rw [rollS, if_neg (by rw [hf]; simp), if_pos hn]
theorem turnS_zero {ws : List (List Int)} {a : Nat} {q : List Int} (hf : fitsC ws a q = true) (hz : q = []) : turnS ws a q = ⟨0, [], 0, 5⟩ := by
  rw [turnS, if_neg (by rw [hf]; simp), if_pos hz]
theorem turnS_big {ws : List (List Int)} {a : Nat} {q : List Int} (hf : fitsC ws a q = true) (hz : q ≠ []) (hb : 1000000 < (turnQ ws a q).length) : turnS ws a q = ⟨0, [], 0, 4⟩ := by
  have h := rollS_in (N := 1) hf (by omega)
  rw [turnS, if_neg (by rw [hf]; simp), if_neg hz]
  refine h.trans ?_
  rw [← cbump_zero (rollC ws 1 a q), rollC_big hz hb]
  rfl
theorem turnS_on {ws : List (List Int)} {a : Nat} {q : List Int} (hf : fitsC ws a q = true) (hz : q ≠ []) (hb : ¬ 1000000 < (turnQ ws a q).length) : turnS ws a q = ⟨(((a + 1) % ws.length : Nat) : Int), turnQ ws a q, 1, 0⟩ := by
  have h := rollS_in (N := 1) hf (by omega)
  rw [turnS, if_neg (by rw [hf]; simp), if_neg hz]
  refine h.trans ?_
  rw [← cbump_zero (rollC ws 1 a q), rollC_on hz hb]
  rfl

set_option maxRecDepth 1000000 in
set_option maxHeartbeats 8000000 in
theorem turns_wide (ws : List (List Int)) (a : Int) (q : List Int) (n : Int) (v v2 : Value) (w : World) (hB : CycBig w w.heap.size v ws) (hq : Elems w w.heap.size v2 (ints q)) (hcap : Capped v2) (hl : q.length ≤ 17592186044416) (hw : wideC ws q = true) :
    Calls Try.prog 4 #[.agg #[v], .agg #[.int .i64 a, v2], .int .i64 n] w (Yes w) := by
  have HB := hid_ hB
  obtain ⟨A2, c2, rfl⟩ := hB.rows.form
  obtain ⟨A, c, rfl⟩ := hq.form
  rw [ints_len] at hq hcap ⊢
  have HQ := hid_ hq
  have hcp := hcap _ _ _ rfl
  have HW := hid_ hw
  clear hB hq hcap hw
  go_enter Try.func4, Try.ntmps4
  go_wp2_with fail
  refine (widec_any ws q _ a _ _ (HB.out.to (below2 w _ _)) (HQ.out.to (below2 w _ _)) hl).mono ?_
  rw [HW.out]
  rintro e w1 ⟨rfl, hb1⟩
  go_wp2_with fail
  refine (awake_any _).mono ?_
  rintro e w2 ⟨rfl, hb2⟩
  go_wp2_with fail
  go_ret
  exact ⟨rfl, bnext (bnext (below2 w _ _) hb1) hb2⟩

set_option maxRecDepth 1000000 in
set_option maxHeartbeats 8000000 in
theorem turns_far (ws : List (List Int)) (a : Int) (q : List Int) (n : Int) (v v2 : Value) (w : World) (hB : CycBig w w.heap.size v ws) (hq : Elems w w.heap.size v2 (ints q)) (hcap : Capped v2) (hl : q.length ≤ 17592186044416) (hw : wideC ws q = false) (h1 : 200 < n) (h2 : n ≤ 1000000) :
    Calls Try.prog 4 #[.agg #[v], .agg #[.int .i64 a, v2], .int .i64 n] w (Yes w) := by
  have HB := hid_ hB
  obtain ⟨A2, c2, rfl⟩ := hB.rows.form
  obtain ⟨A, c, rfl⟩ := hq.form
  rw [ints_len] at hq hcap ⊢
  have HQ := hid_ hq
  have hcp := hcap _ _ _ rfl
  have HW := hid_ hw
  clear hB hq hcap hw
  go_enter Try.func4, Try.ntmps4
  go_wp2_with fail
  refine (widec_any ws q _ a _ _ (HB.out.to (below2 w _ _)) (HQ.out.to (below2 w _ _)) hl).mono ?_
  rw [HW.out]
  rintro e w1 ⟨rfl, hb1⟩
  go_wp2_with fail
  refine (awake_any _).mono ?_
  rintro e w2 ⟨rfl, hb2⟩
  go_wp2_with fail
  go_ret
  exact ⟨rfl, bnext (bnext (below2 w _ _) hb1) hb2⟩

set_option maxRecDepth 1000000 in
set_option maxHeartbeats 8000000 in
theorem turns_bad (ws : List (List Int)) (a : Int) (q : List Int) (n : Int) (v v2 : Value) (w : World) (hB : CycBig w w.heap.size v ws) (hq : Elems w w.heap.size v2 (ints q)) (hcap : Capped v2) (hl : q.length ≤ 17592186044416) (hw : wideC ws q = false) (hn : n ≤ 200 ∨ (200 < n ∧ 1000000 < n)) (hf : fitsC ws a q = false) :
    Calls Try.prog 4 #[.agg #[v], .agg #[.int .i64 a, v2], .int .i64 n] w (Yes w) := by
  have HB := hid_ hB
  obtain ⟨A2, c2, rfl⟩ := hB.rows.form
  obtain ⟨A, c, rfl⟩ := hq.form
  rw [ints_len] at hq hcap ⊢
  have HQ := hid_ hq
  have hcp := hcap _ _ _ rfl
  have HW := hid_ hw
  have HT := hid_ (hB.in_ hw)
  have hl3 : q.length ≤ 1000000 := by have := wideC_no hw; omega
  have HF := hid_ hf
  have HTU : Hid (turnS ws a q = ⟨0, [], 0, 1⟩) := hid_ (if_pos hf)
  have HR : Hid (rollS ws a q n = ⟨0, [], 0, 1⟩) := hid_ (if_pos hf)
  clear hB hq hcap hw hf
  rcases hn with hn | ⟨hn, hn2⟩
  all_goals cases hv : validC ws
  all_goals
    have HV := hid_ hv
    clear hv
    go_enter Try.func4, Try.ntmps4
    go_wp2_with fail
    refine (widec_any ws q _ a _ _ (HB.out.to (below2 w _ _)) (HQ.out.to (below2 w _ _)) hl).mono ?_
    rw [HW.out]
    rintro e w1 ⟨rfl, hb1⟩
    obtain ⟨p0, p1, p2, hz, hw1⟩ := box12 hb1
    clear hb1
    go_wp2_with fail
    have hS : w1.cell? ⟨w.heap.size, 0, none⟩ = some (.slice A2 ws.length c2) ∧ w1.cell? ⟨w.heap.size + 1, 0, none⟩ = some (.int .i64 a) ∧ w1.cell? ⟨w.heap.size + 1, 1, none⟩ = some (.slice A q.length c) ∧ Below w.heap.size w w1 := ⟨p0, p1, p2, hw1⟩
    go_region_held3 (fun w' => w'.cell? ⟨w.heap.size, 0, none⟩ = some (.slice A2 ws.length c2) ∧ w'.cell? ⟨w.heap.size + 1, 0, none⟩ = some (.int .i64 a) ∧ w'.cell? ⟨w.heap.size + 1, 1, none⟩ = some (.slice A q.length c) ∧ Below w.heap.size w w')
      (first | assumption | exact ⟨p0, p1, p2, hw1.drew⟩ | exact keepT hba (by assumption) | exact keepT hbb (by assumption) | exact keepT hbc (by assumption) | exact keepT hbd (by assumption))
      (first
        | (go_at_call 24; refine (vcyc_any ws _ _ (HT.out.to (by first | exact hw1.drew | exact (And.right (And.right (And.right (by assumption))))))).mono ?_; rw [HV.out]; rintro e wa ⟨rfl, hba⟩)
        | (go_at_call 25; refine (rvcyc_any ws _ _ (HT.out.to (by first | exact hw1.drew | exact (And.right (And.right (And.right (by assumption))))))).mono ?_; rw [HV.out]; rintro e wb ⟨rfl, hbb⟩)
        | (go_at_call 26; refine (fcyc_any ws a q _ _ _ (HT.out.to (by first | exact hw1.drew | exact (And.right (And.right (And.right (by assumption)))))) (HQ.out.to (by first | exact hw1.drew | exact (And.right (And.right (And.right (by assumption)))))) hl3).mono ?_; rw [HF.out]; rintro e wc ⟨rfl, hbc⟩)
        | (go_at_call 27; refine (rfcyc_any ws a q _ _ _ (HT.out.to (by first | exact hw1.drew | exact (And.right (And.right (And.right (by assumption)))))) (HQ.out.to (by first | exact hw1.drew | exact (And.right (And.right (And.right (by assumption)))))) hl3).mono ?_; rw [HF.out]; rintro e wd ⟨rfl, hbd⟩))
    go_wp2_with fail
    obtain ⟨p0, p1, p2, hwd⟩ : wd.cell? ⟨w.heap.size, 0, none⟩ = some (.slice A2 ws.length c2) ∧ wd.cell? ⟨w.heap.size + 1, 0, none⟩ = some (.int .i64 a) ∧ wd.cell? ⟨w.heap.size + 1, 1, none⟩ = some (.slice A q.length c) ∧ Below w.heap.size w wd := (by assumption)
    clear hS hw1 hba hbb hbc hbd
    refine (turn_any ws a q _ _ wd (HT.out.to hwd) (HQ.out.to hwd) hl3).mono ?_
    rw [HTU.out]
    rintro e we ⟨va, rfl, hEa, -, hbe⟩
    obtain ⟨Aa, ca, rfl⟩ := hEa.form
    simp only at hEa
    have HEa := hid_ hEa
    have hwe := bnext hwd hbe
    clear hEa
    rw [show (ints ([] : List Int)).length = 0 from rfl]
    rw [show (ints ([] : List Int)).length = 0 from rfl] at HEa
    replace p0 := keepc hbe (p0)
    replace p1 := keepc hbe (p1)
    replace p2 := keepc hbe (p2)
    have zp0 : w.heap.size < we.heap.size := cell_lt p0
    have zp1 : w.heap.size + 1 < we.heap.size := cell_lt p1
    go_wp2_with fail
    have hwe2 := hwe.alloc hwe.size (.cells #[.int .i64 0, .slice Aa 0 ca] 45)
    refine (roll_any ws a q n _ _ _ (HT.out.to hwe2) (HQ.out.to hwe2) hl3).mono ?_
    rw [HR.out]
    rintro e wf ⟨vb, rfl, hEb, -, hbf⟩
    obtain ⟨Ab, cb, rfl⟩ := hEb.form
    simp only at hEb
    have HEb := hid_ hEb
    have hwf := bnext hwe2 hbf
    have BA := (Blk.new we 45 #[.int .i64 0, .slice Aa 0 ca]).to hbf
    have a0 := BA.cell 0
    have a1 := BA.cell 1
    simp at a0 a1
    clear hEb BA hwe2
    rw [show (ints ([] : List Int)).length = 0 from rfl]
    rw [show (ints ([] : List Int)).length = 0 from rfl] at HEb
    replace p0 := keepc hbf (keepa _ p0)
    replace p1 := keepc hbf (keepa _ p1)
    replace p2 := keepc hbf (keepa _ p2)
    replace HEa := hid_ ((HEa.out.to (below1 _ _)).to hbf)
    clear zp0 zp1
    have zp0 : w.heap.size < wf.heap.size := cell_lt p0
    have zp1 : w.heap.size + 1 < wf.heap.size := cell_lt p1
    have za0 : we.heap.size < wf.heap.size := cell_lt a0
    go_wp2_with fail
    have hwf2 := (hwf.alloc hwf.size (.cells #[.int .i64 0, .slice Ab 0 cb] 45)).alloc (by have := hwf.size; simp; omega) (.cells #[.int .i64 0, .slice none 0 0] 45)
    refine (rfcyc_any ws a q _ _ _ (HT.out.to hwf2) (HQ.out.to hwf2) hl3).mono ?_
    rw [HF.out]
    rintro e wg ⟨rfl, hbg⟩
    have hwg := bnext hwf2 hbg
    have BB := ((Blk.new wf 45 #[.int .i64 0, .slice Ab 0 cb]).alloc (.cells #[.int .i64 0, .slice none 0 0] 45)).to hbg
    have b0 := BB.cell 0
    have b1 := BB.cell 1
    have BN := (show Blk ((wf.alloc (.cells #[.int .i64 0, .slice Ab 0 cb] 45)).alloc (.cells #[.int .i64 0, .slice none 0 0] 45)) (wf.heap.size + 1) 45 #[.int .i64 0, .slice none 0 0] from (by have h := Blk.new (wf.alloc (.cells #[.int .i64 0, .slice Ab 0 cb] 45)) 45 #[.int .i64 0, .slice none 0 0]; simpa using h)).to hbg
    have n0 := BN.cell 0
    have n1 := BN.cell 1
    simp at b0 b1 n0 n1
    clear BB BN hwf2
    replace p0 := keepc hbg (keepa _ (keepa _ p0))
    replace p1 := keepc hbg (keepa _ (keepa _ p1))
    replace p2 := keepc hbg (keepa _ (keepa _ p2))
    replace a0 := keepc hbg (keepa _ (keepa _ a0))
    replace a1 := keepc hbg (keepa _ (keepa _ a1))
    replace HEa := hid_ ((HEa.out.to (below2 _ _ _)).to hbg)
    replace HEb := hid_ ((HEb.out.to (below2 _ _ _)).to hbg)
    clear zp0 zp1 za0
    have zp0 : w.heap.size < wg.heap.size := cell_lt p0
    have zp1 : w.heap.size + 1 < wg.heap.size := cell_lt p1
    have za0 : we.heap.size < wg.heap.size := cell_lt a0
    have zb0 : wf.heap.size < wg.heap.size := cell_lt b0
    have zn0 : wf.heap.size + 1 < wg.heap.size := cell_lt n0
    go_wp2_with fail
    refine (samewheel_any 0 0 ([] : List Int) ([] : List Int) _ _ wg HEa.out (Elems.nil _ _) (by simp)).mono ?_
    rw [show (decide ((0 : Int) = 0) && decide ((([] : List Int) : List Int) = ([] : List Int))) = true from by simp]
    rintro e wh ⟨rfl, hwh⟩
    have bwh := bnext hwg hwh
    replace p0 := keepc hwh (p0)
    replace p1 := keepc hwh (p1)
    replace p2 := keepc hwh (p2)
    replace a0 := keepc hwh (a0)
    replace a1 := keepc hwh (a1)
    replace b0 := keepc hwh (b0)
    replace b1 := keepc hwh (b1)
    replace n0 := keepc hwh (n0)
    replace n1 := keepc hwh (n1)
    replace HEa := hid_ ((HEa.out).to hwh)
    replace HEb := hid_ ((HEb.out).to hwh)
    clear zp0 zp1 za0 zb0 zn0
    have zp0 : w.heap.size < wh.heap.size := cell_lt p0
    have zp1 : w.heap.size + 1 < wh.heap.size := cell_lt p1
    have za0 : we.heap.size < wh.heap.size := cell_lt a0
    have zb0 : wf.heap.size < wh.heap.size := cell_lt b0
    have zn0 : wf.heap.size + 1 < wh.heap.size := cell_lt n0
    go_wp2_with fail
    refine (samewheel_any 0 0 ([] : List Int) ([] : List Int) _ _ wh HEb.out (Elems.nil _ _) (by simp)).mono ?_
    rw [show (decide ((0 : Int) = 0) && decide ((([] : List Int) : List Int) = ([] : List Int))) = true from by simp]
    rintro e wi ⟨rfl, hwi⟩
    have bwi := bnext bwh hwi
    replace p0 := keepc hwi (p0)
    replace p1 := keepc hwi (p1)
    replace p2 := keepc hwi (p2)
    replace a0 := keepc hwi (a0)
    replace a1 := keepc hwi (a1)
    replace b0 := keepc hwi (b0)
    replace b1 := keepc hwi (b1)
    replace n0 := keepc hwi (n0)
    replace n1 := keepc hwi (n1)
    replace HEa := hid_ ((HEa.out).to hwi)
    replace HEb := hid_ ((HEb.out).to hwi)
    clear zp0 zp1 za0 zb0 zn0
    have zp0 : w.heap.size < wi.heap.size := cell_lt p0
    have zp1 : w.heap.size + 1 < wi.heap.size := cell_lt p1
    have za0 : we.heap.size < wi.heap.size := cell_lt a0
    have zb0 : wf.heap.size < wi.heap.size := cell_lt b0
    have zn0 : wf.heap.size + 1 < wi.heap.size := cell_lt n0
    go_wp2_with fail
    refine (awake_any _).mono ?_
    rintro e wz ⟨rfl, hbz⟩
    go_wp2_with fail
    go_ret
    exact ⟨rfl, bnext bwi hbz⟩
end Go.Proofs.Ytpnjffdjoacejaa

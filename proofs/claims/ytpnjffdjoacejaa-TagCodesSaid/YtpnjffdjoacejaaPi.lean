/- The law TagCodes: its early ways. -/
import Derived.Test.YtpnjffdjoacejaaPh
namespace Go.Proofs.Ytpnjffdjoacejaa
open Go.RowKit

theorem bitsS_len (t : TagS) (q : List Int) : (bitsS t q).q.length ≤ 1000000 := by
  unfold bitsS
  split
  · simp
  · rename_i hf
    have hf' : fitsT t q = true := by cases h : fitsT t q <;> simp_all
    obtain ⟨hv, _, hw⟩ := fitsT_parts hf'
    split
    · simp
    · simp only [enc_eq hw, encF_len]
      omega
theorem lettersS_bad {t : TagS} {bits : List Int} (hv : validT t = false) : lettersS t bits = ⟨[], 0, 1⟩ := by rw [lettersS, if_pos hv]
theorem bitsS_bad {t : TagS} {q : List Int} (hv : fitsT t q = false) : bitsS t q = ⟨[], 0, 1⟩ := by rw [bitsS, if_pos hv]
theorem fitsT_bad {t : TagS} {q : List Int} (hv : validT t = false) : fitsT t q = false := by
  cases h : fitsT t q with
  | false => rfl
  | true => rw [(fitsT_parts h).1] at hv; cases hv
theorem rlettersS_len {r : Nat} {bits : List Int} (hr : 1 ≤ r) : ((rlettersS r bits).getD []).length ≤ bits.length := by
  unfold rlettersS
  split
  · simp
  · cases h : lettersK r bits (bits.length / r) with
    | none => simp
    | some L =>
      rw [Option.getD_some, letters_len h]
      exact Nat.div_le_self _ _

section
variable (t : TagS) (q bits : List Int) (v2 v3 v : Value) (A : Option Addr) (c : Nat) (w : World)

set_option maxRecDepth 1000000 in
set_option maxHeartbeats 4000000 in
theorem codes_e0 (hB : TagBig w w.heap.size v2 v3 t) (hq : Elems w w.heap.size v (ints q)) (hl : q.length ≤ 17592186044416) (hbl : bits.length ≤ 17592186044416) (hw : wideB t q = true) :
    Calls Try.prog 5 #[.agg #[.int .i64 t.del, v2, v3], v, .slice A bits.length c] w (Yes w) := by
  have HB := hid_ hB
  have HQ := hid_ hq
  have HW := hid_ hw
  clear hB hq hw
  go_enter Try.func5, Try.ntmps5
  go_wp2_with fail
  refine (wide_any t q _ _ _ _ (HB.out.to (below1 w _)) (HQ.out.to (below1 w _)) hl).mono ?_
  rw [HW.out]
  rintro e w1 ⟨rfl, hb1⟩
  obtain ⟨p0, p1, p2, hz, hw1⟩ := box3 hb1
  clear hb1
  go_wp2_with fail
  refine (awake_any _).mono ?_
  rintro e w2 ⟨rfl, hb2⟩
  go_wp2_with fail
  go_ret
  exact ⟨rfl, bnext hw1 hb2⟩

set_option maxRecDepth 1000000 in
set_option maxHeartbeats 4000000 in
theorem codes_e1 (hB : TagBig w w.heap.size v2 v3 t) (hq : Elems w w.heap.size v (ints q)) (hl : q.length ≤ 17592186044416) (hbl : bits.length ≤ 17592186044416) (hw : wideB t q = false) (h1 : 300000 < bits.length) :
    Calls Try.prog 5 #[.agg #[.int .i64 t.del, v2, v3], v, .slice A bits.length c] w (Yes w) := by
  have HB := hid_ hB
  have HQ := hid_ hq
  have HW := hid_ hw
  have i1 : (300000 : Int) < bits.length := by omega
  clear hB hq hw
  go_enter Try.func5, Try.ntmps5
  go_wp2_with fail
  refine (wide_any t q _ _ _ _ (HB.out.to (below1 w _)) (HQ.out.to (below1 w _)) hl).mono ?_
  rw [HW.out]
  rintro e w1 ⟨rfl, hb1⟩
  obtain ⟨p0, p1, p2, hz, hw1⟩ := box3 hb1
  clear hb1
  go_wp2_with fail
  refine (awake_any _).mono ?_
  rintro e w2 ⟨rfl, hb2⟩
  go_wp2_with fail
  go_ret
  exact ⟨rfl, bnext hw1 hb2⟩

set_option maxRecDepth 1000000 in
set_option maxHeartbeats 4000000 in
theorem codes_e2 (hB : TagBig w w.heap.size v2 v3 t) (hq : Elems w w.heap.size v (ints q)) (hl : q.length ≤ 17592186044416) (hbl : bits.length ≤ 17592186044416) (hw : wideB t q = false) (h1 : bits.length ≤ 300000) (h2 : 1200000 < t.rules.length * q.length) :
    Calls Try.prog 5 #[.agg #[.int .i64 t.del, v2, v3], v, .slice A bits.length c] w (Yes w) := by
  have HB := hid_ hB
  have HQ := hid_ hq
  have HW := hid_ hw
  have i1 : ¬ (300000 : Int) < bits.length := by omega
  obtain ⟨hw1, _, hw3, _⟩ := wideB_no hw
  obtain ⟨P, hP⟩ : ∃ P, P = t.rules.length * q.length := ⟨_, rfl⟩
  have hPi : (t.rules.length : Int) * (q.length : Int) = (P : Int) := by rw [hP]; simp
  have hPb : P ≤ 14000000 := by rw [hP]; exact Nat.le_trans (Nat.mul_le_mul hw3 hw1) (by omega)
  have i2 : (1200000 : Int) < (P : Int) := by omega
  obtain ⟨A2, c2, rfl⟩ := hB.rules.form
  obtain ⟨Aq, cq, rfl⟩ := hq.form
  rw [ints_len] at HQ ⊢
  clear hP hw1 hw3
  clear hB hq hw
  go_enter Try.func5, Try.ntmps5
  go_wp2_with fail
  refine (wide_any t q _ _ _ _ (HB.out.to (below1 w _)) (HQ.out.to (below1 w _)) hl).mono ?_
  rw [HW.out]
  rintro e w1 ⟨rfl, hb1⟩
  obtain ⟨p0, p1, p2, hz, hw1⟩ := box3 hb1
  clear hb1
  go_wp2_with fail
  refine (awake_any _).mono ?_
  rintro e w2 ⟨rfl, hb2⟩
  go_wp2_with fail
  go_ret
  exact ⟨rfl, bnext hw1 hb2⟩

set_option maxRecDepth 1000000 in
set_option maxHeartbeats 4000000 in
theorem codes_e3 (hB : TagBig w w.heap.size v2 v3 t) (hq : Elems w w.heap.size v (ints q)) (hbt : Elems w w.heap.size (.slice A bits.length c) (ints bits)) (hcap : bits.length ≤ c) (hw : wideB t q = false) (h1 : bits.length ≤ 300000) (h2 : ¬ 1200000 < t.rules.length * q.length) (hv : validT t = false) :
    Calls Try.prog 5 #[.agg #[.int .i64 t.del, v2, v3], v, .slice A bits.length c] w (Yes w) := by
  have HB := hid_ hB
  have HT := hid_ (hB.in_ hw)
  have i1 : ¬ (300000 : Int) < bits.length := by omega
  obtain ⟨hw1, _, hw3, _⟩ := wideB_no hw
  obtain ⟨P, hP⟩ : ∃ P, P = t.rules.length * q.length := ⟨_, rfl⟩
  rw [← hP] at h2
  have hPi : (t.rules.length : Int) * (q.length : Int) = (P : Int) := by rw [hP]; simp
  have i2 : ¬ (1200000 : Int) < (P : Int) := by omega
  obtain ⟨A2, c2, rfl⟩ := hB.rules.form
  obtain ⟨Aq, cq, rfl⟩ := hq.form
  rw [ints_len] at hq ⊢
  have HQ := hid_ hq
  have HBT := hid_ hbt
  have HW := hid_ hw
  have HV := hid_ hv
  have hl3 : q.length ≤ 1000000 := by omega
  have hl4 : bits.length ≤ 1000000 := by omega
  clear hB hq hbt hw hP hw1 hw3 hv
  go_enter Try.func5, Try.ntmps5
  go_wp2_with fail
  refine (wide_any t q _ _ _ _ (HB.out.to (below1 w _)) (HQ.out.to (below1 w _)) (by omega)).mono ?_
  rw [HW.out]
  rintro e w1 ⟨rfl, hb1⟩
  obtain ⟨p0, p1, p2, hz, hw1⟩ := box3 hb1
  clear hb1
  go_wp2_with fail
  refine (bitsc_any t q _ _ _ w1 (HT.out.to hw1) (HQ.out.to hw1) hl3).mono ?_
  rw [bitsS_bad (fitsT_bad HV.out)]
  rintro e wa ⟨va, rfl, hEa, -, hba⟩
  obtain ⟨Aa, ca, rfl⟩ := hEa.form
  rw [show (ints ([] : List Int)).length = 0 from rfl]
  have hwa := bnext hw1 hba
  replace p0 := keepc hba p0
  replace p1 := keepc hba p1
  replace p2 := keepc hba p2
  clear hEa hba
  go_wp2_with fail
  refine (letters2_any t bits _ _ _ _ wa (HT.out.to hwa) (HBT.out.to hwa) hcap hl4).mono ?_
  rw [lettersS_bad HV.out]
  rintro e wb ⟨vb, rfl, hEb, hbb⟩
  obtain ⟨Ab, cb, rfl⟩ := hEb.form
  rw [show (ints ([] : List Int)).length = 0 from rfl]
  have hwb := bnext hwa hbb
  replace p0 := keepc hbb p0
  replace p1 := keepc hbb p1
  replace p2 := keepc hbb p2
  clear hEb hbb
  go_wp2_with fail
  refine (rvalid_any t _ _ wb (HT.out.to hwb)).mono ?_
  rw [HV.out]
  rintro e wc ⟨rfl, hbc⟩
  have hwc := bnext hwb hbc
  replace p0 := keepc hbc p0
  replace p1 := keepc hbc p1
  replace p2 := keepc hbc p2
  clear hbc
  go_wp2_with fail
  refine (toCyclic_any t _ _ wc (HT.out.to hwc)).mono ?_
  rintro e wd ⟨hbd, hd⟩
  rw [if_neg (by rw [HV.out]; simp)] at hd
  subst hd
  have hwd := bnext hwc hbd
  clear hbd p0 p1 p2
  go_wp2_with fail
  refine (awake_any _).mono ?_
  rintro e we ⟨rfl, hbe⟩
  go_wp2_with fail
  go_ret
  exact ⟨rfl, bnext (bnext hwd (below1 wd _)) hbe⟩
end
end Go.Proofs.Ytpnjffdjoacejaa

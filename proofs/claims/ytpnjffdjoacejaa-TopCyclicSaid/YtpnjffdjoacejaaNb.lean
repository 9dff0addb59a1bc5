/- Contracts: Bits of package tag; rules of the law package. -/
import Derived.Test.YtpnjffdjoacejaaNa
namespace Go.Proofs.Ytpnjffdjoacejaa
open Go.RowKit

/-- What Bits returns. -/
def bitsS (t : TagS) (q : List Int) : TRes := if fitsT t q = false then ⟨[], 0, 1⟩ else if 1000000 < q.length * t.rules.length then ⟨[], 0, 4⟩ else ⟨enc t.rules.length q, 0, 0⟩

set_option maxRecDepth 100000 in
set_option maxHeartbeats 2000000 in
theorem bits_any (t : TagS) (q : List Int) (v2 v3 v : Value) (w : World) (ht : TagIn w w.heap.size v2 v3 t) (hq : Elems w w.heap.size v (ints q)) (hl : q.length ≤ 1000000) :
    Calls Try.prog 33 #[.agg #[.int .i64 t.del, v2, v3], v] w (SRan w (bitsS t q)) := by
  have HT := hid_ ht
  obtain ⟨A2, c2, rfl⟩ := ht.rules.form
  obtain ⟨A, c, rfl⟩ := hq.form
  rw [ints_len] at hq ⊢
  have HQ := hid_ hq
  cases hf : fitsT t q
  · rw [bitsS, if_pos hf]
    have HF := hid_ hf
    clear ht hq hf
    go_enter Try.func33, Try.ntmps33
    go_wp2_with fail
    refine (fits_any t q _ v3 _ _ (HT.out.to (below1 w _)) (HQ.out.to (below1 w _)) hl).mono ?_
    rw [HF.out]
    rintro e w1 ⟨rfl, hb1⟩
    obtain ⟨p0, p1, p2, hz, hw1⟩ := box3 hb1
    go_wp2_with fail
    go_ret2
    exact ⟨_, rfl, Elems.nil _ _, hw1⟩
  · rw [bitsS, if_neg (by rw [hf]; simp)]
    obtain ⟨hv, f1, f2⟩ := fitsT_parts hf
    obtain ⟨_, _, _, r2, _, _⟩ := validT_parts hv
    have HF := hid_ hf
    have HW := hid_ f2
    obtain ⟨P, hP⟩ : ∃ P, P = q.length * t.rules.length := ⟨_, rfl⟩
    have hPi : (q.length : Int) * (t.rules.length : Int) = (P : Int) := by rw [hP]; simp
    have hPb : P ≤ 60000000 := by rw [hP]; exact Nat.le_trans (Nat.mul_le_mul f1 r2) (by omega)
    rw [← hP]
    have HP := hid_ hP
    have HPI := hid_ hPi
    clear ht hq hf hv f2 hP
    by_cases hbig : 1000000 < P
    · rw [if_pos hbig]
      have hb1' : (1000000 : Int) < (P : Int) := by omega
      go_enter Try.func33, Try.ntmps33
      go_wp2_with fail
      refine (fits_any t q _ v3 _ _ (HT.out.to (below1 w _)) (HQ.out.to (below1 w _)) hl).mono ?_
      rw [HF.out]
      rintro e w1 ⟨rfl, hb1⟩
      obtain ⟨p0, p1, p2, hz, hw1⟩ := box3 hb1
      go_wp2_with fail
      go_ret2
      exact ⟨_, rfl, Elems.nil _ _, hw1⟩
    · rw [if_neg hbig]
      have hb1' : ¬ (1000000 : Int) < (P : Int) := by omega
      go_enter Try.func33, Try.ntmps33
      go_wp2_with fail
      refine (fits_any t q _ v3 _ _ (HT.out.to (below1 w _)) (HQ.out.to (below1 w _)) hl).mono ?_
      rw [HF.out]
      rintro e w1 ⟨rfl, hb1⟩
      obtain ⟨p0, p1, p2, hz, hw1⟩ := box3 hb1
      clear hb1
      go_wp2_with fail
      refine (encoded_any q t.rules.length _ w1 (HQ.out.to hw1) HW.out (by rw [← HP.out]; omega) hl (by omega)).mono ?_
      rintro e w2 ⟨g, c', rfl, hown, hb2⟩
      have HO := hid_ (own_elems hown)
      clear hown
      go_wp2_with fail
      go_ret2
      exact ⟨_, rfl, HO.out, bnext hw1 hb2⟩

set_option maxRecDepth 100000 in
set_option maxHeartbeats 2000000 in
theorem rules_any (t : TagS) (v2 v3 : Value) (w : World) (ht : TagIn w w.heap.size v2 v3 t) (hv : validT t = true) :
    Calls Try.prog 37 #[.agg #[.int .i64 t.del, v2, v3]] w fun e w' => e = .returned (.int .i64 ((sumL t.rules * t.rules.length : Nat) : Int)) ∧ Below w.heap.size w w' := by
  obtain ⟨del, rules, stops⟩ := t
  have HT := hid_ ht
  obtain ⟨A2, c2, rfl⟩ := ht.rules.form
  obtain ⟨_, _, r1, r2, _, _⟩ := validT_parts hv
  simp only at r1 r2 ⊢
  have HV := hid_ hv
  have HSB : Hid (∀ k, sumL (rules.take k) ≤ k * 200) := hid_ (sumL_bound (fun r hr => by
    obtain ⟨i, hi⟩ := List.mem_iff_getElem?.1 hr
    exact (rule_get (t := ⟨del, rules, stops⟩) hv hi).1))
  obtain ⟨b2, o2, rfl, hb2⟩ := ht.rules.addr r1
  clear ht hv
  go_enter Try.func37, Try.ntmps37
  go_wp2_with fail
  go_loopw [3, 4] (fun s3 s4 wr => ∃ k n : Nat, s4 = .int .i64 ((k : Nat) : Int) ∧ k ≤ rules.length ∧ s3 = .int .i64 ((sumL (rules.take k) * rules.length : Nat) : Int) ∧ wr = (w.alloc (.cells #[.int .i64 del, .slice (some ⟨b2, o2, none⟩) rules.length c2, v3] 25)).drewN n) (fun _ s _ => rules.length - (intOf s).toNat)
  case atStart => exact ⟨0, 0, rfl, Nat.zero_le _, by simp [sumL], rfl⟩
  case round =>
    obtain ⟨k, n, rfl, hk, rfl, rfl⟩ := hrel
    by_cases hlt : k < rules.length
    · obtain ⟨r, hrk⟩ : ∃ r, rules[k]? = some r := ⟨_, List.getElem?_eq_getElem hlt⟩
      obtain ⟨Ar, dr, hcr, _⟩ := HT.out.rules.row hrk
      have hrl := (rule_get HV.out (k := k) hrk).1
      have hsb := HSB.out k
      have hst := sumL_step hrk
      obtain ⟨S, hS⟩ : ∃ S, S = sumL (rules.take k) * rules.length := ⟨_, rfl⟩
      obtain ⟨P, hP⟩ : ∃ P, P = r.length * rules.length := ⟨_, rfl⟩
      have hPi : (r.length : Int) * (rules.length : Int) = (P : Int) := by rw [hP]; simp
      have hPb : P ≤ 120000 := by rw [hP]; exact Nat.le_trans (Nat.mul_le_mul hrl r2) (by omega)
      have hSb : S ≤ 72000000 := by
        rw [hS]
        exact Nat.le_trans (Nat.mul_le_mul (Nat.le_trans hsb (Nat.mul_le_mul_right _ (Nat.le_trans (Nat.le_of_lt hlt) r2))) r2) (by omega)
      have hn : sumL (rules.take (k + 1)) * rules.length = S + P := by rw [hst, Nat.add_mul, ← hS, ← hP]
      rw [← hS]
      have HN := hid_ hn
      have t0 : 0 ≤ ((k : Nat) : Int) := by omega
      have t1 : ((k : Nat) : Int) < rules.length := by omega
      have cr := keepa (.cells #[.int .i64 del, .slice (some ⟨b2, o2, none⟩) rules.length c2, v3] 25) hcr
      have g0 : IntKind.i64.wrap ((S : Int) + (P : Int)) = (S : Int) + (P : Int) := IntWalk.i64_in _ (by omega)
      have g1 : IntKind.i64.wrap (P : Int) = (P : Int) := IntWalk.i64_in _ (by omega)
      clear hrk hrl hsb hst hS hP hn hcr
      go_wp2_with fail
      go_quiet (fail)
      go_wp2_with fail
      go_roundw
      case rel => exact ⟨k + 1, _, by go_num, by omega, by rw [HN.out]; go_num, rfl⟩
      case measure => simp [intOf]; omega
    · go_wp2_with fail
      go_ret
      rw [List.take_of_length_le (by omega)]
      exact ⟨rfl, below_drewN (below1 w _) _⟩
end Go.Proofs.Ytpnjffdjoacejaa

/- Contracts: Fits of package tag, and the specification's Valid and Fits. -/
import Derived.Test.YtpnjffdjoacejaaKd
namespace Go.Proofs.Ytpnjffdjoacejaa
open Go.RowKit

set_option maxHeartbeats 2000000 in
theorem fits_any (t : TagS) (q : List Int) (v2 v3 v : Value) (w : World) (h : TagIn w w.heap.size v2 v3 t) (hq : Elems w w.heap.size v (ints q)) (hl : q.length ≤ 1000000) :
    Calls Try.prog 14 #[.agg #[.int .i64 t.del, v2, v3], v] w fun e w' => e = .returned (.bool (fitsT t q)) ∧ Below w.heap.size w w' := by
  have HT := hid_ h
  have HQ := hid_ hq
  obtain ⟨A2, c2, rfl⟩ := h.rules.form
  clear h hq
  cases hv : validT t
  · rw [show fitsT t q = false by simp [fitsT, hv]]
    have HV := hid_ hv
    clear hv
    go_enter Try.func14, Try.ntmps14
    go_wp2_with fail
    refine (valid_any t _ v3 _ (HT.out.to (below1 w _))).mono ?_
    rw [HV.out]
    rintro e w1 ⟨rfl, hb1⟩
    obtain ⟨p0, p1, p2, hz, hw1⟩ := box3 hb1
    go_wp2_with fail
    go_ret
    exact ⟨rfl, hw1⟩
  · rw [show fitsT t q = (decide ((q.length : Int) ≤ 100000) && wordB t.rules.length q) by simp [fitsT, hv]]
    have HV := hid_ hv
    clear hv
    cases hB : (decide ((q.length : Int) ≤ 100000) && wordB t.rules.length q)
    all_goals
      have HB := hid_ hB
      clear hB
      go_enter Try.func14, Try.ntmps14
      go_wp2_with fail
      refine (valid_any t _ v3 _ (HT.out.to (below1 w _))).mono ?_
      rw [HV.out]
      rintro e w1 ⟨rfl, hb1⟩
      obtain ⟨p0, p1, p2, hz, hw1⟩ := box3 hb1
      clear hb1
      go_wp2_with fail
      refine (isWord_any q t.rules.length 100000 v w1 (HQ.out.to hw1) hl).mono ?_
      rw [HB.out]
      rintro e w2 ⟨rfl, rfl⟩
      go_wp2_with fail
      go_ret
      exact ⟨rfl, hw1⟩

set_option maxHeartbeats 2000000 in
theorem rvalid_any (t : TagS) (v2 v3 : Value) (w : World) (h : TagIn w w.heap.size v2 v3 t) :
    Calls Try.prog 13 #[.agg #[.int .i64 t.del, v2, v3]] w fun e w' => e = .returned (.bool (validT t)) ∧ Below w.heap.size w w' := by
  obtain ⟨del, rules, stops⟩ := t
  obtain ⟨hr, hs, hl1, hl2, hl3⟩ := h
  simp only at hr hs hl1 hl2 hl3 ⊢
  obtain ⟨A2, c2, rfl⟩ := hr.form
  obtain ⟨A3, c3, rfl⟩ := hs.form
  rw [bools_len] at hs ⊢
  by_cases hok : 1 ≤ del ∧ del ≤ 4 ∧ 1 ≤ rules.length ∧ rules.length ≤ 600 ∧ stops.length = rules.length
  · rw [validT_mk hok.1 hok.2.1 hok.2.2.1 hok.2.2.2.1 hok.2.2.2.2]
    simp only
    obtain ⟨k1, k2, k3, k4, k5⟩ := hok
    rw [k5] at hs ⊢
    have t1 : ¬ del < 1 := by omega
    have t2 : ¬ 4 < del := by omega
    have t3 : ¬ (rules.length : Int) < 1 := by omega
    have t4 : ¬ (600 : Int) < rules.length := by omega
    have HR := hid_ hr; clear hr
    have HL3 := hid_ hl3; clear hl3
    clear hs k5
    obtain ⟨b0, off, rfl, hb⟩ := HR.out.addr k3
    go_enter Try.func13, Try.ntmps13
    go_wp2_with fail
    go_loopw [4] (fun s wr => ∃ k : Nat, s = .int .i64 ((k : Nat) : Int) ∧ k ≤ rules.length ∧ Hid ((rules.take k).all (ruleB rules.length) = true) ∧ wr = w.alloc (.cells #[.int .i64 del, .slice (some ⟨b0, off, none⟩) rules.length c2, .slice A3 rules.length c3] 25)) (fun s _ => rules.length - (intOf s).toNat)
    case atStart => exact ⟨0, rfl, Nat.zero_le _, hid_ rfl, rfl⟩
    case round =>
      obtain ⟨k, rfl, hk, HT, rfl⟩ := hrel
      by_cases hlt : k < rules.length
      · obtain ⟨r, hrk⟩ : ∃ r, rules[k]? = some r := ⟨_, List.getElem?_eq_getElem hlt⟩
        obtain ⟨A, d, hc, hE⟩ := HR.out.row hrk
        have hrl := HL3.out r (List.mem_of_getElem? hrk)
        have HE := hid_ hE
        have HK := hid_ hrk
        have hc' := keepa (.cells #[.int .i64 del, .slice (some ⟨b0, off, none⟩) rules.length c2, .slice A3 rules.length c3] 25) hc
        clear hE hrk
        by_cases hrl2 : 200 < r.length
        · have t5 : (200 : Int) < r.length := by omega
          go_wp2_with fail
          go_ret
          exact ⟨ret_bool (all_not HK.out (by rw [ruleB, decide_eq_false (by omega), Bool.false_and])).symm, below1 w _⟩
        · have t5 : ¬ (200 : Int) < r.length := by omega
          cases hB : wordB rules.length r
          · go_wp2_with fail
            refine (letters_any r rules.length _ _ (HE.out.to (below1 w _)) hrl).mono ?_
            rw [hB]
            have HB := hid_ hB
            clear hB
            rintro e w1 ⟨rfl, rfl⟩
            go_wp2_with fail
            go_ret
            exact ⟨ret_bool (all_not HK.out (by rw [ruleB, HB.out, Bool.and_false])).symm, below1 w _⟩
          · go_wp2_with fail
            refine (letters_any r rules.length _ _ (HE.out.to (below1 w _)) hrl).mono ?_
            rw [hB]
            have HB := hid_ hB
            clear hB
            rintro e w1 ⟨rfl, rfl⟩
            go_wp2_with fail
            go_roundw
            case rel => exact ⟨k + 1, by go_num, by omega, hid_ (all_step HK.out HT.out (by rw [ruleB, HB.out, decide_eq_true (by omega), Bool.true_and])), trivial⟩
            case measure => simp [intOf]; omega
      · go_wp2_with fail
        go_ret
        have := HT.out
        rw [List.take_of_length_le (by omega)] at this
        exact ⟨ret_bool this.symm, below1 w _⟩
  · rw [validT_no (t := ⟨del, rules, stops⟩) hok]
    clear hr hs hl3
    by_cases h1 : del < 1
    · go_enter Try.func13, Try.ntmps13
      go_wp2_with fail
      go_ret
      exact ⟨rfl, below1 w _⟩
    · by_cases h2 : 4 < del
      · go_enter Try.func13, Try.ntmps13
        go_wp2_with fail
        go_ret
        exact ⟨rfl, below1 w _⟩
      · by_cases h3 : rules.length < 1
        · have h3' : rules.length = 0 := by omega
          rw [h3']
          clear hok h3 h3'
          go_enter Try.func13, Try.ntmps13
          go_wp2_with fail
          go_ret
          exact ⟨rfl, below1 w _⟩
        · by_cases h4 : 600 < rules.length
          · have h4' : (600 : Int) < rules.length := by omega
            clear hok
            go_enter Try.func13, Try.ntmps13
            go_wp2_with fail
            go_ret
            exact ⟨rfl, below1 w _⟩
          · have h5 : ¬ stops.length = rules.length := fun e => hok ⟨by omega, by omega, by omega, by omega, e⟩
            have h6 : ((stops.length : Int) != (rules.length : Int)) = true := by simp; omega
            have h7 : ¬ (rules.length : Int) < 1 := by omega
            have h8 : ¬ (600 : Int) < rules.length := by omega
            clear hok
            go_enter Try.func13, Try.ntmps13
            go_wp2_with fail
            go_ret
            exact ⟨rfl, below1 w _⟩

set_option maxHeartbeats 2000000 in
theorem rfits_any (t : TagS) (q : List Int) (v2 v3 v : Value) (w : World) (h : TagIn w w.heap.size v2 v3 t) (hq : Elems w w.heap.size v (ints q)) (hl : q.length ≤ 1000000) :
    Calls Try.prog 15 #[.agg #[.int .i64 t.del, v2, v3], v] w fun e w' => e = .returned (.bool (fitsT t q)) ∧ Below w.heap.size w w' := by
  have HT := hid_ h
  have HQ := hid_ hq
  obtain ⟨A2, c2, rfl⟩ := h.rules.form
  obtain ⟨A, c, rfl⟩ := hq.form
  rw [ints_len] at HQ ⊢
  clear h hq
  cases hv : validT t
  · rw [show fitsT t q = false by simp [fitsT, hv]]
    have HV := hid_ hv
    clear hv
    go_enter Try.func15, Try.ntmps15
    go_wp2_with fail
    refine (rvalid_any t _ v3 _ (HT.out.to (below1 w _))).mono ?_
    rw [HV.out]
    rintro e w1 ⟨rfl, hb1⟩
    obtain ⟨p0, p1, p2, hz, hw1⟩ := box3 hb1
    go_wp2_with fail
    go_ret
    exact ⟨rfl, hw1⟩
  · rw [show fitsT t q = (decide ((q.length : Int) ≤ 100000) && wordB t.rules.length q) by simp [fitsT, hv]]
    have HV := hid_ hv
    clear hv
    by_cases hq1 : (q.length : Int) ≤ 100000
    · rw [decide_eq_true hq1, Bool.true_and]
      cases hB : wordB t.rules.length q
      all_goals
        have HB := hid_ hB
        clear hB
        go_enter Try.func15, Try.ntmps15
        go_wp2_with fail
        refine (rvalid_any t _ v3 _ (HT.out.to (below1 w _))).mono ?_
        rw [HV.out]
        rintro e w1 ⟨rfl, hb1⟩
        obtain ⟨p0, p1, p2, hz, hw1⟩ := box3 hb1
        clear hb1
        go_wp2_with fail
        refine (letters_any q t.rules.length _ w1 (HQ.out.to hw1) hl).mono ?_
        rw [HB.out]
        rintro e w2 ⟨rfl, rfl⟩
        go_wp2_with fail
        go_ret
        exact ⟨rfl, hw1⟩
    · rw [decide_eq_false hq1, Bool.false_and]
      have hq2 : decide ((q.length : Int) ≤ 100000) = false := decide_eq_false hq1
      go_enter Try.func15, Try.ntmps15
      go_wp2_with fail
      refine (rvalid_any t _ v3 _ (HT.out.to (below1 w _))).mono ?_
      rw [HV.out]
      rintro e w1 ⟨rfl, hb1⟩
      obtain ⟨p0, p1, p2, hz, hw1⟩ := box3 hb1
      clear hb1
      go_wp2_with fail
      go_ret
      exact ⟨rfl, hw1⟩
end Go.Proofs.Ytpnjffdjoacejaa

/- The law TagCodes: a valid tag system. -/
import Derived.Test.YtpnjffdjoacejaaPi
namespace Go.Proofs.Ytpnjffdjoacejaa
open Go.RowKit

theorem letters_err (o : Option (List Int)) (E : Int) (L : List Int) (ok : Bool) (hE : E = if o.isSome = true then 0 else 2) (hok : ok = o.isSome) : (ok = true ∧ E = 0) ∨ (ok = false ∧ E = 2) := by
  subst hok
  cases o <;> simp_all
theorem cycL_rows {t : TagS} (hv : validT t = true) {k : Nat} {r : List Int} (h : (cycL t)[k]? = some r) : r.length ≤ 1000000 := by
  obtain ⟨_, _, _, r2, _, _⟩ := validT_parts hv
  have hrm := List.mem_of_getElem? h
  rw [cycL, List.mem_map] at hrm
  obtain ⟨i, hi, rfl⟩ := hrm
  rw [cycRow]
  split
  · rename_i hc
    obtain ⟨row, hrow⟩ : ∃ row, t.rules[i]? = some row := ⟨_, List.getElem?_eq_getElem hc.1⟩
    have hg := rule_get hv hrow
    rw [getD_some hrow, enc_eq hg.2]
    have : row.length * t.rules.length ≤ 200 * 600 := Nat.mul_le_mul hg.1 r2
    rw [encF_len]
    omega
  · simp
theorem cycL_few {t : TagS} (hv : validT t = true) : (cycL t).length ≤ 1000000 := by
  obtain ⟨d1, d2, _, r2, _, _⟩ := validT_parts hv
  have h1 : t.del.toNat * t.rules.length ≤ 4 * 600 := Nat.mul_le_mul (by omega) r2
  rw [cycL_len]
  omega
/-- What Bits may leave, and what the law asks of it. -/
theorem bits_three (t : TagS) (q : List Int) (hv : validT t = true) : (fitsT t q = false ∧ bitsS t q = ⟨[], 0, 1⟩) ∨ (fitsT t q = true ∧ 1000000 < q.length * t.rules.length ∧ bitsS t q = ⟨[], 0, 4⟩) ∨ (fitsT t q = true ∧ ¬ 1000000 < q.length * t.rules.length ∧ bitsS t q = ⟨enc t.rules.length q, 0, 0⟩) := by
  unfold bitsS
  cases hf : fitsT t q
  · exact .inl ⟨rfl, by simp⟩
  · by_cases h : 1000000 < q.length * t.rules.length
    · exact .inr (.inl ⟨rfl, h, by simp [h]⟩)
    · exact .inr (.inr ⟨rfl, h, by simp [h]⟩)

set_option maxRecDepth 1000000 in
set_option maxHeartbeats 16000000 in
theorem codes_go (t : TagS) (q bits : List Int) (v2 v3 v : Value) (A : Option Addr) (c : Nat) (w : World) (hB : TagBig w w.heap.size v2 v3 t) (hq : Elems w w.heap.size v (ints q)) (hbt : Elems w w.heap.size (.slice A bits.length c) (ints bits)) (hcap : bits.length ≤ c) (hw : wideB t q = false) (h1 : bits.length ≤ 300000) (h2 : ¬ 1200000 < t.rules.length * q.length) (hv : validT t = true) :
    Calls Try.prog 5 #[.agg #[.int .i64 t.del, v2, v3], v, .slice A bits.length c] w (Yes w) := by
  have HB := hid_ hB
  have HT := hid_ (hB.in_ hw)
  have i1 : ¬ (300000 : Int) < bits.length := by omega
  obtain ⟨hw1, _, hw3, _⟩ := wideB_no hw
  obtain ⟨_, _, r1, r2, _, _⟩ := validT_parts hv
  obtain ⟨A2, c2, rfl⟩ := hB.rules.form
  obtain ⟨Aq, cq, rfl⟩ := hq.form
  rw [ints_len] at hq ⊢
  obtain ⟨P, hP⟩ : ∃ P, P = t.rules.length * q.length := ⟨_, rfl⟩
  rw [← hP] at h2
  have hPi : (t.rules.length : Int) * (q.length : Int) = (P : Int) := by rw [hP]; simp
  have hPi2 : (q.length : Int) * (t.rules.length : Int) = (P : Int) := by rw [← hPi, Int.mul_comm]
  have i2 : ¬ (1200000 : Int) < (P : Int) := by omega
  have hl3 : q.length ≤ 1000000 := by omega
  have hl4 : bits.length ≤ 1000000 := by omega
  obtain ⟨M, hM⟩ : ∃ M, M = sumL t.rules * t.rules.length := ⟨_, rfl⟩
  have HRL := hid_ (fun (k : Nat) (r : List Int) (h : (cycL t)[k]? = some r) => cycL_rows hv h)
  have hcl := cycL_few hv
  obtain ⟨X, hX⟩ : ∃ X, X = bitsS t q := ⟨_, rfl⟩
  have hXl : X.q.length ≤ 1000000 := by rw [hX]; exact bitsS_len t q
  obtain ⟨O, hO⟩ : ∃ O, O = rlettersS t.rules.length bits := ⟨_, rfl⟩
  have hOl : (O.getD []).length ≤ 1000000 := by rw [hO]; exact Nat.le_trans (rlettersS_len r1) hl4
  have hLS : lettersS t bits = ⟨O.getD [], 0, if O.isSome = true then 0 else 2⟩ := by rw [hO]; exact letters_both hv
  obtain ⟨E, hE⟩ : ∃ E : Int, E = if O.isSome = true then 0 else 2 := ⟨_, rfl⟩
  obtain ⟨ok, hok⟩ : ∃ ok : Bool, ok = O.isSome := ⟨_, rfl⟩
  have HEK := hid_ (letters_err O E (O.getD []) ok hE hok)
  rw [← hE] at hLS
  obtain ⟨L, hL⟩ : ∃ L, L = O.getD [] := ⟨_, rfl⟩
  rw [← hL] at hLS hOl
  have HLS := hid_ hLS
  have HX := hid_ hX
  have HO := hid_ hO
  have HL := hid_ hL
  have HOK := hid_ hok
  have HQ := hid_ hq
  have HBT := hid_ hbt
  have HW := hid_ hw
  have HV := hid_ hv
  have HP := hid_ hP
  have HM := hid_ hM
  clear hB hq hbt hw hP hw1 hw3 hv hM hX hO hLS hE hok hL
  go_enter Try.func5, Try.ntmps5
  go_wp2_with fail
  refine (wide_any t q _ _ _ _ (HB.out.to (below1 w _)) (HQ.out.to (below1 w _)) (by omega)).mono ?_
  rw [HW.out]
  rintro e w1 ⟨rfl, hb1⟩
  obtain ⟨p0, p1, p2, hz, hw1⟩ := box3 hb1
  clear hb1
  go_wp2_with fail
  refine (bitsc_any t q _ _ _ w1 (HT.out.to hw1) (HQ.out.to hw1) hl3).mono ?_
  rw [← HX.out]
  rintro e wa ⟨va, rfl, hEa, hCa, hba⟩
  obtain ⟨Aa, ca, rfl⟩ := hEa.form
  rw [ints_len] at hEa hCa ⊢
  have HEa := hid_ hEa
  have HCa := hid_ hCa
  have hwa := bnext hw1 hba
  replace p0 := keepc hba p0
  replace p1 := keepc hba p1
  replace p2 := keepc hba p2
  clear hEa hCa hba
  go_wp2_with fail
  refine (letters2_any t bits _ _ _ _ wa (HT.out.to hwa) (HBT.out.to hwa) hcap hl4).mono ?_
  rw [HLS.out]
  rintro e wb ⟨vb, rfl, hEb, hbb⟩
  obtain ⟨Ab, cb, rfl⟩ := hEb.form
  rw [ints_len] at hEb ⊢
  have hwb := bnext hwa hbb
  have HEa2 := hid_ (HEa.out.to hbb)
  have HEb := hid_ hEb
  replace p0 := keepc hbb p0
  replace p1 := keepc hbb p1
  replace p2 := keepc hbb p2
  clear hEb hbb HEa
  go_wp2_with fail
  refine (rvalid_any t _ _ wb (HT.out.to hwb)).mono ?_
  rw [HV.out]
  rintro e wv ⟨rfl, hbc⟩
  have hwc := bnext hwb hbc
  replace p0 := keepc hbc p0
  replace p1 := keepc hbc p1
  replace p2 := keepc hbc p2
  have HEa3 := hid_ (HEa2.out.to hbc)
  have HEb3 := hid_ (HEb.out.to hbc)
  clear hbc HEa2 HEb
  go_wp2_with fail
  refine (rletters_any bits t.rules.length _ _ wv (HBT.out.to hwc) hl4 r1 r2).mono ?_
  rw [← HO.out]
  rintro e wd ⟨vd, rfl, hEd, hbd⟩
  rw [← HL.out] at hEd
  rw [← HOK.out]
  obtain ⟨Ad, cd, rfl⟩ := hEd.form
  rw [ints_len] at hEd ⊢
  have hwd := bnext hwc hbd
  have HEa4 := hid_ (HEa3.out.to hbd)
  have HEb4 := hid_ (HEb3.out.to hbd)
  have HEd := hid_ hEd
  replace p0 := keepc hbd p0
  replace p1 := keepc hbd p1
  replace p2 := keepc hbd p2
  clear hEd hbd HEa3 HEb3 HO HOK HL HLS
  go_upto_region 9 with fail
  go_cut [107] (fun s wx => s = .bool false ∧ Below wd.heap.size wd wx)
  case first => as_aux_lemma =>
    rcases HEK.out with ⟨rfl, rfl⟩ | ⟨rfl, rfl⟩
    all_goals
      go_wp2_with fail
      refine (same_below L L _ _ wd HEb4.out HEd.out hOl).mono ?_
      rw [decide_eq_true (show L = L from rfl)]
      rintro e we ⟨rfl, hbe⟩
      go_wp2_with fail
      go_meet
      exact ⟨rfl, hbe⟩
  case rest => as_aux_lemma =>
    obtain ⟨rfl, hbx⟩ := hcut
    obtain ⟨Y, rfl⟩ : ∃ Y : World, Y = wc := ⟨_, rfl⟩
    have hwY := bnext hwd hbx
    have HEa5 := hid_ (HEa4.out.to hbx)
    replace p0 := keepc hbx p0
    replace p1 := keepc hbx p1
    replace p2 := keepc hbx p2
    clear hbx HEa4 HEb4 HEd HEK hOl
    go_wp2_with fail
    refine (rules_any t _ _ Y (HT.out.to hwY) HV.out).mono ?_
    rw [← HM.out]
    rintro e we ⟨rfl, hbe⟩
    have hwe := bnext hwY hbe
    have HEa6 := hid_ (HEa5.out.to hbe)
    replace p0 := keepc hbe p0
    replace p1 := keepc hbe p1
    replace p2 := keepc hbe p2
    clear hbe HEa5 HM
    go_upto_if 110 with fail
    go_cut [] (fun wx => Below we.heap.size we wx)
    case first => as_aux_lemma =>
      by_cases hM3 : M ≤ 300000
      · have hM4 : (M : Int) ≤ 300000 := by omega
        go_wp2_with fail
        refine (toCyclic_any t _ _ we (HT.out.to hwe)).mono ?_
        rintro e wf ⟨hbf, hd⟩
        rw [if_pos HV.out] at hd
        obtain ⟨vf, rfl, hRf⟩ := hd
        obtain ⟨Af, cf, rfl⟩ := hRf.form
        have HRf := hid_ hRf
        have p0f := keepc hbf p0
        have p1f := keepc hbf p1
        have p2f := keepc hbf p2
        have z0 := cell_lt p0f
        clear hRf
        go_upto_region 13 with fail
        have Q0 : (wf.alloc (.cells #[.slice Af (cycL t).length cf] 43)).cell? ⟨wf.heap.size, 0, none⟩ = some (.slice Af (cycL t).length cf) := (Blk.new wf 43 #[.slice Af (cycL t).length cf]).cell 0
        have P0 := keepa (.cells #[.slice Af (cycL t).length cf] 43) p0f
        have P1 := keepa (.cells #[.slice Af (cycL t).length cf] 43) p1f
        have P2 := keepa (.cells #[.slice Af (cycL t).length cf] 43) p2f
        have hbg : Below we.heap.size we (wf.alloc (.cells #[.slice Af (cycL t).length cf] 43)) := hbf.alloc hbf.size _
        have HRg := hid_ (HRf.out.to (below1 wf (.cells #[.slice Af (cycL t).length cf] 43)))
        have zg : wf.heap.size < (wf.alloc (.cells #[.slice Af (cycL t).length cf] 43)).heap.size := by simp
        generalize wf.alloc (.cells #[.slice Af (cycL t).length cf] 43) = G at *
        have e0 : ((0 : Int) != 0) = false := rfl
        go_region_held3 (fun w' => w'.cell? ⟨w.heap.size, 0, none⟩ = some (.int .i64 t.del) ∧ w'.cell? ⟨w.heap.size, 1, none⟩ = some (.slice A2 t.rules.length c2) ∧ w'.cell? ⟨w.heap.size, 2, none⟩ = some v3 ∧ w'.cell? ⟨wf.heap.size, 0, none⟩ = some (.slice Af (cycL t).length cf) ∧ Below G.heap.size G w')
          (first | assumption | exact ⟨P0, P1, P2, Q0, (Below.refl _ _).drew⟩ | exact ⟨P0, P1, P2, Q0, Below.refl _ _⟩ | exact ⟨keepc HZ.out P0, keepc HZ.out P1, keepc HZ.out P2, keepc HZ.out Q0, HZ.out⟩ | exact ⟨keepc HY.out P0, keepc HY.out P1, keepc HY.out P2, keepc HY.out Q0, HY.out⟩)
          (first
            | (go_at_call 39; refine (rtocyc_any t _ _ _ (HT.out.to (bnext hwe (bnext hbg (And.right (And.right (And.right (And.right (by assumption)))))))) HV.out).mono ?_; rintro e w3 ⟨vr, rfl, hr, hb3⟩; have HR3 := hid_ hr; have HY : Hid (Below G.heap.size G w3) := hid_ (bnext (And.right (And.right (And.right (And.right (by assumption))))) hb3); clear hr hb3)
            | (go_at_call 38; refine (samecyc_any (cycL t) (cycL t) _ _ _ (HRg.out.to HY.out) HR3.out hcl HRL.out).mono ?_; rw [decide_eq_true (show cycL t = cycL t from rfl)]; rintro e w4 ⟨rfl, hb4⟩; have HZ : Hid (Below G.heap.size G w4) := hid_ (bnext HY.out hb4)))
        go_wp2_with fail
        go_meet
        exact bnext hbg HZ.out
      · have hM4 : ¬ (M : Int) ≤ 300000 := by omega
        go_wp2_with fail
        go_meet
        exact Below.refl _ _
    case rest => as_aux_lemma =>
      obtain ⟨Z, rfl⟩ : ∃ Z : World, Z = wc := ⟨_, rfl⟩
      have hwZ := bnext hwe hcut
      have HEa7 := hid_ (HEa6.out.to hcut)
      replace p0 := keepc hcut p0
      replace p1 := keepc hcut p1
      replace p2 := keepc hcut p2
      clear hcut HEa6 HRL
      rcases bits_three t q HV.out with ⟨hf, hb⟩ | ⟨hf, hbig, hb⟩ | ⟨hf, hbig, hb⟩
      · have HF := hid_ hf
        obtain rfl : X = ⟨[], 0, 1⟩ := HX.out.trans hb
        clear hf hb HX
        simp only [List.length_nil] at HEa7 HCa ⊢
        go_wp2_with fail
        refine (rfits_any t q _ _ _ Z (HT.out.to hwZ) (HQ.out.to hwZ) hl3).mono ?_
        rw [HF.out]
        rintro e wk ⟨rfl, hbk⟩
        go_wp2_with fail
        refine (awake_any _).mono ?_
        rintro e wl ⟨rfl, hbl⟩
        go_wp2_with fail
        go_ret
        exact ⟨rfl, bnext (bnext hwZ hbk) hbl⟩
      · have HF := hid_ hf
        obtain rfl : X = ⟨[], 0, 4⟩ := HX.out.trans hb
        have hbig2 : (1000000 : Int) < (P : Int) := by have := HP.out; rw [Nat.mul_comm] at this; omega
        clear hf hb HX hbig
        simp only [List.length_nil] at HEa7 HCa ⊢
        go_wp2_with fail
        refine (rfits_any t q _ _ _ Z (HT.out.to hwZ) (HQ.out.to hwZ) hl3).mono ?_
        rw [HF.out]
        rintro e wk ⟨rfl, hbk⟩
        replace p0 := keepc hbk p0
        replace p1 := keepc hbk p1
        replace p2 := keepc hbk p2
        go_wp2_with fail
        refine (awake_any _).mono ?_
        rintro e wl ⟨rfl, hbl⟩
        go_wp2_with fail
        go_ret
        exact ⟨rfl, bnext (bnext hwZ hbk) hbl⟩
      · have HF := hid_ hf
        obtain rfl : X = ⟨enc t.rules.length q, 0, 0⟩ := HX.out.trans hb
        have hbig2 : ¬ (1000000 : Int) < (P : Int) := by have := HP.out; rw [Nat.mul_comm] at this; omega
        have hwd2 := (fitsT_parts hf).2.2
        have HWD := hid_ hwd2
        have HLE := hid_ (lettersS_enc hf)
        have hPq : q.length * t.rules.length = P := by rw [HP.out, Nat.mul_comm]
        have HEN : Hid ((enc t.rules.length q).length = P) := hid_ (by rw [enc_eq hwd2, encF_len, hPq])
        have HPQ := hid_ hPq
        have HEF := hid_ (enc_eq hwd2)
        clear hf hb HX hbig hwd2 hPq
        simp only at HEa7 HCa hXl ⊢
        have hcap2 : (enc t.rules.length q).length ≤ ca := HCa.out _ _ _ rfl
        rw [HEN.out] at HEa7 hcap2 hXl ⊢
        go_wp2_with fail
        refine (rfits_any t q _ _ _ Z (HT.out.to hwZ) (HQ.out.to hwZ) hl3).mono ?_
        rw [HF.out]
        rintro e wk ⟨rfl, hbk⟩
        have hwk := bnext hwZ hbk
        have HEa8 := hid_ (HEa7.out.to hbk)
        replace p0 := keepc hbk p0
        replace p1 := keepc hbk p1
        replace p2 := keepc hbk p2
        clear hbk HEa7
        go_wp2_with fail
        refine (by rw [← HEN.out] at HEa8 hcap2 ⊢; exact letters2_any t (enc t.rules.length q) _ _ _ _ wk (HT.out.to hwk) HEa8.out hcap2 (by have := HEN.out; omega) : Calls _ _ _ wk (SRan wk (lettersS t (enc t.rules.length q)))).mono ?_
        rw [HEF.out, HLE.out]
        rintro e wl ⟨vl, rfl, hEl, hbl⟩
        obtain ⟨Al, cl, rfl⟩ := hEl.form
        rw [ints_len] at hEl ⊢
        have HEl := hid_ hEl
        have hwl := bnext hwk hbl
        have HEa9 := hid_ (HEa8.out.to hbl)
        replace p0 := keepc hbl p0
        replace p1 := keepc hbl p1
        replace p2 := keepc hbl p2
        clear hEl hbl HEa8
        go_wp2_with fail
        refine (rbits_any q t.rules.length _ wl (HQ.out.to hwl) HWD.out (by rw [HPQ.out]; omega) hl3 (by omega)).mono ?_
        rw [HPQ.out]
        rintro e wm ⟨gm, cm, rfl, hom, hbm⟩
        have HEm := hid_ (own_elems hom)
        have hwm := bnext hwl hbm
        have HEa10 := hid_ (HEa9.out.to hbm)
        have HEl2 := hid_ (HEl.out.to hbm)
        replace p0 := keepc hbm p0
        replace p1 := keepc hbm p1
        replace p2 := keepc hbm p2
        clear hom hbm HEa9 HEl
        go_wp2_with fail
        refine (same_below (enc t.rules.length q) (enc t.rules.length q) _ _ wm HEa10.out HEm.out (by rw [HEN.out]; omega)).mono ?_
        rw [decide_eq_true (show enc t.rules.length q = enc t.rules.length q from rfl)]
        rintro e wn ⟨rfl, hbn⟩
        have hwn := bnext hwm hbn
        have HEl3 := hid_ (HEl2.out.to hbn)
        clear hbn HEa10 HEm HEl2
        go_wp2_with fail
        refine (same_below q q _ _ wn HEl3.out (HQ.out.to hwn) hl3).mono ?_
        rw [decide_eq_true (show q = q from rfl)]
        rintro e wo ⟨rfl, hbo⟩
        go_wp2_with fail
        refine (awake_any _).mono ?_
        rintro e wp ⟨rfl, hbp⟩
        go_wp2_with fail
        go_ret
        exact ⟨rfl, bnext (bnext hwn hbo) hbp⟩
end Go.Proofs.Ytpnjffdjoacejaa

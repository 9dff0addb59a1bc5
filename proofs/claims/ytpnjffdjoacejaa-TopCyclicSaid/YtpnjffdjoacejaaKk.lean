/- The contract of Run of package tag. -/
import Derived.Test.YtpnjffdjoacejaaKj
namespace Go.Proofs.Ytpnjffdjoacejaa
open Go.RowKit

/-- What Run leaves. -/
def TRan (w : World) (r : TRes) (e : Ending) (w' : World) : Prop :=
  ∃ v, e = .returned (.tuple #[v, .int .i64 r.k, .int .i64 r.err]) ∧ Elems w' w'.heap.size v (ints r.q) ∧ Below w.heap.size w w'

set_option maxRecDepth 100000 in
set_option maxHeartbeats 1000000 in
theorem run_bad (t : TagS) (q : List Int) (N : Int) (v2 v3 v : Value) (w : World) (ht : TagIn w w.heap.size v2 v3 t) (hq : Elems w w.heap.size v (ints q)) (hl : q.length ≤ 1000000) (hf : fitsT t q = false) :
    Calls Try.prog 17 #[.agg #[.int .i64 t.del, v2, v3], v, .int .i64 N] w (TRan w ⟨[], 0, 1⟩) := by
  have HT := hid_ ht
  have HQ := hid_ hq
  have HF := hid_ hf
  clear ht hq hf
  go_enter Try.func17, Try.ntmps17
  go_wp2_with fail
  refine (fits_any t q v2 v3 v _ (HT.out.to (below1 w _)) (HQ.out.to (below1 w _)) hl).mono ?_
  rw [HF.out]
  rintro e w1 ⟨rfl, hb1⟩
  obtain ⟨p0, p1, p2, hz, hw1⟩ := box3 hb1
  go_wp2_with fail
  go_ret3
  exact ⟨_, rfl, Elems.nil _ _, hw1⟩

set_option maxRecDepth 100000 in
set_option maxHeartbeats 1000000 in
theorem run_arg (t : TagS) (q : List Int) (N : Int) (v2 v3 v : Value) (w : World) (ht : TagIn w w.heap.size v2 v3 t) (hq : Elems w w.heap.size v (ints q)) (hl : q.length ≤ 1000000) (hf : fitsT t q = true) (hN : N < 0 ∨ (0 ≤ N ∧ 1000000 < N)) :
    Calls Try.prog 17 #[.agg #[.int .i64 t.del, v2, v3], v, .int .i64 N] w (TRan w ⟨[], 0, 2⟩) := by
  have HT := hid_ ht
  have HQ := hid_ hq
  have HF := hid_ hf
  clear ht hq hf
  rcases hN with hN | ⟨hN, hN2⟩
  all_goals
    go_enter Try.func17, Try.ntmps17
    go_wp2_with fail
    refine (fits_any t q v2 v3 v _ (HT.out.to (below1 w _)) (HQ.out.to (below1 w _)) hl).mono ?_
    rw [HF.out]
    rintro e w1 ⟨rfl, hb1⟩
    obtain ⟨p0, p1, p2, hz, hw1⟩ := box3 hb1
    go_wp2_with fail
    go_ret3
    exact ⟨_, rfl, Elems.nil _ _, hw1⟩

theorem keepB {B : Nat} {w w' : World} {b1 j1 b2 j2 : Nat} {v1 v2 : Value} (hb : Below B w w') (h1 : b1 < B) (h2 : b2 < B) (h : w.cell? ⟨b1, j1, none⟩ = some v1 ∧ w.cell? ⟨b2, j2, none⟩ = some v2) : w'.cell? ⟨b1, j1, none⟩ = some v1 ∧ w'.cell? ⟨b2, j2, none⟩ = some v2 :=
  ⟨(hb.cell (p := ⟨b1, j1, none⟩) h1).trans h.1, (hb.cell (p := ⟨b2, j2, none⟩) h2).trans h.2⟩

set_option maxRecDepth 100000 in
set_option maxHeartbeats 4000000 in
theorem run_go (dn N : Nat) (rules : List (List Int)) (stops : List Bool) (q : List Int) (v2 v3 v : Value) (w : World) (ht : TagIn w w.heap.size v2 v3 ⟨dn, rules, stops⟩) (hq : Elems w w.heap.size v (ints q)) (hl : q.length ≤ 1000000) (hf : fitsT ⟨dn, rules, stops⟩ q = true) (hN : N ≤ 1000000) :
    Calls Try.prog 17 #[.agg #[.int .i64 dn, v2, v3], v, .int .i64 N] w (TRan w (tresOf (runT ⟨dn, rules, stops⟩ N q))) := by
  obtain ⟨hv, _, _⟩ := fitsT_parts hf
  obtain ⟨d1, d2, r1, r2, _, _⟩ := validT_parts hv
  simp only at d1 d2 r1 r2
  have HV := hid_ hv
  have HT := hid_ ht
  have HQ := hid_ hq
  have HF := hid_ hf
  obtain ⟨A2, c2, rfl⟩ := ht.rules.form
  simp only at HT ⊢
  obtain ⟨b2, o2, rfl, hb2⟩ := HT.out.rules.addr r1
  clear ht hq hf hv
  go_enter Try.func17, Try.ntmps17
  go_wp2_with fail
  refine (fits_any ⟨dn, rules, stops⟩ q _ v3 v _ (HT.out.to (below1 w _)) (HQ.out.to (below1 w _)) hl).mono ?_
  rw [HF.out]
  rintro e W ⟨rfl, hb1⟩
  obtain ⟨p0, p1, p2, hz, hw1⟩ := box3 hb1
  clear hb1
  go_wp2_with fail
  refine (newQueue_any q v W (HQ.out.to hw1) hl).mono ?_
  rintro e wq ⟨go, rfl, hqa, hbq⟩
  have HQA := hid_ hqa
  clear hqa
  go_wp2_with fail
  go_loopw [10] (fun s wr => ∃ (d : Nat) (l : List Int), s = .int .i64 ((d : Nat) : Int) ∧ d ≤ N ∧ Hid (QAt wr W.heap.size go l) ∧ Hid (fitsT ⟨dn, rules, stops⟩ l = true) ∧ Hid (tbump d (runT ⟨dn, rules, stops⟩ (N - d) l) = runT ⟨dn, rules, stops⟩ N q) ∧ Below W.heap.size W wr)
    (fun s _ => N - (intOf s).toNat)
  case atStart => exact ⟨0, q, rfl, Nat.zero_le _, HQA, HF, hid_ (by rw [tbump_zero]; rfl), hbq⟩
  case round =>
    obtain ⟨d, l, rfl, hd, HQr, HFl, HB, hbr⟩ := hrel
    have hwr := bnext hw1 hbr
    replace p0 := keepc hbr p0
    replace p1 := keepc hbr p1
    replace p2 := keepc hbr p2
    have zr : w.heap.size < wr.heap.size := by have := hbr.size; omega
    have hll := (fitsT_parts HFl.out).2.1
    have hgo := HQr.out.go_le
    by_cases hlt : d < N
    · cases hs : stoppedT ⟨dn, rules, stops⟩ l
      · have hsh : ¬ ((l.length : Int) < dn) := fun h => by
          rw [stoppedT_short (t := ⟨dn, rules, stops⟩) h] at hs
          cases hs
        obtain ⟨j, r, b, hj, hjr, hr, -⟩ := head_get HFl.out hsh
        simp only at hjr hr
        have hrl := (rule_get HV.out hr).1
        have hwst : stepT ⟨dn, rules, stops⟩ l = (l ++ r).drop dn := by
          have := stepT_eq (t := ⟨dn, rules, stops⟩) hj hr
          simpa using this
        have HW := hid_ hwst
        have HSS := hid_ hs
        have HJ := hid_ hj
        have HR := hid_ hr
        have t1 : 0 ≤ (j : Int) := by omega
        have t2 : (j : Int) < rules.length := by omega
        clear hs hwst hj hr
        go_wp2_with fail
        refine (stopped_any ⟨dn, rules, stops⟩ l _ v3 W.heap.size go wr (HT.out.to hwr) HQr.out HFl.out).mono ?_
        rw [HSS.out]
        rintro e ws ⟨rfl, hbs⟩
        replace p0 := keepc hbs p0
        replace p1 := keepc hbs p1
        replace p2 := keepc hbs p2
        have hbW : Below W.heap.size W ws := bnext hbr hbs
        have HQs := hid_ (HQr.out.to hbs)
        obtain ⟨Ar, dr, hcr, hEr⟩ := (HT.out.to (bnext hwr hbs)).rules.row HR.out
        have HEr := hid_ hEr
        have hBs : W.heap.size ≤ ws.heap.size := hbW.size
        have hb2W : b2 < W.heap.size := by omega
        clear hEr
        go_wp2_with fail
        go_region_held3 (fun w' => w'.cell? ⟨w.heap.size, 1, none⟩ = some (.slice (some ⟨b2, o2, none⟩) rules.length c2) ∧ w'.cell? ⟨b2, o2 + j, none⟩ = some (.slice Ar r.length dr))
          (first | assumption | exact ⟨p1, hcr⟩ | exact keepB hb8 hz hb2W (by assumption))
          (first
            | (go_at_call 50; refine (qfront_any l (j : Int) W.heap.size go ws.drew HQs.out (by omega) HJ.out).mono ?_; rintro e w1 ⟨rfl, nf, rfl⟩)
            | (go_at_call 49; refine (qadd_any l r _ W.heap.size go (ws.drewN (1 + nf)) HQs.out (by omega) HEr.out (by omega) hBs).mono ?_; rintro e w8 ⟨rfl, hq8, hb8⟩))
        have HQ8 := hid_ hq8
        clear hq8
        have p08 := keepc' hb8 p0 hz
        have hb8W : Below W.heap.size W w8 := hbW.trans ⟨hb8.os, hb8.tape, hb8.output, hb8.size, hb8.block⟩
        go_wp2_with fail
        refine (qdrop_any (l ++ r) dn W.heap.size go w8 HQ8.out (by simp; omega) (by simp; omega)).mono ?_
        rintro e w9 ⟨rfl, hq9, hb9⟩
        generalize hL : (l ++ r).drop dn = L at hq9
        have hLl : L.length ≤ 2000000 := by rw [← hL]; simp; omega
        have HQ9 := hid_ hq9
        have HLL := hid_ hL
        clear hq9 hL
        have hb9W := hb8W.trans hb9
        go_wp2_with fail
        refine (qlen_any L W.heap.size go w9 HQ9.out hLl).mono ?_
        rintro e w10 ⟨rfl, nl, rfl⟩
        have hstep : stepT ⟨dn, rules, stops⟩ l = L := HW.out.trans HLL.out
        have HST := hid_ hstep
        clear hstep
        by_cases hbig : (100000 : Int) < L.length
        · go_wp2_with fail
          go_ret3
          rw [show tresOf (runT ⟨dn, rules, stops⟩ N q) = ⟨[], 0, 4⟩ by
            rw [← HB.out, show N - d = (N - d - 1) + 1 by omega, runT_big HSS.out (by rw [HST.out]; omega)]; rfl]
          exact ⟨_, rfl, Elems.nil _ _, below_drewN (bnext hw1 hb9W) _⟩
        · go_wp2_with fail
          go_roundw
          case rel =>
            refine ⟨d + 1, L, by go_num, by omega, hid_ (HQ9.out.dN _), hid_ ?_, hid_ ?_, below_drewN hb9W _⟩
            · rw [← HST.out]
              exact stepT_fits HFl.out HSS.out (by rw [HST.out]; omega)
            · rw [← HB.out, show N - d = (N - (d + 1)) + 1 by omega, runT_on HSS.out (by rw [HST.out]; omega), HST.out]
          case measure => simp [intOf]; omega
      · have HSS := hid_ hs
        clear hs
        go_wp2_with fail
        refine (stopped_any ⟨dn, rules, stops⟩ l _ v3 W.heap.size go wr (HT.out.to hwr) HQr.out HFl.out).mono ?_
        rw [HSS.out]
        rintro e ws ⟨rfl, hbs⟩
        go_wp2_with fail
        refine (qlist_any l W.heap.size go ws (HQr.out.to hbs) (by omega)).mono ?_
        rintro e we ⟨ve, rfl, hown, hbe⟩
        have HE := hid_ (own_any hown)
        obtain ⟨A9, c9, rfl⟩ := own_form hown
        clear hown
        go_wp2_with fail
        go_ret3
        rw [show tresOf (runT ⟨dn, rules, stops⟩ N q) = ⟨l, d, 0⟩ by rw [← HB.out, runT_stop HSS.out]; rfl]
        exact ⟨_, rfl, HE.out, bnext (bnext hwr hbs) hbe⟩
    · have hdN : ¬ d < N := hlt
      go_wp2_with fail
      refine (qlist_any l W.heap.size go wr HQr.out (by omega)).mono ?_
      rintro e we ⟨ve, rfl, hown, hbe⟩
      have HE := hid_ (own_any hown)
      obtain ⟨A9, c9, rfl⟩ := own_form hown
      clear hown
      go_wp2_with fail
      go_ret3
      have hz : N - d = 0 := by omega
      rw [show tresOf (runT ⟨dn, rules, stops⟩ N q) = ⟨l, d, 0⟩ by rw [← HB.out, hz, runT_end]; rfl]
      exact ⟨_, rfl, HE.out, bnext hwr hbe⟩
end Go.Proofs.Ytpnjffdjoacejaa

/- The law TagParts. -/
import Derived.Test.YtpnjffdjoacejaaMr
import Derived.IntWalk
namespace Go.Proofs.Ytpnjffdjoacejaa
open Go.RowKit

theorem boxes312 {w w1 : World} {t t' t2 : TypeId} {a b c d e f : Value} (hb : Below (((w.alloc (.cells #[a, b, c] t)).alloc (.cells #[d] t')).alloc (.cells #[e, f] t2)).heap.size (((w.alloc (.cells #[a, b, c] t)).alloc (.cells #[d] t')).alloc (.cells #[e, f] t2)) w1) :
    Blk w1 w.heap.size t #[a, b, c] ∧ Blk w1 (w.heap.size + 1) t' #[d] ∧ Blk w1 (w.heap.size + 1 + 1) t2 #[e, f] ∧ Below w.heap.size w w1 := by
  have h1 : (((w.alloc (.cells #[a, b, c] t)).alloc (.cells #[d] t')).alloc (.cells #[e, f] t2)).heap.size = w.heap.size + 1 + 1 + 1 := by simp
  refine ⟨(((Blk.new w t #[a, b, c]).alloc _).alloc _).below hb (by omega), ?_, ?_, ((below2 w _ _).alloc (by simp; omega) _).trans (hb.mono (by omega))⟩
  · have := Blk.new (w.alloc (.cells #[a, b, c] t)) t' #[d]
    rw [show (w.alloc (.cells #[a, b, c] t)).heap.size = w.heap.size + 1 by simp] at this
    exact (this.alloc _).below hb (by omega)
  · have := Blk.new ((w.alloc (.cells #[a, b, c] t)).alloc (.cells #[d] t')) t2 #[e, f]
    rw [show ((w.alloc (.cells #[a, b, c] t)).alloc (.cells #[d] t')).heap.size = w.heap.size + 1 + 1 by simp] at this
    exact this.below hb (by omega)

set_option maxRecDepth 1000000 in
set_option maxHeartbeats 4000000 in
theorem parts_wide1 (t : TagS) (q : List Int) (ws : List (List Int)) (a : Int) (l : List Int) (n k : Nat) (v2 v3 v vc vw : Value) (w : World) (hB : TagBig w w.heap.size v2 v3 t) (hq : Elems w w.heap.size v (ints q)) (hl : q.length ≤ 17592186044416) (hC : CycBig w w.heap.size vc ws) (hw : Elems w w.heap.size vw (ints l)) (hl2 : l.length ≤ 17592186044416) (hwb : wideB t q = true) :
    Calls Try.prog 6 #[.agg #[.int .i64 t.del, v2, v3], v, .agg #[vc], .agg #[.int .i64 a, vw], .int .u8 n, .int .u8 k] w (Yes w) := by
  have HB := hid_ hB
  have HQ := hid_ hq
  have HC := hid_ hC
  have HL := hid_ hw
  have HWB := hid_ hwb
  clear hB hq hC hw hwb
  go_enter Try.func6, Try.ntmps6
  go_wp2_with fail
  refine (wide_any t q v2 v3 v _ (HB.out.to (below3 w _ _ _)) (HQ.out.to (below3 w _ _ _)) hl).mono ?_
  rw [HWB.out]
  rintro e w1 ⟨rfl, hb1⟩
  go_wp2_with fail
  refine (awake_any _).mono ?_
  rintro e w2 ⟨rfl, hb2⟩
  go_wp2_with fail
  go_ret
  exact ⟨rfl, bnext (bnext (below3 w _ _ _) hb1) hb2⟩

set_option maxRecDepth 1000000 in
set_option maxHeartbeats 4000000 in
theorem parts_wide2 (t : TagS) (q : List Int) (ws : List (List Int)) (a : Int) (l : List Int) (n k : Nat) (v2 v3 v vc vw : Value) (w : World) (hB : TagBig w w.heap.size v2 v3 t) (hq : Elems w w.heap.size v (ints q)) (hl : q.length ≤ 17592186044416) (hC : CycBig w w.heap.size vc ws) (hw : Elems w w.heap.size vw (ints l)) (hl2 : l.length ≤ 17592186044416) (hwb : wideB t q = false) (hwc : wideC ws l = true) :
    Calls Try.prog 6 #[.agg #[.int .i64 t.del, v2, v3], v, .agg #[vc], .agg #[.int .i64 a, vw], .int .u8 n, .int .u8 k] w (Yes w) := by
  have HB := hid_ hB
  have HQ := hid_ hq
  have HC := hid_ hC
  have HL := hid_ hw
  have HWB := hid_ hwb
  have HWC := hid_ hwc
  clear hB hq hC hw hwb hwc
  go_enter Try.func6, Try.ntmps6
  go_wp2_with fail
  refine (wide_any t q v2 v3 v _ (HB.out.to (below3 w _ _ _)) (HQ.out.to (below3 w _ _ _)) hl).mono ?_
  rw [HWB.out]
  rintro e w1 ⟨rfl, hb1⟩
  obtain ⟨B0, B1, B2, hw1⟩ := boxes312 hb1
  have p0 := B0.cell 0
  have p1 := B0.cell 1
  have p2 := B0.cell 2
  have p3 := B1.cell 0
  have p4 := B2.cell 0
  have p5 := B2.cell 1
  simp at p0 p1 p2 p3 p4 p5
  clear hb1 B0 B1 B2
  go_wp2_with fail
  refine (widec_any ws l vc a vw _ (HC.out.to hw1) (HL.out.to hw1) hl2).mono ?_
  rw [HWC.out]
  rintro e W ⟨rfl, hbW⟩
  go_wp2_with fail
  refine (awake_any _).mono ?_
  rintro e w2 ⟨rfl, hb2⟩
  go_wp2_with fail
  go_ret
  exact ⟨rfl, bnext (bnext hw1 hbW) hb2⟩

set_option maxRecDepth 1000000 in
set_option maxHeartbeats 16000000 in
theorem parts_go (del : Int) (rules : List (List Int)) (stops : List Bool) (q : List Int) (ws : List (List Int)) (a : Int) (l : List Int) (n k : Nat) (v2 v3 v vc vw : Value) (w : World) (hB : TagBig w w.heap.size v2 v3 ⟨del, rules, stops⟩) (hq : Elems w w.heap.size v (ints q)) (hl : q.length ≤ 17592186044416) (hC : CycBig w w.heap.size vc ws) (hw : Elems w w.heap.size vw (ints l)) (hl2 : l.length ≤ 17592186044416) (hwb : wideB ⟨del, rules, stops⟩ q = false) (hwc : wideC ws l = false) (hn : n ≤ 255) (hk : k ≤ 255) :
    Calls Try.prog 6 #[.agg #[.int .i64 del, v2, v3], v, .agg #[vc], .agg #[.int .i64 a, vw], .int .u8 n, .int .u8 k] w (Yes w) := by
  have HB := hid_ hB
  have HQ := hid_ hq
  have HC := hid_ hC
  have HL := hid_ hw
  have HWB := hid_ hwb
  have HWC := hid_ hwc
  have HT := hid_ (hB.in_ hwb)
  have HI := hid_ (hC.in_ hwc)
  have hql : q.length ≤ 1000000 := by have := (wideB_no hwb).1; omega
  have hll : l.length ≤ 1000000 := by have := (wideC_no hwc).1; omega
  obtain ⟨A2, c2, rfl⟩ := hB.rules.form
  obtain ⟨A, c, rfl⟩ := hq.form
  obtain ⟨Aw, cw, rfl⟩ := hw.form
  rw [ints_len] at HQ HL
  rw [ints_len, ints_len]
  simp only at HB HT ⊢
  have n0 : 0 ≤ (n : Int) := by omega
  have n1 : (n : Int) ≤ 255 := by omega
  have k0 : 0 ≤ (k : Int) := by omega
  have k1 : (k : Int) ≤ 255 := by omega
  obtain ⟨R1, hR1⟩ : ∃ R, R = runTS ⟨del, rules, stops⟩ q ((n : Int) + k) := ⟨_, rfl⟩
  obtain ⟨R2, hR2⟩ : ∃ R, R = runTS ⟨del, rules, stops⟩ q n := ⟨_, rfl⟩
  have hadd := runTS_add ⟨del, rules, stops⟩ q n k (by omega)
  have hk2 := runTS_k ⟨del, rules, stops⟩ q n
  have hl1 := runTS_len ⟨del, rules, stops⟩ q ((n : Int) + k)
  have hl2' := runTS_len ⟨del, rules, stops⟩ q n
  rw [← hR1, ← hR2] at hadd
  rw [← hR2] at hk2 hl2'
  rw [← hR1] at hl1
  have hk3 := runTS_k ⟨del, rules, stops⟩ R2.q k
  obtain ⟨R3, hR3⟩ : ∃ R, R = runTS ⟨del, rules, stops⟩ R2.q k := ⟨_, rfl⟩
  rw [← hR3] at hadd hk3
  obtain ⟨U1, hU1⟩ : ∃ R, R = rollS ws a l ((n : Int) + k) := ⟨_, rfl⟩
  obtain ⟨U2, hU2⟩ : ∃ R, R = rollS ws a l n := ⟨_, rfl⟩
  have uadd := rollS_add ws a l n k (by omega)
  have uk2 := rollS_k ws a l n
  have ul1 := rollS_len ws a l (n + k)
  have ul2 := rollS_len ws a l n
  rw [Int.natCast_add, ← hU1] at ul1
  rw [← hU1, ← hU2] at uadd
  rw [← hU2] at uk2 ul2
  have uk3 := rollS_k ws U2.pos U2.q k
  obtain ⟨U3, hU3⟩ : ∃ R, R = rollS ws U2.pos U2.q k := ⟨_, rfl⟩
  rw [← hU3] at uadd uk3
  obtain ⟨Z, hZ⟩ : ∃ R, R = stepTS ⟨del, rules, stops⟩ q := ⟨_, rfl⟩
  have HZL : Hid (Z.q.length ≤ 100000) := hid_ (by rw [hZ]; exact stepTS_len _ _)
  have HZK : Hid (Z.err = 0 → fitsT ⟨del, rules, stops⟩ q = true ∧ ¬ ((q.length : Int) < del) ∧ Z.q = stepT ⟨del, rules, stops⟩ q) := hid_ (by rw [hZ]; exact stepTS_ok)
  have HR1 := hid_ hR1
  have HR2 := hid_ hR2
  have HR3 := hid_ hR3
  have HU1 := hid_ hU1
  have HU2 := hid_ hU2
  have HU3 := hid_ hU3
  have HZ := hid_ hZ
  have HADD := hid_ hadd
  have UADD := hid_ uadd
  have HLN := hid_ (And.intro hl1 hl2')
  have ULN := hid_ (And.intro ul1 ul2)
  obtain ⟨m20, m21⟩ := hk2
  obtain ⟨m30, m31⟩ := hk3
  obtain ⟨j20, j21⟩ := uk2
  obtain ⟨j30, j31⟩ := uk3
  clear hB hq hC hw hwb hwc hR1 hR2 hR3 hU1 hU2 hU3 hZ hadd uadd hl1 hl2' ul1 ul2
  go_enter Try.func6, Try.ntmps6
  go_wp2_with fail
  refine (wide_any ⟨del, rules, stops⟩ q _ v3 _ _ (HB.out.to (below3 w _ _ _)) (HQ.out.to (below3 w _ _ _)) hl).mono ?_
  rw [HWB.out]
  rintro e w1 ⟨rfl, hb1⟩
  obtain ⟨B0, B1, B2, hw1⟩ := boxes312 hb1
  have p0 := B0.cell 0
  have p1 := B0.cell 1
  have p2 := B0.cell 2
  have p3 := B1.cell 0
  have p4 := B2.cell 0
  have p5 := B2.cell 1
  simp at p0 p1 p2 p3 p4 p5
  clear hb1 B0 B1 B2
  go_wp2_with fail
  refine (widec_any ws l vc a _ _ (HC.out.to hw1) (HL.out.to hw1) hl2).mono ?_
  rw [HWC.out]
  rintro e W ⟨rfl, hbW⟩
  have hwW := bnext hw1 hbW
  replace p0 := keepc hbW p0
  replace p1 := keepc hbW p1
  replace p2 := keepc hbW p2
  replace p3 := keepc hbW p3
  replace p4 := keepc hbW p4
  replace p5 := keepc hbW p5
  clear hw1 hbW
  go_wp2_with fail
  refine (run_any ⟨del, rules, stops⟩ q ((n : Int) + k) _ v3 _ W (HT.out.to hwW) (HQ.out.to hwW) hql).mono ?_
  rw [← HR1.out]
  rintro e wa ⟨va, rfl, hEa, hba⟩
  obtain ⟨Aa, ca, rfl⟩ := hEa.form
  rw [ints_len] at hEa ⊢
  have HEa := hid_ hEa
  have hwa := bnext hwW hba
  have p0a := keepc hba p0
  have p1a := keepc hba p1
  have p2a := keepc hba p2
  clear hEa
  go_wp2_with fail
  refine (run_any ⟨del, rules, stops⟩ q n _ v3 _ wa (HT.out.to hwa) (HQ.out.to hwa) hql).mono ?_
  rw [← HR2.out]
  rintro e wb ⟨vb, rfl, hEb, hbb⟩
  obtain ⟨Ab, cb, rfl⟩ := hEb.form
  rw [ints_len] at hEb ⊢
  have HEb := hid_ hEb
  have hwb := bnext hwa hbb
  have hWb := bnext hba hbb
  have p0b := keepc hbb p0a
  have p1b := keepc hbb p1a
  have p2b := keepc hbb p2a
  have HEa2 := hid_ (HEa.out.to hbb)
  clear hEb p0a p1a p2a
  go_upto_if 62 with fail
  go_cut [] (fun wx => Below W.heap.size W wx)
  case first =>
    by_cases h2 : R2.err = 0
    · obtain ⟨e1, e2, e3⟩ := HADD.out.1 h2
      have f1 : (R2.err == 0) = true := by simp [h2]
      have f2 : (R1.err != R3.err) = false := by simp [e1]
      have E2 := hid_ e2
      by_cases h1 : R1.err = 0
      · have f3 : (R1.err == 0) = true := by simp [h1]
        have f4 : (R1.k != R2.k + R3.k) = false := by simp [e3 h1]
        clear e1 e2 e3 h1 h2
        go_wp2_with fail
        refine (run_any ⟨del, rules, stops⟩ R2.q k _ v3 _ wb (HT.out.to hwb) HEb.out (by have := HLN.out.2; omega)).mono ?_
        rw [← HR3.out]
        rintro e we ⟨ve, rfl, hEe, hbe⟩
        obtain ⟨Ae, ce, rfl⟩ := hEe.form
        rw [ints_len] at hEe ⊢
        have HEe := hid_ hEe
        have HEa3 := hid_ (HEa2.out.to hbe)
        clear hEe
        go_wp2_with fail
        refine (same_any R1.q R3.q _ _ we HEa3.out HEe.out (by have := HLN.out.1; omega)).mono ?_
        rw [decide_eq_true E2.out]
        rintro e wf ⟨rfl, nf, rfl⟩
        go_wp2_with fail
        go_meet
        exact below_drewN (bnext hWb hbe) nf
      · have f3 : (R1.err == 0) = false := by simp [h1]
        clear e1 e2 e3 h1 h2
        go_wp2_with fail
        refine (run_any ⟨del, rules, stops⟩ R2.q k _ v3 _ wb (HT.out.to hwb) HEb.out (by have := HLN.out.2; omega)).mono ?_
        rw [← HR3.out]
        rintro e we ⟨ve, rfl, hEe, hbe⟩
        obtain ⟨Ae, ce, rfl⟩ := hEe.form
        rw [ints_len] at hEe ⊢
        have HEe := hid_ hEe
        have HEa3 := hid_ (HEa2.out.to hbe)
        clear hEe
        go_wp2_with fail
        refine (same_any R1.q R3.q _ _ we HEa3.out HEe.out (by have := HLN.out.1; omega)).mono ?_
        rw [decide_eq_true E2.out]
        rintro e wf ⟨rfl, nf, rfl⟩
        go_wp2_with fail
        go_meet
        exact below_drewN (bnext hWb hbe) nf
    · have f1 : (R2.err == 0) = false := by simp [h2]
      have f2 : (R1.err != R2.err) = false := by simp [HADD.out.2 h2]
      clear h2
      go_wp2_with fail
      go_meet
      exact hWb
  case rest => as_aux_lemma =>
    obtain ⟨X, rfl⟩ : ∃ X : World, X = wc := ⟨_, rfl⟩
    have hwX := bnext hwW hcut
    replace p0 := keepc hcut p0
    replace p1 := keepc hcut p1
    replace p2 := keepc hcut p2
    replace p3 := keepc hcut p3
    replace p4 := keepc hcut p4
    replace p5 := keepc hcut p5
    clear hcut HEa HEb HEa2 p0b p1b p2b HADD HR1 HR2 HR3 HLN m20 m21 m30 m31 hwa hwb hWb hba hbb
    go_wp2_with fail
    refine (step_any ⟨del, rules, stops⟩ q _ v3 _ X (HT.out.to hwX) (HQ.out.to hwX) hql).mono ?_
    rw [← HZ.out]
    rintro e wd ⟨vd, rfl, hEd, hbd⟩
    obtain ⟨Ad, cd, rfl⟩ := hEd.form
    rw [ints_len]
    have hwd := bnext hwX hbd
    replace p0 := keepc hbd p0
    replace p1 := keepc hbd p1
    replace p2 := keepc hbd p2
    replace p3 := keepc hbd p3
    replace p4 := keepc hbd p4
    replace p5 := keepc hbd p5
    clear hEd HZ
    go_upto_region 12 with fail
    go_cut [132] (fun s wx => s = .bool false ∧ Below wd.heap.size wd wx)
    case first =>
      by_cases hz : Z.err = 0
      · obtain ⟨hf, hs, hzq⟩ := HZK.out hz
        obtain ⟨hv, hfl, _⟩ := fitsT_parts hf
        obtain ⟨d1, d2, r1, r2, _, _⟩ := validT_parts hv
        simp only at d1 d2 r1 r2
        obtain ⟨b2, o2, rfl, hb2⟩ := HT.out.rules.addr r1
        obtain ⟨j, r, bb, hj, hjr, hr, -⟩ := head_get (t := ⟨del, rules, stops⟩) hf (by simp only; omega)
        simp only at hjr hr
        obtain ⟨Ar, dr, hcr, -⟩ := (HT.out.to hwd).rules.row hr
        obtain ⟨b, off, rfl, hb, hc⟩ := HQ.out.at_ (by omega)
        have i1 : wd.cell? ⟨b, off, none⟩ = some (.int .i64 (j : Int)) := by simpa using (hwd.cell (p := ⟨b, off + 0, none⟩) hb).trans (hc 0 _ (ints_at hj))
        have hrl := (rule_get hv hr).1
        have hzl : (Z.q.length : Int) = (q.length : Int) + (r.length : Int) - del := by
          have := stepT_eq (t := ⟨del, rules, stops⟩) hj hr
          rw [hzq, this, List.length_drop, List.length_append]
          simp only
          omega
        have f1 : (Z.err == 0) = true := by simp [hz]
        have f2 : ((q.length : Int) == 0) = false := by rw [beq_eq_false_iff_ne]; omega
        have f3 : ((Z.q.length : Int) != (q.length : Int) + (r.length : Int) - del) = false := by rw [hzl]; simp
        have HF := hid_ hf
        have HZL2 := hid_ hzl
        have t1 : 0 ≤ (j : Int) := by omega
        have t2 : (j : Int) < rules.length := by omega
        have t3 : (0 : Int) < q.length := by omega
        have t3' : 0 < q.length := by omega
        have g1 : IntKind.i64.wrap ((q.length : Int) + (r.length : Int)) = (q.length : Int) + (r.length : Int) := IntWalk.i64_in _ (by omega)
        have g2 : IntKind.i64.wrap ((q.length : Int) + (r.length : Int) - del) = (q.length : Int) + (r.length : Int) - del := IntWalk.i64_in _ (by omega)
        have hS : wd.drew.cell? ⟨w.heap.size, 0, none⟩ = some (.int .i64 del) ∧ wd.drew.cell? ⟨w.heap.size, 1, none⟩ = some (.slice (some ⟨b2, o2, none⟩) rules.length c2) ∧ wd.drew.cell? ⟨w.heap.size, 2, none⟩ = some v3 ∧ wd.drew.cell? ⟨b, off, none⟩ = some (.int .i64 (j : Int)) ∧ wd.drew.cell? ⟨b2, o2 + j, none⟩ = some (.slice Ar r.length dr) := ⟨p0, p1, p2, i1, hcr⟩
        clear hf hs hzq hv hfl hj hr hc hz hzl
        go_region_held3 (fun w' => w'.cell? ⟨w.heap.size, 0, none⟩ = some (.int .i64 del) ∧ w'.cell? ⟨w.heap.size, 1, none⟩ = some (.slice (some ⟨b2, o2, none⟩) rules.length c2) ∧ w'.cell? ⟨w.heap.size, 2, none⟩ = some v3 ∧ w'.cell? ⟨b, off, none⟩ = some (.int .i64 (j : Int)) ∧ w'.cell? ⟨b2, o2 + j, none⟩ = some (.slice Ar r.length dr))
          (first | assumption | exact ⟨keepc hbf hS.1, keepc hbf hS.2.1, keepc hbf hS.2.2.1, keepc hbf hS.2.2.2.1, keepc hbf hS.2.2.2.2⟩)
          (first | (go_at_call 15; refine (rfits_any ⟨del, rules, stops⟩ q _ v3 _ wd.drew (HT.out.to hwd.drew) (HQ.out.to hwd.drew) hql).mono ?_; rw [HF.out]; rintro e wf ⟨rfl, hbf⟩))
        all_goals
          go_wp2_with fail
          go_meet
          exact ⟨rfl, hbf.drewl⟩
      · have f1 : (Z.err == 0) = false := by simp [hz]
        clear hz
        go_quiet (fail)
        all_goals
          go_wp2_with fail
          go_meet
          exact ⟨rfl, below_drewN (Below.refl _ _) _⟩
    case rest => as_aux_lemma =>
      obtain ⟨rfl, hbx⟩ := hcut
      obtain ⟨Y, rfl⟩ : ∃ Y : World, Y = wc := ⟨_, rfl⟩
      have hwY := bnext hwd hbx
      replace p0 := keepc hbx p0
      replace p1 := keepc hbx p1
      replace p2 := keepc hbx p2
      replace p3 := keepc hbx p3
      replace p4 := keepc hbx p4
      replace p5 := keepc hbx p5
      clear hbx hwd hbd p0 p1 p2 HZK HZL
      go_wp2_with fail
      refine (roll_any ws a l ((n : Int) + k) _ _ Y (HI.out.to hwY) (HL.out.to hwY) hll).mono ?_
      rw [← HU1.out]
      rintro e wa ⟨va, rfl, hEa, -, hba⟩
      obtain ⟨Aa, ca, rfl⟩ := hEa.form
      rw [ints_len] at hEa ⊢
      have HEa := hid_ hEa
      have hwa := bnext hwY hba
      replace p3 := keepc hba p3
      replace p4 := keepc hba p4
      replace p5 := keepc hba p5
      have z3 : w.heap.size + 1 < wa.heap.size := cell_lt p3
      have z4 : w.heap.size + 1 + 1 < wa.heap.size := cell_lt p4
      clear hEa
      go_wp2_with fail
      have hwa2 := hwa.alloc hwa.size (.cells #[.int .i64 U1.pos, .slice Aa U1.q.length ca] 45)
      refine (roll_any ws a l n _ _ _ (HI.out.to hwa2) (HL.out.to hwa2) hll).mono ?_
      rw [← HU2.out]
      rintro e wb ⟨vb, rfl, hEb, -, hbb⟩
      obtain ⟨Ab, cb, rfl⟩ := hEb.form
      rw [ints_len] at hEb ⊢
      have HEb := hid_ hEb
      have hwb := bnext hwa2 hbb
      have BA := (Blk.new wa 45 #[.int .i64 U1.pos, .slice Aa U1.q.length ca]).to hbb
      have a0 := BA.cell 0
      have a1 := BA.cell 1
      simp at a0 a1
      have HEa2 := hid_ ((HEa.out.to (below1 wa _)).to hbb)
      replace p3 := keepc hbb (keepa _ p3)
      replace p4 := keepc hbb (keepa _ p4)
      replace p5 := keepc hbb (keepa _ p5)
      clear hEb BA z3 z4 hwa2
      have z3 : w.heap.size + 1 < wb.heap.size := cell_lt p3
      have z4 : w.heap.size + 1 + 1 < wb.heap.size := cell_lt p4
      have z5 : wa.heap.size < wb.heap.size := cell_lt a0
      have hwb2 := hwb.alloc hwb.size (.cells #[.int .i64 U2.pos, .slice Ab U2.q.length cb] 45)
      by_cases h2 : U2.err = 0
      · obtain ⟨e1, e2, e3, e4⟩ := UADD.out.1 h2
        have f1 : (U2.err != 0) = false := by simp [h2]
        have f2 : (U1.err == U3.err) = true := by simp [e1]
        have E2 := hid_ e2
        have E3 := hid_ e3
        by_cases h1 : U1.err = 0
        · have f3 : (U1.err != 0) = false := by simp [h1]
          have f4 : (U1.k == U2.k + U3.k) = true := by simp [e4 h1]
          clear e1 e2 e3 e4 h1 h2
          go_wp2_with fail
          refine (roll_any ws U2.pos U2.q k _ _ _ (HI.out.to hwb2) (HEb.out.to (below1 _ _)) (by have := ULN.out.2; omega)).mono ?_
          rw [← HU3.out]
          rintro e we ⟨ve, rfl, hEe, -, hbe⟩
          obtain ⟨Ae, ce, rfl⟩ := hEe.form
          rw [ints_len] at hEe ⊢
          have HEe := hid_ hEe
          have hwe := bnext hwb2 hbe
          replace a0 := keepc hbe (keepa _ a0)
          replace a1 := keepc hbe (keepa _ a1)
          have z6 : wa.heap.size < we.heap.size := cell_lt a0
          have HEa3 := hid_ (((HEa2.out.to (below1 wb _)).to hbe).to (below1 we (.cells #[.int .i64 U3.pos, .slice Ae U3.q.length ce] 45)))
          have HEe2 := hid_ (HEe.out.to (below1 we (.cells #[.int .i64 U3.pos, .slice Ae U3.q.length ce] 45)))
          clear hEe
          go_wp2_with fail
          refine (samewheel_any U1.pos U3.pos U1.q U3.q _ _ _ HEa3.out HEe2.out (by have := ULN.out.1; omega)).mono ?_
          rw [decide_eq_true E2.out, decide_eq_true E3.out, Bool.true_and]
          rintro e wf ⟨rfl, hbf⟩
          go_wp2_with fail
          refine (awake_any _).mono ?_
          rintro e wz ⟨rfl, hbz⟩
          go_wp2_with fail
          go_ret
          exact ⟨rfl, bnext (bnext (hwe.alloc hwe.size _) hbf) hbz⟩
        · have f3 : (U1.err != 0) = true := by simp [h1]
          clear e1 e2 e3 e4 h1 h2
          go_wp2_with fail
          refine (roll_any ws U2.pos U2.q k _ _ _ (HI.out.to hwb2) (HEb.out.to (below1 _ _)) (by have := ULN.out.2; omega)).mono ?_
          rw [← HU3.out]
          rintro e we ⟨ve, rfl, hEe, -, hbe⟩
          obtain ⟨Ae, ce, rfl⟩ := hEe.form
          rw [ints_len] at hEe ⊢
          have HEe := hid_ hEe
          have hwe := bnext hwb2 hbe
          replace a0 := keepc hbe (keepa _ a0)
          replace a1 := keepc hbe (keepa _ a1)
          have z6 : wa.heap.size < we.heap.size := cell_lt a0
          have HEa3 := hid_ (((HEa2.out.to (below1 wb _)).to hbe).to (below1 we (.cells #[.int .i64 U3.pos, .slice Ae U3.q.length ce] 45)))
          have HEe2 := hid_ (HEe.out.to (below1 we (.cells #[.int .i64 U3.pos, .slice Ae U3.q.length ce] 45)))
          clear hEe
          go_wp2_with fail
          refine (samewheel_any U1.pos U3.pos U1.q U3.q _ _ _ HEa3.out HEe2.out (by have := ULN.out.1; omega)).mono ?_
          rw [decide_eq_true E2.out, decide_eq_true E3.out, Bool.true_and]
          rintro e wf ⟨rfl, hbf⟩
          go_wp2_with fail
          refine (awake_any _).mono ?_
          rintro e wz ⟨rfl, hbz⟩
          go_wp2_with fail
          go_ret
          exact ⟨rfl, bnext (bnext (hwe.alloc hwe.size _) hbf) hbz⟩
      · have f1 : (U2.err != 0) = true := by simp [h2]
        have f2 : (U1.err == U2.err) = true := by simp [UADD.out.2 h2]
        clear h2
        go_wp2_with fail
        refine (awake_any _).mono ?_
        rintro e wz ⟨rfl, hbz⟩
        go_wp2_with fail
        go_ret
        exact ⟨rfl, bnext hwb2 hbz⟩
end Go.Proofs.Ytpnjffdjoacejaa

/- The specification's Turn, where the slice has capacity 1. -/
import Derived.Test.YtpnjffdjoacejaaMi
namespace Go.Proofs.Ytpnjffdjoacejaa
open Go.RowKit

set_option maxRecDepth 100000 in
set_option maxHeartbeats 4000000 in
theorem rturn_one (ws : List (List Int)) (a : Nat) (q : List Int) (v : Value) (A : Option Addr) (hcap : q.length ≤ 1) (w : World) (ht : CycIn w w.heap.size v ws) (hq : Elems w w.heap.size (.slice A q.length 1) (ints q)) (hf : fitsC ws a q = true) (hz : q ≠ []) :
    Calls Try.prog 31 #[.agg #[v], .agg #[.int .i64 a, .slice A q.length 1]] w (RURan w ((a + 1) % ws.length) (turnQ ws a q)) := by
  obtain ⟨i0, hi, hz0, hz1, hz2⟩ := info_parts Try.infoI
  obtain ⟨hv, f1, f2, f3, f4⟩ := fitsC_parts hf
  obtain ⟨r1, r2, -⟩ := validC_parts hv
  obtain ⟨A2, c2, rfl⟩ := ht.rows.form
  obtain ⟨b2, o2, rfl, hb2⟩ := ht.rows.addr r1
  have hlp : 0 < q.length := List.length_pos_iff.2 hz
  obtain ⟨x, hx⟩ : ∃ x, q[0]? = some x := ⟨_, List.getElem?_eq_getElem hlp⟩
  obtain ⟨r, hr⟩ : ∃ r, ws[a]? = some r := ⟨_, List.getElem?_eq_getElem (by omega)⟩
  have hrw := (wordC_get hv hr).1
  have HTQ := hid_ (turnQ_eq hx hr)
  obtain ⟨Ar, dr, hcr, hEr⟩ := ht.rows.row hr
  obtain ⟨b, off, rfl, hb, hc⟩ := hq.at_ hlp
  have i1 : w.cell? ⟨b, off, none⟩ = some (.int .i64 x) := by simpa using hc 0 _ (ints_at hx)
  have HTL : Hid (Elems w w.heap.size (.slice (some ⟨b, off, none⟩) (q.length - 1) 0) (ints (q.drop 1))) := hid_ (by
    rcases hq.tail (by omega) with h | ⟨h1, h2⟩
    · simpa using h
    · omega)
  have HE := hid_ hEr
  obtain ⟨WW, hWW⟩ : ∃ WW, WW = ((w.alloc (.cells #[.slice (some ⟨b2, o2, none⟩) ws.length c2] 43)).alloc (.cells #[.int .i64 a, .slice (some ⟨b, off, none⟩) q.length 1] 45)).alloc (.cells #[.int .i64 0, .slice none 0 0] 45) := ⟨_, rfl⟩
  obtain ⟨B0, B1, B2, hw1⟩ : Blk WW w.heap.size 43 #[.slice (some ⟨b2, o2, none⟩) ws.length c2] ∧ Blk WW (w.heap.size + 1) 45 #[.int .i64 a, .slice (some ⟨b, off, none⟩) q.length 1] ∧ Blk WW (w.heap.size + 1 + 1) 45 #[.int .i64 0, .slice none 0 0] ∧ Below w.heap.size w WW := boxes (by rw [← hWW]; exact Below.refl _ _)
  have p0 := B0.cell 0
  have p1 := B1.cell 0
  have p2 := B1.cell 1
  simp at p0 p1 p2
  have HB2 := hid_ B2
  have q1 := keepc hw1 i1
  have q2 := keepc hw1 hcr
  have HW := hid_ hWW
  have HTW := hid_ (HTL.out.to hw1)
  have t1 : 0 ≤ (a : Int) := by omega
  have t2 : (a : Int) < ws.length := by omega
  have t3 : (1 : Int) ≤ q.length := by omega
  have t4 : (q.length : Int) ≤ 1 := by omega
  have t6 : (0 : Int) < q.length := by omega
  have t7 : ¬ ws = [] := fun e => by rw [e] at r1; simp at r1
  have t10 : ((a : Int) + 1).tmod (ws.length : Int) = ((a : Int) + 1) % (ws.length : Int) := IntWalk.rem_in _ _ (by omega)
  have t8 : 0 < ((ws.length : Nat) : Int) := by omega
  have t9 : ((ws.length : Nat) : Int) ≤ 2400 := by omega
  have hmod : ((a : Int) + 1) % (ws.length : Int) = (((a + 1) % ws.length : Nat) : Int) := cast_mod a ws.length
  have HMOD := hid_ hmod
  have HZ := hid_ hz
  have hql1 : q.length ≤ 1000000 := f3
  clear ht hq hf hz hv f1 f2 f3 f4 hx hr hc hEr hcr i1 hWW B0 B1 B2 hmod
  go_enter Try.func31, Try.ntmps31
  go_upto_region 1 with fail
  rw [← HW.out]
  have hwr : IntKind.i64.wrap ((a : Int) + 1) = (a : Int) + 1 := IntWalk.i64_in _ (by omega)
  go_cut [6] (fun s6 wx => OutU WW (((a : Int) + 1) % (ws.length : Int)) (q.drop 1) s6 wx)
  case first =>
    have HD : Hid (q.drop 1 = []) := hid_ (List.drop_eq_nil_of_le hcap)
    go_region_held3 (fun w' => w'.cell? ⟨w.heap.size, 0, none⟩ = some (.slice (some ⟨b2, o2, none⟩) ws.length c2) ∧ w'.cell? ⟨w.heap.size + 1, 0, none⟩ = some (.int .i64 (a : Int)) ∧ w'.cell? ⟨w.heap.size + 1, 1, none⟩ = some (.slice (some ⟨b, off, none⟩) q.length 1))
      (first
        | assumption
        | exact ⟨p0, p1, p2⟩
        | exact keep3 (below1 WW _).drew ⟨p0, p1, p2⟩
        | exact keep3 (below2 WW _ _).drew ⟨p0, p1, p2⟩)
      (fail)
    all_goals
      go_wp2_with fail
      go_meet
      rw [HD.out]
      first
        | exact out_one1 WW _
        | exact out_one2 WW _
  case rest => as_aux_lemma =>
    obtain ⟨g6, rfl, A1, n1, c1, hbk, hown, hge, hne, hb6⟩ := hcut
    obtain ⟨X, rfl⟩ : ∃ X : World, X = wc := ⟨_, rfl⟩
    replace p0 := keepc hb6 p0
    replace p1 := keepc hb6 p1
    replace p2 := keepc hb6 p2
    replace q1 := keepc hb6 q1
    replace q2 := keepc hb6 q2
    have k0 := hbk.cell 0
    have k1 := hbk.cell 1
    have kf0 := hbk.free 0
    have kf1 := hbk.free 1
    have kz := hbk.lt
    simp at k0 k1
    have HK := hid_ hbk
    have HO := hid_ hown
    have HN := hid_ hne
    have hwX := bnext hw1 hb6
    have HEX := hid_ (HE.out.to hwX)
    have HRX := hid_ (HB2.out.to hb6)
    have HB2Z : Hid (w.heap.size + 1 + 1 < WW.heap.size) := hid_ HB2.out.lt
    have rr0 := HRX.out.cell 0
    have rr1 := HRX.out.cell 1
    have rf0 := HRX.out.free 0
    have rf1 := HRX.out.free 1
    have rz := HRX.out.lt
    simp at rr0 rr1
    have hn1 : n1 = (q.drop 1).length := (QAt.len hown).symm
    have hn2 : n1 ≤ 1000000 := by rw [hn1, List.length_drop]; omega
    have HN1 := hid_ hn1
    clear hbk hown hne HB2 HTL HTW HW hn1
    by_cases hx1 : x = 1
    · subst hx1
      have HTE : Hid (turnQ ws a q = q.drop 1 ++ r) := hid_ (by rw [HTQ.out, if_pos rfl])
      clear HTQ
      go_upto_region 3 with fail
      go_still_tail 8, (by kernel_rfl)
      change wpList _ _ _ _ _ X.drew
      have HOD : Hid (X.drew.ownsRow WW.heap.size 3 1 (.slice A1 n1 c1) n1 (ints (q.drop 1))) := hid_ HO.out
      have HED : Hid (Elems X.drew X.drew.heap.size (.slice Ar r.length dr) (ints r)) := hid_ HEX.out
      have h63b : n1 + (ints r).length ≤ maxLen := by rw [ints_len]; unfold maxLen; omega
      have hbyb : (n1 + (ints r).length) * 8 ≤ 140737488355328 := by rw [ints_len]; omega
      refine wpList_append_e (by rfl) _ _ 26 (by rfl) 3 i0 (.int .i64 0) 8 Try.underlying26 hi hz0 hz1 hz2 rfl (by rfl) (by rfl) HOD.out HED.out ints_one h63b hbyb hb6.size ?_
      intro v3 Y hown3 hg3 hat3
      have HO3 : Hid (Y.ownsRow WW.heap.size 3 1 v3 (n1 + r.length) (ints (q.drop 1 ++ r))) := hid_ (by rw [ints_len] at hown3; simpa [ints] using hown3)
      have HBY : Hid (Below WW.heap.size WW Y) := hid_ ((hb6.drew).grown hg3 hb6.size (own_lt HO.out))
      have HKY : Hid (Blk Y g6 45 #[.int .i64 (((a : Int) + 1) % (ws.length : Int)), .slice A1 n1 c1]) := hid_ ((HK.out.dN 1).grownby hg3 HN.out)
      have HNY : Hid (some g6 ≠ v3.ownBlock) := hid_ (fun e => by
        rcases hat3 with h | h
        · rw [h] at e; exact HN.out e
        · rw [h] at e
          injection e with e
          have : X.drew.heap.size = X.heap.size := rfl
          omega)
      have HRY : Hid (Blk Y (w.heap.size + 1 + 1) 45 #[.int .i64 0, .slice none 0 0]) := hid_ ((HRX.out.dN 1).grownby hg3 (fun e => by have := own_lt HO.out _ e.symm; have := HB2Z.out; omega))
      obtain ⟨A3, c3, rfl⟩ := own_form HO3.out
      have hwY := bnext hw1 HBY.out
      clear hown3 hg3 hat3 p0 p1 p2 q1 q2 k0 k1 kf0 kf1 rr0 rr1 rf0 rf1
      have k0 := HKY.out.cell 0
      have k1 := HKY.out.cell 1
      have kf0 := HKY.out.free 0
      have kf1 := HKY.out.free 1
      have kzY := HKY.out.lt
      simp at k0 k1
      obtain ⟨Z, hZ⟩ : ∃ Z, Z = Y.setCell ⟨g6, 1, none⟩ (.slice A3 (n1 + r.length) c3) := ⟨_, rfl⟩
      have HKZ : Hid (Blk Z g6 45 #[.int .i64 (((a : Int) + 1) % (ws.length : Int)), .slice A3 (n1 + r.length) c3]) := hid_ (by rw [hZ]; simpa using HKY.out.set_ 1 (.slice A3 (n1 + r.length) c3))
      have HRZ : Hid (Blk Z (w.heap.size + 1 + 1) 45 #[.int .i64 0, .slice none 0 0]) := hid_ (by rw [hZ]; exact HRY.out.far (by simp only; have := HB2Z.out; omega) _)
      have HOZ : Hid (Z.ownsRow WW.heap.size 3 1 (.slice A3 (n1 + r.length) c3) (n1 + r.length) (ints (q.drop 1 ++ r))) := hid_ (by rw [hZ]; exact ownsRow_setCell_other (a := ⟨g6, 1, none⟩) HO3.out (fun e => HNY.out e.symm) _)
      have hwZ : Below w.heap.size w Z := by rw [hZ]; exact hwY.setCell (by simp only; have := HB2Z.out; omega) _
      have HNL : Hid (n1 + r.length = (q.drop 1 ++ r).length) := hid_ (by rw [List.length_append, ← HN1.out])
      have HZE := hid_ hZ
      clear hZ hwY
      go_upto_region 4 with fail
      rw [← HZE.out]
      clear k0 k1 kf0 kf1 kzY
      have k0 := HKZ.out.cell 0
      have k1 := HKZ.out.cell 1
      have rr0 := HRZ.out.cell 0
      have rr1 := HRZ.out.cell 1
      have rf0 := HRZ.out.free 0
      have rf1 := HRZ.out.free 1
      have rz3 := HRZ.out.lt
      simp at k0 k1 rr0 rr1
      clear HRY HKY HK HRX HO HOD HO3 HZE
      have hm0 : n1 + r.length ≤ 1120000 := by omega
      generalize n1 + r.length = m3 at HKZ HOZ HNL k1 hm0 ⊢
      by_cases hbig : 1000000 < m3
      · have hbig2 : (1000000 : Int) < ((m3 : Nat) : Int) := by omega
        have BX2 := (HRZ.out.set_ 0 (.int .i64 0)).set_ 1 (.slice none 0 0)
        have e0 := BX2.cell 0
        have e1 := BX2.cell 1
        simp at e0 e1
        clear BX2
        go_wp2_with fail
        refine bodyPost_ret (v := .tuple #[.agg #[.int .i64 0, .slice none 0 0], .bool false]) (by simp [results, Try.results31, go_sem, e0, e1]) rfl ?_
        exact ru_big (by rw [HTE.out, ← HNL.out]; omega) ((hwZ.setCell (by simp; omega) _).setCell (by simp; omega) _)
      · have hbig2 : ((m3 : Nat) : Int) ≤ 1000000 := by omega
        have BX2 := (HRZ.out.set_ 0 (.int .i64 (((a : Int) + 1) % (ws.length : Int)))).set_ 1 (.slice A3 m3 c3)
        have e0 := BX2.cell 0
        have e1 := BX2.cell 1
        simp at e0 e1
        have hfr : ∀ b, (Value.slice A3 m3 c3).ownBlock = some b → WW.heap.size ≤ b := own_lt HOZ.out
        have HFR := hid_ hfr
        have hww := HB2Z.out
        clear BX2 hfr
        go_wp2_with fail
        refine bodyPost_ret (v := .tuple #[.agg #[.int .i64 (((a : Int) + 1) % (ws.length : Int)), .slice A3 m3 c3], .bool true]) (by simp [results, Try.results31, go_sem, e0, e1]) rfl ?_
        have hne0 : ∀ i : Nat, (Value.slice A3 m3 c3).ownBlock ≠ some (⟨w.heap.size + 1 + 1, i, none⟩ : Addr).block := fun i e => by
          have := HFR.out _ e
          simp at this
          omega
        refine ru_ok (by rw [HTE.out, ← HNL.out]; omega) HMOD.out ?_ (own_capped HOZ.out) (fun b h => by have := HFR.out b h; have := hw1.size; omega) ((hwZ.setCell (by simp; omega) _).setCell (by simp; omega) _)
        rw [HTE.out]
        exact ((own_any HOZ.out).set_to (hne0 0)).set_to (hne0 1)
    · have hx2 : (x == 1) = false := by simpa using hx1
      have HTE : Hid (turnQ ws a q = q.drop 1) := hid_ (by rw [HTQ.out, if_neg hx1])
      have HNL : Hid (n1 = (q.drop 1).length) := HN1
      clear HTQ
      by_cases hbig : 1000000 < n1
      · exact absurd hn2 (by omega)
      · have hbig2 : ((n1 : Nat) : Int) ≤ 1000000 := by omega
        have BX2 := (HRX.out.set_ 0 (.int .i64 (((a : Int) + 1) % (ws.length : Int)))).set_ 1 (.slice A1 n1 c1)
        have e0 := BX2.cell 0
        have e1 := BX2.cell 1
        simp at e0 e1
        have hfr : ∀ b, (Value.slice A1 n1 c1).ownBlock = some b → WW.heap.size ≤ b := own_lt HO.out
        have HFR := hid_ hfr
        have hww := HB2Z.out
        clear BX2 hfr
        go_wp2_with fail
        refine bodyPost_ret (v := .tuple #[.agg #[.int .i64 (((a : Int) + 1) % (ws.length : Int)), .slice A1 n1 c1], .bool true]) (by simp [results, Try.results31, go_sem, e0, e1]) rfl ?_
        have hne0 : ∀ i : Nat, (Value.slice A1 n1 c1).ownBlock ≠ some (⟨w.heap.size + 1 + 1, i, none⟩ : Addr).block := fun i e => by
          have := HFR.out _ e
          simp at this
          omega
        refine ru_ok (by rw [HTE.out, ← HNL.out]; omega) HMOD.out ?_ (own_capped HO.out) (fun b h => by have := HFR.out b h; have := hw1.size; omega) ((hwX.setCell (by simp; omega) _).setCell (by simp; omega) _)
        rw [HTE.out]
        exact ((own_any HO.out).set_to (hne0 0)).set_to (hne0 1)
end Go.Proofs.Ytpnjffdjoacejaa

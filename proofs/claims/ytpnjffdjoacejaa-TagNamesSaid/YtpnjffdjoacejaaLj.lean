/- The law TagNames where all fits. -/
import Derived.Test.YtpnjffdjoacejaaLi
import Derived.IntWalk
namespace Go.Proofs.Ytpnjffdjoacejaa
open Go.RowKit

set_option maxRecDepth 1000000 in
set_option maxHeartbeats 8000000 in
theorem names_go (del : Int) (rules : List (List Int)) (stops : List Bool) (q tos : List Int) (n : Nat) (v2 v3 v v4 : Value) (w : World) (hB : TagBig w w.heap.size v2 v3 ⟨del, rules, stops⟩) (hq : Elems w w.heap.size v (ints q)) (h4 : Elems w w.heap.size v4 (ints tos)) (hl : q.length ≤ 17592186044416) (hw : wideB ⟨del, rules, stops⟩ q = false) (hf : fitsT ⟨del, rules, stops⟩ q = true) (hN : tos.length = rules.length) (hn : n ≤ 255) :
    Calls Try.prog 7 #[.agg #[.int .i64 del, v2, v3], v, v4, .int .u8 n] w (Yes w) := by
  have HB := hid_ hB
  have HT := hid_ (hB.in_ hw)
  have hl2 : q.length ≤ 1000000 := by have := (wideB_no hw).1; omega
  have HQ := hid_ hq
  have HW := hid_ hw
  have HF := hid_ hf
  obtain ⟨d1, d2, r1, r2, r3, -⟩ := validT_parts (fitsT_parts hf).1
  simp only at d1 d2 r1 r2 r3
  obtain ⟨A2, c2, rfl⟩ := hB.rules.form
  obtain ⟨A3, c3, rfl⟩ := hB.stops.form
  obtain ⟨A4, c4, rfl⟩ := h4.form
  rw [bools_len] at HB HT ⊢
  rw [ints_len] at h4 ⊢
  simp only at HB HT ⊢
  rw [r3, ← hN] at HB HT ⊢
  obtain ⟨i1, hi1, hz11, hz12, hz13⟩ := info_parts Try.infoB
  have HN := hid_ hN
  have H4 := hid_ h4
  have HR3 := hid_ r3
  have hT1 : 1 ≤ tos.length := by omega
  have hT2 : tos.length ≤ 600 := by omega
  obtain ⟨b4, o4, rfl, hb4, hc4⟩ := h4.at_ (by omega)
  obtain ⟨b2, o2, rfl, hb2⟩ := HT.out.rules.addr (by omega)
  obtain ⟨b3, o3, rfl, hb3, hc3⟩ := HT.out.stops.at_ (by omega)
  have HC3 := hid_ hc3
  clear hc3
  have HC4 := hid_ hc4
  have hne : ((tos.length : Int) != (tos.length : Int)) = false := by simp
  clear hB hq hw hf h4 hN r3 r1 r2 hc4
  go_enter Try.func7, Try.ntmps7
  go_wp2_with fail
  refine (wide_any ⟨del, rules, stops⟩ q _ _ v _ (HB.out.to (below1 w _)) (HQ.out.to (below1 w _)) hl).mono ?_
  rw [HW.out]
  rintro e w1 ⟨rfl, hb1⟩
  obtain ⟨p0, p1, p2, hz, hw1⟩ := box3 hb1
  clear hb1
  go_wp2_with fail
  refine (rfits_any ⟨del, rules, stops⟩ q _ _ v _ (HT.out.to hw1) (HQ.out.to hw1) hl2).mono ?_
  rw [HF.out]
  rintro e W ⟨rfl, hbW⟩
  replace p0 := keepc hbW p0
  replace p1 := keepc hbW p1
  replace p2 := keepc hbW p2
  have hwW := bnext hw1 hbW
  have hzW : w.heap.size < W.heap.size := by have := hbW.size; omega
  clear hz hw1 hbW
  have P0 := hid_ p0
  have P1 := hid_ p1
  have P2 := hid_ p2
  go_wp2_with (at_make; refine wpList_make_full _ rfl _ _ 23 rfl W.heap.size 4 i1 (.bool false) 1 Try.underlying23 hi1 hz11 hz12 .i64 .i64 tos.length tos.length tos.length rfl rfl rfl rfl (by rw [hz13]; omega) (by unfold maxLen; omega) (Nat.le_refl _) ?_; intro w3 hown hgr)
  rw [metL_zero tos.length tos] at hown
  have HOWN := hid_ hown
  have hbm := make_below hgr
  clear hown hgr
  go_loopw [10] (fun s wr => ∃ k : Nat, s = .int .i64 ((k : Nat) : Int) ∧ k ≤ tos.length ∧ Hid (wr.ownsRow W.heap.size 4 1 (.slice (some ⟨W.heap.size, 0, none⟩) tos.length tos.length) tos.length (bools (metL tos.length tos k))) ∧ Hid (Dif tos.length tos k) ∧ Below W.heap.size W wr) (fun s _ => tos.length - (intOf s).toNat)
  case atStart => exact ⟨0, rfl, Nat.zero_le _, HOWN, hid_ (Dif.zero _ _), hbm⟩
  case round =>
    obtain ⟨k, rfl, hk, HO, HD, hbr⟩ := hrel
    have hwr := bnext hwW hbr
    by_cases hlt : k < tos.length
    · obtain ⟨x, hx⟩ : ∃ x, tos[k]? = some x := ⟨_, List.getElem?_eq_getElem hlt⟩
      have i4 := (hwr.cell (p := ⟨b4, o4 + k, none⟩) hb4).trans (HC4.out k _ (ints_at hx))
      have HX := hid_ hx
      clear hx
      by_cases hx0 : x < 0
      · go_wp2_with fail
        refine (awake_any _).mono ?_
        rintro e w5 ⟨rfl, hb5⟩
        go_wp2_with fail
        go_ret
        exact ⟨rfl, bnext hwr hb5⟩
      · by_cases hxn : (tos.length : Int) ≤ x
        · go_wp2_with fail
          refine (awake_any _).mono ?_
          rintro e w5 ⟨rfl, hb5⟩
          go_wp2_with fail
          go_ret
          exact ⟨rfl, bnext hwr hb5⟩
        · obtain ⟨j, rfl⟩ := Int.eq_ofNat_of_zero_le (show 0 ≤ x by omega)
          have hj : j < tos.length := by omega
          obtain ⟨y, hy⟩ : ∃ y, (metL tos.length tos k)[j]? = some y := ⟨_, List.getElem?_eq_getElem (by rw [metL_len]; exact hj)⟩
          have cj : wr.cell? ⟨W.heap.size, j, none⟩ = some (.bool y) := by
            rw [HO.out.cellAt j (by omega)]
            exact bools_at hy
          have fj := HO.out.frozenAt j
          have t1 : 0 ≤ (j : Int) := by omega
          have t2 : (j : Int) < tos.length := by omega
          cases y
          · have HD2 := hid_ (HD.out.next HX.out hj hy)
            clear hy hx0 hxn
            go_wp2_with fail
            go_roundw
            case rel =>
              refine ⟨k + 1, by go_num, by omega, hid_ ?_, HD2, hbr.setCell (Nat.le_refl _) _⟩
              rw [metL, getD_some HX.out, Int.toNat_natCast, ← bools_set]
              exact (HO.out.stored j (.bool true)).1
            case measure => simp [intOf]; omega
          · clear hy hx0 hxn
            go_wp2_with fail
            refine (awake_any _).mono ?_
            rintro e w5 ⟨rfl, hb5⟩
            go_wp2_with fail
            go_ret
            exact ⟨rfl, bnext hwr hb5⟩
    · have hk2 : k = tos.length := by omega
      have HDF : Hid (Dif tos.length tos tos.length) := hid_ (by have := HD.out; rw [hk2] at this; exact this)
      clear hk2 HO HD HOWN hbm
      replace p0 := keepc hbr p0
      replace p1 := keepc hbr p1
      replace p2 := keepc hbr p2
      obtain ⟨M1, hM1⟩ : ∃ M1, M1 = madeCells (Value.slice none 0 0).cells (tos.length * 1) := ⟨_, rfl⟩
      obtain ⟨M2, hM2⟩ : ∃ M2, M2 = madeCells (Value.bool false).cells (tos.length * 1) := ⟨_, rfl⟩
      obtain ⟨i2, hi2, hz21, hz22, hz23⟩ := info_parts Try.infoS
      have hm1 : ∀ X : World, (Instr.makeSlice 22 (.int .i64 tos.length) (.int .i64 tos.length)).run Try.prog X = .ok (.slice (some ⟨X.heap.size, 0, none⟩) tos.length tos.length) (X.alloc (.cells M1 26)) := fun X => by
        have := run_make (P := Try.prog) (w := X) 22 26 i2 (.slice none 0 0) Try.underlying22 hi2 hz21 .i64 .i64 tos.length tos.length (by omega) (by omega) (by rw [hz23]; omega) (by omega)
        rw [hz22, Int.toNat_natCast, ← hM1] at this
        exact this
      have hm2 : ∀ X : World, (Instr.makeSlice 23 (.int .i64 tos.length) (.int .i64 tos.length)).run Try.prog X = .ok (.slice (some ⟨X.heap.size, 0, none⟩) tos.length tos.length) (X.alloc (.cells M2 4)) := fun X => by
        have := run_make (P := Try.prog) (w := X) 23 4 i1 (.bool false) Try.underlying23 hi1 hz11 .i64 .i64 tos.length tos.length (by omega) (by omega) (by rw [hz13]; omega) (by omega)
        rw [hz12, Int.toNat_natCast, ← hM2] at this
        exact this
      have HM1 := hid_ hM1
      have HM2 := hid_ hM2
      have hzr : w.heap.size < wr.heap.size := by have := hbr.size; omega
      clear hM1 hM2 hi1 hz11 hz12 hz13 hi2 hz21 hz22 hz23 hk
      go_upto_region 10 with fail
      go_cut [11] (fun s11 wx => MadeU W del tos.length (fun i => (renR tos.length ⟨del, rules, stops⟩ tos 0).getD i []) (renS tos.length ⟨del, rules, stops⟩ tos 0) s11 wx)
      case first =>
        go_region_held3 (fun w' => w'.cell? ⟨w.heap.size, 0, none⟩ = some (.int .i64 del))
          (first | assumption | exact keepa _ p0 | exact keepa _ (keepa _ p0) | exact keepa _ (keepa _ (keepa _ p0)))
          (fail)
        all_goals
          go_wp2_with fail
          go_meet
          refine rel3 (MadeU _ _ _ _ _ _) wr _ _ _ ?_
          intro X a1 a2 a3 hbX
          have em1 := HM1.out
          have em2 := HM2.out
          subst em1
          subst em2
          have hbs := hbr.size
          have hmx : tos.length ≤ maxLen := by unfold maxLen; omega
          first
            | exact madeU_mk hbr hbX a3 a1 a2 (by omega) (by omega) (by omega) hmx
            | exact madeU_mk hbr hbX a2 a1 a3 (by omega) (by omega) (by omega) hmx
            | exact madeU_mk hbr hbX a3 a2 a1 (by omega) (by omega) (by omega) hmx
            | exact madeU_mk hbr hbX a2 a3 a1 (by omega) (by omega) (by omega) hmx
            | exact madeU_mk hbr hbX a1 a2 a3 (by omega) (by omega) (by omega) hmx
            | exact madeU_mk hbr hbX a1 a3 a2 (by omega) (by omega) (by omega) hmx
      case rest => as_aux_lemma =>
        obtain ⟨gu, g1, g2, rfl, hM⟩ := hcut
        obtain ⟨X, rfl⟩ : ∃ X : World, X = wc := ⟨_, rfl⟩
        have HMA := hid_ hM
        have HLT := hid_ hM.lt
        have HWX : Hid (Below W.heap.size W X) := hid_ (by obtain ⟨vs, _, _, _, _, _, _, _, _, _, _, h, _⟩ := hM; exact h)
        have HGE : Hid (W.heap.size ≤ gu ∧ W.heap.size ≤ g1 ∧ W.heap.size ≤ g2 ∧ gu ≠ g1 ∧ gu ≠ g2 ∧ g1 ≠ g2) := hid_ (by obtain ⟨vs, _, _, _, _, h1, h2, h3, h4, h5, h6, _⟩ := hM; exact ⟨h4, h5, h6, h1, h2, h3⟩)
        have hwX := bnext hwW HWX.out
        clear hM hbr hwr hzr p0 p1 p2 HM1 HM2 hm1 hm2 M1 M2
        obtain ⟨k1, rfl⟩ : ∃ k1, k1 = k := ⟨_, rfl⟩
        clear hlt
        go_wp2_with fail
        go_loopw [12] (fun s wr => ∃ k : Nat, s = .int .i64 ((k : Nat) : Int) ∧ k ≤ tos.length ∧ Hid (MadeAt W del tos.length gu g1 g2 (fun i => (renR tos.length ⟨del, rules, stops⟩ tos k).getD i []) (renS tos.length ⟨del, rules, stops⟩ tos k) wr)) (fun s _ => tos.length - (intOf s).toNat)
        case atStart => exact ⟨0, rfl, Nat.zero_le _, HMA⟩
        case round =>
          obtain ⟨k, rfl, hk, HM⟩ := hrel
          have hbr := HM.out.bel
          have hwr := bnext hwW hbr
          have p0 := keepc hbr P0.out
          have p1 := keepc hbr P1.out
          have p2 := keepc hbr P2.out
          obtain ⟨m0, m1, m2⟩ := HM.out.cells
          by_cases hlt : k < tos.length
          · obtain ⟨x, hx⟩ : ∃ x, tos[k]? = some x := ⟨_, List.getElem?_eq_getElem hlt⟩
            have hxr := HDF.out k x hlt hx
            obtain ⟨j, rfl⟩ := Int.eq_ofNat_of_zero_le hxr.1
            have hj : j < tos.length := by have := hxr.2.1; omega
            obtain ⟨r, hr⟩ : ∃ r, rules[k]? = some r := ⟨_, List.getElem?_eq_getElem (by have := HN.out; omega)⟩
            obtain ⟨bk, hbk⟩ : ∃ bk, stops[k]? = some bk := ⟨_, List.getElem?_eq_getElem (by have := HN.out; have := HR3.out; omega)⟩
            obtain ⟨Ar, dr, hcr, hEr⟩ := (HT.out.to hwr).rules.row hr
            have hrw := rule_get (fitsT_parts HF.out).1 hr
            have HEr : Hid (∀ w', Below wr.heap.size wr w' → Elems w' w'.heap.size (.slice Ar r.length dr) (ints r)) := hid_ (fun w' h => hEr.to h)
            have HE0 := hid_ (show Elems w w.heap.size (.slice Ar r.length dr) (ints r) from by
              obtain ⟨Ar', dr', h1, h2⟩ := HT.out.rules.row hr
              have h3 := (hwr.cell (p := ⟨b2, o2 + k, none⟩) hb2).trans h1
              rw [hcr] at h3
              simp only [Option.some.injEq, Value.slice.injEq, true_and] at h3
              obtain ⟨rfl, rfl⟩ := h3
              exact h2)
            have i3 := (hwr.cell (p := ⟨b3, o3 + k, none⟩) hb3).trans (HC3.out k _ (bools_at hbk))
            have i4 := (hwr.cell (p := ⟨b4, o4 + k, none⟩) hb4).trans (HC4.out k _ (ints_at hx))
            have HS : Hid (renR tos.length ⟨del, rules, stops⟩ tos (k + 1) = (renR tos.length ⟨del, rules, stops⟩ tos k).set j (nameL tos r)) := hid_ (by
              show (renR tos.length _ tos k).set (tos.getD k 0).toNat _ = _
              rw [getD_some hx, getD_some hr, Int.toNat_natCast])
            have HS2 : Hid (renS tos.length ⟨del, rules, stops⟩ tos (k + 1) = (renS tos.length ⟨del, rules, stops⟩ tos k).set j bk) := hid_ (by
              show (renS tos.length _ tos k).set (tos.getD k 0).toNat _ = _
              rw [getD_some hx, getD_some hbk, Int.toNat_natCast])
            have HRW : Hid (r.length ≤ 200 ∧ wordB tos.length r = true) := hid_ (by rw [HN.out]; exact hrw)
            obtain ⟨⟨z1, c1⟩, f1⟩ := HM.out.spot1 hj
            obtain ⟨⟨z2, c2'⟩, f2⟩ := HM.out.spot2 hj
            obtain ⟨l1, l2, l3⟩ := HM.out.lt
            obtain ⟨n1, n2, n3, n4, n5, n6⟩ := HGE.out
            have hr1 : r.length ≤ 1000000 := by have := HRW.out.1; omega
            have t1 : 0 ≤ (j : Int) := by omega
            have t2 : (j : Int) < tos.length := by omega
            have t3 : 0 ≤ (k : Int) := by omega
            have t4 : (k : Int) < tos.length := by omega
            have hS : wr.drew.cell? ⟨w.heap.size, 1, none⟩ = some (.slice (some ⟨b2, o2, none⟩) tos.length c2) ∧ wr.drew.cell? ⟨w.heap.size, 2, none⟩ = some (.slice (some ⟨b3, o3, none⟩) tos.length c3) ∧ wr.drew.cell? ⟨gu, 1, none⟩ = some (.slice (some ⟨g1, 0, none⟩) tos.length tos.length) ∧ wr.drew.cell? ⟨gu, 2, none⟩ = some (.slice (some ⟨g2, 0, none⟩) tos.length tos.length) ∧ wr.drew.cell? ⟨b4, o4 + k, none⟩ = some (.int .i64 (j : Int)) ∧ wr.drew.cell? ⟨b2, o2 + k, none⟩ = some (.slice Ar r.length dr) ∧ wr.drew.cell? ⟨b3, o3 + k, none⟩ = some (.bool bk) ∧ Below w.heap.size w wr.drew := ⟨p1, p2, m1, m2, i4, hcr, i3, hwr.drew⟩
            have n7 : g2 ≠ g1 := fun e => n6 e.symm
            clear hx hr hbk hEr hrw hxr p0 p1 p2 m0 m1 m2 i4 hcr i3
            go_wp2_with fail
            go_region_held3 (fun w' => w'.cell? ⟨w.heap.size, 1, none⟩ = some (.slice (some ⟨b2, o2, none⟩) tos.length c2) ∧ w'.cell? ⟨w.heap.size, 2, none⟩ = some (.slice (some ⟨b3, o3, none⟩) tos.length c3) ∧ w'.cell? ⟨gu, 1, none⟩ = some (.slice (some ⟨g1, 0, none⟩) tos.length tos.length) ∧ w'.cell? ⟨gu, 2, none⟩ = some (.slice (some ⟨g2, 0, none⟩) tos.length tos.length) ∧ w'.cell? ⟨b4, o4 + k, none⟩ = some (.int .i64 (j : Int)) ∧ w'.cell? ⟨b2, o2 + k, none⟩ = some (.slice Ar r.length dr) ∧ w'.cell? ⟨b3, o3 + k, none⟩ = some (.bool bk) ∧ Below w.heap.size w w')
              (first
                | assumption
                | exact keep8 hbn hS
                | exact keep8s (by simp only; omega) (by simp only; omega) (by simp only; omega) (by simp only; omega) (by simp only; omega) (by simp only; omega) (by simp only; omega) (by simp only; omega) hS
                | exact keep8s (by simp only; omega) (by simp only; omega) (by simp only; omega) (by simp only; omega) (by simp only; omega) (by simp only; omega) (by simp only; omega) (by simp only; omega) (keep8s (by simp only; omega) (by simp only; omega) (by simp only; omega) (by simp only; omega) (by simp only; omega) (by simp only; omega) (by simp only; omega) (by simp only; omega) hS)
                | exact keep8s (by simp only; omega) (by simp only; omega) (by simp only; omega) (by simp only; omega) (by simp only; omega) (by simp only; omega) (by simp only; omega) (by simp only; omega) (keep8 hbn hS)
                | exact keep8s (by simp only; omega) (by simp only; omega) (by simp only; omega) (by simp only; omega) (by simp only; omega) (by simp only; omega) (by simp only; omega) (by simp only; omega) (keep8s (by simp only; omega) (by simp only; omega) (by simp only; omega) (by simp only; omega) (by simp only; omega) (by simp only; omega) (by simp only; omega) (by simp only; omega) (keep8 hbn hS))
                | exact keep8 hbn (keep8s (by simp only; omega) (by simp only; omega) (by simp only; omega) (by simp only; omega) (by simp only; omega) (by simp only; omega) (by simp only; omega) (by simp only; omega) hS)
                | exact keep8s (by simp only; omega) (by simp only; omega) (by simp only; omega) (by simp only; omega) (by simp only; omega) (by simp only; omega) (by simp only; omega) (by simp only; omega) (keep8 hbn (keep8s (by simp only; omega) (by simp only; omega) (by simp only; omega) (by simp only; omega) (by simp only; omega) (by simp only; omega) (by simp only; omega) (by simp only; omega) hS)))
              (first
                | (go_at_call 41; refine (named_any r tos _ _ _ (HE0.out.to (by first | exact hwr.drew | exact (And.right (And.right (And.right (And.right (And.right (And.right (And.right (by assumption)))))))))) (H4.out.to (by first | exact hwr.drew | exact (And.right (And.right (And.right (And.right (And.right (And.right (And.right (by assumption)))))))))) hr1 HRW.out.2).mono ?_; rintro e wn ⟨vn, rfl, hown, hbn⟩; have HVN := hid_ hown; obtain ⟨An, cn, rfl⟩ := own_form hown; clear hown; (first | (have HMn := hid_ (HM.out.to hbn.drewl); obtain ⟨⟨y1, k1c⟩, k1f⟩ := HMn.out.spot1 hj; obtain ⟨⟨y2, k2c⟩, k2f⟩ := HMn.out.spot2 hj) | (have HMn := hid_ ((HM.out.set2 j bk).to hbn.drewl); obtain ⟨⟨y1, k1c⟩, k1f⟩ := HMn.out.spot1 hj))))
            go_wp2_with fail
            go_roundw
            case rel =>
              refine ⟨k + 1, by go_num, by omega, hid_ ?_⟩
              rw [HS2.out]
              refine (HMn.out.set1 (f' := fun i => (renR tos.length ⟨del, rules, stops⟩ tos (k + 1)).getD i []) ?_ ?_ ?_).set2 j bk
              · simp only [HS.out]
                rw [List.getD_eq_getElem?_getD, List.getElem?_set, if_pos rfl, if_pos (by rw [renR_len]; exact hj)]
                exact own_any HVN.out
              · intro b hb
                have := own_lt HVN.out b hb
                have e : wr.drew.heap.size = wr.heap.size := rfl
                omega
              · intro i hi
                simp only [HS.out]
                rw [List.getD_eq_getElem?_getD, List.getD_eq_getElem?_getD, List.getElem?_set_ne (fun e => hi e.symm)]
            case measure => simp [intOf]; omega
          · have hk2 : k = tos.length := by omega
            have HREN : Hid (Ren ⟨del, rules, stops⟩ ⟨del, renR tos.length ⟨del, rules, stops⟩ tos tos.length, renS tos.length ⟨del, rules, stops⟩ tos tos.length⟩ tos) := hid_ (ren_mk HDF.out HN.out HR3.out)
            have HMF : Hid (MadeAt W del tos.length gu g1 g2 (fun i => (renR tos.length ⟨del, rules, stops⟩ tos tos.length).getD i []) (renS tos.length ⟨del, rules, stops⟩ tos tos.length) wr) := hid_ (by have := HM.out; rw [hk2] at this; exact this)
            have HU : Hid (TagIn wr wr.heap.size (.slice (some ⟨g1, 0, none⟩) tos.length tos.length) (.slice (some ⟨g2, 0, none⟩) tos.length tos.length) ⟨del, renR tos.length ⟨del, rules, stops⟩ tos tos.length, renS tos.length ⟨del, rules, stops⟩ tos tos.length⟩) := hid_ (HMF.out.tag (fun i => rfl) (renR_len _) (by omega) (fun r hr => by
              rcases HREN.out.all r hr with rfl | ⟨r', hr', rfl⟩
              · simp
              · rw [nameL_len]
                exact HT.out.lim.2.2 r' hr'))
            clear hk2 HMA HLT HGE HWX HM HMF HC3 HC4 HDF
            have HNR : Hid (runTS ⟨del, renR tos.length ⟨del, rules, stops⟩ tos tos.length, renS tos.length ⟨del, rules, stops⟩ tos tos.length⟩ (nameL tos q) n = ⟨nameL tos (runTS ⟨del, rules, stops⟩ q n).q, (runTS ⟨del, rules, stops⟩ q n).k, (runTS ⟨del, rules, stops⟩ q n).err⟩) := hid_ (names_run HREN.out HF.out n (by omega) (by omega))
            have HRF : Hid (fitsT ⟨del, rules, stops⟩ (runTS ⟨del, rules, stops⟩ q n).q = true) := hid_ (runTS_fits HF.out (by omega) (by omega))
            have HWQ : Hid (wordB tos.length q = true) := hid_ (by rw [HN.out]; exact (fitsT_parts HF.out).2.2)
            have hn0 : 0 ≤ (n : Int) := by omega
            have hn1 : (n : Int) ≤ 255 := by omega
            generalize renR tos.length ⟨del, rules, stops⟩ tos tos.length = RU at HREN HU HNR
            generalize renS tos.length ⟨del, rules, stops⟩ tos tos.length = SU at HREN HU HNR
            obtain ⟨R, hR⟩ : ∃ R, R = runTS ⟨del, rules, stops⟩ q n := ⟨_, rfl⟩
            rw [← hR] at HNR HRF
            have HR := hid_ hR
            have HRW : Hid (wordB tos.length R.q = true) := hid_ (by rw [HN.out]; exact (fitsT_parts HRF.out).2.2)
            have hrl : R.q.length ≤ 1000000 := by have := (fitsT_parts HRF.out).2.1; omega
            clear hR HREN
            go_wp2_with fail
            refine (run_any ⟨del, rules, stops⟩ q n _ _ v wr (HT.out.to hwr) (HQ.out.to hwr) hl2).mono ?_
            rw [← HR.out]
            rintro e wa ⟨va, rfl, hEa, hba⟩
            obtain ⟨Aa, ca, rfl⟩ := hEa.form
            rw [ints_len] at hEa ⊢
            have HEa := hid_ hEa
            have hwa := bnext hwr hba
            replace p0 := keepc hba p0
            replace p1 := keepc hba p1
            replace p2 := keepc hba p2
            replace m0 := keepc hba m0
            replace m1 := keepc hba m1
            replace m2 := keepc hba m2
            have HUa := hid_ (HU.out.to hba)
            clear hEa
            go_wp2_with fail
            have hwn : IntKind.i64.wrap (n : Int) = (n : Int) := IntWalk.i64_in _ (by omega)
            go_region_held3 (fun w' => w'.cell? ⟨gu, 0, none⟩ = some (.int .i64 del) ∧ w'.cell? ⟨gu, 1, none⟩ = some (.slice (some ⟨g1, 0, none⟩) tos.length tos.length) ∧ w'.cell? ⟨gu, 2, none⟩ = some (.slice (some ⟨g2, 0, none⟩) tos.length tos.length))
              (first | assumption | exact ⟨m0, m1, m2⟩ | exact keep3 hbn ⟨m0, m1, m2⟩ | exact keep3 hbu (keep3 hbn ⟨m0, m1, m2⟩))
              (first
                | (go_at_call 41; refine (named_any q tos _ _ wa.drew (HQ.out.to hwa.drew) (H4.out.to hwa.drew) hl2 HWQ.out).mono ?_; rintro e wn ⟨vn, rfl, hown, hbn⟩; have HVN := hid_ (own_any hown); clear hown)
                | (go_at_call 17; refine (run_any ⟨del, RU, SU⟩ (nameL tos q) n _ _ vn wn (HUa.out.to hbn.drewl) HVN.out (by rw [nameL_len]; exact hl2)).mono ?_; rw [HNR.out]; rintro e wu ⟨vu, rfl, hEu, hbu⟩; obtain ⟨Au, cu, rfl⟩ := hEu.form; have HEu := hid_ hEu; clear hEu))
            clear hwn
            rw [ints_len, nameL_len] at HEu
            have hwu : Below w.heap.size w wu := bnext (bnext hwa hbn.drewl) hbu
            replace p0 := keepc hbu (keepc (w := wa.drew) hbn p0)
            replace p1 := keepc hbu (keepc (w := wa.drew) hbn p1)
            replace p2 := keepc hbu (keepc (w := wa.drew) hbn p2)
            have HEa2 := hid_ ((HEa.out.to hbn.drewl).to hbu)
            have e1 : (R.err == R.err) = true := by simp
            have e2 : (R.k == R.k) = true := by simp
            clear m0 m1 m2
            rw [ints_len, nameL_len]
            go_wp2_with fail
            refine (rfits_any ⟨del, rules, stops⟩ R.q _ _ _ wu (HT.out.to hwu) HEa2.out hrl).mono ?_
            rw [HRF.out]
            rintro e wf ⟨rfl, hbf⟩
            have HEa3 := hid_ (HEa2.out.to hbf)
            have HEu3 := hid_ (HEu.out.to hbf)
            have hwf := bnext hwu hbf
            go_wp2_with fail
            refine (named_any R.q tos _ _ wf HEa3.out (H4.out.to hwf) hrl HRW.out).mono ?_
            rintro e wg ⟨vg, rfl, howng, hbg⟩
            have HVG := hid_ (own_any howng)
            clear howng
            have HEu4 := hid_ (HEu3.out.to hbg)
            have hwg := bnext hwf hbg
            go_wp2_with fail
            refine (same_any (nameL tos R.q) (nameL tos R.q) _ _ wg HVG.out HEu4.out (by rw [nameL_len]; exact hrl)).mono ?_
            rw [decide_eq_true (rfl : nameL tos R.q = nameL tos R.q)]
            rintro e wh ⟨rfl, nh, rfl⟩
            go_wp2_with fail
            refine (awake_any _).mono ?_
            rintro e wz ⟨rfl, hbz⟩
            go_wp2_with fail
            go_ret
            exact ⟨rfl, bnext (bnext hwg (below_drewN (Below.refl wg.heap.size wg) nh)) hbz⟩
end Go.Proofs.Ytpnjffdjoacejaa

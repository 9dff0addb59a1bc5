/- The law CounterNames. -/
import Derived.Test.YtgpcgjdnehlaeaaAl
import Derived.Test.YtgpcgjdnehlaeaaAd
namespace Go.Proofs.Ytgpcgjdnehlaeaa
open Go.RowKit

set_option maxRecDepth 1000000 in
set_option maxHeartbeats 4000000 in
theorem own_keep {w w' : World} {B base e size g n c m : Nat} {xs : List Value} (h : w.ownsRow base e size (.slice (some ⟨g, 0, none⟩) n c) m xs) (hb : Below B w w') (hg : g < B) : w'.ownsRow base e size (.slice (some ⟨g, 0, none⟩) n c) m xs := by
  rcases h.2 with ⟨hv, _⟩ | ⟨g', cap, cur, hv, hg', hh, r⟩
  · cases hv
  · have : g = g' := by simp at hv; omega
    subst this
    exact ⟨h.1, .inr ⟨g, cap, cur, hv, hg', (hb.block g hg).trans hh, r⟩⟩
theorem ints_set {xs : List Int} {k : Nat} {x : Int} : (ints xs).set k (.int .i64 x) = ints (xs.set k x) := by
  simp [ints]
set_option maxRecDepth 1000000 in
set_option maxHeartbeats 4000000 in
theorem names_main (at_ ex x : Int) (A A' A2 : Option Addr) (n c m d d2 : Nat) (code : List Ins) (rs tos : List Int) (w : World) (hc : CodeAt w w.heap.size A n code) (hr : IntsAt w w.heap.size A' m rs) (ht : IntsAt w w.heap.size A2 m tos) (h : ¬ (4000 < n ∨ 100 < m)) (hf : fitsB m code at_ rs = true)
    (hm : m < 16) (h2 : 0 ≤ ex) (h3 : ex ≤ 1152921504606846976) (h4 : x ≤ 2000) (h5 : 0 ≤ x) :
    Calls Try.prog 7 #[.agg #[.int .i64 m, .slice A n c], .agg #[.int .i64 at_, .slice A' m d], .slice A2 m d2, .int .i64 ex, .int .u16 x] w fun e w' => e = .returned (.bool true) ∧ Below w.heap.size w w' := by
  have hwd : decide (4000 < n ∨ 100 < m) = false := decide_eq_false h
  clear h
  obtain ⟨hv, hg, _, _⟩ := fitsB_good hf
  obtain ⟨r1, r2, r3, r4⟩ := vCode_reg hv
  have hn : n ≤ 2000 := by have := hc.len; omega
  have hn0 : 0 < n := by have := hc.len; omega
  have hm1 : 0 < m := by omega
  simp only [Int.toNat_natCast] at hg
  have HC := hid_ hc; clear hc
  have HR := hid_ hr; clear hr
  have HT := hid_ ht; clear ht
  have HF := hid_ hf; clear hf
  have HV := hid_ hv; clear hv
  have HG := hid_ hg; clear hg
  obtain ⟨bt, ot, rfl, hbt, hit⟩ := HT.out.at_ hm1
  have HIT := hid_ hit; clear hit
  obtain ⟨bq, oq, rfl, hbq, hiq⟩ := HR.out.at_ hm1
  have HIQ := hid_ hiq; clear hiq
  clear r1 r2 r3 r4
  obtain ⟨z0, hz0, hz1, hz2', hz3⟩ := info_parts Try.info3
  obtain ⟨i0, hi0, hi1, hi2, hi3⟩ := info_parts Try.info4
  obtain ⟨y0, hy0, hy1, hy2, hy3⟩ := info_parts Try.info50
  obtain ⟨bc, oc, rfl, hbc, hic⟩ := HC.out.at_ hn0
  have HIC := hid_ hic; clear hic
  have e17 : m + 1 ≤ 16 := by omega
  have e16 : ¬ (16 : Int) ≤ m := by omega
  go_enter Try.func7, Try.ntmps7
  go_wp2_with fail
  refine (wide_any m at_ _ _ n c m d _).mono ?_
  rw [hwd]
  clear hwd
  rintro e w1 ⟨rfl, hb1⟩
  obtain ⟨p0, p1, c0, c1, hz, hw1⟩ := boxes2 hb1
  clear hb1
  go_wp2_with fail
  refine (rfits_any m at_ _ _ n c m d code rs _ (HC.out.to hw1) (HR.out.to hw1)).mono ?_
  rw [HF.out]
  rintro e w2 ⟨rfl, hb2⟩
  replace p0 := keepc hb2 p0
  replace p1 := keepc hb2 p1
  replace c0 := keepc hb2 c0
  replace c1 := keepc hb2 c1
  have hw2 := bnext hw1 hb2
  have hz2 : w.heap.size + 1 < w2.heap.size := by have := hb2.size; omega
  have hz20 : w.heap.size < w2.heap.size := by omega
  go_wp2_with (at_make; (first | (refine wpList_make_full _ rfl _ _ 25 rfl w2.heap.size 3 z0 (.int .i64 0) 1 Try.underlying25 hz0 hz1 hz2' .i64 .i64 (m + 1) (m + 1) (m + 1) rfl rfl rfl rfl (by rw [hz3]; omega) (by unfold maxLen; omega) (Nat.le_refl _) ?_; intro w3 hown hgr; (rw [put_zero m tos rs] at hown); (have hw3 : Below w2.heap.size w2 w3 := ⟨hgr.os, hgr.tape, hgr.output, hgr.size, fun k hk => hgr.block k hk (by simp)⟩); (have hg13 : w2.heap.size < w3.heap.size := (hown.lt _ rfl).2); (have HOWN := hid_ hown); (clear hown hgr); (replace p0 := keepc hw3 p0); (replace p1 := keepc hw3 p1); (replace c0 := keepc hw3 c0); (replace c1 := keepc hw3 c1); (have hz3' : w.heap.size < w3.heap.size := by omega)) | (refine wpList_make_full _ rfl _ _ 52 rfl w3.heap.size 4 i0 (.bool false) 1 Try.underlying52 hi0 hi1 hi2 .i64 .i64 (m + 1) (m + 1) (m + 1) rfl rfl rfl rfl (by rw [hi3]; omega) (by unfold maxLen; omega) (Nat.le_refl _) ?_; intro w4 hownm hgr)))
  rw [show (madeCells (Value.bool false).cells ((m + 1) * 1)).toList = tab (m + 1) tos 0 from by rw [tab_zero, Nat.mul_one]; exact toList_madeCells_one _ _] at hownm
  have hw4 : Below w3.heap.size w3 w4 := ⟨hgr.os, hgr.tape, hgr.output, hgr.size, fun k hk => hgr.block k hk (by simp)⟩
  have hg24 : w3.heap.size < w4.heap.size := (hownm.lt _ rfl).2
  have HOWN2 := hid_ (own_below HOWN.out hw4 (by omega))
  have HOWNM := hid_ hownm
  clear hownm hgr HOWN
  have hw24 := bnext hw3 hw4
  go_loopw [13] (fun s wr => ∃ k : Nat, s = .int .i64 ((k : Nat) : Int) ∧ k ≤ m ∧ Hid (Named m tos k) ∧ Hid (wr.ownsRow w2.heap.size 3 1 (.slice (some ⟨w2.heap.size, 0, none⟩) (m + 1) (m + 1)) (m + 1) (ints (putL m tos rs k))) ∧ Hid (wr.ownsRow w3.heap.size 4 1 (.slice (some ⟨w3.heap.size, 0, none⟩) (m + 1) (m + 1)) (m + 1) (tab (m + 1) tos k)) ∧ Below w2.heap.size w4 wr)
    (fun s _ => m - (intOf s).toNat)
  case atStart => exact ⟨0, rfl, Nat.zero_le _, hid_ (named_zero _ _), HOWN2, HOWNM, Below.refl _ _⟩
  case round =>
    obtain ⟨k, rfl, hk, HN, HO, HM, hbr⟩ := hrel
    replace p0 := keepc' hbr (keepc hw4 p0) hz20
    replace p1 := keepc' hbr (keepc hw4 p1) hz20
    replace c0 := keepc' hbr (keepc hw4 c0) hz2
    replace c1 := keepc' hbr (keepc hw4 c1) hz2
    have hwr : Below w.heap.size w wr := (bnext hw2 hw24).trans (hbr.mono (by omega))
    have z1 : w.heap.size + 1 < wr.heap.size := by have := hbr.size; omega
    have z2 : w.heap.size < wr.heap.size := by omega
    by_cases hlt : k < m
    · obtain ⟨y, hy⟩ : ∃ y, tos[k]? = some y := ⟨_, List.getElem?_eq_getElem (by rw [HT.out.len]; exact hlt)⟩
      have i1 := (HIT.out.below hwr hbt) k y hy
      have hyD : tos.getD k 0 = y := by rw [List.getD_eq_getElem?_getD, hy]; rfl
      have HY := hid_ hyD
      have HYk := hid_ hy
      clear hyD hy
      have t0 : 0 ≤ ((k : Nat) : Int) := by omega
      by_cases hy0 : y < 0
      · have hd0 : decide (y < 0) = true := decide_eq_true hy0
        go_wp2_with fail
        go_quiet (fail)
        go_wp2_with fail
        refine (awake_any _).mono ?_
        rintro e wz ⟨rfl, hbz⟩
        go_wp2_with fail
        go_ret
        exact ⟨rfl, bnext (show Below w.heap.size w (wr.drewN _) from below_drewN hwr _) hbz⟩
      · have hd0 : decide (y < 0) = false := decide_eq_false hy0
        by_cases hym : (m : Int) < y
        · have hd1 : decide ((m : Int) < y) = true := decide_eq_true hym
          go_wp2_with fail
          go_quiet (fail)
          go_wp2_with fail
          refine (awake_any _).mono ?_
          rintro e wz ⟨rfl, hbz⟩
          go_wp2_with fail
          go_ret
          exact ⟨rfl, bnext (show Below w.heap.size w (wr.drewN _) from below_drewN hwr _) hbz⟩
        · have hd1 : decide ((m : Int) < y) = false := decide_eq_false hym
          obtain ⟨j, rfl⟩ := Int.eq_ofNat_of_zero_le (show 0 ≤ y by omega)
          have hj : j < m + 1 := by omega
          have hd2 : decide (m < j) = false := decide_eq_false (by omega)
          have hd3 : ¬ m < j := by omega
          clear hd1 hd0
          have t1 : 0 ≤ ((j : Nat) : Int) := by omega
          have t2 : ((j : Nat) : Int) < (m : Int) + 1 := by omega
          have t3 : ((j : Nat) : Int) < ((m + 1 : Nat) : Int) := by omega
          have cm : wr.cell? ⟨w3.heap.size, j, none⟩ = some (.bool (memB (j : Int) (tos.take k))) := by
            rw [HM.out.cellAt j (by omega), tab_get hj]
          have fm := HM.out.frozenAt j
          cases hmem : memB (j : Int) (tos.take k)
          · rw [hmem] at cm
            obtain ⟨x1, hx1⟩ : ∃ x, rs[k]? = some x := ⟨_, List.getElem?_eq_getElem (by rw [HR.out.len]; exact hlt)⟩
            have i2 := (HIQ.out.below hwr hbq) k x1 hx1
            have hxD : rs.getD k 0 = x1 := by rw [List.getD_eq_getElem?_getD, hx1]; rfl
            have HX := hid_ hxD
            clear hxD hx1
            obtain ⟨y2, hy2⟩ : ∃ y, (putL m tos rs k)[j]? = some y := ⟨_, List.getElem?_eq_getElem (by rw [putL_len]; exact hj)⟩
            have cj : wr.cell? ⟨w2.heap.size, j, none⟩ = some (.int .i64 y2) := by
              rw [HO.out.cellAt j (by omega)]
              simp [ints, hy2]
            have fj := HO.out.frozenAt j
            have HMEM := hid_ hmem
            clear hmem hy2
            go_wp2_with fail
            go_quiet (fail)
            go_wp2_with fail
            obtain ⟨ws, hws⟩ : ∃ ws, ws = (wr.drewN nq).setCell ⟨w3.heap.size, j, none⟩ (.bool true) := ⟨_, rfl⟩
            rw [← hws]
            have hbs : Below w2.heap.size w4 ws := by rw [hws]; exact (below_drewN hbr nq).setCell (by simp; omega) _
            have HOs : Hid (ws.ownsRow w2.heap.size 3 1 (.slice (some ⟨w2.heap.size, 0, none⟩) (m + 1) (m + 1)) (m + 1) (ints (putL m tos rs k))) := by
              rw [hws]; exact hid_ (ownsRow_setCell_other (w := wr.drewN nq) HO.out (by simp [Value.ownBlock]; omega) _)
            have HMs : Hid (ws.ownsRow w3.heap.size 4 1 (.slice (some ⟨w3.heap.size, 0, none⟩) (m + 1) (m + 1)) (m + 1) ((tab (m + 1) tos k).set j (.bool true))) := by
              rw [hws]; exact hid_ (World.ownsRow.stored (w := wr.drewN nq) HM.out j (.bool true)).1
            have far : ∀ b o, b ≠ w3.heap.size → ws.cell? ⟨b, o, none⟩ = wr.cell? ⟨b, o, none⟩ := fun b o hb => by
              rw [hws]; exact World.cell?_of_block (Below.heap_setCell _ _ _ _ hb)
            have hbtn : bt ≠ w3.heap.size := by omega
            have hbqn : bq ≠ w3.heap.size := by omega
            rw [← far _ _ (by omega)] at p0 p1 c0 c1 i1 i2 cj
            have fj' := HOs.out.frozenAt j
            have hsz : w.heap.size < ws.heap.size := by have := hbs.size; omega
            have hsz1 : w.heap.size + 1 < ws.heap.size := by have := hbs.size; omega
            clear far hws cm fm fj
            go_region
            all_goals go_wp2_with fail
            all_goals go_roundw
            case rel =>
              refine ⟨k + 1, by go_num, by omega, hid_ (named_step HN.out (by rw [HT.out.len]; exact hlt) (by rw [HY.out]; exact t1) (by rw [HY.out]; omega) (by rw [HY.out]; exact HMEM.out)), hid_ (own_drew ?_), hid_ (own_drew ?_), (hbs.setCell (Nat.le_refl _) _).drew⟩
              · rw [putL, HY.out, HX.out, Int.toNat_natCast, ← ints_set]
                exact (HOs.out.stored j (.int .i64 x1)).1
              · rw [← tab_step HYk.out]
                exact ownsRow_setCell_other HMs.out (by simp [Value.ownBlock]; omega) _
            case measure => simp [intOf]; omega
          · rw [hmem] at cm
            go_wp2_with fail
            go_quiet (fail)
            go_wp2_with fail
            refine (awake_any _).mono ?_
            rintro e wz ⟨rfl, hbz⟩
            go_wp2_with fail
            go_ret
            exact ⟨rfl, bnext (show Below w.heap.size w (wr.drewN _) from below_drewN hwr _) hbz⟩
    · have hkm : k = m := by omega
      subst hkm
      have htk : tos.take k = tos := List.take_of_length_le (by rw [HT.out.len]; exact Nat.le_refl _)
      obtain ⟨f0, hf0, hm0⟩ := free_ex HT.out.len
      have HM0 := hid_ hm0
      have HTK := hid_ htk
      clear hm0 htk
      go_wp2_with fail
      go_loopw [14] (fun s wr' => ∃ f : Nat, s = .int .i64 ((f : Nat) : Int) ∧ f ≤ f0 ∧ wr' = wr) (fun s _ => f0 - (intOf s).toNat)
      case atStart => exact ⟨0, rfl, Nat.zero_le _, rfl⟩
      case round =>
        obtain ⟨f, rfl, hf, rfl⟩ := hrel
        have t1 : 0 ≤ ((f : Nat) : Int) := by omega
        have t2 : ((f : Nat) : Int) < (k : Int) + 1 := by omega
        cases hmf : memB (f : Int) tos
        · have cm : wr.cell? ⟨w3.heap.size, f, none⟩ = some (.bool false) := by
            rw [HM.out.cellAt f (by omega), tab_get (by omega), HTK.out, hmf]
          have HMF := hid_ hmf
          clear hmf
          obtain ⟨y2, hy2⟩ : ∃ y, (putL k tos rs k)[f]? = some y := ⟨_, List.getElem?_eq_getElem (by rw [putL_len]; omega)⟩
          have cj : wr.cell? ⟨w2.heap.size, f, none⟩ = some (.int .i64 y2) := by
            rw [HO.out.cellAt f (by omega)]
            simp [ints, hy2]
          have fj := HO.out.frozenAt f
          clear hy2
          go_wp2_with fail
          obtain ⟨wq, hwq⟩ : ∃ wq, wq = (wr.setCell ⟨w2.heap.size, f, none⟩ (.int .i64 ex)).alloc (.cells #[.int .i64 ((k : Int) + 1), .slice none 0 0] 24) := ⟨_, rfl⟩
          rw [← hwq]
          have hb0 : Below w2.heap.size w4 (wr.setCell ⟨w2.heap.size, f, none⟩ (.int .i64 ex)) := hbr.setCell (Nat.le_refl _) _
          have hszs : (wr.setCell ⟨w2.heap.size, f, none⟩ (.int .i64 ex)).heap.size = wr.heap.size := by simp [World.setCell]
          have hz4 : w4.heap.size ≤ wr.heap.size := hbr.size
          have hbs : Below w2.heap.size w4 wq := by rw [hwq]; exact hb0.alloc (by rw [hszs]; omega) _
          have HOs : Hid (wq.ownsRow w2.heap.size 3 1 (.slice (some ⟨w2.heap.size, 0, none⟩) (k + 1) (k + 1)) (k + 1) (ints ((putL k tos rs k).set f ex))) := by
            rw [hwq, ← ints_set]; exact hid_ ((HO.out.stored f (.int .i64 ex)).1.alloc _)
          have BQ : Blk wq wr.heap.size 24 #[.int .i64 ((k : Int) + 1), .slice none 0 0] := by
            have := Blk.new (wr.setCell ⟨w2.heap.size, f, none⟩ (.int .i64 ex)) 24 #[.int .i64 ((k : Int) + 1), .slice none 0 0]
            rw [hszs] at this
            rw [hwq]; exact this
          have hszq : wr.heap.size < wq.heap.size := BQ.lt
          have far : ∀ b o, b < w2.heap.size → wq.cell? ⟨b, o, none⟩ = wr.cell? ⟨b, o, none⟩ := fun b o hb => by
            refine World.cell?_of_block ?_
            rw [hwq]
            exact (Below.heap_alloc _ _ b (by rw [hszs]; omega)).trans (Below.heap_setCell _ _ _ _ (by show b ≠ w2.heap.size; omega))
          rw [← far _ _ (by omega)] at p0 p1 c0 c1
          have HOK := hid_ (names_ok HT.out.len HN.out (by omega : f ≤ k) HMF.out)
          have hwq' : Below w.heap.size w wq := (bnext hw2 hw24).trans (hbs.mono (by omega))
          clear far hwq hb0 hszs cm cj fj HN HM HO HMF HM0 HTK t1 t2 hf hf0 hbr hwr z1 z2
          obtain ⟨wo, rfl⟩ : ∃ wo : World, wo = wr := ⟨_, rfl⟩
          go_loopw [16] (fun s wr => ∃ (i : Nat) (Aq : Option Addr) (cap : Nat), s = .int .i64 ((i : Nat) : Int) ∧ i ≤ n ∧ Blk wr wo.heap.size 24 #[.int .i64 ((k : Int) + 1), .slice Aq i cap] ∧ Hid (wr.ownsRow (wo.heap.size + 1) 50 4 (.slice Aq i cap) i (flat ((code.take i).map (renI tos)))) ∧ Below wo.heap.size wq wr)
            (fun s _ => n - (intOf s).toNat)
          case atStart => exact ⟨0, none, 0, rfl, Nat.zero_le _, BQ, hid_ ⟨rfl, .inl ⟨rfl, rfl⟩⟩, Below.refl _ _⟩
          case round =>
            obtain ⟨i, Aq, cap, rfl, hi, hB, HX, hbx⟩ := hrel
            replace p0 := keepc' hbx p0 (by show w.heap.size < wo.heap.size; omega)
            replace p1 := keepc' hbx p1 (by show w.heap.size < wo.heap.size; omega)
            replace c0 := keepc' hbx c0 (by show w.heap.size + 1 < wo.heap.size; omega)
            replace c1 := keepc' hbx c1 (by show w.heap.size + 1 < wo.heap.size; omega)
            have hwr : Below w.heap.size w wr := hwq'.trans (hbx.mono (by omega))
            have b0 := hB.cell 0
            have b1 := hB.cell 1
            have bf1 := hB.free 1
            simp at b0 b1
            have zx := hB.lt
            have zx0 : w.heap.size < wr.heap.size := by omega
            have zx1 : w.heap.size + 1 < wr.heap.size := by omega
            by_cases hlt : i < n
            · obtain ⟨I, hI⟩ : ∃ I, code[i]? = some I := ⟨_, List.getElem?_eq_getElem (by rw [HC.out.len]; exact hlt)⟩
              obtain ⟨i0, i1, i2, i3⟩ := (HIC.out.below hwr hbc) i I hI
              have hvi := vCode_ins HV.out hI
              have hop := vIns_op hvi
              have HVI := hid_ hvi
              have HI := hid_ hI
              clear hI hvi
              obtain ⟨op, rg, nx, zr⟩ := I
              simp only at i0 i1 i2 i3 hop
              by_cases ho : op = 2
              · subst ho
                clear hop
                go_wp2_with (at_builtin; refine wpList_append_lies _ rfl _ _ _ rfl (wo.heap.size + 1) 50 y0 (.agg #[.int .i64 0, .int .i64 0, .int .i64 0, .int .i64 0]) 4 32 Try.underlying22 hy0 hy1 hy2 hy3 rfl (by omega) (.slice Aq i cap) i _ rfl ((HX.out.alloc (.cells #[.int .i64 2, .int .i64 rg, .int .i64 nx, .int .i64 zr] 50)).alloc (.cells #[.int .i64 2, .int .i64 rg, .int .i64 nx, .int .i64 zr] 50)) ⟨wr.heap.size + 1, 0, none⟩ 1 1 [.int .i64 2, .int .i64 rg, .int .i64 nx, .int .i64 zr] rfl rfl (news4 _ _ _ _ _ _ _) (ints4 _ _ _ _) (by omega) (by unfold maxLen; omega) (by omega) (by simp; omega) (wr.heap.size + 1 + 1) (by simp) ?_; intro g' cap' w' hown' hgrow hat hlt'; have BX := ((hB.alloc (.cells #[.int .i64 2, .int .i64 rg, .int .i64 nx, .int .i64 zr] 50)).alloc (.cells #[.int .i64 2, .int .i64 rg, .int .i64 nx, .int .i64 zr] 50)).grownby hgrow (own_ne HX.out (by omega)); have r1 := BX.cell 1; have f1 := BX.free 1; simp at r1)
                go_roundw
                case rel =>
                  obtain ⟨n1', n2', n3'⟩ := out_next BX hown' (((hbx.alloc (by omega) (.cells #[.int .i64 2, .int .i64 rg, .int .i64 nx, .int .i64 zr] 50)).alloc (by simp; omega) (.cells #[.int .i64 2, .int .i64 rg, .int .i64 nx, .int .i64 zr] 50)).grown hgrow (by simp; omega) (fun k hk => by have := own_lt HX.out k hk; omega))
                  exact ⟨i + 1, _, _, by go_num, by omega, n1', hid_ (by rw [flat_step HI.out]; simpa [renI, Ins.cells] using n2'), n3'⟩
                case measure => simp [intOf]; omega
              · have hb : 0 ≤ rg ∧ rg < (k : Int) := by
                  rcases hop with rfl | rfl | rfl
                  · have := vIns_inc HVI.out rfl; exact ⟨this.1, this.2.1⟩
                  · have := vIns_dec HVI.out rfl; exact ⟨this.1, this.2.1⟩
                  · exact absurd rfl ho
                clear hop
                obtain ⟨j, rfl⟩ := Int.eq_ofNat_of_zero_le hb.1
                have hjk : j < k := by omega
                obtain ⟨y, hy⟩ : ∃ y, tos[j]? = some y := ⟨_, List.getElem?_eq_getElem (by rw [HT.out.len]; exact hjk)⟩
                have it := (HIT.out.below hwr hbt) j y hy
                have hyD : tos.getD j 0 = y := by rw [List.getD_eq_getElem?_getD, hy]; rfl
                have HY := hid_ hyD
                have HNE := hid_ ho
                have hob : (op != 2) = true := by simpa using ho
                have hbtr : bt < wr.heap.size := by omega
                clear hyD hy hb
                go_wp2_with (at_builtin; refine wpList_append_lies _ rfl _ _ _ rfl (wo.heap.size + 1) 50 y0 (.agg #[.int .i64 0, .int .i64 0, .int .i64 0, .int .i64 0]) 4 32 Try.underlying22 hy0 hy1 hy2 hy3 rfl (by omega) (.slice Aq i cap) i _ rfl ((HX.out.alloc (.cells #[.int .i64 op, .int .i64 y, .int .i64 nx, .int .i64 zr] 50)).alloc (.cells #[.int .i64 op, .int .i64 y, .int .i64 nx, .int .i64 zr] 50)) ⟨wr.heap.size + 1, 0, none⟩ 1 1 [.int .i64 op, .int .i64 y, .int .i64 nx, .int .i64 zr] rfl rfl (news4 _ _ _ _ _ _ _) (ints4 _ _ _ _) (by omega) (by unfold maxLen; omega) (by omega) (by simp; omega) (wr.heap.size + 1 + 1) (by simp) ?_; intro g' cap' w' hown' hgrow hat hlt'; have BX := ((hB.alloc (.cells #[.int .i64 op, .int .i64 y, .int .i64 nx, .int .i64 zr] 50)).alloc (.cells #[.int .i64 op, .int .i64 y, .int .i64 nx, .int .i64 zr] 50)).grownby hgrow (own_ne HX.out (by omega)); have r1 := BX.cell 1; have f1 := BX.free 1; simp at r1)
                go_roundw
                case rel =>
                  obtain ⟨n1', n2', n3'⟩ := out_next BX hown' (((hbx.alloc (by omega) (.cells #[.int .i64 op, .int .i64 y, .int .i64 nx, .int .i64 zr] 50)).alloc (by simp; omega) (.cells #[.int .i64 op, .int .i64 y, .int .i64 nx, .int .i64 zr] 50)).grown hgrow (by simp; omega) (fun k hk => by have := own_lt HX.out k hk; omega))
                  exact ⟨i + 1, _, _, by go_num, by omega, n1', hid_ (by rw [flat_step HI.out]; simpa [renI, HNE.out, Ins.cells, show tos[j]?.getD 0 = y by rw [← List.getD_eq_getElem?_getD]; exact HY.out] using n2'), n3'⟩
                case measure => simp [intOf]; omega
            · have hin : i = n := by omega
              subst hin
              go_wp2_with fail
              obtain ⟨wp, rfl⟩ : ∃ wp : World, wp = wr := ⟨_, rfl⟩
              have hok := putL_ok (R := k) (tos := tos) HG.out.ok k
              have hok' : ∀ x ∈ (putL k tos rs k).set f ex, 0 ≤ x ∧ x ≤ 1152921504606846976 := fun x hx => by
                rcases mem_set hx with rfl | hx
                · exact ⟨h2, h3⟩
                · exact hok x hx
              have hren := put_ren HOK.out HG.out.len ex
              have HRUN := hid_ (names_run (n := x) HOK.out hm HF.out hren hok' h5 h4)
              clear hok hok' hren
              have hct : (code.take i) = code := List.take_of_length_le (by rw [HC.out.len]; exact Nat.le_refl _)
              rw [hct] at HX
              obtain ⟨gq, cq, hv, _, _⟩ := HX.out.form hn0
              simp only [Value.slice.injEq, true_and] at hv
              obtain ⟨rfl, rfl⟩ := hv
              have HRC := hid_ (row_code HX.out)
              have HRI := hid_ (row_ints (own_keep HOs.out hbx (by omega)))
              clear hct
              cases hrs : runS k code at_ rs x with | mk a0 l0 k0 e0
              cases hrs' : runS ((k : Int) + 1) (code.map (renI tos)) at_ ((putL k tos rs k).set f ex) x with | mk a1 l1 k1 e1
              rw [hrs, hrs'] at HRUN
              have HS := hid_ hrs
              have HS' := hid_ hrs'
              clear hrs hrs'
              refine (run_any k at_ x _ _ i c k d code rs wp (HC.out.to hwr) (HR.out.to hwr)).mono ?_
              rw [HS.out]
              rintro e w5 ⟨A3, n3, d3, rfl, hi3, _, hb5⟩
              replace p0 := keepc hb5 p0
              replace c0 := keepc hb5 c0
              replace b0 := keepc hb5 b0
              replace b1 := keepc hb5 b1
              have HI3 := hid_ hi3
              clear hi3
              have hw5 := bnext hwr hb5
              have zw5 : wo.heap.size < w5.heap.size := by have := hb5.size; omega
              have zw51 : w.heap.size + 1 < w5.heap.size := by omega
              have zw50 : w.heap.size < w5.heap.size := by omega
              replace HRC := hid_ (HRC.out.to hb5)
              replace HRI := hid_ (HRI.out.to hb5)
              go_wp2_with fail
              refine (run_any ((k : Int) + 1) at_ x _ _ i cap (k + 1) (k + 1) (code.map (renI tos)) _ _ (HRC.out.to ((Below.refl _ w5).alloc (Nat.le_refl _) _)) (HRI.out.to ((Below.refl _ w5).alloc (Nat.le_refl _) _))).mono ?_
              rw [HS'.out]
              rintro e w6 ⟨A4, n4, d4, rfl, hi4, _, hb6⟩
              replace p0 := keepc hb6 (keepa _ p0)
              have HI4 := hid_ hi4
              clear hi4
              obtain ⟨u0, u1, hz6, hb6'⟩ := box_keep hb6
              replace HI3 := hid_ (HI3.out.to hb6')
              have hw6 := bnext hw5 hb6'
              have zw6 : w5.heap.size < w6.heap.size := hz6
              have zw60 : w.heap.size < w6.heap.size := by omega
              clear hb6 c0 c1 p1 b0 b1
              rcases HRUN.out with ⟨he, l2, hr2, hren⟩ | ⟨he, he'⟩
              · replace he : e0 = 0 := he
                replace hr2 : (⟨a1, l1, k1, e1⟩ : Res) = ⟨a0, l2, k0, 0⟩ := hr2
                replace hren : Ren k tos f ex l0 l2 := hren
                obtain ⟨rfl, rfl, rfl, rfl⟩ := (Res.mk.injEq .. ▸ hr2)
                subst he
                have e3 : k = n3 := by rw [← HI3.out.len, hren.len]
                have e4 : k + 1 = n4 := by rw [← HI4.out.len, hren.len']
                subst e3 e4
                obtain ⟨b3, o3, rfl, hb3, hin3⟩ := HI3.out.at_ hm1
                obtain ⟨b4, o4, rfl, hb4, hin4⟩ := HI4.out.at_ (Nat.succ_pos k)
                have HREN := hid_ hren
                have HIN3 := hid_ hin3
                have HIN4 := hid_ hin4
                have lff : l1[f]? = some ex := by
                  have hfl : f < l1.length := by rw [hren.len']; have := HOK.out.fle; omega
                  rw [List.getElem?_eq_getElem hfl]
                  have := hren.ex
                  rw [List.getD_eq_getElem?_getD, List.getElem?_eq_getElem hfl] at this
                  exact congrArg some this
                have cf := hin4 f ex lff
                have t1 : 0 ≤ ((f : Nat) : Int) := by omega
                have t2 : ((f : Nat) : Int) < (k : Int) + 1 := by have := HOK.out.fle; omega
                clear hren hin3 hin4 lff
                go_wp2_with fail
                go_loopw [24] (fun s wr => ∃ kk nd : Nat, s = .int .i64 ((kk : Nat) : Int) ∧ kk ≤ k ∧ wr = (w6.alloc (.cells #[.int .i64 a1, .slice (some ⟨b4, o4, none⟩) (k + 1) d4] 27)).drewN nd) (fun s _ => k - (intOf s).toNat)
                case atStart => exact ⟨0, 0, rfl, Nat.zero_le _, rfl⟩
                case round =>
                  obtain ⟨kk, nd, rfl, hkk, rfl⟩ := hrel
                  clear cf t1 t2
                  by_cases hlt : kk < k
                  · have s1 : 0 ≤ ((kk : Nat) : Int) := by omega
                    obtain ⟨y, hy⟩ : ∃ y, tos[kk]? = some y := ⟨_, List.getElem?_eq_getElem (by rw [HT.out.len]; exact hlt)⟩
                    have hyD : tos.getD kk 0 = y := by rw [List.getD_eq_getElem?_getD, hy]; rfl
                    have hdom := HOK.out.dom kk hlt
                    rw [hyD] at hdom
                    obtain ⟨j, rfl⟩ := Int.eq_ofNat_of_zero_le hdom.1
                    have hjk : j < k + 1 := by omega
                    obtain ⟨v, hv⟩ : ∃ v, l0[kk]? = some v := ⟨_, List.getElem?_eq_getElem (by rw [HREN.out.len]; exact hlt)⟩
                    have hv2 : l1[j]? = some v := by
                      have hjl : j < l1.length := by rw [HREN.out.len']; exact hjk
                      have := HREN.out.at_ kk hlt
                      rw [hyD, Int.toNat_natCast, List.getD_eq_getElem?_getD, List.getElem?_eq_getElem hjl, List.getD_eq_getElem?_getD, hv] at this
                      rw [List.getElem?_eq_getElem hjl]
                      exact congrArg some this
                    have i1 := (HIT.out.below hw6 hbt) kk _ hy
                    have i3 := HIN3.out kk v hv
                    have i4 := HIN4.out j v hv2
                    have s2 : 0 ≤ ((j : Nat) : Int) := by omega
                    have s3 : ((j : Nat) : Int) < (k : Int) + 1 := by omega
                    have hbt6 : bt < w6.heap.size := by omega
                    clear hy hyD hdom hv hv2
                    go_wp2_with fail
                    go_quiet (fail)
                    go_wp2_with fail
                    go_roundw
                    case rel => exact ⟨kk + 1, _, by go_num, by omega, rfl⟩
                    case measure => simp [intOf]; omega
                  · have hkk' : kk = k := by omega
                    go_wp2_with fail
                    refine (awake_any _).mono ?_
                    rintro e wz ⟨rfl, hbz⟩
                    go_wp2_with fail
                    go_ret
                    exact ⟨rfl, bnext (show Below w.heap.size w _ from below_drewN (hw6.alloc (by omega) _) _) hbz⟩
              · simp only [Res.mk.injEq] at he he'
                obtain ⟨rfl, rfl, rfl, rfl⟩ := he
                obtain ⟨rfl, rfl, rfl, rfl⟩ := he'
                go_wp2_with fail
                refine (awake_any _).mono ?_
                rintro e wz ⟨rfl, hbz⟩
                go_wp2_with fail
                go_ret
                exact ⟨rfl, bnext (show Below w.heap.size w _ from hw6.alloc (by omega) _) hbz⟩
        · have cm : wr.cell? ⟨w3.heap.size, f, none⟩ = some (.bool true) := by
            rw [HM.out.cellAt f (by omega), tab_get (by omega), HTK.out, hmf]
          have hff : f ≠ f0 := fun e => by
            subst e
            have := HM0.out
            rw [hmf] at this
            cases this
          clear hmf
          go_wp2_with fail
          go_roundw
          case rel => exact ⟨f + 1, by go_num, by omega, by first | rfl | trivial⟩
          case measure => simp [intOf]; omega

end Go.Proofs.Ytgpcgjdnehlaeaa

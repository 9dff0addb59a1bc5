/- Contracts: the specification's Until. -/
import Derived.Test.YtgpcgjdnehlaeaaW
namespace Go.Proofs.Ytgpcgjdnehlaeaa
open Go.RowKit

theorem until_some {w wf : World} {B m a k g cap : Nat} {rs : List Int} {r : Option Out} (hr : r = some ⟨a, rs, k, true⟩) (hrow : wf.ownsRow B 3 1 (.slice (some ⟨g, 0, none⟩) m cap) m (ints rs)) (hb : Below w.heap.size w wf) (hgg : w.heap.size ≤ g) :
    Ran w (untilR r) (.returned (.tuple #[.agg #[.int .i64 (a : Int), .slice (some ⟨g, 0, none⟩) m cap], .int .i64 (k : Int), .int .i64 0])) wf := by
  subst hr
  exact ⟨some ⟨g, 0, none⟩, m, cap, rfl, row_ints hrow, fresh_mk hgg, hb⟩
theorem until_big {w wf : World} {r : Option Out} (hr : r = none) (hb : Below w.heap.size w wf) : Ran w (untilR r) (.returned (.tuple #[.agg #[.int .i64 0, .slice none 0 0], .int .i64 0, .int .i64 4])) wf := by
  subst hr
  exact ⟨none, 0, 0, rfl, IntsAt.nil _, fresh_none _, hb⟩
theorem until_no {w wf : World} {a k : Nat} {rs : List Int} {r : Option Out} (hr : r = some ⟨a, rs, k, false⟩) (hb : Below w.heap.size w wf) : Ran w (untilR r) (.returned (.tuple #[.agg #[.int .i64 0, .slice none 0 0], .int .i64 0, .int .i64 6])) wf := by
  subst hr
  exact ⟨none, 0, 0, rfl, IntsAt.nil _, fresh_none _, hb⟩
theorem IntsAt.but {w w' : World} {A : Option Addr} {q B : Nat} {l : List Int} (h : IntsAt w B A q l) (hB : B ≤ w.heap.size) (hb : Below B w w') : IntsAt w' w'.heap.size A q l :=
  ⟨h.len, fun hn => by
    obtain ⟨b, off, rfl, hlt, hc⟩ := h.at_ hn
    exact ⟨b, off, rfl, by have := hb.size; omega, fun k x hx => (hb.cell (p := ⟨b, off + k, none⟩) hlt).trans (hc k x hx)⟩⟩

set_option maxRecDepth 100000 in
set_option maxHeartbeats 4000000 in
theorem runtil_any (R : Nat) (b off n c b2 off2 m d a0 N : Nat) (A2 : Option Addr) (q d2 : Nat) (code : List Ins) (rs0 pts : List Int) (w : World)
    (hv : vCode R code = true) (hg : Good R code a0 rs0) (hn : code.length = n) (hm : m = R) (hb : b < w.heap.size) (hc : CodeIn w b off code) (hb2 : b2 < w.heap.size) (hr : IntsIn w b2 off2 rs0) (hp : IntsAt w w.heap.size A2 q pts) (hq : q ≤ 4000) (hN : N ≤ 1000000) :
    Calls Try.prog 38 #[.agg #[.int .i64 R, .slice (some ⟨b, off, none⟩) n c], .agg #[.int .i64 a0, .slice (some ⟨b2, off2, none⟩) m d], .slice A2 q d2, .int .i64 N] w (Ran w (untilR (walkC code (finP pts) N a0 rs0))) := by
  obtain ⟨r1, r2, n1, n2⟩ := vCode_reg hv
  have hlen : rs0.length = m := by rw [hg.len, hm]
  have hm1 : 0 < m := by omega
  have hm2 : m ≤ 4000 := by omega
  have HV := hid_ hv; clear hv
  have HG := hid_ hg; clear hg
  have HN := hid_ hn; clear hn
  have HM := hid_ hm; clear hm
  have HC := hid_ hc; clear hc
  have HR := hid_ hr; clear hr
  have HP := hid_ hp; clear hp
  go_enter Try.func38, Try.ntmps38
  go_wp2_with fail
  refine (copy_any a0 b2 off2 m d rs0 _ (HR.out.below ((below2 w _ _).alloc (by simp; omega) _) hb2) hlen hm1 hm2 (by simp; omega)).mono ?_
  rintro e w1 ⟨g, cap, rfl, hgg, hown, hb1⟩
  obtain ⟨B1, B2, B3, hz, hw1⟩ := boxes3 hb1
  have c0 := B2.cell 0
  have c1 := B2.cell 1
  have cf0 := B2.free 0
  have cf1 := B2.free 1
  simp at c0 c1 hgg
  have hz1 : w.heap.size + 1 < w1.heap.size := by omega
  have hst := st_new2 (B' := 0) hown (Nat.zero_le _) B2 (by omega) a0
  have D1 := (B1.far (p := ⟨w.heap.size + 1, 0, none⟩) (by simp) (.int .i64 a0)).far (p := ⟨w.heap.size + 1, 1, none⟩) (by simp) (.slice (some ⟨g, 0, none⟩) m cap)
  have D3 := (B3.far (p := ⟨w.heap.size + 1, 0, none⟩) (by simp) (.int .i64 a0)).far (p := ⟨w.heap.size + 1, 1, none⟩) (by simp) (.slice (some ⟨g, 0, none⟩) m cap)
  have hw2 := below_res hw1 (q := w.heap.size + 1) (by omega) (.int .i64 a0) (.slice (some ⟨g, 0, none⟩) m cap)
  have HST := hid_ hst
  have HD1 := hid_ D1
  have HD3 := hid_ D3
  have HW2 := hid_ hw2
  clear hst D1 D3 hw2 hown hb1
  go_wp2_with fail
  generalize hW : (w1.setCell ⟨w.heap.size + 1, 0, none⟩ (.int .i64 a0)).setCell ⟨w.heap.size + 1, 1, none⟩ (.slice (some ⟨g, 0, none⟩) m cap) = W2 at *
  clear hW c0 c1 cf0 cf1 B1 B2 B3
  go_loopw [11] (fun s wr => ∃ k a rs, s = .int .i64 (((k : Nat) : Int) + 1) ∧ k ≤ N ∧ Hid (Good R code a rs) ∧ Hid (bump k (walkC code (finP pts) (N - k) a rs) = walkC code (finP pts) N a0 rs0) ∧ St wr 0 (w.heap.size + 1) g cap m ((a : Nat) : Int) rs ∧ But W2 wr (w.heap.size + 1) g)
    (fun s _ => N + 1 - (intOf s).toNat)
  case atStart => exact ⟨0, a0, rs0, rfl, Nat.zero_le _, HG, hid_ (by rw [bump_zero]; rfl), HST.out, But.refl _ _ _⟩
  case round =>
    obtain ⟨k, a, rs, rfl, hk, HGr, HWk, hs, hbut⟩ := hrel
    have HS := hid_ hs
    have E1 := HD1.out.but hbut (by omega) (by omega)
    have E3 := HD3.out.but hbut (by omega) (by omega)
    have hbr : Below w.heap.size w wr := HW2.out.trans (hbut.below HW2.out.size (by omega) (by omega))
    have p0 := E1.cell 0
    have p1 := E1.cell 1
    have x0 := E3.cell 0
    have x1 := E3.cell 1
    have y0 := E3.free 0
    have y1 := E3.free 1
    have g0 := hs.box.cell 0
    have g1 := hs.box.cell 1
    simp at p0 p1 x0 x1 g0 g1
    have hez := E3.lt
    have hez1 : w.heap.size + 1 < wr.heap.size := by omega
    have hez0 : w.heap.size < wr.heap.size := by omega
    clear hs
    by_cases hlt : k < N
    · obtain ⟨i, hi⟩ : ∃ i, code[a]? = some i := ⟨_, List.getElem?_eq_getElem HGr.out.lt⟩
      have hvi := vCode_ins HV.out hi
      have hop := vIns_op hvi
      have HI := hid_ hi
      obtain ⟨op, rg, nx, zr⟩ := i
      simp only at hop
      clear hi
      rcases hop with rfl | rfl | rfl
      · obtain ⟨q1, q2, q3, q4⟩ := vIns_inc hvi rfl
        clear hvi
        obtain ⟨j, rfl⟩ := Int.eq_ofNat_of_zero_le q1
        obtain ⟨nx, rfl⟩ := Int.eq_ofNat_of_zero_le q3
        obtain ⟨x, hx, hx0, hx1⟩ := good_get HGr.out (j := j) (by simp only at q2; omega)
        have HX := hid_ hx
        clear hx q1 q2 q3 q4
        by_cases hbig : x = 1152921504606846976
        · subst hbig
          go_wp2_with fail
          refine (rgo_big R b off n c 0 (w.heap.size + 1) g cap m a j nx zr code rs wr (HC.out.below hbr hb) HN.out HI.out HS.out HX.out).mono ?_
          rintro e w' ⟨rfl, hbut'⟩
          have F3 := E3.but hbut' (by omega) (by omega)
          have u0 := F3.cell 0
          have u1 := F3.cell 1
          have v0 := F3.free 0
          have v1 := F3.free 1
          simp at u0 u1
          have hfz := F3.lt
          have hfz1 : w.heap.size + 1 < w'.heap.size := by omega
          have hbw : Below w.heap.size w w' := hbr.trans (hbut'.below hbr.size (by omega) (by omega))
          go_wp2_with fail
          obtain ⟨e0, e1⟩ := res_cells F3 (.int .i64 0) (.slice none 0 0)
          refine bodyPost_ret (v := .tuple #[.agg #[.int .i64 0, .slice none 0 0], .int .i64 0, .int .i64 4]) (by simp [results, Try.results38, go_sem, e0, e1]) rfl ?_
          have hww := HWk.out
          rw [show N - k = (N - k - 1) + 1 by omega, walk_big (stp_big HI.out HX.out)] at hww
          exact until_big hww.symm (below_res hbw (by omega) _ _)
        · have hxl : x < 1152921504606846976 := by omega
          have hstp := stp_inc HI.out HX.out hbig
          have HSTP := hid_ hstp
          clear hstp
          cases hfin : memB ((nx : Nat) : Int) pts
          · go_wp2_with fail
            refine (rgo_inc R b off n c 0 (w.heap.size + 1) g cap m a j nx zr code rs wr (HC.out.below hbr hb) HN.out HI.out HS.out x HX.out hxl hx0).mono ?_
            rintro e w' ⟨rfl, hs', hbut'⟩
            have s0 := hs'.box.cell 0
            simp at s0
            have HS' := hid_ hs'
            clear hs'
            have F3 := E3.but hbut' (by omega) (by omega)
            have u0 := F3.cell 0
            have u1 := F3.cell 1
            have v0 := F3.free 0
            have v1 := F3.free 1
            simp at u0 u1
            have hfz := F3.lt
            have hfz1 : w.heap.size + 1 < w'.heap.size := by omega
            have hbw : Below w.heap.size w w' := hbr.trans (hbut'.below hbr.size (by omega) (by omega))
            go_wp2_with fail
            refine (in_any _ A2 q d2 pts w' (HP.out.but (Nat.le_refl _) hbw) hq).mono ?_
            rw [hfin]
            rintro e w'' ⟨rfl, rfl⟩
            go_wp2_with fail
            go_roundw
            case rel => exact ⟨k + 1, nx, (rs.set j (x + 1)), by go_num, by omega, hid_ (HGr.out.step HV.out HSTP.out), hid_ (by rw [← HWk.out, show N - k = (N - (k + 1)) + 1 by omega]; exact (walk_on HSTP.out hfin).symm), HS'.out, hbut.trans hbut'⟩
            case measure => simp [intOf]; omega
          · go_wp2_with fail
            refine (rgo_inc R b off n c 0 (w.heap.size + 1) g cap m a j nx zr code rs wr (HC.out.below hbr hb) HN.out HI.out HS.out x HX.out hxl hx0).mono ?_
            rintro e w' ⟨rfl, hs', hbut'⟩
            have s0 := hs'.box.cell 0
            have s1 := hs'.box.cell 1
            simp at s0 s1
            have HS' := hid_ hs'
            clear hs'
            have F3 := E3.but hbut' (by omega) (by omega)
            have u0 := F3.cell 0
            have u1 := F3.cell 1
            have v0 := F3.free 0
            have v1 := F3.free 1
            simp at u0 u1
            have hfz := F3.lt
            have hfz1 : w.heap.size + 1 < w'.heap.size := by omega
            have hbw : Below w.heap.size w w' := hbr.trans (hbut'.below hbr.size (by omega) (by omega))
            go_wp2_with fail
            refine (in_any _ A2 q d2 pts w' (HP.out.but (Nat.le_refl _) hbw) hq).mono ?_
            rw [hfin]
            rintro e w'' ⟨rfl, rfl⟩
            go_wp2_with fail
            obtain ⟨e0, e1⟩ := res_cells F3 (.int .i64 (nx : Nat)) (.slice (some ⟨g, 0, none⟩) m cap)
            refine bodyPost_ret (v := .tuple #[.agg #[.int .i64 (nx : Nat), .slice (some ⟨g, 0, none⟩) m cap], .int .i64 ((k : Int) + 1), .int .i64 0]) (by simp [results, Try.results38, go_sem, e0, e1]) rfl ?_
            have hww := HWk.out
            rw [show N - k = (N - (k + 1)) + 1 by omega, walk_met HSTP.out hfin] at hww
            exact until_some hww.symm (own_res HS'.out.row (by omega) _ _) (below_res hbw (by omega) _ _) (by omega)
      · obtain ⟨q1, q2, q3, q4, q5, q6⟩ := vIns_dec hvi rfl
        clear hvi
        obtain ⟨j, rfl⟩ := Int.eq_ofNat_of_zero_le q1
        obtain ⟨nx, rfl⟩ := Int.eq_ofNat_of_zero_le q3
        obtain ⟨zr, rfl⟩ := Int.eq_ofNat_of_zero_le q5
        obtain ⟨x, hx, hx0, hx1⟩ := good_get HGr.out (j := j) (by simp only at q2; omega)
        have HX := hid_ hx
        clear hx q1 q2 q3 q4 q5 q6
        by_cases hz0 : x = 0
        · subst hz0
          have hstp := stp_zero HI.out HX.out
          have HSTP := hid_ hstp
          clear hstp
          cases hfin : memB ((zr : Nat) : Int) pts
          · go_wp2_with fail
            refine (rgo_zero R b off n c 0 (w.heap.size + 1) g cap m a j nx zr code rs wr (HC.out.below hbr hb) HN.out HI.out HS.out HX.out).mono ?_
            rintro e w' ⟨rfl, hs', hbut'⟩
            have s0 := hs'.box.cell 0
            simp at s0
            have HS' := hid_ hs'
            clear hs'
            have F3 := E3.but hbut' (by omega) (by omega)
            have u0 := F3.cell 0
            have u1 := F3.cell 1
            have v0 := F3.free 0
            have v1 := F3.free 1
            simp at u0 u1
            have hfz := F3.lt
            have hfz1 : w.heap.size + 1 < w'.heap.size := by omega
            have hbw : Below w.heap.size w w' := hbr.trans (hbut'.below hbr.size (by omega) (by omega))
            go_wp2_with fail
            refine (in_any _ A2 q d2 pts w' (HP.out.but (Nat.le_refl _) hbw) hq).mono ?_
            rw [hfin]
            rintro e w'' ⟨rfl, rfl⟩
            go_wp2_with fail
            go_roundw
            case rel => exact ⟨k + 1, zr, rs, by go_num, by omega, hid_ (HGr.out.step HV.out HSTP.out), hid_ (by rw [← HWk.out, show N - k = (N - (k + 1)) + 1 by omega]; exact (walk_on HSTP.out hfin).symm), HS'.out, hbut.trans hbut'⟩
            case measure => simp [intOf]; omega
          · go_wp2_with fail
            refine (rgo_zero R b off n c 0 (w.heap.size + 1) g cap m a j nx zr code rs wr (HC.out.below hbr hb) HN.out HI.out HS.out HX.out).mono ?_
            rintro e w' ⟨rfl, hs', hbut'⟩
            have s0 := hs'.box.cell 0
            have s1 := hs'.box.cell 1
            simp at s0 s1
            have HS' := hid_ hs'
            clear hs'
            have F3 := E3.but hbut' (by omega) (by omega)
            have u0 := F3.cell 0
            have u1 := F3.cell 1
            have v0 := F3.free 0
            have v1 := F3.free 1
            simp at u0 u1
            have hfz := F3.lt
            have hfz1 : w.heap.size + 1 < w'.heap.size := by omega
            have hbw : Below w.heap.size w w' := hbr.trans (hbut'.below hbr.size (by omega) (by omega))
            go_wp2_with fail
            refine (in_any _ A2 q d2 pts w' (HP.out.but (Nat.le_refl _) hbw) hq).mono ?_
            rw [hfin]
            rintro e w'' ⟨rfl, rfl⟩
            go_wp2_with fail
            obtain ⟨e0, e1⟩ := res_cells F3 (.int .i64 (zr : Nat)) (.slice (some ⟨g, 0, none⟩) m cap)
            refine bodyPost_ret (v := .tuple #[.agg #[.int .i64 (zr : Nat), .slice (some ⟨g, 0, none⟩) m cap], .int .i64 ((k : Int) + 1), .int .i64 0]) (by simp [results, Try.results38, go_sem, e0, e1]) rfl ?_
            have hww := HWk.out
            rw [show N - k = (N - (k + 1)) + 1 by omega, walk_met HSTP.out hfin] at hww
            exact until_some hww.symm (own_res HS'.out.row (by omega) _ _) (below_res hbw (by omega) _ _) (by omega)
        · have hxp : 0 < x := by omega
          have hstp := stp_dec HI.out HX.out hz0
          have HSTP := hid_ hstp
          clear hstp
          cases hfin : memB ((nx : Nat) : Int) pts
          · go_wp2_with fail
            refine (rgo_dec R b off n c 0 (w.heap.size + 1) g cap m a j nx zr code rs wr (HC.out.below hbr hb) HN.out HI.out HS.out x HX.out hx1 hxp).mono ?_
            rintro e w' ⟨rfl, hs', hbut'⟩
            have s0 := hs'.box.cell 0
            simp at s0
            have HS' := hid_ hs'
            clear hs'
            have F3 := E3.but hbut' (by omega) (by omega)
            have u0 := F3.cell 0
            have u1 := F3.cell 1
            have v0 := F3.free 0
            have v1 := F3.free 1
            simp at u0 u1
            have hfz := F3.lt
            have hfz1 : w.heap.size + 1 < w'.heap.size := by omega
            have hbw : Below w.heap.size w w' := hbr.trans (hbut'.below hbr.size (by omega) (by omega))
            go_wp2_with fail
            refine (in_any _ A2 q d2 pts w' (HP.out.but (Nat.le_refl _) hbw) hq).mono ?_
            rw [hfin]
            rintro e w'' ⟨rfl, rfl⟩
            go_wp2_with fail
            go_roundw
            case rel => exact ⟨k + 1, nx, (rs.set j (x - 1)), by go_num, by omega, hid_ (HGr.out.step HV.out HSTP.out), hid_ (by rw [← HWk.out, show N - k = (N - (k + 1)) + 1 by omega]; exact (walk_on HSTP.out hfin).symm), HS'.out, hbut.trans hbut'⟩
            case measure => simp [intOf]; omega
          · go_wp2_with fail
            refine (rgo_dec R b off n c 0 (w.heap.size + 1) g cap m a j nx zr code rs wr (HC.out.below hbr hb) HN.out HI.out HS.out x HX.out hx1 hxp).mono ?_
            rintro e w' ⟨rfl, hs', hbut'⟩
            have s0 := hs'.box.cell 0
            have s1 := hs'.box.cell 1
            simp at s0 s1
            have HS' := hid_ hs'
            clear hs'
            have F3 := E3.but hbut' (by omega) (by omega)
            have u0 := F3.cell 0
            have u1 := F3.cell 1
            have v0 := F3.free 0
            have v1 := F3.free 1
            simp at u0 u1
            have hfz := F3.lt
            have hfz1 : w.heap.size + 1 < w'.heap.size := by omega
            have hbw : Below w.heap.size w w' := hbr.trans (hbut'.below hbr.size (by omega) (by omega))
            go_wp2_with fail
            refine (in_any _ A2 q d2 pts w' (HP.out.but (Nat.le_refl _) hbw) hq).mono ?_
            rw [hfin]
            rintro e w'' ⟨rfl, rfl⟩
            go_wp2_with fail
            obtain ⟨e0, e1⟩ := res_cells F3 (.int .i64 (nx : Nat)) (.slice (some ⟨g, 0, none⟩) m cap)
            refine bodyPost_ret (v := .tuple #[.agg #[.int .i64 (nx : Nat), .slice (some ⟨g, 0, none⟩) m cap], .int .i64 ((k : Int) + 1), .int .i64 0]) (by simp [results, Try.results38, go_sem, e0, e1]) rfl ?_
            have hww := HWk.out
            rw [show N - k = (N - (k + 1)) + 1 by omega, walk_met HSTP.out hfin] at hww
            exact until_some hww.symm (own_res HS'.out.row (by omega) _ _) (below_res hbw (by omega) _ _) (by omega)
      · clear hvi
        go_wp2_with fail
        refine (rgo_halt R b off n c 0 (w.heap.size + 1) g cap m a rg nx zr code rs wr (HC.out.below hbr hb) HN.out HI.out HS.out).mono ?_
        rintro e w' ⟨rfl, hbut', hs'⟩
        clear hs'
        have F3 := E3.but hbut' (by omega) (by omega)
        have u0 := F3.cell 0
        have u1 := F3.cell 1
        have v0 := F3.free 0
        have v1 := F3.free 1
        simp at u0 u1
        have hfz := F3.lt
        have hfz1 : w.heap.size + 1 < w'.heap.size := by omega
        have hbw : Below w.heap.size w w' := hbr.trans (hbut'.below hbr.size (by omega) (by omega))
        go_wp2_with fail
        obtain ⟨e0, e1⟩ := res_cells F3 (.int .i64 0) (.slice none 0 0)
        refine bodyPost_ret (v := .tuple #[.agg #[.int .i64 0, .slice none 0 0], .int .i64 0, .int .i64 6]) (by simp [results, Try.results38, go_sem, e0, e1]) rfl ?_
        have hww := HWk.out
        rw [show N - k = (N - k - 1) + 1 by omega, walk_halt (stp_halt HI.out)] at hww
        exact until_no hww.symm (below_res hbw (by omega) _ _)
    · have hkN : k = N := by omega
      go_wp2_with fail
      obtain ⟨e0, e1⟩ := res_cells E3 (.int .i64 0) (.slice none 0 0)
      refine bodyPost_ret (v := .tuple #[.agg #[.int .i64 0, .slice none 0 0], .int .i64 0, .int .i64 6]) (by simp [results, Try.results38, go_sem, e0, e1]) rfl ?_
      have hww := HWk.out
      rw [show N - k = 0 by omega, walk_end] at hww
      exact until_no hww.symm (below_res hbr (by omega) _ _)
end Go.Proofs.Ytgpcgjdnehlaeaa

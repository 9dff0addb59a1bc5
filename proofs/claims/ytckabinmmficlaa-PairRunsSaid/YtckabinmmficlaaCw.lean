/- Contracts: the specification's Run. -/
import Derived.Test.YtckabinmmficlaaCv
import Derived.Test.YtckabinmmficlaaCm
namespace Go.Proofs.Ytckabinmmficlaa.Cn
open Go.RowKit

/-- What the specification's Run returns. -/
def RRan (w : World) (r : Option Out) (e : Ending) (w' : World) : Prop :=
  ∃ A n c, e = .returned (.tuple #[.agg #[.int .i64 (resOf r).at_, .slice A n c], .int .i64 (resOf r).k, .bool r.isSome]) ∧ IntsAt w' w'.heap.size A n (resOf r).rs ∧ Fresh w.heap.size A ∧ Below w.heap.size w w'

theorem rran_some {w wf : World} {B m a k g cap : Nat} {rs : List Int} {f : Bool} {r : Option Out} (hr : r = some ⟨a, rs, k, f⟩) (hrow : wf.ownsRow B 3 1 (.slice (some ⟨g, 0, none⟩) m cap) m (ints rs)) (hb : Below w.heap.size w wf) (hgg : w.heap.size ≤ g) :
    RRan w r (.returned (.tuple #[.agg #[.int .i64 (a : Int), .slice (some ⟨g, 0, none⟩) m cap], .int .i64 (k : Int), .bool true])) wf := by
  subst hr
  exact ⟨some ⟨g, 0, none⟩, m, cap, rfl, row_ints hrow, fresh_mk hgg, hb⟩
theorem rran_none {w wf : World} {r : Option Out} (hr : r = none) (hb : Below w.heap.size w wf) : RRan w r (.returned (.tuple #[.agg #[.int .i64 0, .slice none 0 0], .int .i64 0, .bool false])) wf := by
  subst hr
  exact ⟨none, 0, 0, rfl, IntsAt.nil _, fresh_none _, hb⟩
theorem but_st {w w' : World} {B go g cap m : Nat} {a : Int} {rs : List Int} {q : Nat} {t : TypeId} {cs : Array Value} (_h : St w B go g cap m a rs) (hb : But w w' go g) (hq : Blk w q t cs) (h1 : q ≠ go) (h2 : q ≠ g) : Blk w' q t cs := hq.but hb h1 h2

set_option maxRecDepth 100000 in
set_option maxHeartbeats 4000000 in
theorem rrun_any (R : Nat) (b off n c b2 off2 m d a0 N : Nat) (code : List Ins) (rs0 : List Int) (w : World)
    (hv : vCode R code = true) (hg : Good R code a0 rs0) (hn : code.length = n) (hm : m = R) (hb : b < w.heap.size) (hc : CodeIn w b off code) (hb2 : b2 < w.heap.size) (hr : IntsIn w b2 off2 rs0) (hN : N ≤ 1000000) :
    Calls Try.prog 21 #[.agg #[.int .i64 R, .slice (some ⟨b, off, none⟩) n c], .agg #[.int .i64 a0, .slice (some ⟨b2, off2, none⟩) m d], .int .i64 N] w (RRan w (walkC code ff N a0 rs0)) := by
  obtain ⟨r1, r2, n1, n2⟩ := vCode_reg hv
  have hlen : rs0.length = m := by rw [hg.len, hm]
  have hm1 : 0 < m := by omega
  have hm2 : m ≤ 4000 := by omega
  have HV := hid_ hv; clear hv
  have HG := hid_ hg; clear hg
  have HN := hid_ hn; clear hn
  have HM := hid_ hm; clear hm
  have HC := hid_ hc; clear hc
  have HR := hid_ hr; clear hr
  go_enter Try.func21, Try.ntmps21
  go_wp2_with fail
  refine (copy_any a0 b2 off2 m d rs0 _ (HR.out.below ((below2 w _ _).alloc (by simp; omega) _) hb2) hlen hm1 hm2 (by simp; omega)).mono ?_
  rintro e w1 ⟨g, cap, rfl, hgg, hown, hb1⟩
  obtain ⟨B1, B2, B3, hz, hw1⟩ := boxes3 hb1
  have c0 := B2.cell 0
  have c1 := B2.cell 1
  have cf0 := B2.free 0
  have cf1 := B2.free 1
  simp at c0 c1 hgg
  have hz1 : w.heap.size + 1 < w1.heap.size := by omega
  have hst := st_new2 (B' := 0) hown (Nat.zero_le _) B2 (by omega) a0
  have D1 := (B1.far (p := ⟨w.heap.size + 1, 0, none⟩) (by simp) (.int .i64 a0)).far (p := ⟨w.heap.size + 1, 1, none⟩) (by simp) (.slice (some ⟨g, 0, none⟩) m cap)
  have D3 := (B3.far (p := ⟨w.heap.size + 1, 0, none⟩) (by simp) (.int .i64 a0)).far (p := ⟨w.heap.size + 1, 1, none⟩) (by simp) (.slice (some ⟨g, 0, none⟩) m cap)
  have hw2 := below_res hw1 (q := w.heap.size + 1) (by omega) (.int .i64 a0) (.slice (some ⟨g, 0, none⟩) m cap)
  have HST := hid_ hst
  have HD1 := hid_ D1
  have HD3 := hid_ D3
  have HW2 := hid_ hw2
  clear hst D1 D3 hw2 hown hb1
  go_wp2_with fail
  generalize hW : (w1.setCell ⟨w.heap.size + 1, 0, none⟩ (.int .i64 a0)).setCell ⟨w.heap.size + 1, 1, none⟩ (.slice (some ⟨g, 0, none⟩) m cap) = W2 at *
  clear hW c0 c1 cf0 cf1 B1 B2 B3
  go_loopw [9] (fun s wr => ∃ k a rs, s = .int .i64 ((k : Nat) : Int) ∧ k ≤ N ∧ Hid (Good R code a rs) ∧ Hid (bump k (walkC code ff (N - k) a rs) = walkC code ff N a0 rs0) ∧ St wr 0 (w.heap.size + 1) g cap m ((a : Nat) : Int) rs ∧ But W2 wr (w.heap.size + 1) g)
    (fun s _ => N - (intOf s).toNat)
  case atStart => exact ⟨0, a0, rs0, rfl, Nat.zero_le _, HG, hid_ (by rw [bump_zero]; rfl), HST.out, But.refl _ _ _⟩
  case round =>
    obtain ⟨k, a, rs, rfl, hk, HGr, HWk, hs, hbut⟩ := hrel
    have HS := hid_ hs
    have E1 := HD1.out.but hbut (by omega) (by omega)
    have E3 := HD3.out.but hbut (by omega) (by omega)
    have hbr : Below w.heap.size w wr := HW2.out.trans (hbut.below HW2.out.size (by omega) (by omega))
    have p0 := E1.cell 0
    have p1 := E1.cell 1
    have x0 := E3.cell 0
    have x1 := E3.cell 1
    have y0 := E3.free 0
    have y1 := E3.free 1
    have g0 := hs.box.cell 0
    have g1 := hs.box.cell 1
    simp at p0 p1 x0 x1 g0 g1
    have hez := E3.lt
    have hez1 : w.heap.size + 1 < wr.heap.size := by omega
    have hez0 : w.heap.size < wr.heap.size := by omega
    clear hs
    by_cases hlt : k < N
    · obtain ⟨i, hi⟩ : ∃ i, code[a]? = some i := ⟨_, List.getElem?_eq_getElem HGr.out.lt⟩
      have hvi := vCode_ins HV.out hi
      have hop := vIns_op hvi
      have HI := hid_ hi
      obtain ⟨op, rg, nx, zr⟩ := i
      simp only at hop
      clear hi
      rcases hop with rfl | rfl | rfl
      · obtain ⟨q1, q2, q3, q4⟩ := vIns_inc hvi rfl
        clear hvi
        obtain ⟨j, rfl⟩ := Int.eq_ofNat_of_zero_le q1
        obtain ⟨nx, rfl⟩ := Int.eq_ofNat_of_zero_le q3
        obtain ⟨x, hx, hx0, hx1⟩ := good_get HGr.out (j := j) (by simp only at q2; omega)
        have HX := hid_ hx
        clear hx q1 q2 q3 q4
        by_cases hbig : x = 1152921504606846976
        · subst hbig
          go_wp2_with fail
          refine (rgo_big R b off n c 0 (w.heap.size + 1) g cap m a j nx zr code rs wr (HC.out.below hbr hb) HN.out HI.out HS.out HX.out).mono ?_
          rintro e w' ⟨rfl, hbut'⟩
          have F3 := E3.but hbut' (by omega) (by omega)
          have u0 := F3.cell 0
          have u1 := F3.cell 1
          have v0 := F3.free 0
          have v1 := F3.free 1
          simp at u0 u1
          have hfz := F3.lt
          have hbw : Below w.heap.size w w' := hbr.trans (hbut'.below hbr.size (by omega) (by omega))
          go_wp2_with fail
          obtain ⟨e0, e1⟩ := res_cells F3 (.int .i64 0) (.slice none 0 0)
          refine bodyPost_ret (v := .tuple #[.agg #[.int .i64 0, .slice none 0 0], .int .i64 0, .bool false]) (by simp [results, Try.results21, go_sem, e0, e1]) rfl ?_
          have hww := HWk.out
          rw [show N - k = (N - k - 1) + 1 by omega, walk_big (stp_big HI.out HX.out)] at hww
          exact rran_none hww.symm (below_res hbw (by omega) _ _)
        · have hxl : x < 1152921504606846976 := by omega
          have hstp := stp_inc HI.out HX.out hbig
          have HSTP := hid_ hstp
          clear hstp
          go_wp2_with fail
          refine (rgo_inc R b off n c 0 (w.heap.size + 1) g cap m a j nx zr code rs wr (HC.out.below hbr hb) HN.out HI.out HS.out x HX.out hxl hx0).mono ?_
          rintro e w' ⟨rfl, hs', hbut'⟩
          have HS' := hid_ hs'
          clear hs'
          go_wp2_with fail
          go_roundw
          case rel => exact ⟨k + 1, nx, (rs.set j (x + 1)), by go_num, by omega, hid_ (HGr.out.step HV.out HSTP.out), hid_ (by rw [← HWk.out, show N - k = (N - (k + 1)) + 1 by omega]; exact (walk_on HSTP.out rfl).symm), HS'.out, hbut.trans hbut'⟩
          case measure => simp [intOf]; omega
      · obtain ⟨q1, q2, q3, q4, q5, q6⟩ := vIns_dec hvi rfl
        clear hvi
        obtain ⟨j, rfl⟩ := Int.eq_ofNat_of_zero_le q1
        obtain ⟨nx, rfl⟩ := Int.eq_ofNat_of_zero_le q3
        obtain ⟨zr, rfl⟩ := Int.eq_ofNat_of_zero_le q5
        obtain ⟨x, hx, hx0, hx1⟩ := good_get HGr.out (j := j) (by simp only at q2; omega)
        have HX := hid_ hx
        clear hx q1 q2 q3 q4 q5 q6
        by_cases hz0 : x = 0
        · subst hz0
          have hstp := stp_zero HI.out HX.out
          have HSTP := hid_ hstp
          clear hstp
          go_wp2_with fail
          refine (rgo_zero R b off n c 0 (w.heap.size + 1) g cap m a j nx zr code rs wr (HC.out.below hbr hb) HN.out HI.out HS.out HX.out).mono ?_
          rintro e w' ⟨rfl, hs', hbut'⟩
          have HS' := hid_ hs'
          clear hs'
          go_wp2_with fail
          go_roundw
          case rel => exact ⟨k + 1, zr, rs, by go_num, by omega, hid_ (HGr.out.step HV.out HSTP.out), hid_ (by rw [← HWk.out, show N - k = (N - (k + 1)) + 1 by omega]; exact (walk_on HSTP.out rfl).symm), HS'.out, hbut.trans hbut'⟩
          case measure => simp [intOf]; omega
        · have hxp : 0 < x := by omega
          have hstp := stp_dec HI.out HX.out hz0
          have HSTP := hid_ hstp
          clear hstp
          go_wp2_with fail
          refine (rgo_dec R b off n c 0 (w.heap.size + 1) g cap m a j nx zr code rs wr (HC.out.below hbr hb) HN.out HI.out HS.out x HX.out hx1 hxp).mono ?_
          rintro e w' ⟨rfl, hs', hbut'⟩
          have HS' := hid_ hs'
          clear hs'
          go_wp2_with fail
          go_roundw
          case rel => exact ⟨k + 1, nx, (rs.set j (x - 1)), by go_num, by omega, hid_ (HGr.out.step HV.out HSTP.out), hid_ (by rw [← HWk.out, show N - k = (N - (k + 1)) + 1 by omega]; exact (walk_on HSTP.out rfl).symm), HS'.out, hbut.trans hbut'⟩
          case measure => simp [intOf]; omega
      · clear hvi
        go_wp2_with fail
        refine (rgo_halt R b off n c 0 (w.heap.size + 1) g cap m a rg nx zr code rs wr (HC.out.below hbr hb) HN.out HI.out HS.out).mono ?_
        rintro e w' ⟨rfl, hbut', hs'⟩
        have F3 := E3.but hbut' (by omega) (by omega)
        have u0 := F3.cell 0
        have u1 := F3.cell 1
        have v0 := F3.free 0
        have v1 := F3.free 1
        have t0 := hs'.box.cell 0
        have t1 := hs'.box.cell 1
        simp at u0 u1 t0 t1
        have HS' := hid_ hs'
        clear hs'
        have hfz := F3.lt
        have hfz1 : w.heap.size + 1 < w'.heap.size := by omega
        have hbw : Below w.heap.size w w' := hbr.trans (hbut'.below hbr.size (by omega) (by omega))
        go_wp2_with fail
        obtain ⟨e0, e1⟩ := res_cells F3 (.int .i64 a) (.slice (some ⟨g, 0, none⟩) m cap)
        refine bodyPost_ret (v := .tuple #[.agg #[.int .i64 a, .slice (some ⟨g, 0, none⟩) m cap], .int .i64 k, .bool true]) (by simp [results, Try.results21, go_sem, e0, e1]) rfl ?_
        have hww := HWk.out
        rw [show N - k = (N - k - 1) + 1 by omega, walk_halt (stp_halt HI.out)] at hww
        exact rran_some hww.symm (own_res HS'.out.row (by omega) _ _) (below_res hbw (by omega) _ _) (by omega)
    · have hkN : k = N := by omega
      go_wp2_with fail
      obtain ⟨e0, e1⟩ := res_cells E3 (.int .i64 a) (.slice (some ⟨g, 0, none⟩) m cap)
      refine bodyPost_ret (v := .tuple #[.agg #[.int .i64 a, .slice (some ⟨g, 0, none⟩) m cap], .int .i64 k, .bool true]) (by simp [results, Try.results21, go_sem, e0, e1, hkN]) rfl ?_
      have hww := HWk.out
      rw [show N - k = 0 by omega, walk_end] at hww
      exact rran_some hww.symm (own_res HS.out.row (by omega) _ _) (below_res hbr (by omega) _ _) (by omega)
end Go.Proofs.Ytckabinmmficlaa.Cn

/- The contract of Until. -/
import Derived.Test.YtonammaecpapmaaCk
namespace Go.Proofs.Ytonammaecpapmaa.Cn
open Go.RowKit

def finP (pts : List Int) (a : Nat) : Bool := memB a pts
def untilR : Option Out → Res
  | none => ⟨0, [], 0, 4⟩
  | some o => if o.met = true then ⟨o.at_, o.rs, o.k, 0⟩ else ⟨0, [], 0, 6⟩
def untilS (R : Int) (code : List Ins) (at_ : Int) (rs pts : List Int) (N : Int) : Res :=
  if fitsB R code at_ rs = false then ⟨0, [], 0, 1⟩ else if N < 1 ∨ 1000000 < N ∨ riseB code.length pts = false then ⟨0, [], 0, 2⟩
  else untilR (walkC code (finP pts) N.toNat at_.toNat rs)

theorem Try.info4 : (Try.prog.info? 4).map (fun i => (i.zero, i.size, i.bytes)) = some (some (.bool false), 1, 1) := by kernel_rfl

/-- The table of points behind the first k of them. -/
def tab (n : Nat) (pts : List Int) (k : Nat) : List Value := (List.range n).map fun (i : Nat) => .bool (memB (i : Int) (pts.take k))

theorem tab_zero (n : Nat) (pts : List Int) : tab n pts 0 = List.replicate n (.bool false) := by
  simp [tab, memB, List.map_const']
theorem tab_get {n k j : Nat} {pts : List Int} (hj : j < n) : (tab n pts k)[j]? = some (.bool (memB (j : Int) (pts.take k))) := by
  simp [tab, hj]
theorem tab_step {n k j : Nat} {pts : List Int} (hx : pts[k]? = some (j : Int)) : (tab n pts k).set j (.bool true) = tab n pts (k + 1) := by
  apply List.ext_getElem?
  intro i
  by_cases hi : i < n
  · rw [tab_get hi, List.getElem?_set]
    rw [List.take_add_one, hx]
    by_cases hij : j = i
    · subst hij
      simp [tab, hi, memB]
    · rw [if_neg hij, tab_get hi]
      have : ¬ (i : Int) = (j : Int) := by omega
      simp [memB, this]
  · rw [List.getElem?_eq_none (by simp [tab]; omega), List.getElem?_eq_none (by simp [tab]; omega)]
theorem rise_mem {n : Int} {l : List Int} (h : riseB n l = true) {k : Nat} {x : Int} (hx : l[k]? = some x) : 0 ≤ x ∧ x < n := by
  have hk : k < l.length := (List.getElem?_eq_some_iff.1 hx).1
  have := List.all_eq_true.1 h k (List.mem_range.2 hk)
  rw [riseAt, getD_of hx] at this
  simp only [Bool.and_eq_true] at this
  exact inB_true.1 this.1

set_option maxHeartbeats 1000000 in
theorem until_any (R at_ N : Int) (A A' A2 : Option Addr) (n c m d q d2 : Nat) (code : List Ins) (rs pts : List Int) (w : World) (hc : CodeAt w w.heap.size A n code) (hr : IntsAt w w.heap.size A' m rs) (hp : IntsAt w w.heap.size A2 q pts) (hq : q ≤ 4000) :
    Calls Try.prog 9 #[.agg #[.int .i64 R, .slice A n c], .agg #[.int .i64 at_, .slice A' m d], .slice A2 q d2, .int .i64 N] w (Ran w (untilS R code at_ rs pts N)) := by
  cases hf : fitsB R code at_ rs
  · have HC := hid_ hc; clear hc
    have HR := hid_ hr; clear hr
    have HS : Hid (untilS R code at_ rs pts N = ⟨0, [], 0, 1⟩) := by simp [Hid, untilS, hf]
    clear hp
    go_enter Try.func9, Try.ntmps9
    go_wp2_with fail
    refine (fits_any _ _ _ _ _ _ _ _ code rs _ (HC.out.to ((below2 w _ _).alloc (by simp; omega) _)) (HR.out.to ((below2 w _ _).alloc (by simp; omega) _))).mono ?_
    rintro e w1 ⟨rfl, hb1⟩
    obtain ⟨B1, B2, B3, hz, hw1⟩ := boxes3 hb1
    clear hb1
    have x0 := B3.cell 0
    have x1 := B3.cell 1
    have y0 := B3.free 0
    have y1 := B3.free 1
    simp at x0 x1
    have hxl := B3.lt
    go_wp2_with fail
    obtain ⟨e0, e1⟩ := res_cells B3 (.int .i64 0) (.slice none 0 0)
    refine bodyPost_ret (v := .tuple #[.agg #[.int .i64 0, .slice none 0 0], .int .i64 0, .int .i64 1]) (by simp [results, Try.results9, go_sem, e0, e1]) rfl ?_
    rw [HS.out]
    exact ⟨none, 0, 0, rfl, IntsAt.nil _, fresh_none _, below_res hw1 (by omega) _ _⟩
  · obtain ⟨hv, hg, hR, hat⟩ := fitsB_good hf
    have hlm := hr.len
    have hln := hc.len
    obtain ⟨r1, r2, n1, n2⟩ := vCode_reg hv
    have HC := hid_ hc; clear hc
    have HR := hid_ hr; clear hr
    have HP := hid_ hp; clear hp
    obtain ⟨Rn, rfl⟩ := Int.eq_ofNat_of_zero_le (show 0 ≤ R by omega)
    obtain ⟨an, rfl⟩ := Int.eq_ofNat_of_zero_le (show 0 ≤ at_ by have := hat; omega)
    simp only [Int.toNat_natCast] at hg hR hat
    have hmR : m = Rn := by rw [← hlm, hg.len]
    obtain ⟨b, off, rfl, hbl, hin⟩ := HC.out.at_ (by omega)
    obtain ⟨b2, off2, rfl, hbl2, hin2⟩ := HR.out.at_ (by omega)
    have hm0 : 0 < m := by omega
    have hnn : n ≤ 2000 := by omega
    have HV := hid_ hv; clear hv
    have HG := hid_ hg; clear hg
    have HI := hid_ hin; clear hin
    have HI2 := hid_ hin2; clear hin2
    have HM := hid_ hmR; clear hmR
    have HLN := hid_ hln; clear hln
    clear hlm hR hat
    by_cases hN0 : N < 1
    · have HS : Hid (untilS Rn code an rs pts N = ⟨0, [], 0, 2⟩) := by simp [Hid, untilS, hf, hN0]
      go_enter Try.func9, Try.ntmps9
      go_wp2_with fail
      refine (fits_any _ _ _ _ _ _ _ _ code rs _ (HC.out.to ((below2 w _ _).alloc (by simp; omega) _)) (HR.out.to ((below2 w _ _).alloc (by simp; omega) _))).mono ?_
      rintro e w1 ⟨rfl, hb1⟩
      obtain ⟨B1, B2, B3, hz, hw1⟩ := boxes3 hb1
      clear hb1
      have x0 := B3.cell 0
      have x1 := B3.cell 1
      have y0 := B3.free 0
      have y1 := B3.free 1
      simp at x0 x1
      have hxl := B3.lt
      go_wp2_with fail
      obtain ⟨e0, e1⟩ := res_cells B3 (.int .i64 0) (.slice none 0 0)
      refine bodyPost_ret (v := .tuple #[.agg #[.int .i64 0, .slice none 0 0], .int .i64 0, .int .i64 2]) (by simp [results, Try.results9, go_sem, e0, e1]) rfl ?_
      rw [HS.out]
      exact ⟨none, 0, 0, rfl, IntsAt.nil _, fresh_none _, below_res hw1 (by omega) _ _⟩
    · by_cases hN1 : 1000000 < N
      · have HS : Hid (untilS Rn code an rs pts N = ⟨0, [], 0, 2⟩) := by simp [Hid, untilS, hf, hN1]
        go_enter Try.func9, Try.ntmps9
        go_wp2_with fail
        refine (fits_any _ _ _ _ _ _ _ _ code rs _ (HC.out.to ((below2 w _ _).alloc (by simp; omega) _)) (HR.out.to ((below2 w _ _).alloc (by simp; omega) _))).mono ?_
        rintro e w1 ⟨rfl, hb1⟩
        obtain ⟨B1, B2, B3, hz, hw1⟩ := boxes3 hb1
        clear hb1
        have x0 := B3.cell 0
        have x1 := B3.cell 1
        have y0 := B3.free 0
        have y1 := B3.free 1
        simp at x0 x1
        have hxl := B3.lt
        go_wp2_with fail
        obtain ⟨e0, e1⟩ := res_cells B3 (.int .i64 0) (.slice none 0 0)
        refine bodyPost_ret (v := .tuple #[.agg #[.int .i64 0, .slice none 0 0], .int .i64 0, .int .i64 2]) (by simp [results, Try.results9, go_sem, e0, e1]) rfl ?_
        rw [HS.out]
        exact ⟨none, 0, 0, rfl, IntsAt.nil _, fresh_none _, below_res hw1 (by omega) _ _⟩
      · cases hri : riseB n pts
        · have HS : Hid (untilS Rn code an rs pts N = ⟨0, [], 0, 2⟩) := by rw [Hid, untilS, hf, if_neg (by simp), if_pos (.inr (.inr (by rw [HLN.out]; exact hri)))]
          go_enter Try.func9, Try.ntmps9
          go_wp2_with fail
          refine (fits_any _ _ _ _ _ _ _ _ code rs _ (HC.out.to ((below2 w _ _).alloc (by simp; omega) _)) (HR.out.to ((below2 w _ _).alloc (by simp; omega) _))).mono ?_
          rintro e w1 ⟨rfl, hb1⟩
          obtain ⟨B1, B2, B3, hz, hw1⟩ := boxes3 hb1
          clear hb1
          have p0 := B1.cell 0
          have p1 := B1.cell 1
          simp at p0 p1
          go_wp2_with fail
          refine (rising_any Rn _ _ n c q d2 pts w1 (HP.out.to hw1) hq).mono ?_
          rintro e w2 ⟨rfl, hb2⟩
          replace B3 := B3.below hb2 (by omega)
          replace hw1 := bnext hw1 hb2
          have x0 := B3.cell 0
          have x1 := B3.cell 1
          have y0 := B3.free 0
          have y1 := B3.free 1
          simp at x0 x1
          have hxl := B3.lt
          go_wp2_with fail
          obtain ⟨e0, e1⟩ := res_cells B3 (.int .i64 0) (.slice none 0 0)
          refine bodyPost_ret (v := .tuple #[.agg #[.int .i64 0, .slice none 0 0], .int .i64 0, .int .i64 2]) (by simp [results, Try.results9, go_sem, e0, e1]) rfl ?_
          rw [HS.out]
          exact ⟨none, 0, 0, rfl, IntsAt.nil _, fresh_none _, below_res hw1 (by omega) _ _⟩
        · obtain ⟨Nn, rfl⟩ := Int.eq_ofNat_of_zero_le (show 0 ≤ N by omega)
          have HS : Hid (untilS Rn code an rs pts Nn = untilR (walkC code (finP pts) Nn an rs)) := by
            have h1 : ¬ ((Nn : Int) < 1 ∨ 1000000 < (Nn : Int) ∨ riseB code.length pts = false) := by rw [HLN.out, hri]; simp; omega
            simp only [Hid, untilS, hf, if_neg h1]
            simp
          obtain ⟨i0, hi, hz0, hz1, hz2⟩ := info_parts Try.info4
          go_enter Try.func9, Try.ntmps9
          go_wp2_with fail
          refine (fits_any _ _ _ _ _ _ _ _ code rs _ (HC.out.to ((below2 w _ _).alloc (by simp; omega) _)) (HR.out.to ((below2 w _ _).alloc (by simp; omega) _))).mono ?_
          rintro e w1 ⟨rfl, hb1⟩
          obtain ⟨B1, B2, B3, hz, hw1⟩ := boxes3 hb1
          clear hb1
          have p0 := B1.cell 0
          have p1 := B1.cell 1
          simp at p0 p1
          go_wp2_with fail
          refine (rising_any Rn _ _ n c q d2 pts w1 (HP.out.to hw1) hq).mono ?_
          rintro e w2 ⟨rfl, hb2⟩
          replace p0 := keepc hb2 p0
          replace p1 := keepc hb2 p1
          have hw2 := bnext hw1 hb2
          go_wp2_with (at_make; refine wpList_make_full _ rfl _ _ 66 rfl w2.heap.size 4 i0 (.bool false) 1 Try.underlying66 hi hz0 hz1 .i64 .i64 n n n rfl rfl rfl rfl (by rw [hz2]; omega) (by unfold maxLen; omega) (Nat.le_refl _) ?_; intro w3 hown hgr)
          have hm0 : (madeCells (Value.bool false).cells (n * 1)).toList = tab n pts 0 := by
            rw [tab_zero, Nat.mul_one]
            exact toList_madeCells_one _ _
          rw [hm0] at hown
          have hzz : w2.heap.size < w3.heap.size := (hown.lt _ rfl).2
          have hw3 : Below w2.heap.size w2 w3 := ⟨hgr.os, hgr.tape, hgr.output, hgr.size, fun k hk => hgr.block k hk (by simp)⟩
          have HOWN := hid_ hown
          clear hown hm0
          go_loopw [42] (fun s wr => ∃ k : Nat, s = .int .i64 ((k : Nat) : Int) ∧ k ≤ q ∧ wr.ownsRow w2.heap.size 4 1 (.slice (some ⟨w2.heap.size, 0, none⟩) n n) n (tab n pts k) ∧ Blk wr w3.heap.size 66 #[.slice (some ⟨w2.heap.size, 0, none⟩) n n] ∧ Below w2.heap.size w2 wr)
            (fun s _ => q - (intOf s).toNat)
          case atStart => exact ⟨0, rfl, Nat.zero_le _, HOWN.out.alloc _, Blk.new _ _ _, hw3.alloc (by omega) _⟩
          case round =>
            obtain ⟨k, rfl, hk, hrow, hbx, hbr⟩ := hrel
            have HROW := hid_ hrow
            have HBX := hid_ hbx
            have bx0 := hbx.cell 0
            simp at bx0
            have hbz := hbx.lt
            clear hrow hbx
            by_cases hlt : k < q
            · obtain ⟨bp, op, rfl, hbp, hip⟩ := HP.out.at_ (by omega)
              obtain ⟨x, hx⟩ : ∃ x, pts[k]? = some x := ⟨_, List.getElem?_eq_getElem (by rw [HP.out.len]; exact hlt)⟩
              have hwr := bnext hw2 hbr
              have i1 := (hip.below hwr hbp) k x hx
              obtain ⟨hx0, hxn⟩ := rise_mem hri hx
              obtain ⟨j, rfl⟩ := Int.eq_ofNat_of_zero_le hx0
              have hjn : j < n := by omega
              have HX := hid_ hx
              have cj : wr.cell? ⟨w2.heap.size, j, none⟩ = some (.bool (memB (j : Int) (pts.take k))) := by
                rw [HROW.out.cellAt j (by omega), tab_get hjn]
              have fj := HROW.out.frozenAt j
              clear hip hx hx0 hxn
              go_wp2_with fail
              go_roundw
              case rel => exact ⟨k + 1, by go_num, by omega, by rw [← tab_step HX.out]; exact (HROW.out.stored j (.bool true)).1, HBX.out.far (by simp; omega) _, hbr.setCell (Nat.le_refl _) _⟩
              case measure => simp [intOf]; omega
            · have hkq : k = q := by omega
              have hs2 := hb2.size
              have hs4 := hbr.size
              have D1 := (B1.below hb2 (by omega)).below hbr (by omega)
              have D2 := (B2.below hb2 (by omega)).below hbr (by omega)
              have D3 := (B3.below hb2 (by omega)).below hbr (by omega)
              have p0' := D1.cell 0
              have p1' := D1.cell 1
              have c0' := D2.cell 0
              have c1' := D2.cell 1
              simp at p0' p1' c0' c1'
              have hwz : w.heap.size + 1 + 1 < wr.heap.size := by omega
              have hwz1 : w.heap.size + 1 < wr.heap.size := by omega
              have hwz0 : w.heap.size < wr.heap.size := by omega
              have hwr := bnext hw2 hbr
              have hwa : Below w.heap.size w (wr.alloc (.cells #[.bool false] 4)) := hwr.alloc (by omega) _
              have hJ0 : Pts w3.heap.size w2.heap.size wr.heap.size n n (finP pts) false (wr.alloc (.cells #[.bool false] 4)) := by
                refine ⟨HBX.out.alloc _, fun i hi => ?_, Blk.new _ _ _⟩
                refine keepa _ ?_
                rw [HROW.out.cellAt i (by omega), tab_get hi, hkq, List.take_of_length_le (by rw [HP.out.len]; exact Nat.le_refl _)]
                rfl
              have HJ0 := hid_ hJ0
              clear hJ0
              go_wp2_with fail
              refine (walk_any Rn b off n c b2 off2 m d an Nn 22 #[.pointer (some ⟨w3.heap.size, 0, none⟩), .pointer (some ⟨wr.heap.size, 0, none⟩)] (finP pts) (some wr.heap.size) (Pts w3.heap.size w2.heap.size wr.heap.size n n (finP pts)) code rs (wr.alloc (.cells #[.bool false] 4)) HV.out HG.out HLN.out HM.out (by simp; omega)
                (by simp; omega) (HI.out.below hwa hbl) (by simp; omega) (HI2.out.below hwa hbl2) (by omega) (by intro i hi; simp at hi; simp; omega) (ends_until (by simp; omega) (by simp; omega) (by simp) (by omega) (by omega)) HJ0.out).mono ?_
              rintro e w5 ⟨hg5, hq5⟩
              have hw5 : Below w.heap.size w w5 := hwa.trans ⟨hg5.os, hg5.tape, hg5.output, hg5.size, fun i hi => hg5.block i (by simp; omega) (by simp; omega)⟩
              have D3w := (D3.alloc (.cells #[.bool false] 4)).grownby hg5 (by simp; omega)
              have x0 := D3w.cell 0
              have x1 := D3w.cell 1
              have y0 := D3w.free 0
              have y1 := D3w.free 1
              simp at x0 x1
              have hxl := D3w.lt
              cases ho : walkC code (finP pts) Nn an rs with
              | none =>
                rw [ho] at hq5
                simp only at hq5
                subst hq5
                have HO := hid_ ho; clear ho
                go_wp2_with fail
                obtain ⟨e0, e1⟩ := res_cells_a D3w (.int .i64 0) (.slice none 0 0) (.cells #[.int .i64 0, .slice none 0 0] 29)
                refine bodyPost_ret (v := .tuple #[.agg #[.int .i64 0, .slice none 0 0], .int .i64 0, .int .i64 4]) (by simp [results, Try.results9, go_sem, e0, e1]) rfl ?_
                rw [HS.out, HO.out]
                exact ⟨none, 0, 0, rfl, IntsAt.nil _, fresh_none _, below_res_a hw5 (by omega) (by omega) _ _ _⟩
              | some o =>
                rw [ho] at hq5
                obtain ⟨g, cap, rfl, hgg, hia, hJ5⟩ := hq5
                have HO := hid_ ho; clear ho
                have HIA := hid_ hia; clear hia
                have m0 := hJ5.met.cell 0
                simp at m0
                clear hJ5
                have hmz := cell_lt m0
                cases hmet : o.met
                · rw [hmet] at m0
                  go_wp2_with fail
                  obtain ⟨e0, e1⟩ := res_cells_a D3w (.int .i64 0) (.slice none 0 0) (.cells #[.int .i64 (o.at_ : Int), .slice (some ⟨g, 0, none⟩) m cap] 29)
                  refine bodyPost_ret (v := .tuple #[.agg #[.int .i64 0, .slice none 0 0], .int .i64 0, .int .i64 6]) (by simp [results, Try.results9, go_sem, e0, e1]) rfl ?_
                  rw [HS.out, HO.out]
                  simp only [untilR, hmet]
                  exact ⟨none, 0, 0, rfl, IntsAt.nil _, fresh_none _, below_res_a hw5 (by omega) (by omega) _ _ _⟩
                · rw [hmet] at m0
                  go_wp2_with fail
                  obtain ⟨e0, e1⟩ := res_cells_a D3w (.int .i64 (o.at_ : Int)) (.slice (some ⟨g, 0, none⟩) m cap) (.cells #[.int .i64 (o.at_ : Int), .slice (some ⟨g, 0, none⟩) m cap] 29)
                  refine bodyPost_ret (v := .tuple #[.agg #[.int .i64 (o.at_ : Int), .slice (some ⟨g, 0, none⟩) m cap], .int .i64 (o.k : Int), .int .i64 0]) (by simp [results, Try.results9, go_sem, e0, e1]) rfl ?_
                  rw [HS.out, HO.out]
                  simp only [untilR, hmet]
                  exact ⟨some ⟨g, 0, none⟩, m, cap, rfl, HIA.out.resa (fresh_mk (by simp at hgg; omega)) _ _ _, fresh_mk (by simp at hgg; omega), below_res_a hw5 (by omega) (by omega) _ _ _⟩
end Go.Proofs.Ytonammaecpapmaa.Cn

/- Contracts: stopped, Step. -/
import Derived.Test.YtonammaecpapmaaCg
namespace Go.Proofs.Ytonammaecpapmaa.Cn
open Go.RowKit

set_option maxHeartbeats 400000 in
theorem stopped_any (R : Int) (b off n c a : Nat) (A' : Option Addr) (m d : Nat) (code : List Ins) (i : Ins) (w : World) (hc : CodeIn w b off code) (hn : code.length = n) (hi : code[a]? = some i) (hb : b < w.heap.size) :
    Calls Try.prog 18 #[.agg #[.int .i64 R, .slice (some ⟨b, off, none⟩) n c], .agg #[.int .i64 (a : Int), .slice A' m d]] w fun e w' => e = .returned (.bool (i.op == 2)) ∧ Below w.heap.size w w' := by
  obtain ⟨i0, i1, i2, i3⟩ := (hc.below (below2 w (.cells #[.int .i64 R, .slice (some ⟨b, off, none⟩) n c] 24) (.cells #[.int .i64 (a : Int), .slice A' m d] 29)) hb) a i hi
  have ha : a < n := by
    have := (List.getElem?_eq_some_iff.1 hi).1
    omega
  clear hc hn hi i1 i2 i3
  go_enter Try.func18, Try.ntmps18
  go_wp2_with fail
  go_ret
  exact ⟨rfl, below2 w _ _⟩

def stepS (R : Int) (code : List Ins) (at_ : Int) (rs : List Int) : Res :=
  if fitsB R code at_ rs = false then ⟨0, [], 0, 1⟩ else if stp code at_.toNat rs = none then ⟨0, [], 0, 5⟩ else runS R code at_ rs 1

def Stepped (w : World) (r : Res) (e : Ending) (w' : World) : Prop :=
  ∃ A n c, e = .returned (.tuple #[.agg #[.int .i64 r.at_, .slice A n c], .int .i64 r.err]) ∧ IntsAt w' w'.heap.size A n r.rs ∧ Fresh w.heap.size A ∧ Below w.heap.size w w'

theorem stp_none {R : Int} {code : List Ins} {a : Nat} {rs : List Int} {i : Ins} (hv : vCode R code = true) (hi : code[a]? = some i) : stp code a rs = none ↔ i.op = 2 := by
  have hop := vIns_op (vCode_ins hv hi)
  unfold stp
  rw [hi]
  rcases hop with h | h | h
  · simp only [h]; simp; split <;> simp
  · simp only [h]; simp; split <;> simp
  · simp [h]

set_option maxHeartbeats 1000000 in
theorem step_any (R at_ : Int) (A A' : Option Addr) (n c m d : Nat) (code : List Ins) (rs : List Int) (w : World) (hc : CodeAt w w.heap.size A n code) (hr : IntsAt w w.heap.size A' m rs) :
    Calls Try.prog 8 #[.agg #[.int .i64 R, .slice A n c], .agg #[.int .i64 at_, .slice A' m d]] w (Stepped w (stepS R code at_ rs)) := by
  cases hf : fitsB R code at_ rs
  · have HC := hid_ hc; clear hc
    have HR := hid_ hr; clear hr
    have HS : Hid (stepS R code at_ rs = ⟨0, [], 0, 1⟩) := by simp [Hid, stepS, hf]
    go_enter Try.func8, Try.ntmps8
    go_wp2_with fail
    refine (fits_any _ _ _ _ _ _ _ _ code rs _ (HC.out.to ((below2 w _ _).alloc (by simp; omega) _)) (HR.out.to ((below2 w _ _).alloc (by simp; omega) _))).mono ?_
    rintro e w1 ⟨rfl, hb1⟩
    obtain ⟨B1, B2, B3, hz, hw1⟩ := boxes3 hb1
    clear hb1
    have x0 := B3.cell 0
    have x1 := B3.cell 1
    have y0 := B3.free 0
    have y1 := B3.free 1
    simp at x0 x1
    have hxl := B3.lt
    go_wp2_with fail
    obtain ⟨e0, e1⟩ := res_cells B3 (.int .i64 0) (.slice none 0 0)
    refine bodyPost_ret (v := .tuple #[.agg #[.int .i64 0, .slice none 0 0], .int .i64 1]) (by simp [results, Try.results8, go_sem, e0, e1]) rfl ?_
    rw [HS.out]
    exact ⟨none, 0, 0, rfl, IntsAt.nil _, fresh_none _, below_res hw1 (by omega) _ _⟩
  · obtain ⟨hv, hg, hR, hat⟩ := fitsB_good hf
    have hln := hc.len
    obtain ⟨r1, r2, n1, n2⟩ := vCode_reg hv
    obtain ⟨i, hi⟩ : ∃ i, code[at_.toNat]? = some i := ⟨_, List.getElem?_eq_getElem hg.lt⟩
    have hst := stp_none (rs := rs) hv hi
    have HC := hid_ hc; clear hc
    have HR := hid_ hr; clear hr
    obtain ⟨an, rfl⟩ := Int.eq_ofNat_of_zero_le (show 0 ≤ at_ by have := hat; omega)
    simp only [Int.toNat_natCast] at hi hst
    obtain ⟨b, off, rfl, hbl, hin⟩ := HC.out.at_ (by omega)
    have HIN := hid_ hin; clear hin
    have HI := hid_ hi; clear hi
    have HLN := hid_ hln; clear hln
    clear hv hg hR hat
    by_cases ho : i.op = 2
    · have HS : Hid (stepS R code an rs = ⟨0, [], 0, 5⟩) := by simp [Hid, stepS, hf, hst.2 ho]
      clear hst
      go_enter Try.func8, Try.ntmps8
      go_wp2_with fail
      refine (fits_any _ _ _ _ _ _ _ _ code rs _ (HC.out.to ((below2 w _ _).alloc (by simp; omega) _)) (HR.out.to ((below2 w _ _).alloc (by simp; omega) _))).mono ?_
      rintro e w1 ⟨rfl, hb1⟩
      obtain ⟨B1, B2, B3, hz, hw1⟩ := boxes3 hb1
      clear hb1
      have p0 := B1.cell 0
      have p1 := B1.cell 1
      have c0 := B2.cell 0
      have c1 := B2.cell 1
      simp at p0 p1 c0 c1
      go_wp2_with fail
      refine (stopped_any R b off n c an _ m d code i _ (HIN.out.below hw1 hbl) HLN.out HI.out (Nat.lt_of_lt_of_le hbl hw1.size)).mono ?_
      rintro e w2 ⟨rfl, hb2⟩
      have D3 := B3.below hb2 (by omega)
      have x0 := D3.cell 0
      have x1 := D3.cell 1
      have y0 := D3.free 0
      have y1 := D3.free 1
      simp at x0 x1
      have hxl := D3.lt
      have hw2 := bnext hw1 hb2
      go_wp2_with fail
      obtain ⟨e0, e1⟩ := res_cells D3 (.int .i64 0) (.slice none 0 0)
      refine bodyPost_ret (v := .tuple #[.agg #[.int .i64 0, .slice none 0 0], .int .i64 5]) (by simp [results, Try.results8, go_sem, e0, e1]) rfl ?_
      rw [HS.out]
      exact ⟨none, 0, 0, rfl, IntsAt.nil _, fresh_none _, below_res hw2 (by omega) _ _⟩
    · have HS : Hid (stepS R code an rs = runS R code an rs 1) := by
        have : stp code an rs ≠ none := fun e => ho (hst.1 e)
        simp [Hid, stepS, hf, this]
      clear hst
      go_enter Try.func8, Try.ntmps8
      go_wp2_with fail
      refine (fits_any _ _ _ _ _ _ _ _ code rs _ (HC.out.to ((below2 w _ _).alloc (by simp; omega) _)) (HR.out.to ((below2 w _ _).alloc (by simp; omega) _))).mono ?_
      rintro e w1 ⟨rfl, hb1⟩
      obtain ⟨B1, B2, B3, hz, hw1⟩ := boxes3 hb1
      clear hb1
      have p0 := B1.cell 0
      have p1 := B1.cell 1
      have c0 := B2.cell 0
      have c1 := B2.cell 1
      simp at p0 p1 c0 c1
      go_wp2_with fail
      refine (stopped_any R b off n c an _ m d code i _ (HIN.out.below hw1 hbl) HLN.out HI.out (Nat.lt_of_lt_of_le hbl hw1.size)).mono ?_
      rintro e w2 ⟨rfl, hb2⟩
      replace p0 := keepc hb2 p0
      replace p1 := keepc hb2 p1
      replace c0 := keepc hb2 c0
      replace c1 := keepc hb2 c1
      have hw2 := bnext hw1 hb2
      go_wp2_with fail
      refine (run_any R an 1 _ _ n c m d code rs w2 (HC.out.to hw2) (HR.out.to hw2)).mono ?_
      rintro e w3 ⟨A3, n3, c3, rfl, hi3, hfr, hb3⟩
      have HFR := hid_ hfr; clear hfr
      have HI3 := hid_ hi3; clear hi3
      have D3 := (B3.below hb2 (by omega)).below hb3 (by have := hb2.size; omega)
      have x0 := D3.cell 0
      have x1 := D3.cell 1
      have y0 := D3.free 0
      have y1 := D3.free 1
      simp at x0 x1
      have hxl := D3.lt
      have hw3 := bnext hw2 hb3
      go_wp2_with fail
      have D4 := (D3.set_ 0 (.int .i64 (runS R code an rs 1).at_)).set_ 1 (.slice A3 n3 c3)
      have D5 := D4.alloc (.cells #[.int .i64 (runS R code an rs 1).at_, .slice A3 n3 c3] 29)
      have e0 := D5.cell 0
      have e1 := D5.cell 1
      simp at e0 e1
      refine bodyPost_ret (v := .tuple #[.agg #[.int .i64 (runS R code an rs 1).at_, .slice A3 n3 c3], .int .i64 (runS R code an rs 1).err]) (by simp [results, Try.results8, go_sem, e0, e1]) rfl ?_
      rw [HS.out]
      exact ⟨A3, n3, c3, rfl, HI3.out.resa (fresh_le HFR.out (by have := hb2.size; omega)) _ _ _, fresh_le HFR.out hw2.size, below_res_a hw3 (by omega) (by omega) _ _ _⟩
end Go.Proofs.Ytonammaecpapmaa.Cn

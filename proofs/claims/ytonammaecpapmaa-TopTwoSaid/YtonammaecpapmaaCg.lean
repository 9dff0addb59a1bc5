/- The contract of Run. -/
import Derived.Test.YtonammaecpapmaaCf
namespace Go.Proofs.Ytonammaecpapmaa.Cn
open Go.RowKit

/-- What Run returns: a state, a number of steps, an error. -/
structure Res where
  at_ : Int
  rs : List Int
  k : Int
  err : Int

def resOf : Option Out → Res
  | none => ⟨0, [], 0, 4⟩
  | some o => ⟨o.at_, o.rs, o.k, 0⟩

def runS (R : Int) (code : List Ins) (at_ : Int) (rs : List Int) (N : Int) : Res :=
  if fitsB R code at_ rs = false then ⟨0, [], 0, 1⟩ else if N < 0 ∨ 1000000 < N then ⟨0, [], 0, 2⟩ else resOf (walkC code (fun _ => false) N.toNat at_.toNat rs)

/-- New memory. -/
def Fresh (B : Nat) (A : Option Addr) : Prop := ∀ a, A = some a → B ≤ a.block
theorem fresh_none (B : Nat) : Fresh B none := fun _ h => by cases h
theorem fresh_mk {B g j : Nat} (h : B ≤ g) : Fresh B (some ⟨g, j, none⟩) := fun a e => by cases e; exact h
theorem fresh_le {B B' : Nat} {A : Option Addr} (h : Fresh B A) (hB : B' ≤ B) : Fresh B' A := fun a e => Nat.le_trans hB (h a e)
theorem IntsAt.same {w w' : World} {A : Option Addr} {n : Nat} {xs : List Int} (h : IntsAt w w.heap.size A n xs) (hs : w.heap.size ≤ w'.heap.size) (hk : ∀ a, A = some a → a.block < w.heap.size → w'.heap[a.block]? = w.heap[a.block]?) : IntsAt w' w'.heap.size A n xs :=
  ⟨h.len, fun hn => by
    obtain ⟨b, off, rfl, hlt, hc⟩ := h.at_ hn
    exact ⟨b, off, rfl, by omega, fun k x hx => (World.cell?_of_block (a := ⟨b, off + k, none⟩) (hk ⟨b, off, none⟩ rfl hlt)).trans (hc k x hx)⟩⟩
/-- A box of a result is written: a slice in newer memory stays. -/
theorem IntsAt.resa {w : World} {A : Option Addr} {n q : Nat} {xs : List Int} (h : IntsAt w w.heap.size A n xs) (hf : Fresh (q + 1) A) (u v : Value) (o : Obj) :
    IntsAt (((w.setCell ⟨q, 0, none⟩ u).setCell ⟨q, 1, none⟩ v).alloc o) (((w.setCell ⟨q, 0, none⟩ u).setCell ⟨q, 1, none⟩ v).alloc o).heap.size A n xs :=
  h.same (by simp [World.setCell]) fun a ha hlt => by
    have := hf a ha
    exact (Below.heap_alloc _ o _ (by simpa [World.setCell] using hlt)).trans ((Below.heap_setCell _ _ _ _ (by simp; omega)).trans (Below.heap_setCell _ _ _ _ (by simp; omega)))

/-- A call that returns a state (new memory), a number and an error. -/
def Ran (w : World) (r : Res) (e : Ending) (w' : World) : Prop :=
  ∃ A n c, e = .returned (.tuple #[.agg #[.int .i64 r.at_, .slice A n c], .int .i64 r.k, .int .i64 r.err]) ∧ IntsAt w' w'.heap.size A n r.rs ∧ Fresh w.heap.size A ∧ Below w.heap.size w w'

theorem IntsAt.res {w : World} {g q m : Nat} {xs : List Int} (h : IntsAt w w.heap.size (some ⟨g, 0, none⟩) m xs) (hm : 0 < m) (hq : g ≠ q) (u v : Value) :
    IntsAt ((w.setCell ⟨q, 0, none⟩ u).setCell ⟨q, 1, none⟩ v) ((w.setCell ⟨q, 0, none⟩ u).setCell ⟨q, 1, none⟩ v).heap.size (some ⟨g, 0, none⟩) m xs := by
  obtain ⟨b, off, e, hlt, hc⟩ := h.at_ hm
  simp only [Option.some.injEq, Addr.mk.injEq, and_true] at e
  obtain ⟨rfl, rfl⟩ := e
  refine ⟨h.len, fun _ => ⟨g, 0, rfl, by simpa [World.setCell] using hlt, fun k x hx => ?_⟩⟩
  rw [World.cell?_of_block (a := ⟨g, 0 + k, none⟩) ((Below.heap_setCell _ _ _ _ hq).trans (Below.heap_setCell _ _ _ _ hq))]
  exact hc k x hx
theorem IntsAt.nil (w : World) : IntsAt w w.heap.size none 0 [] := ⟨rfl, fun h => absurd h (by omega)⟩

theorem run1_any (x : Int) (w : World) : Calls Try.prog 37 #[.int .i64 x] w fun e w' => e = .returned (.bool false) ∧ w = w' := by
  go_enter Try.func37, Try.ntmps37
  go_wp2_with fail
  go_ret
  exact ⟨rfl, rfl⟩

theorem enter31 (args : Array Value) (w : World) : (callFunc 37 args).run Try.prog w = .ok (.enter 37 args) w := by kernel_rfl

theorem ends_run (len B : Nat) : Ends 37 #[] (fun _ => false) len B none (fun _ _ => True) where
  call a b w _ _ _ := (run1_any a w).mono fun e w' ⟨he, hw⟩ => ⟨he, trivial, by subst hw; exact World.grownBy.refl w none⟩
  keep _ _ _ _ _ := trivial
  enter := enter31

set_option maxHeartbeats 1000000 in
theorem run_any (R at_ N : Int) (A A' : Option Addr) (n c m d : Nat) (code : List Ins) (rs : List Int) (w : World) (hc : CodeAt w w.heap.size A n code) (hr : IntsAt w w.heap.size A' m rs) :
    Calls Try.prog 19 #[.agg #[.int .i64 R, .slice A n c], .agg #[.int .i64 at_, .slice A' m d], .int .i64 N] w (Ran w (runS R code at_ rs N)) := by
  cases hf : fitsB R code at_ rs
  · have HC := hid_ hc; clear hc
    have HR := hid_ hr; clear hr
    have HS : Hid (runS R code at_ rs N = ⟨0, [], 0, 1⟩) := by simp [Hid, runS, hf]
    go_enter Try.func19, Try.ntmps19
    go_wp2_with fail
    refine (fits_any _ _ _ _ _ _ _ _ code rs _ (HC.out.to ((below2 w _ _).alloc (by simp; omega) _)) (HR.out.to ((below2 w _ _).alloc (by simp; omega) _))).mono ?_
    rintro e w1 ⟨rfl, hb1⟩
    obtain ⟨B1, B2, B3, hz, hw1⟩ := boxes3 hb1
    clear hb1
    have x0 := B3.cell 0
    have x1 := B3.cell 1
    have y0 := B3.free 0
    have y1 := B3.free 1
    simp at x0 x1
    have hxl := B3.lt
    go_wp2_with fail
    obtain ⟨e0, e1⟩ := res_cells B3 (.int .i64 0) (.slice none 0 0)
    refine bodyPost_ret (v := .tuple #[.agg #[.int .i64 0, .slice none 0 0], .int .i64 0, .int .i64 1]) (by simp [results, Try.results19, go_sem, e0, e1]) rfl ?_
    rw [HS.out]
    exact ⟨none, 0, 0, rfl, IntsAt.nil _, fresh_none _, below_res hw1 (by omega) _ _⟩
  · obtain ⟨hv, hg, hR, hat⟩ := fitsB_good hf
    have hlm := hr.len
    have hln := hc.len
    obtain ⟨r1, r2, n1, n2⟩ := vCode_reg hv
    have HC := hid_ hc; clear hc
    have HR := hid_ hr; clear hr
    by_cases hN0 : N < 0
    · have HS : Hid (runS R code at_ rs N = ⟨0, [], 0, 2⟩) := by simp [Hid, runS, hf, hN0]
      go_enter Try.func19, Try.ntmps19
      go_wp2_with fail
      refine (fits_any _ _ _ _ _ _ _ _ code rs _ (HC.out.to ((below2 w _ _).alloc (by simp; omega) _)) (HR.out.to ((below2 w _ _).alloc (by simp; omega) _))).mono ?_
      rintro e w1 ⟨rfl, hb1⟩
      obtain ⟨B1, B2, B3, hz, hw1⟩ := boxes3 hb1
      clear hb1
      have x0 := B3.cell 0
      have x1 := B3.cell 1
      have y0 := B3.free 0
      have y1 := B3.free 1
      simp at x0 x1
      have hxl := B3.lt
      go_wp2_with fail
      obtain ⟨e0, e1⟩ := res_cells B3 (.int .i64 0) (.slice none 0 0)
      refine bodyPost_ret (v := .tuple #[.agg #[.int .i64 0, .slice none 0 0], .int .i64 0, .int .i64 2]) (by simp [results, Try.results19, go_sem, e0, e1]) rfl ?_
      rw [HS.out]
      exact ⟨none, 0, 0, rfl, IntsAt.nil _, fresh_none _, below_res hw1 (by omega) _ _⟩
    by_cases hN1 : 1000000 < N
    · have HS : Hid (runS R code at_ rs N = ⟨0, [], 0, 2⟩) := by simp [Hid, runS, hf, hN1]
      go_enter Try.func19, Try.ntmps19
      go_wp2_with fail
      refine (fits_any _ _ _ _ _ _ _ _ code rs _ (HC.out.to ((below2 w _ _).alloc (by simp; omega) _)) (HR.out.to ((below2 w _ _).alloc (by simp; omega) _))).mono ?_
      rintro e w1 ⟨rfl, hb1⟩
      obtain ⟨B1, B2, B3, hz, hw1⟩ := boxes3 hb1
      clear hb1
      have x0 := B3.cell 0
      have x1 := B3.cell 1
      have y0 := B3.free 0
      have y1 := B3.free 1
      simp at x0 x1
      have hxl := B3.lt
      go_wp2_with fail
      obtain ⟨e0, e1⟩ := res_cells B3 (.int .i64 0) (.slice none 0 0)
      refine bodyPost_ret (v := .tuple #[.agg #[.int .i64 0, .slice none 0 0], .int .i64 0, .int .i64 2]) (by simp [results, Try.results19, go_sem, e0, e1]) rfl ?_
      rw [HS.out]
      exact ⟨none, 0, 0, rfl, IntsAt.nil _, fresh_none _, below_res hw1 (by omega) _ _⟩
    obtain ⟨Nn, rfl⟩ := Int.eq_ofNat_of_zero_le (show 0 ≤ N by omega)
    obtain ⟨Rn, rfl⟩ := Int.eq_ofNat_of_zero_le (show 0 ≤ R by omega)
    obtain ⟨an, rfl⟩ := Int.eq_ofNat_of_zero_le (show 0 ≤ at_ by have := hat; omega)
    simp only [Int.toNat_natCast] at hg hR hat
    have hmR : m = Rn := by rw [← hlm, hg.len]
    obtain ⟨b, off, rfl, hbl, hin⟩ := HC.out.at_ (by omega)
    obtain ⟨b2, off2, rfl, hbl2, hin2⟩ := HR.out.at_ (by omega)
    have HS : Hid (runS Rn code an rs Nn = resOf (walkC code (fun _ => false) Nn an rs)) := by
      have h1 : ¬ ((Nn : Int) < 0 ∨ 1000000 < (Nn : Int)) := by omega
      simp only [Hid, runS, hf, if_neg h1]
      simp
    have HV := hid_ hv; clear hv
    have HG := hid_ hg; clear hg
    have HI := hid_ hin; clear hin
    have HI2 := hid_ hin2; clear hin2
    have hm0 : 0 < m := by omega
    have HM := hid_ hmR; clear hmR
    have HLN := hid_ hln; clear hln
    clear hlm hR hat
    go_enter Try.func19, Try.ntmps19
    go_wp2_with fail
    refine (fits_any _ _ _ _ _ _ _ _ code rs _ (HC.out.to ((below2 w _ _).alloc (by simp; omega) _)) (HR.out.to ((below2 w _ _).alloc (by simp; omega) _))).mono ?_
    rintro e w1 ⟨rfl, hb1⟩
    obtain ⟨B1, B2, B3, hz, hw1⟩ := boxes3 hb1
    clear hb1
    have p0 := B1.cell 0
    have p1 := B1.cell 1
    have c0 := B2.cell 0
    have c1 := B2.cell 1
    simp at p0 p1 c0 c1
    go_wp2_with fail
    refine (walk_any Rn b off n c b2 off2 m d an Nn 37 #[] (fun _ => false) none (fun _ _ => True) code rs w1 HV.out HG.out HLN.out HM.out (Nat.lt_of_lt_of_le hbl hw1.size) (by simp) (HI.out.below hw1 hbl)
      (Nat.lt_of_lt_of_le hbl2 hw1.size) (HI2.out.below hw1 hbl2) (by omega) (by simp) (ends_run _ _) trivial).mono ?_
    rintro e w2 ⟨hg2, hq⟩
    have hb2 : Below w1.heap.size w1 w2 := ⟨hg2.os, hg2.tape, hg2.output, hg2.size, fun k hk => hg2.block k hk (by simp)⟩
    have D3 := B3.below hb2 (by omega)
    have x0 := D3.cell 0
    have x1 := D3.cell 1
    have y0 := D3.free 0
    have y1 := D3.free 1
    simp at x0 x1
    have hxl := D3.lt
    have hw2 := bnext hw1 hb2
    cases ho : walkC code (fun _ => false) Nn an rs with
    | none =>
      rw [ho] at hq
      simp only at hq
      subst hq
      have HO := hid_ ho; clear ho
      go_wp2_with fail
      obtain ⟨e0, e1⟩ := res_cells D3 (.int .i64 0) (.slice none 0 0)
      refine bodyPost_ret (v := .tuple #[.agg #[.int .i64 0, .slice none 0 0], .int .i64 0, .int .i64 4]) (by simp [results, Try.results19, go_sem, e0, e1]) rfl ?_
      rw [HS.out, HO.out]
      exact ⟨none, 0, 0, rfl, IntsAt.nil _, fresh_none _, below_res hw2 (by omega) _ _⟩
    | some o =>
      rw [ho] at hq
      obtain ⟨g, cap, rfl, hgg, hia, _⟩ := hq
      have HO := hid_ ho; clear ho
      have HIA := hid_ hia; clear hia
      go_wp2_with fail
      obtain ⟨e0, e1⟩ := res_cells D3 (.int .i64 (o.at_ : Int)) (.slice (some ⟨g, 0, none⟩) m cap)
      refine bodyPost_ret (v := .tuple #[.agg #[.int .i64 (o.at_ : Int), .slice (some ⟨g, 0, none⟩) m cap], .int .i64 (o.k : Int), .int .i64 0]) (by simp [results, Try.results19, go_sem, e0, e1]) rfl ?_
      rw [HS.out, HO.out]
      refine ⟨some ⟨g, 0, none⟩, m, cap, rfl, ?_, fresh_mk (by omega), below_res hw2 (by omega) _ _⟩
      exact HIA.out.res (by omega) (by omega) _ _
end Go.Proofs.Ytonammaecpapmaa.Cn

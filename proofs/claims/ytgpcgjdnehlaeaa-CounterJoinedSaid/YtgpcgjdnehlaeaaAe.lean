/- The contract of Join where an argument is not valid. -/
import Derived.Test.YtgpcgjdnehlaeaaAc
namespace Go.Proofs.Ytgpcgjdnehlaeaa
open Go.RowKit

set_option maxRecDepth 100000 in
set_option maxHeartbeats 4000000 in
theorem join_bad1 (R1 R2 : Int) (A1 A2 : Option Addr) (n1 c1 n2 c2 : Nat) (a : List Ins) (w : World) (h1 : CodeAt w w.heap.size A1 n1 a) (hv1 : vCode R1 a = false) :
    Calls Try.prog 21 #[.agg #[.int .i64 R1, .slice A1 n1 c1], .agg #[.int .i64 R2, .slice A2 n2 c2]] w fun e w' => e = .returned (.tuple #[.agg #[.int .i64 0, .slice none 0 0], .int .i64 1]) ∧ Below w.heap.size w w' := by
  have H1 := hid_ h1; clear h1
  have V1 := hid_ hv1; clear hv1
  go_enter Try.func21, Try.ntmps21
  go_wp2_with fail
  refine (valid_any _ _ _ _ a _ (H1.out.to ((below2 w _ _).alloc (by simp; omega) _))).mono ?_
  rw [V1.out]
  rintro e w1 ⟨rfl, hb1⟩
  obtain ⟨B1, B2, B3, hz, hw1⟩ := boxes3 hb1
  have x0 := B3.cell 0
  have x1 := B3.cell 1
  have y0 := B3.free 0
  have y1 := B3.free 1
  simp at x0 x1
  go_wp2_with fail
  obtain ⟨e0, e1⟩ := res_cells B3 (.int .i64 0) (.slice none 0 0)
  refine bodyPost_ret (v := .tuple #[.agg #[.int .i64 0, .slice none 0 0], .int .i64 1]) (by simp [results, Try.results21, go_sem, e0, e1]) rfl ?_
  exact ⟨rfl, below_res hw1 (by omega) _ _⟩

set_option maxRecDepth 100000 in
set_option maxHeartbeats 4000000 in
theorem join_bad2 (R1 R2 : Int) (A1 A2 : Option Addr) (n1 c1 n2 c2 : Nat) (a b : List Ins) (w : World) (h1 : CodeAt w w.heap.size A1 n1 a) (h2 : CodeAt w w.heap.size A2 n2 b) (hv1 : vCode R1 a = true) (hv2 : vCode R2 b = false) :
    Calls Try.prog 21 #[.agg #[.int .i64 R1, .slice A1 n1 c1], .agg #[.int .i64 R2, .slice A2 n2 c2]] w fun e w' => e = .returned (.tuple #[.agg #[.int .i64 0, .slice none 0 0], .int .i64 1]) ∧ Below w.heap.size w w' := by
  have H1 := hid_ h1; clear h1
  have H2 := hid_ h2; clear h2
  have V1 := hid_ hv1; clear hv1
  have V2 := hid_ hv2; clear hv2
  go_enter Try.func21, Try.ntmps21
  go_wp2_with fail
  refine (valid_any _ _ _ _ a _ (H1.out.to ((below2 w _ _).alloc (by simp; omega) _))).mono ?_
  rw [V1.out]
  rintro e w1 ⟨rfl, hb1⟩
  obtain ⟨B1, B2, B3, hz, hw1⟩ := boxes3 hb1
  have q0 := B2.cell 0
  have q1 := B2.cell 1
  simp at q0 q1
  go_wp2_with fail
  refine (valid_any _ _ _ _ b _ (H2.out.to hw1)).mono ?_
  rw [V2.out]
  rintro e w2 ⟨rfl, hb2⟩
  have C3 := B3.below hb2 (by omega)
  have hw2 := bnext hw1 hb2
  have x0 := C3.cell 0
  have x1 := C3.cell 1
  have y0 := C3.free 0
  have y1 := C3.free 1
  simp at x0 x1
  have hz2 : w.heap.size + 1 + 1 < w2.heap.size := by have := hb2.size; omega
  go_wp2_with fail
  obtain ⟨e0, e1⟩ := res_cells C3 (.int .i64 0) (.slice none 0 0)
  refine bodyPost_ret (v := .tuple #[.agg #[.int .i64 0, .slice none 0 0], .int .i64 1]) (by simp [results, Try.results21, go_sem, e0, e1]) rfl ?_
  exact ⟨rfl, below_res hw2 (by omega) _ _⟩
end Go.Proofs.Ytgpcgjdnehlaeaa

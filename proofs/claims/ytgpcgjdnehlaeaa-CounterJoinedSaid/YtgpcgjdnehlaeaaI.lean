/- Contracts: Moves, awake. -/
import Derived.Test.YtgpcgjdnehlaeaaH
namespace Go.Proofs.Ytgpcgjdnehlaeaa
open Go.RowKit

def movesC : List Ins := [⟨1, 0, 1, 2⟩, ⟨0, 1, 0, 0⟩, ⟨2, 0, 0, 0⟩]
theorem moves_run : runS 2 movesC 0 [3, 4] 100 = ⟨2, [0, 7], 7, 0⟩ := by rfl

theorem moves_code (w : World) (o : Obj) (B : Nat) (hB : w.heap.size + 1 < B) : CodeAt ((w.alloc o).alloc (.cells #[.int .i64 1, .int .i64 0, .int .i64 1, .int .i64 2, .int .i64 0, .int .i64 1, .int .i64 0, .int .i64 0, .int .i64 2, .int .i64 0, .int .i64 0, .int .i64 0] 50)) B (some ⟨w.heap.size + 1, 0, none⟩) 3 movesC := by
  refine ⟨rfl, fun _ => ⟨w.heap.size + 1, 0, rfl, hB, fun k i hk => ?_⟩⟩
  have hb : Blk ((w.alloc o).alloc (.cells #[.int .i64 1, .int .i64 0, .int .i64 1, .int .i64 2, .int .i64 0, .int .i64 1, .int .i64 0, .int .i64 0, .int .i64 2, .int .i64 0, .int .i64 0, .int .i64 0] 50)) (w.heap.size + 1) 50 #[.int .i64 1, .int .i64 0, .int .i64 1, .int .i64 2, .int .i64 0, .int .i64 1, .int .i64 0, .int .i64 0, .int .i64 2, .int .i64 0, .int .i64 0, .int .i64 0] := by
    have := Blk.new (w.alloc o) 50 #[.int .i64 1, .int .i64 0, .int .i64 1, .int .i64 2, .int .i64 0, .int .i64 1, .int .i64 0, .int .i64 0, .int .i64 2, .int .i64 0, .int .i64 0, .int .i64 0]
    simpa using this
  rw [hb.cell, hb.cell, hb.cell, hb.cell]
  match k, hk with
  | 0, hk => simp [movesC] at hk; subst hk; exact ⟨rfl, rfl, rfl, rfl⟩
  | 1, hk => simp [movesC] at hk; subst hk; exact ⟨rfl, rfl, rfl, rfl⟩
  | 2, hk => simp [movesC] at hk; subst hk; exact ⟨rfl, rfl, rfl, rfl⟩
  | k + 3, hk => simp [movesC] at hk

set_option maxHeartbeats 400000 in
theorem moves_any (w : World) : Calls Try.prog 25 #[] w fun e w' => e = .returned (.agg #[.int .i64 2, .slice (some ⟨w.heap.size + 1, 0, none⟩) 3 3]) ∧ CodeAt w' w'.heap.size (some ⟨w.heap.size + 1, 0, none⟩) 3 movesC ∧ Below w.heap.size w w' := by
  go_enter Try.func25, Try.ntmps25
  go_wp2_with fail
  exact bodyPost_ret (v := .agg #[.int .i64 2, .slice (some ⟨w.heap.size + 1, 0, none⟩) 3 3]) (by simp [results, Try.results25, go_sem]) rfl
    ⟨rfl, moves_code w _ _ (by simp), below2 w _ _⟩

theorem ints_two (w : World) (x y : Int) : IntsAt (w.alloc (.cells #[.int .i64 x, .int .i64 y] 3)) (w.alloc (.cells #[.int .i64 x, .int .i64 y] 3)).heap.size (some ⟨w.heap.size, 0, none⟩) 2 [x, y] := by
  refine ⟨rfl, fun _ => ⟨w.heap.size, 0, rfl, by simp, fun k z hk => ?_⟩⟩
  rw [(Blk.new w 3 #[.int .i64 x, .int .i64 y]).cell]
  match k, hk with
  | 0, hk => simp at hk; subst hk; rfl
  | 1, hk => simp at hk; subst hk; rfl
  | k + 2, hk => simp at hk

set_option maxHeartbeats 1000000 in
theorem awake_any (w : World) : Calls Try.prog 9 #[] w fun e w' => e = .returned (.bool true) ∧ Below w.heap.size w w' := by
  go_enter Try.func9, Try.ntmps9
  go_wp2_with fail
  refine (moves_any _).mono ?_
  rintro e w1 ⟨rfl, hc, hb1⟩
  have HC := hid_ hc; clear hc
  go_wp2_with fail
  refine (run_any 2 0 100 _ _ 3 3 2 2 movesC [3, 4] _ (HC.out.to ((Below.refl _ w1).alloc (Nat.le_refl _) _)) (ints_two w1 3 4)).mono ?_
  rw [moves_run]
  rintro e w2 ⟨A, n, c, rfl, hi, _, hb2⟩
  have HI := hid_ hi; clear hi
  have hz := bsize1 hb2
  have hbb := bnext hb1 (((Below.refl _ w1).alloc (Nat.le_refl _) _).trans (hb2.mono (by simp)))
  go_wp2_with fail
  have hI2 := ints_two (w2.alloc (.cells #[.int .i64 2, .slice A n c] 27)) 0 7
  rw [show (w2.alloc (.cells #[.int .i64 2, .slice A n c] 27)).heap.size = w2.heap.size + 1 by simp] at hI2
  refine (same_any 2 2 A _ n 2 c 2 [0, 7] [0, 7] _ (HI.out.to (below2 w2 _ _)) hI2 (by have := HI.out.len; simp at this; omega)).mono ?_
  rintro e w3 ⟨rfl, hb3⟩
  have hs : sameB 2 [0, 7] 2 [0, 7] = true := by decide
  have hb4 := bnext hbb ((below2 w2 _ _).trans (hb3.mono (by simp; omega)))
  go_wp2_with fail
  go_ret
  exact ⟨rfl, hb4⟩
end Go.Proofs.Ytgpcgjdnehlaeaa

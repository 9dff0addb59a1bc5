/- Contracts: Moves, awake. -/
import Derived.Test.YtckabinmmficlaaCh
namespace Go.Proofs.Ytckabinmmficlaa.Cn
open Go.RowKit

def movesC : List Ins := [⟨1, 0, 1, 2⟩, ⟨0, 1, 0, 0⟩, ⟨2, 0, 0, 0⟩]
theorem moves_run : runS 2 movesC 0 [3, 4] 100 = ⟨2, [0, 7], 7, 0⟩ := by rfl

theorem moves_code (w : World) (o : Obj) (B : Nat) (hB : w.heap.size + 1 < B) : CodeAt ((w.alloc o).alloc (.cells #[.int .i64 1, .int .i64 0, .int .i64 1, .int .i64 2, .int .i64 0, .int .i64 1, .int .i64 0, .int .i64 0, .int .i64 2, .int .i64 0, .int .i64 0, .int .i64 0] 45)) B (some ⟨w.heap.size + 1, 0, none⟩) 3 movesC := by
  refine ⟨rfl, fun _ => ⟨w.heap.size + 1, 0, rfl, hB, fun k i hk => ?_⟩⟩
  have hb : Blk ((w.alloc o).alloc (.cells #[.int .i64 1, .int .i64 0, .int .i64 1, .int .i64 2, .int .i64 0, .int .i64 1, .int .i64 0, .int .i64 0, .int .i64 2, .int .i64 0, .int .i64 0, .int .i64 0] 45)) (w.heap.size + 1) 45 #[.int .i64 1, .int .i64 0, .int .i64 1, .int .i64 2, .int .i64 0, .int .i64 1, .int .i64 0, .int .i64 0, .int .i64 2, .int .i64 0, .int .i64 0, .int .i64 0] := by
    have := Blk.new (w.alloc o) 45 #[.int .i64 1, .int .i64 0, .int .i64 1, .int .i64 2, .int .i64 0, .int .i64 1, .int .i64 0, .int .i64 0, .int .i64 2, .int .i64 0, .int .i64 0, .int .i64 0]
    simpa using this
  rw [hb.cell, hb.cell, hb.cell, hb.cell]
  match k, hk with
  | 0, hk => simp [movesC] at hk; subst hk; exact ⟨rfl, rfl, rfl, rfl⟩
  | 1, hk => simp [movesC] at hk; subst hk; exact ⟨rfl, rfl, rfl, rfl⟩
  | 2, hk => simp [movesC] at hk; subst hk; exact ⟨rfl, rfl, rfl, rfl⟩
  | k + 3, hk => simp [movesC] at hk

set_option maxHeartbeats 400000 in
theorem moves_any (w : World) : Calls Try.prog 20 #[] w fun e w' => e = .returned (.agg #[.int .i64 2, .slice (some ⟨w.heap.size + 1, 0, none⟩) 3 3]) ∧ CodeAt w' w'.heap.size (some ⟨w.heap.size + 1, 0, none⟩) 3 movesC ∧ Below w.heap.size w w' := by
  go_enter Try.func20, Try.ntmps20
  go_wp2_with fail
  exact bodyPost_ret (v := .agg #[.int .i64 2, .slice (some ⟨w.heap.size + 1, 0, none⟩) 3 3]) (by simp [results, Try.results20, go_sem]) rfl
    ⟨rfl, moves_code w _ _ (by simp), below2 w _ _⟩

theorem ints_two (w : World) (x y : Int) : IntsAt (w.alloc (.cells #[.int .i64 x, .int .i64 y] 3)) (w.alloc (.cells #[.int .i64 x, .int .i64 y] 3)).heap.size (some ⟨w.heap.size, 0, none⟩) 2 [x, y] := by
  refine ⟨rfl, fun _ => ⟨w.heap.size, 0, rfl, by simp, fun k z hk => ?_⟩⟩
  rw [(Blk.new w 3 #[.int .i64 x, .int .i64 y]).cell]
  match k, hk with
  | 0, hk => simp at hk; subst hk; rfl
  | 1, hk => simp at hk; subst hk; rfl
  | k + 2, hk => simp at hk

end Go.Proofs.Ytckabinmmficlaa.Cn

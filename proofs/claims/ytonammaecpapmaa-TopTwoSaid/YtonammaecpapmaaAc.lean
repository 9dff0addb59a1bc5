/- Contracts: prime, primes, Contents, same. -/
import Derived.Test.YtonammaecpapmaaAb
namespace Go.Proofs.Ytonammaecpapmaa.Pp
open Go.RowKit

set_option maxRecDepth 100000 in
theorem prime_any (i : Nat) (h : i < 6) (w : World) : Calls Try.prog 16 #[.int .i64 (i : Int)] w fun e w' => e = .returned (.int .i64 (primeN i : Int)) ∧ w' = w := by
  match i, h with
  | 0, _ =>
    have hix : ∀ X : World, (Instr.index 83 (.agg #[.int .i64 2, .int .i64 3, .int .i64 5, .int .i64 7, .int .i64 11, .int .i64 13]) (.int .i64 0)).run Try.prog X = .ok (.int .i64 2) X := fun X => by
      simp [Instr.index, run_underlying Try.underlying83, asIntOf, go_sem]
    go_enter Try.func16, Try.ntmps16
    go_wp2_with fail
    go_ret
    exact ⟨rfl, rfl⟩
  | 1, _ =>
    have hix : ∀ X : World, (Instr.index 83 (.agg #[.int .i64 2, .int .i64 3, .int .i64 5, .int .i64 7, .int .i64 11, .int .i64 13]) (.int .i64 1)).run Try.prog X = .ok (.int .i64 3) X := fun X => by
      simp [Instr.index, run_underlying Try.underlying83, asIntOf, go_sem]
    go_enter Try.func16, Try.ntmps16
    go_wp2_with fail
    go_ret
    exact ⟨rfl, rfl⟩
  | 2, _ =>
    have hix : ∀ X : World, (Instr.index 83 (.agg #[.int .i64 2, .int .i64 3, .int .i64 5, .int .i64 7, .int .i64 11, .int .i64 13]) (.int .i64 2)).run Try.prog X = .ok (.int .i64 5) X := fun X => by
      simp [Instr.index, run_underlying Try.underlying83, asIntOf, go_sem]
    go_enter Try.func16, Try.ntmps16
    go_wp2_with fail
    go_ret
    exact ⟨rfl, rfl⟩
  | 3, _ =>
    have hix : ∀ X : World, (Instr.index 83 (.agg #[.int .i64 2, .int .i64 3, .int .i64 5, .int .i64 7, .int .i64 11, .int .i64 13]) (.int .i64 3)).run Try.prog X = .ok (.int .i64 7) X := fun X => by
      simp [Instr.index, run_underlying Try.underlying83, asIntOf, go_sem]
    go_enter Try.func16, Try.ntmps16
    go_wp2_with fail
    go_ret
    exact ⟨rfl, rfl⟩
  | 4, _ =>
    have hix : ∀ X : World, (Instr.index 83 (.agg #[.int .i64 2, .int .i64 3, .int .i64 5, .int .i64 7, .int .i64 11, .int .i64 13]) (.int .i64 4)).run Try.prog X = .ok (.int .i64 11) X := fun X => by
      simp [Instr.index, run_underlying Try.underlying83, asIntOf, go_sem]
    go_enter Try.func16, Try.ntmps16
    go_wp2_with fail
    go_ret
    exact ⟨rfl, rfl⟩
  | 5, _ =>
    have hix : ∀ X : World, (Instr.index 83 (.agg #[.int .i64 2, .int .i64 3, .int .i64 5, .int .i64 7, .int .i64 11, .int .i64 13]) (.int .i64 5)).run Try.prog X = .ok (.int .i64 13) X := fun X => by
      simp [Instr.index, run_underlying Try.underlying83, asIntOf, go_sem]
    go_enter Try.func16, Try.ntmps16
    go_wp2_with fail
    go_ret
    exact ⟨rfl, rfl⟩

def contB (l : List Int) : Bool := l.all (fun x => decide (0 ≤ x)) && decide (1 ≤ l.length) && decide (l.length ≤ 6)

end Go.Proofs.Ytonammaecpapmaa.Pp

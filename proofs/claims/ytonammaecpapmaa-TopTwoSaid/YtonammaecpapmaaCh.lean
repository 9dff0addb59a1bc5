/- Contracts: SameCount, In, wide. -/
import Derived.Test.YtonammaecpapmaaCg
namespace Go.Proofs.Ytonammaecpapmaa.Cn
open Go.RowKit

def sameB (a : Int) (xs : List Int) (b : Int) (ys : List Int) : Bool := decide (a = b ∧ xs = ys)

theorem take_eq_step {xs ys : List Int} {k : Nat} {x : Int} (hx : xs[k]? = some x) (hy : ys[k]? = some x) (h : xs.take k = ys.take k) : xs.take (k + 1) = ys.take (k + 1) := by
  rw [List.take_add_one, List.take_add_one, h, hx, hy]

def memB (x : Int) (l : List Int) : Bool := l.contains x
theorem memB_step {x y : Int} {l : List Int} {k : Nat} (hy : l[k]? = some y) (h : (l.take k).contains x = false) (hne : y ≠ x) : (l.take (k + 1)).contains x = false := by
  rw [List.take_add_one, hy]
  simp at h ⊢
  exact ⟨h, fun e => hne e.symm⟩

end Go.Proofs.Ytonammaecpapmaa.Cn

/- Arguments opened: slices of integers, with bounds. -/
import Derived.Test.YtonammaecpapmaaGa
import Derived.Test.YtonammaecpapmaaCq
namespace Go.Proofs.Ytonammaecpapmaa.Pp
open Go.ChangeShapes Go.WideShapes Go.ChangeAt Go.RowKit Go.Joins

theorem Try.own : ownKnob Try.prog.godebug = none := by kernel_rfl
theorem Try.laidOut : laidOutB Try.prog = true := by kernel_rfl
theorem Try.cellsI : Try.prog.cellsOf 3 = 1 := by kernel_rfl
theorem Try.bytesI : Try.prog.bytesOf 3 = 8 := by kernel_rfl
theorem i64_bounds {x : Int} (h : (Lit.int .i64 x).wf = true) : -9223372036854775808 ≤ x ∧ x ≤ 9223372036854775807 := by
  simp [Lit.wf, IntKind.min, IntKind.max, IntKind.signed, IntKind.bits] at h
  omega
theorem u8_bounds {x : Int} (h : (Lit.int .u8 x).wf = true) : 0 ≤ x ∧ x ≤ 255 := by
  simp [Lit.wf, IntKind.min, IntKind.max, IntKind.signed, IntKind.bits] at h
  omega
section
variable {H : Type} {enc : TypeId × Value → H} {W : World} {base b0 : Nat} {spare : Nat → Bool} {held : Bool} {r : Reach} {v : Value} {d : DataW H} {p : List MemPlace}
set_option maxRecDepth 100000 in
theorem slice_open (hv : Value.okWide Try.prog W r b0 25 v) (h : DataW.Trod enc Try.prog W base spare held 25 v d p) (hl : Light Try.prog 25 d) : ∃ xs : List Int, Elems W W.heap.size v (ints xs) ∧ xs.length ≤ 17592186044416 ∧ ∀ x ∈ xs, -9223372036854775808 ≤ x ∧ x ≤ 9223372036854775807 := by
  obtain ⟨a0, len, cap, rfl⟩ := okWide_slice Try.underlying25 hv
  obtain ⟨fuel, hf⟩ := h
  obtain ⟨us, h1, h2, h3⟩ := open_cells (x := (d, p)) (Value.int .i64) (fun x => -9223372036854775808 ≤ x ∧ x ≤ 9223372036854775807) Try.underlying25 Try.cellsI (fun n cs y _ hy _ => by
    obtain ⟨a, f0, _, hw⟩ := DataW.trod_int Try.underlying3 hy
    exact ⟨a, f0, i64_bounds hw⟩) (by simpa [Value.cells] using hf) hl
  rw [Try.bytesI] at h2
  unfold reachBytes at h2
  exact ⟨us, h1, by omega, h3⟩
end
end Go.Proofs.Ytonammaecpapmaa.Pp

/- Arguments opened: tag systems, slices of integers. -/
import Derived.Test.YtpnjffdjoacejaaLc
import Derived.Test.YtpnjffdjoacejaaGa
namespace Go.Proofs.Ytpnjffdjoacejaa
open Go.ChangeShapes Go.WideShapes Go.ChangeAt Go.RowKit Go.Joins

theorem Try.own : ownKnob Try.prog.godebug = none := by kernel_rfl
theorem Try.laidOut : laidOutB Try.prog = true := by kernel_rfl
theorem Try.cellsI : Try.prog.cellsOf 3 = 1 := by kernel_rfl
theorem Try.cellsB : Try.prog.cellsOf 4 = 1 := by kernel_rfl
theorem Try.cellsL : Try.prog.cellsOf 26 = 1 := by kernel_rfl
theorem Try.cellsT : Try.prog.cellsOf 25 = 3 := by kernel_rfl
theorem Try.bytesI : Try.prog.bytesOf 3 = 8 := by kernel_rfl
theorem Try.bytesB : Try.prog.bytesOf 4 = 1 := by kernel_rfl
theorem Try.bytesL : Try.prog.bytesOf 26 = 24 := by kernel_rfl

section
variable {H : Type} {enc : TypeId × Value → H} {W : World} {base : Nat} {spare : Nat → Bool} {held : Bool}
theorem ints_open {fuel : Nat} {v : Value} {x : DataW H × List MemPlace} (h : DataW.trod enc Try.prog W base spare held fuel 26 [v] = some x) (hl : Light Try.prog 26 x.1) : ∃ xs : List Int, Elems W W.heap.size v (ints xs) ∧ xs.length ≤ 17592186044416 := by
  obtain ⟨us, h1, h2, _⟩ := open_cells (Value.int .i64) (fun _ => True) Try.underlying26 Try.cellsI (fun n cs y _ hy _ => by
    obtain ⟨a, f0, _, _⟩ := DataW.trod_int Try.underlying3 hy
    exact ⟨a, f0, trivial⟩) h hl
  rw [Try.bytesI] at h2
  unfold reachBytes at h2
  exact ⟨us, h1, by omega⟩
theorem bools_open {fuel : Nat} {v : Value} {x : DataW H × List MemPlace} (h : DataW.trod enc Try.prog W base spare held fuel 23 [v] = some x) (hl : Light Try.prog 23 x.1) : ∃ xs : List Bool, Elems W W.heap.size v (bools xs) ∧ xs.length ≤ 140737488351232 := by
  obtain ⟨us, h1, h2, _⟩ := open_cells Value.bool (fun _ => True) Try.underlying23 Try.cellsB (fun n cs y _ hy _ => by
    obtain ⟨a, f0, _⟩ := DataW.trod_bool Try.underlying4 hy
    exact ⟨a, f0, trivial⟩) h hl
  rw [Try.bytesB] at h2
  unfold reachBytes at h2
  exact ⟨us, h1, by omega⟩
theorem rows_open {fuel : Nat} {v : Value} {x : DataW H × List MemPlace} (h : DataW.trod enc Try.prog W base spare held fuel 22 [v] = some x) (hl : Light Try.prog 22 x.1) :
    ∃ rows : List (List Int), Rows2 W W.heap.size v rows ∧ rows.length ≤ 17592186044416 ∧ ∀ r ∈ rows, r.length ≤ 17592186044416 := by
  obtain ⟨us, h1, h2, h3⟩ := open_cells (α := Value × List Int) Prod.fst (fun u => Elems W W.heap.size u.1 (ints u.2) ∧ u.2.length ≤ 17592186044416) Try.underlying22 Try.cellsL (fun n cs y hc hy hly => by
    match cs, hc with
    | [c], _ =>
      obtain ⟨xs, k1, k2⟩ := ints_open hy hly
      exact ⟨(c, xs), rfl, k1, k2⟩) h hl
  rw [Try.bytesL] at h2
  unfold reachBytes at h2
  refine ⟨us.map Prod.snd, ⟨us.map Prod.fst, h1, by simp, fun k u r hu hr => ?_⟩, by rw [List.length_map]; omega, fun r hr => ?_⟩
  · rw [List.getElem?_map] at hu hr
    cases hk : us[k]? with
    | none => rw [hk] at hu; cases hu
    | some z =>
      rw [hk] at hu hr
      obtain rfl := Option.some.inj hu
      obtain rfl := Option.some.inj hr
      exact (h3 z (List.mem_of_getElem? hk)).1
  · obtain ⟨z, hz, rfl⟩ := List.mem_map.1 hr
    exact (h3 z hz).2
end
section
variable {H : Type} {enc : TypeId × Value → H} {W : World} {base b0 : Nat} {spare : Nat → Bool} {held : Bool} {r : Reach} {v : Value} {d : DataW H} {p : List MemPlace}
set_option maxRecDepth 100000 in
theorem tag_open (hv : Value.okWide Try.prog W r b0 25 v) (h : DataW.Trod enc Try.prog W base spare held 25 v d p) (hl : Light Try.prog 25 d) :
    ∃ (t : TagS) (v2 v3 : Value), v = .agg #[.int .i64 t.del, v2, v3] ∧ TagBig W W.heap.size v2 v3 t := by
  obtain ⟨c0, c1, c2, y0, y1, y2, k, rfl, rfl, _, h0, h1, h2⟩ := open_agg3 Try.underlying25 (by kernel_rfl) Try.cellsT hv h
  obtain ⟨a, f0, _, _⟩ := DataW.trod_int Try.underlying3 h0
  simp at f0
  subst f0
  obtain ⟨rows, r1, r2, r3⟩ := rows_open h1 (light_agg Try.underlying25 hl (j := 1) rfl rfl)
  obtain ⟨bs, s1, s2⟩ := bools_open h2 (light_agg Try.underlying25 hl (j := 2) rfl rfl)
  exact ⟨⟨a, rows, bs⟩, c1, c2, rfl, ⟨r1, s1, r2, s2, r3⟩⟩
set_option maxRecDepth 100000 in
theorem slice_open (hv : Value.okWide Try.prog W r b0 26 v) (h : DataW.Trod enc Try.prog W base spare held 26 v d p) (hl : Light Try.prog 26 d) : ∃ xs : List Int, Elems W W.heap.size v (ints xs) ∧ xs.length ≤ 17592186044416 := by
  obtain ⟨a0, len, cap, rfl⟩ := okWide_slice Try.underlying26 hv
  obtain ⟨fuel, hf⟩ := h
  exact ints_open (by simpa [Value.cells] using hf) hl
end
end Go.Proofs.Ytpnjffdjoacejaa

/- Arguments opened: integers' slices, configurations. -/
import Derived.Test.YtkbaiegfloajlaaDoorUj
namespace Go.Proofs.YtkbaiegfloajlaaDoor.Tp
open Go.ChangeShapes Go.WideShapes Go.ChangeAt Go.RowKit Go.Joins

theorem Tryd.cellsIL : Tryd.prog.cellsOf 25 = 1 := by kernel_rfl
theorem Tryd.cellsCf : Tryd.prog.cellsOf 27 = 4 := by kernel_rfl
theorem Tryd.bytesI : Tryd.prog.bytesOf 3 = 8 := by kernel_rfl
section
variable {H : Type} {enc : TypeId × Value → H} {W : World} {base b0 : Nat} {spare : Nat → Bool} {held : Bool} {r : Reach} {v : Value} {d : DataW H} {p : List MemPlace}
set_option maxRecDepth 100000 in
theorem ints_open {fuel : Nat} {v : Value} {x : DataW H × List MemPlace} (h : DataW.trod enc Tryd.prog W base spare held fuel 25 [v] = some x) (hl : Light Tryd.prog 25 x.1) : ∃ xs : List Int, Elems W W.heap.size v (ints xs) ∧ xs.length ≤ 17592186044416 := by
  obtain ⟨us, h1, h2, _⟩ := open_cells (Value.int .i64) (fun _ => True) Tryd.underlying25 Tryd.cellsI (fun n cs y _ hy _ => by
    obtain ⟨a, f0, _, _⟩ := DataW.trod_int Tryd.underlying3 hy
    exact ⟨a, f0, trivial⟩) h hl
  rw [Tryd.bytesI] at h2
  unfold reachBytes at h2
  exact ⟨us, h1, by omega⟩
set_option maxRecDepth 100000 in
theorem slice_open (hv : Value.okWide Tryd.prog W r b0 25 v) (h : DataW.Trod enc Tryd.prog W base spare held 25 v d p) (hl : Light Tryd.prog 25 d) : ∃ xs : List Int, Elems W W.heap.size v (ints xs) ∧ xs.length ≤ 17592186044416 := by
  obtain ⟨a0, len, cap, rfl⟩ := okWide_slice Tryd.underlying25 hv
  obtain ⟨fuel, hf⟩ := h
  exact ints_open (by simpa [Value.cells] using hf) hl
set_option maxRecDepth 100000 in
theorem conf_open (hv : Value.okWide Tryd.prog W r b0 27 v) (h : DataW.Trod enc Tryd.prog W base spare held 27 v d p) (hl : Light Tryd.prog 27 d) :
    ∃ (c : CfgS) (u : Value), v = .agg #[.int .i64 c.st, .int .i64 c.pos, .int .i64 c.frm, u] ∧ Elems W W.heap.size u (ints c.cells) ∧ c.cells.length ≤ 17592186044416 := by
  obtain ⟨fuel, hf⟩ := h
  rw [Value.okWide, Tryd.underlying27] at hv
  obtain ⟨cs, rfl, hsz, _⟩ := hv
  rw [Tryd.cellsCf] at hsz
  obtain ⟨c0, c1, c2, c3, rfl⟩ : ∃ c0 c1 c2 c3, cs = #[c0, c1, c2, c3] := by
    obtain ⟨l⟩ := cs
    match l, hsz with
    | [a, b, c, d], _ => exact ⟨a, b, c, d, rfl⟩
  obtain ⟨xs, n', rfl, hd, hlen, hxs, hff⟩ := DataW.trod_struct Tryd.underlying27 hf
  have g0 := hff 0 _ rfl
  have g1 := hff 1 _ rfl
  have g2 := hff 2 _ rfl
  have g3 := hff 3 _ rfl
  obtain ⟨x0, hx0⟩ : ∃ x0, xs[0]? = some x0 := ⟨_, List.getElem?_eq_getElem (by rw [hxs]; decide)⟩
  obtain ⟨x1, hx1⟩ : ∃ x1, xs[1]? = some x1 := ⟨_, List.getElem?_eq_getElem (by rw [hxs]; decide)⟩
  obtain ⟨x2, hx2⟩ : ∃ x2, xs[2]? = some x2 := ⟨_, List.getElem?_eq_getElem (by rw [hxs]; decide)⟩
  obtain ⟨x3, hx3⟩ : ∃ x3, xs[3]? = some x3 := ⟨_, List.getElem?_eq_getElem (by rw [hxs]; decide)⟩
  rw [hx0] at g0
  rw [hx1] at g1
  rw [hx2] at g2
  rw [hx3] at g3
  simp [Tryd.cellsI, Tryd.cellsIL, Value.cells] at g0 g1 g2 g3
  obtain ⟨a, e0, _, _⟩ := DataW.trod_int Tryd.underlying3 g0
  obtain ⟨b, e1, _, _⟩ := DataW.trod_int Tryd.underlying3 g1
  obtain ⟨c, e2, _, _⟩ := DataW.trod_int Tryd.underlying3 g2
  simp at e0 e1 e2
  subst e0 e1 e2
  obtain ⟨rfl, rfl⟩ := Prod.mk.inj hd
  obtain ⟨q, r1, r2⟩ := ints_open g3 (light_agg Tryd.underlying27 hl (j := 3) rfl (by simp [hx3]))
  exact ⟨⟨a, b, c, q⟩, c3, rfl, r1, r2⟩
end
set_option maxRecDepth 100000 in
theorem u16_bounds {x : Int} (h : (Lit.int .u16 x).wf = true) : 0 ≤ x ∧ x ≤ 65535 := by
  simp [Lit.wf, IntKind.min, IntKind.max, IntKind.signed, IntKind.bits] at h
  omega
set_option maxRecDepth 100000 in
theorem i16_bounds {x : Int} (h : (Lit.int .i16 x).wf = true) : -32768 ≤ x ∧ x ≤ 32767 := by
  simp [Lit.wf, IntKind.min, IntKind.max, IntKind.signed, IntKind.bits] at h
  omega
end Go.Proofs.YtkbaiegfloajlaaDoor.Tp

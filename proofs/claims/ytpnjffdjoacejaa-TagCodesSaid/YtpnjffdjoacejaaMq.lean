/- Arguments opened: cyclic tag systems, their states. -/
import Derived.Test.YtpnjffdjoacejaaMm
import Derived.Test.YtpnjffdjoacejaaLg
namespace Go.Proofs.Ytpnjffdjoacejaa
open Go.ChangeShapes Go.WideShapes Go.ChangeAt Go.RowKit Go.Joins

theorem Try.cellsLL : Try.prog.cellsOf 22 = 1 := by kernel_rfl
theorem Try.cellsC : Try.prog.cellsOf 43 = 1 := by kernel_rfl
theorem Try.cellsW : Try.prog.cellsOf 45 = 2 := by kernel_rfl
section
variable {H : Type} {enc : TypeId × Value → H} {W : World} {base b0 : Nat} {spare : Nat → Bool} {held : Bool} {r : Reach} {v : Value} {d : DataW H} {p : List MemPlace}
theorem capped_open {fuel : Nat} {x : DataW H × List MemPlace} (h : DataW.trod enc Try.prog W base spare held fuel 26 [v] = some x) : Capped v := by
  rcases Deep.open_slice Try.underlying26 h with ⟨hcs, _⟩ | ⟨a, len, cap, m, n, D, Pl, hcs, _, hlc, _⟩
  · simp at hcs
    subst hcs
    intro A n c e
    obtain ⟨-, rfl, rfl⟩ := Value.slice.inj e
    exact Nat.le_refl _
  · simp at hcs
    subst hcs
    intro A n c e
    obtain ⟨-, rfl, rfl⟩ := Value.slice.inj e
    exact hlc
set_option maxRecDepth 100000 in
theorem cyc_open (hv : Value.okWide Try.prog W r b0 43 v) (h : DataW.Trod enc Try.prog W base spare held 43 v d p) (hl : Light Try.prog 43 d) :
    ∃ (ws : List (List Int)) (v2 : Value), v = .agg #[v2] ∧ CycBig W W.heap.size v2 ws := by
  obtain ⟨fuel, hf⟩ := h
  rw [Value.okWide, Try.underlying43] at hv
  obtain ⟨cs, rfl, hsz, _⟩ := hv
  rw [Try.cellsC] at hsz
  obtain ⟨c0, rfl⟩ : ∃ c0, cs = #[c0] := ⟨cs[0], by
    apply Array.ext
    · simp [hsz]
    · intro i h1 h2
      have : i = 0 := by simp at h2; omega
      subst this
      simp⟩
  obtain ⟨xs, n', rfl, hd, hlen, hxs, hff⟩ := DataW.trod_struct Try.underlying43 hf
  have hff0 := hff 0 _ rfl
  obtain ⟨x0, hx0⟩ : ∃ x0, xs[0]? = some x0 := ⟨_, List.getElem?_eq_getElem (by rw [hxs]; decide)⟩
  rw [hx0] at hff0
  simp [Try.cellsLL, Value.cells] at hff0
  obtain ⟨rfl, rfl⟩ := Prod.mk.inj hd
  have hl0 : Light Try.prog 22 x0.1 := light_agg Try.underlying43 hl (j := 0) rfl (by simp [hx0])
  obtain ⟨rows, r1, r2, r3⟩ := rows_open hff0 hl0
  exact ⟨rows, c0, rfl, ⟨r1, r2, r3⟩⟩
set_option maxRecDepth 100000 in
theorem wheel_open (hv : Value.okWide Try.prog W r b0 45 v) (h : DataW.Trod enc Try.prog W base spare held 45 v d p) (hl : Light Try.prog 45 d) :
    ∃ (a : Int) (q : List Int) (v2 : Value), v = .agg #[.int .i64 a, v2] ∧ (Elems W W.heap.size v2 (ints q) ∧ Capped v2) ∧ q.length ≤ 17592186044416 := by
  obtain ⟨c0, c1, y0, y1, k, rfl, rfl, _, h0, h1⟩ := open_agg2 Try.underlying45 (by kernel_rfl) Try.cellsW hv h
  obtain ⟨a, f0, _, _⟩ := DataW.trod_int Try.underlying3 h0
  simp at f0
  subst f0
  obtain ⟨q, r1, r2⟩ := ints_open h1 (light_agg Try.underlying45 hl (j := 1) rfl rfl)
  exact ⟨a, q, c1, rfl, ⟨r1, capped_open h1⟩, r2⟩
end
end Go.Proofs.Ytpnjffdjoacejaa

/- Arguments opened: slices of integers and of instructions. -/
import Derived.Test.YtonammaecpapmaaCg
import Derived.ProofKit
import Derived.Deep.Slices
import Derived.Lib.SmallJoins
namespace Go.Proofs.Ytonammaecpapmaa.Cn
open Go.ChangeShapes Go.WideShapes Go.ChangeAt Go.RowKit Go.Joins

theorem Try.own : ownKnob Try.prog.godebug = none := by kernel_rfl
theorem Try.laidOut : laidOutB Try.prog = true := by kernel_rfl
theorem Try.cells3 : Try.prog.cellsOf 3 = 1 := by kernel_rfl
theorem Try.cells48 : Try.prog.cellsOf 48 = 4 := by kernel_rfl
theorem Try.cells24 : Try.prog.cellsOf 24 = 2 := by kernel_rfl
theorem Try.cells29 : Try.prog.cellsOf 29 = 2 := by kernel_rfl

section
variable {H : Type} {enc : TypeId × Value → H} {W : World} {base : Nat} {spare : Nat → Bool} {held : Bool} {fuel : Nat} {v : Value} {x : DataW H × List MemPlace}

theorem ints_open (h : DataW.trod enc Try.prog W base spare held fuel 25 [v] = some x) : ∃ A n c xs, v = .slice A n c ∧ IntsAt W W.heap.size A n xs := by
  rcases open_ints Try.underlying25 Try.underlying3 Try.cells3 h with ⟨hcs, _⟩ | ⟨a, len, cap, zs, hcs, _, hl, hm, hz, _, hcell, _⟩
  · simp at hcs
    exact ⟨none, 0, 0, [], hcs, IntsAt.nil W⟩
  · simp at hcs
    have hlz : len ≤ zs.length := by rw [hz]; split <;> omega
    refine ⟨some a, len, cap, zs.take len, hcs, by simp; omega, fun hn => ?_⟩
    obtain ⟨b, off, spot⟩ := a
    have h0 := hcell 0 (by omega)
    have hspot : spot = none := by simpa [Addr.add] using World.cell?_spot h0
    subst hspot
    refine ⟨b, off, rfl, cell_lt (a := ⟨b, off, none⟩) (by simpa [Addr.add] using h0), fun k y hk => ?_⟩
    rw [List.getElem?_take] at hk
    by_cases hkl : k < len
    · rw [if_pos hkl] at hk
      rw [← addr_add, hcell k (by omega)]
      simp [List.getD_eq_getElem?_getD, hk]
    · rw [if_neg hkl] at hk
      cases hk

theorem ins_open {n : Nat} {cs : List Value} {y : DataW H × List MemPlace} (h : DataW.trod enc Try.prog W base spare held n 48 cs = some y) : ∃ i : Ins, cs = Ins.cells i := by
  obtain ⟨ys, n', _, _, hlen, hys, hf⟩ := DataW.trod_struct Try.underlying48 h
  rw [Try.cells48] at hlen
  match cs, hlen with
  | [c0, c1, c2, c3], _ =>
    have hy : ∀ j, j < 4 → ∃ z, ys[j]? = some z := fun j hj => ⟨_, List.getElem?_eq_getElem (by rw [hys]; exact hj)⟩
    have g0 := hf 0 _ rfl
    have g1 := hf 1 _ rfl
    have g2 := hf 2 _ rfl
    have g3 := hf 3 _ rfl
    obtain ⟨z0, e0⟩ := hy 0 (by omega)
    obtain ⟨z1, e1⟩ := hy 1 (by omega)
    obtain ⟨z2, e2⟩ := hy 2 (by omega)
    obtain ⟨z3, e3⟩ := hy 3 (by omega)
    simp [Try.cells3, e0, e1, e2, e3] at g0 g1 g2 g3
    obtain ⟨a0, f0, _, _⟩ := DataW.trod_int Try.underlying3 g0
    obtain ⟨a1, f1, _, _⟩ := DataW.trod_int Try.underlying3 g1
    obtain ⟨a2, f2, _, _⟩ := DataW.trod_int Try.underlying3 g2
    obtain ⟨a3, f3, _, _⟩ := DataW.trod_int Try.underlying3 g3
    simp at f0 f1 f2 f3
    subst f0 f1 f2 f3
    exact ⟨⟨a0, a1, a2, a3⟩, rfl⟩

theorem code_open (h : DataW.trod enc Try.prog W base spare held fuel 22 [v] = some x) : ∃ A n c code, v = .slice A n c ∧ CodeAt W W.heap.size A n code := by
  rcases Deep.open_slice Try.underlying22 h with ⟨hcs, _⟩ | ⟨a, len, cap, m, k, D, Pl, hcs, _, hl, _, hmm, _, hel⟩
  · simp at hcs
    exact ⟨none, 0, 0, [], hcs, rfl, fun h => absurd h (by omega)⟩
  · simp at hcs
    have hm : len ≤ m := by rw [hmm]; split <;> omega
    rw [Try.cells48] at hel
    have hex : ∀ i, i < len → ∃ I : Ins, ∀ j, j < 4 → W.cell? ((a.add (i * 4)).add j) = I.cells[j]? := by
      intro i hi
      obtain ⟨cs', h1, h2⟩ := hel i (by omega)
      obtain ⟨_, _, hat⟩ := World.cells?_some h1
      obtain ⟨I, rfl⟩ := ins_open h2
      exact ⟨I, hat⟩
    refine ⟨some a, len, cap, (List.range len).map fun i => if hi : i < len then Classical.choose (hex i hi) else ⟨0, 0, 0, 0⟩, hcs, by simp, fun hn => ?_⟩
    obtain ⟨b, off, spot⟩ := a
    have h0 := Classical.choose_spec (hex 0 (by omega)) 0 (by omega)
    have hspot : spot = none := by
      simp [Addr.add, Ins.cells] at h0
      exact World.cell?_spot h0
    subst hspot
    have hcell : ∀ i (hi : i < len) j, j < 4 → W.cell? ⟨b, off + i * 4 + j, none⟩ = (Classical.choose (hex i hi)).cells[j]? := by
      intro i hi j hj
      have := Classical.choose_spec (hex i hi) j hj
      have e : ((⟨b, off, none⟩ : Addr).add (i * 4)).add j = ⟨b, off + i * 4 + j, none⟩ := by rw [addr_add, addr_add]
      exact (congrArg W.cell? e).symm.trans this
    refine ⟨b, off, rfl, ?_, fun i I hI => ?_⟩
    · have := hcell 0 hn 0 (by omega)
      simp [Ins.cells] at this
      exact cell_lt this
    · have hi : i < len := by
        have := (List.getElem?_eq_some_iff.1 hI).1
        simpa using this
      simp [hi] at hI
      have e0 := hcell i hi 0 (by omega)
      have e1 := hcell i hi 1 (by omega)
      have e2 := hcell i hi 2 (by omega)
      have e3 := hcell i hi 3 (by omega)
      rw [hI] at e0 e1 e2 e3
      exact ⟨e0, e1, e2, e3⟩
end

theorem counter_open {H : Type} {enc : TypeId × Value → H} {W : World} {base b0 : Nat} {spare : Nat → Bool} {held : Bool} {r : Reach} {v : Value} {d : DataW H} {p : List MemPlace} (hv : Value.okWide Try.prog W r b0 24 v) (h : DataW.Trod enc Try.prog W base spare held 24 v d p) :
    ∃ R A n c code, v = .agg #[.int .i64 R, .slice A n c] ∧ CodeAt W W.heap.size A n code := by
  obtain ⟨c0, c1, y0, y1, k, rfl, _, _, h0, h1⟩ := open_agg2 Try.underlying24 (by kernel_rfl) Try.cells24 hv h
  obtain ⟨a, f0, _, _⟩ := DataW.trod_int Try.underlying3 h0
  obtain ⟨A, n, c, code, rfl, hc⟩ := code_open h1
  simp at f0
  subst f0
  exact ⟨a, A, n, c, code, rfl, hc⟩
theorem count_open {H : Type} {enc : TypeId × Value → H} {W : World} {base b0 : Nat} {spare : Nat → Bool} {held : Bool} {r : Reach} {v : Value} {d : DataW H} {p : List MemPlace} (hv : Value.okWide Try.prog W r b0 29 v) (h : DataW.Trod enc Try.prog W base spare held 29 v d p) :
    ∃ a A n c rs, v = .agg #[.int .i64 a, .slice A n c] ∧ IntsAt W W.heap.size A n rs := by
  obtain ⟨c0, c1, y0, y1, k, rfl, _, _, h0, h1⟩ := open_agg2 Try.underlying29 (by kernel_rfl) Try.cells29 hv h
  obtain ⟨a, f0, _, _⟩ := DataW.trod_int Try.underlying3 h0
  obtain ⟨A, n, c, rs, rfl, hc⟩ := ints_open h1
  simp at f0
  subst f0
  exact ⟨a, A, n, c, rs, rfl, hc⟩
theorem slice_open {H : Type} {enc : TypeId × Value → H} {W : World} {base b0 : Nat} {spare : Nat → Bool} {held : Bool} {r : Reach} {v : Value} {d : DataW H} {p : List MemPlace} (hv : Value.okWide Try.prog W r b0 25 v) (h : DataW.Trod enc Try.prog W base spare held 25 v d p) :
    ∃ A n c xs, v = .slice A n c ∧ IntsAt W W.heap.size A n xs := by
  obtain ⟨a0, len, cap, rfl⟩ := okWide_slice Try.underlying25 hv
  obtain ⟨fuel, hf⟩ := h
  exact ints_open (by simpa [Value.cells] using hf)
end Go.Proofs.Ytonammaecpapmaa.Cn

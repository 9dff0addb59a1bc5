/- Words for the specification's ToCyclic: the rows behind a list of slice values. -/
import Derived.Test.YtpnjffdjoacejaaPg
namespace Go.Proofs.Ytpnjffdjoacejaa
open Go.RowKit

/-- The values of a list hold the rows. -/
def RowsV (w : World) (B : Nat) (vs : List Value) (rows : List (List Int)) : Prop :=
  vs.length = rows.length ∧ ∀ (k : Nat) (u : Value) (r : List Int), vs[k]? = some u → rows[k]? = some r → Elems w B u (ints r)
theorem RowsV.nil (w : World) (B : Nat) : RowsV w B [] [] := ⟨rfl, fun k u r hu _ => by simp at hu⟩
theorem RowsV.to {w w' : World} {vs : List Value} {rows : List (List Int)} (h : RowsV w w.heap.size vs rows) (hb : Below w.heap.size w w') : RowsV w' w'.heap.size vs rows :=
  ⟨h.1, fun k u r hu hr => (h.2 k u r hu hr).to hb⟩
theorem RowsV.snoc {w : World} {B : Nat} {vs : List Value} {rows : List (List Int)} {u : Value} {r : List Int} (h : RowsV w B vs rows) (hu : Elems w B u (ints r)) : RowsV w B (vs ++ [u]) (rows ++ [r]) := by
  refine ⟨by simp [h.1], fun k v s hv hs => ?_⟩
  by_cases hk : k < vs.length
  · rw [List.getElem?_append_left hk] at hv
    rw [List.getElem?_append_left (by rw [← h.1]; exact hk)] at hs
    exact h.2 k v s hv hs
  · rw [List.getElem?_append_right (by omega)] at hv
    rw [List.getElem?_append_right (by rw [← h.1]; omega)] at hs
    have hk0 : k = vs.length := by
      by_cases e : k - vs.length = 0
      · omega
      · rw [List.getElem?_eq_none (by simp; omega)] at hv
        simp at hv
    subst hk0
    rw [← h.1] at hs
    simp at hv hs
    subst hv hs
    exact hu
theorem RowsV.rows2 {w : World} {B : Nat} {v : Value} {vs : List Value} {rows : List (List Int)} (h : RowsV w B vs rows) (hE : Elems w B v vs) : Rows2 w B v rows := ⟨vs, hE, h.1, h.2⟩
theorem cyc_snoc (t : TagS) (n i : Nat) : (List.range (i + 1)).map (cycRow t n) = (List.range i).map (cycRow t n) ++ [cycRow t n i] := by
  rw [List.range_succ, List.map_append]
  rfl
theorem Elems.grown {w w' : World} {v : Value} {cs : List Value} {gm : Option Nat} (h : Elems w w.heap.size v cs) (hb : w.grownBy w' gm) (hg : ∀ b, v.ownBlock = some b → some b ≠ gm) : Elems w' w'.heap.size v cs := by
  rcases h with h | ⟨b, off, c, rfl, hlt, hc⟩
  · exact .inl h
  · refine .inr ⟨b, off, c, rfl, Nat.lt_of_lt_of_le hlt hb.size, fun k u hu => ?_⟩
    have e := hb.block b hlt (hg b (by simp [Value.ownBlock]))
    have i := hc k u hu
    simp only [World.cell?] at i ⊢
    rw [e]
    exact i
theorem RowsV.grown {w w' : World} {vs : List Value} {rows : List (List Int)} {gm : Option Nat} (h : RowsV w w.heap.size vs rows) (hb : w.grownBy w' gm) (hg : ∀ u ∈ vs, ∀ b, u.ownBlock = some b → some b ≠ gm) : RowsV w' w'.heap.size vs rows :=
  ⟨h.1, fun k u r hu hr => (h.2 k u r hu hr).grown hb (hg u (List.mem_of_getElem? hu))⟩
end Go.Proofs.Ytpnjffdjoacejaa

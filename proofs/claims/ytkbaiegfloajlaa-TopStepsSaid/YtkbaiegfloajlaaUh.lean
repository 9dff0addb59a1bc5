/- Plain: the configuration of standstilltop's run is the one that it stands for. -/
import Derived.Test.YtkbaiegfloajlaaTa
namespace Go.Proofs.Ytkbaiegfloajlaa.Tp
open Go.RowKit

theorem cell_k {b : Int} {l : List Int} {k : Nat} (hk : k < l.length) : l[k]? = some (cellAt b l (b + k)) := by
  obtain ⟨x, hx⟩ : ∃ x, l[k]? = some x := ⟨_, List.getElem?_eq_getElem hk⟩
  rw [hx, cellAt_get rfl hx]
theorem trim_ok {b c : Int} {cs l : List Int} (hn : Norm c l) (h : ∀ p, cellAt b cs p = cellAt c l p) :
    (l = [] ∧ c = 0 ∧ ∀ k, k < cs.length → cs[k]? = some 0) ∨
    ∃ f e : Nat, f ≤ e ∧ e < cs.length ∧ (∀ k, k < f → cs[k]? = some 0) ∧ (∀ k, e < k → k < cs.length → cs[k]? = some 0) ∧ (∃ x, cs[f]? = some x ∧ x ≠ 0) ∧ (∃ x, cs[e]? = some x ∧ x ≠ 0) ∧ c = f + b ∧ l = (cs.drop f).take (e + 1 - f) := by
  by_cases hl : l = []
  · left
    subst hl
    have hc : c = 0 := by
      rcases hn with ⟨_, h⟩ | ⟨h, _⟩
      · exact h
      · exact absurd rfl h
    refine ⟨rfl, hc, fun k hk => ?_⟩
    rw [cell_k (b := b) hk, h, cellAt_nil]
  · right
    have h1 := hn.first hl
    have h2 := hn.last hl
    have hlen : 0 < l.length := List.length_pos_iff.2 hl
    rw [← h] at h1 h2
    have b1 := cellAt_in h1
    have b2 := cellAt_in h2
    obtain ⟨f, hf⟩ := Int.eq_ofNat_of_zero_le (show 0 ≤ c - b by omega)
    obtain ⟨e, he⟩ := Int.eq_ofNat_of_zero_le (show 0 ≤ c + l.length - 1 - b by omega)
    refine ⟨f, e, by omega, by omega, fun k hk => ?_, fun k hk hk2 => ?_, ⟨_, cell_k (b := b) (by omega), ?_⟩, ⟨_, cell_k (b := b) (by omega), ?_⟩, by omega, ?_⟩
    · rw [cell_k (b := b) (by omega), h, cellAt_lt (by omega)]
    · rw [cell_k (b := b) (by omega), h, cellAt_ge (by omega)]
    · rw [show b + (f : Int) = c by omega]; exact h1
    · rw [show b + (e : Int) = c + l.length - 1 by omega]; exact h2
    · apply List.ext_getElem?
      intro k
      rw [List.getElem?_take]
      split
      · rename_i hk
        rw [List.getElem?_drop, cell_k (b := c) (show k < l.length by omega), cell_k (b := b) (show f + k < cs.length by omega), h, show b + ((f + k : Nat) : Int) = c + k by omega]
      · rename_i hk
        exact List.getElem?_eq_none (by omega)
end Go.Proofs.Ytkbaiegfloajlaa.Tp

/- Arguments opened, with their sizes: slices of one-cell elements. (Numbers of no program.) -/
import Derived.Test.YtonammaecpapmaaKa
import Derived.ProofKit
import Derived.SizedLaws
import Derived.Deep.Slices
import Derived.Lib.SmallJoins
namespace Go.Proofs.Ytonammaecpapmaa
open Go.ChangeShapes Go.WideShapes Go.ChangeAt Go.RowKit Go.Joins

/-- What a datum weighs is within the reach. -/
def Light {H : Type} (P : Program) (t : TypeId) (d : DataW H) : Prop := ∀ n ∈ DataW.weights P t d, n ≤ reachBytes
section
variable {H : Type} {enc : TypeId × Value → H} {P : Program} {W : World} {base : Nat} {spare : Nat → Bool} {held : Bool}
theorem light_arg {ts : List TypeId} {ds : List (DataW H)} (h : ((DataW.weightsEach P ts ds).all fun x => decide (x ≤ reachBytes)) = true) {j : Nat} {t : TypeId} {d : DataW H} (ht : ts[j]? = some t) (hd : ds[j]? = some d) : Light P t d := fun n hn => by
  have := List.all_eq_true.1 h n (DataW.weights_mem_each ht hd n hn)
  simpa using this
theorem light_all {e : TypeId} {l : List (DataW H)} {d : DataW H} (hd : d ∈ l) {n : Nat} (hn : n ∈ DataW.weights P e d) : n ∈ DataW.weightsAll P e l := by
  induction l with
  | nil => cases hd
  | cons a l ih =>
    rw [DataW.weightsAll]
    rcases List.mem_cons.1 hd with rfl | h
    · exact List.mem_append_left _ hn
    · exact List.mem_append_right _ (ih h)
theorem light_slice {t e : TypeId} {elems sp : List (DataW H)} (ht : P.underlying t = some (.slice e)) (h : Light P t (.slice elems sp)) : (elems.length + sp.length) * P.bytesOf e ≤ reachBytes ∧ ∀ d ∈ elems, Light P e d := by
  unfold Light at h
  rw [DataW.weights, ht] at h
  refine ⟨h _ (List.mem_cons_self ..), fun d hd n hn => h n (List.mem_cons_of_mem _ (List.mem_append_left _ (light_all hd hn)))⟩
theorem light_agg {t : TypeId} {fs : Array Field} {parts : List (DataW H)} (ht : P.underlying t = some (.struct fs)) (h : Light P t (.agg parts)) {j : Nat} {tj : TypeId} {d : DataW H} (hf : (fs.toList.map fun x => x.type)[j]? = some tj) (hd : parts[j]? = some d) : Light P tj d := fun n hn => by
  unfold Light at h
  rw [DataW.weights, ht] at h
  exact h n (DataW.weights_mem_each hf hd n hn)

/-- A slice of one-cell elements that came in. -/
theorem open_cells {α : Type} (f : α → Value) (Q : α → Prop) {t e : TypeId} {fuel : Nat} {v : Value} {x : DataW H × List MemPlace} (ht : P.underlying t = some (.slice e)) (hc : P.cellsOf e = 1) (hex : ∀ (n : Nat) (cs : List Value) (y : DataW H × List MemPlace), cs.length = 1 → DataW.trod enc P W base spare held n e cs = some y → Light P e y.1 → ∃ u : α, cs = [f u] ∧ Q u)
    (h : DataW.trod enc P W base spare held fuel t [v] = some x) (hl : Light P t x.1) : ∃ us : List α, Elems W W.heap.size v (us.map f) ∧ us.length * P.bytesOf e ≤ reachBytes ∧ ∀ u ∈ us, Q u := by
  rcases Deep.open_slice ht h with ⟨hcs, _⟩ | ⟨a, len, cap, m, n, D, Pl, hcs, _, hlc, _, hmm, hx, hel⟩
  · simp at hcs
    subst hcs
    exact ⟨[], Elems.nil _ _, by simp, by simp⟩
  · simp at hcs
    subst hcs hx
    have hm : len ≤ m := by rw [hmm]; split <;> omega
    obtain ⟨l1, l2⟩ := light_slice ht hl
    rw [hc] at hel
    have hu : ∀ i : Fin len, ∃ u : α, W.cell? (a.add i.1) = some (f u) ∧ Q u := fun i => by
      obtain ⟨cs', h1, h2⟩ := hel i.1 (by omega)
      obtain ⟨_, h3, hat⟩ := World.cells?_some h1
      obtain ⟨u, rfl, hQ⟩ := hex n cs' _ h3 h2 (l2 _ (List.mem_map.2 ⟨i.1, List.mem_range.2 i.2, rfl⟩))
      refine ⟨u, ?_, hQ⟩
      have := hat 0 (by omega)
      simpa [Addr.add] using this
    refine ⟨List.ofFn fun i => Classical.choose (hu i), ?_, ?_, ?_⟩
    · rcases Nat.eq_zero_or_pos len with rfl | hpos
      · exact .inl ⟨.inr ⟨a, cap, rfl⟩, by simp⟩
      · obtain ⟨b, off, spot⟩ := a
        have h0 := (Classical.choose_spec (hu ⟨0, hpos⟩)).1
        have hspot : spot = none := World.cell?_spot (by simpa [Addr.add] using h0)
        subst hspot
        refine .inr ⟨b, off, cap, by simp, cell_lt (a := ⟨b, off, none⟩) (by simpa [Addr.add] using h0), fun k u hk => ?_⟩
        have hkl : k < len := by have := (List.getElem?_eq_some_iff.1 hk).1; simpa using this
        have := (Classical.choose_spec (hu ⟨k, hkl⟩)).1
        simp [hkl] at hk
        rw [← addr_add, this]
        exact congrArg some hk
    · simp only [List.length_map, List.length_range] at l1
      rw [List.length_ofFn]
      exact Nat.le_trans (Nat.mul_le_mul_right _ (Nat.le_add_right _ _)) l1
    · intro u hu'
      simp only [List.mem_ofFn] at hu'
      obtain ⟨i, rfl⟩ := hu'
      exact (Classical.choose_spec (hu i)).2
end
end Go.Proofs.Ytonammaecpapmaa

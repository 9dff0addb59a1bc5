/- Plain: rules of a text; rows of rules that are owned. -/
import Derived.Test.YtkbaiegfloajlaaDoorVa
import Derived.Test.YtkbaiegfloajlaaDoorUk
namespace Go.Proofs.YtkbaiegfloajlaaDoor.Tp
open Go.RowKit

def chunksL : List UInt8 → List RuleS
  | x :: y :: z :: l => pruleB x y z :: chunksL l
  | _ => []
theorem chunksL_get (j : Nat) : ∀ (l : List UInt8), 3 * j + 2 < l.length → ∃ x y z, l[3 * j]? = some x ∧ l[3 * j + 1]? = some y ∧ l[3 * j + 2]? = some z ∧ (chunksL l)[j]? = some (pruleB x y z) := by
  induction j with
  | zero =>
    intro l hl
    match l, hl with
    | x :: y :: z :: l, _ => exact ⟨x, y, z, rfl, rfl, rfl, rfl⟩
  | succ j ih =>
    intro l hl
    match l, hl with
    | a :: b :: c :: l, hl =>
      obtain ⟨x, y, z, h1, h2, h3, h4⟩ := ih l (by simp at hl; omega)
      refine ⟨x, y, z, ?_, ?_, ?_, ?_⟩
      · rw [show 3 * (j + 1) = 3 * j + 1 + 1 + 1 by omega]; exact h1
      · rw [show 3 * (j + 1) + 1 = 3 * j + 1 + 1 + 1 + 1 by omega]; exact h2
      · rw [show 3 * (j + 1) + 2 = 3 * j + 2 + 1 + 1 + 1 by omega]; exact h3
      · exact h4
    | [], hl => simp at hl
    | [_], hl => simp at hl
    | [_, _], hl => simp at hl; omega
theorem chunksL_len : ∀ (l : List UInt8), (chunksL l).length = l.length / 3
  | [] => by simp [chunksL]
  | [_] => by simp [chunksL]
  | [_, _] => by simp [chunksL]
  | x :: y :: z :: l => by
    rw [chunksL, List.length_cons, chunksL_len l]
    simp only [List.length_cons]
    omega
theorem extract3 {p : ByteArray} {i : Nat} {x y z : UInt8} (h1 : p.data.toList[i]? = some x) (h2 : p.data.toList[i + 1]? = some y) (h3 : p.data.toList[i + 2]? = some z) : p.extract i (i + 3) = ⟨#[x, y, z]⟩ := by
  apply ByteArray.ext
  rw [ByteArray.data_extract]
  apply Array.ext'
  rw [Array.toList_extract, List.extract_eq_take_drop]
  apply List.ext_getElem?
  intro k
  rw [List.getElem?_take]
  split
  · rename_i hk
    rw [List.getElem?_drop]
    match k, hk with
    | 0, _ => simpa using h1
    | 1, _ => simpa using h2
    | 2, _ => simpa using h3
    | k + 3, hk => omega
  · rename_i hk
    match k, hk with
    | k + 3, _ => rfl
    | 0, hk => omega
    | 1, hk => omega
    | 2, hk => omega

def rcells (r : RuleS) : List Value := [.int .i64 r.w, .int .i64 r.m, .int .i64 r.n]
def rcellsL (rs : List RuleS) : List Value := rs.flatMap rcells
theorem rcellsL_len (rs : List RuleS) : (rcellsL rs).length = rs.length * 3 := by
  induction rs with
  | nil => rfl
  | cons a l ih =>
    rw [rcellsL, List.flatMap_cons, List.length_append]
    have : (List.flatMap rcells l).length = l.length * 3 := ih
    rw [this, List.length_cons]
    show 3 + l.length * 3 = _
    omega
theorem rcellsL_get (k : Nat) : ∀ (rs : List RuleS) (r : RuleS), rs[k]? = some r → (rcellsL rs)[k * 3]? = some (.int .i64 r.w) ∧ (rcellsL rs)[k * 3 + 1]? = some (.int .i64 r.m) ∧ (rcellsL rs)[k * 3 + 2]? = some (.int .i64 r.n) := by
  induction k with
  | zero =>
    intro rs r h
    match rs, h with
    | a :: l, h =>
      obtain rfl := Option.some.inj h
      exact ⟨rfl, rfl, rfl⟩
  | succ k ih =>
    intro rs r h
    match rs, h with
    | a :: l, h =>
      obtain ⟨h1, h2, h3⟩ := ih l r h
      refine ⟨?_, ?_, ?_⟩
      · rw [show (k + 1) * 3 = k * 3 + 1 + 1 + 1 by omega]; exact h1
      · rw [show (k + 1) * 3 + 1 = k * 3 + 1 + 1 + 1 + 1 by omega]; exact h2
      · rw [show (k + 1) * 3 + 2 = k * 3 + 2 + 1 + 1 + 1 by omega]; exact h3
theorem rcells_one : ∀ r, ∀ v ∈ rcells r, v.oneCell' = true := by
  intro r v hv
  simp only [rcells, List.mem_cons, List.not_mem_nil, or_false] at hv
  rcases hv with rfl | rfl | rfl <;> rfl
theorem own_rules {w : World} {B n c : Nat} {A : Option Addr} {rs : List RuleS} (h : w.ownsRow B 74 3 (.slice A n c) n (rcellsL rs)) : RulesIn w w.heap.size (.slice A n c) rs := by
  have hn : rs.length = n := by
    have := h.1
    rw [rcellsL_len] at this
    omega
  rcases h.2 with ⟨hv, h0⟩ | ⟨g, cap, cur, hv, hg, hh, h1, h2, h3, h4⟩
  · left
    refine ⟨.inl hv, List.eq_nil_of_length_eq_zero (by omega)⟩
  · right
    simp only [Value.slice.injEq, true_and] at hv
    obtain ⟨rfl, rfl⟩ := hv
    refine ⟨g, 0, c, by rw [hn], lt_of_block hh, fun k r hr => ?_⟩
    have hk := (List.getElem?_eq_some_iff.1 hr).1
    obtain ⟨q1, q2, q3⟩ := rcellsL_get k rs r hr
    have hc : ∀ i v, i < n * 3 → (rcellsL rs)[i]? = some v → w.cell? ⟨g, i, none⟩ = some v := fun i v hi hv => by
      rw [← h4, List.getElem?_take, if_pos hi] at hv
      rw [World.cell?, hh]
      simpa using hv
    refine ⟨?_, ?_, ?_⟩
    · rw [Nat.zero_add]; exact hc _ _ (by omega) q1
    · rw [Nat.zero_add]; exact hc _ _ (by omega) q2
    · rw [Nat.zero_add]; exact hc _ _ (by omega) q3
theorem own_cap3 {w : World} {g c : Nat} {M : Array Value} {e : TypeId} {base : Nat} (h : w.heap[g]? = some (.cells M e (0, 0))) (hg : base ≤ g) (hM : M.size = c * 3) (hc : c ≤ maxLen) : w.ownsRow base e 3 (.slice (some ⟨g, 0, none⟩) 0 c) 0 [] :=
  ⟨rfl, .inr ⟨g, c, M, rfl, hg, h, Nat.zero_le _, hc, by simp [hM], by simp⟩⟩
/-- Rows of rules that are owned, one beside the other. -/
def OwnRows (w : World) (B : Nat) (vs : List Value) (rows : List (List RuleS)) : Prop :=
  vs.length = rows.length ∧ ∀ (k : Nat) (u : Value) (r : List RuleS), vs[k]? = some u → rows[k]? = some r → ∃ g c, u = .slice (some ⟨g, 0, none⟩) r.length c ∧ w.ownsRow B 74 3 u r.length (rcellsL r)
theorem OwnRows.nil (w : World) (B : Nat) : OwnRows w B [] [] := ⟨rfl, fun k u r hu _ => by simp at hu⟩
theorem OwnRows.kept {w w' : World} {B : Nat} {vs : List Value} {rows : List (List RuleS)} {row : Option Nat} (h : OwnRows w B vs rows) (hg : w.grownBy w' row) (hne : ∀ g cur, w.heap[g]? = some (.cells cur 74 (0, 0)) → row ≠ some g) : OwnRows w' B vs rows := by
  refine ⟨h.1, fun k u r hu hr => ?_⟩
  obtain ⟨g, c, rfl, ho⟩ := h.2 k u r hu hr
  refine ⟨g, c, rfl, ho.kept hg (.inr fun e => ?_)⟩
  rcases ho.2 with ⟨hv, _⟩ | ⟨g', cap, cur, hv, _, hh, _⟩
  · cases hv
  · simp only [Value.slice.injEq, Option.some.injEq, Addr.mk.injEq, and_true, true_and] at hv
    obtain ⟨rfl, rfl⟩ := hv
    exact hne g cur hh e.symm
theorem OwnRows.below {w w' : World} {B : Nat} {vs : List Value} {rows : List (List RuleS)} (h : OwnRows w B vs rows) (hb : Below w.heap.size w w') : OwnRows w' B vs rows :=
  ⟨h.1, fun k u r hu hr => by
    obtain ⟨g, c, rfl, ho⟩ := h.2 k u r hu hr
    exact ⟨g, c, rfl, own_below ho hb⟩⟩
theorem OwnRows.snoc {w : World} {B g c : Nat} {vs : List Value} {rows : List (List RuleS)} {r : List RuleS} (h : OwnRows w B vs rows) (ho : w.ownsRow B 74 3 (.slice (some ⟨g, 0, none⟩) r.length c) r.length (rcellsL r)) : OwnRows w B (vs ++ [.slice (some ⟨g, 0, none⟩) r.length c]) (rows ++ [r]) := by
  refine ⟨by rw [List.length_append, List.length_append, h.1]; rfl, fun k u x hu hx => ?_⟩
  have hl := h.1
  rcases Nat.lt_or_ge k vs.length with hk | hk
  · rw [List.getElem?_append_left hk] at hu
    rw [List.getElem?_append_left (by omega)] at hx
    exact h.2 k u x hu hx
  · rw [List.getElem?_append_right hk] at hu
    rw [List.getElem?_append_right (by omega)] at hx
    have h0 : k - vs.length = 0 := by
      have := (List.getElem?_eq_some_iff.1 hu).1
      simp at this
      omega
    rw [h0] at hu
    rw [show k - rows.length = 0 by omega] at hx
    obtain rfl := Option.some.inj hu
    obtain rfl := Option.some.inj hx
    exact ⟨g, c, rfl, ho⟩
theorem OwnRows.rules2 {w : World} {B n c g : Nat} {vs : List Value} {rows : List (List RuleS)} (h : OwnRows w B vs rows) (ho : w.ownsRow B 72 1 (.slice (some ⟨g, 0, none⟩) n c) n vs) : Rules2 w w.heap.size (.slice (some ⟨g, 0, none⟩) n c) rows := by
  refine ⟨vs, own_elems ho, h.1, fun k u r hu hr => ?_⟩
  obtain ⟨g', c', rfl, ho'⟩ := h.2 k u r hu hr
  exact own_rules ho'
theorem OwnRows.set {w : World} {B : Nat} {vs : List Value} {rows : List (List RuleS)} (h : OwnRows w B vs rows) {b i : Nat} (hb : b < B) (x : Value) : OwnRows (w.setCell ⟨b, i, none⟩ x) B vs rows := by
  refine ⟨h.1, fun k u r hu hr => ?_⟩
  obtain ⟨g, c, rfl, ho⟩ := h.2 k u r hu hr
  refine ⟨g, c, rfl, ownsRow_setCell_other (a := ⟨b, i, none⟩) ho (fun e => ?_) _⟩
  have := own_lt ho _ e
  simp only at this
  omega
theorem rcellsL_take {row : List RuleS} {j : Nat} {r : RuleS} (h : row[j]? = some r) : rcellsL (row.take (j + 1)) = rcellsL (row.take j) ++ rcells r := by
  have : row.take (j + 1) = row.take j ++ [r] := by
    rw [List.take_add_one, h]; rfl
  rw [this, rcellsL, rcellsL, List.flatMap_append]
  simp
theorem newsA (Z : World) (T : TypeId) (cs : List Value) : ∀ j u, cs[j]? = some u → (Z.alloc (.cells cs.toArray T)).cell? ((⟨Z.heap.size, 0, none⟩ : Addr).add j) = some u := fun j u h => by
  rw [addr_add, Nat.zero_add, (Blk.new Z T cs.toArray).cell j]
  simpa using h
theorem Tryd.infoR : (Tryd.prog.info? 74).map (fun i => (i.zero, i.size, i.bytes)) = some (some (.agg #[.int .i64 0, .int .i64 0, .int .i64 0]), 3, 24) := by kernel_rfl
theorem Tryd.infoRL : (Tryd.prog.info? 72).map (fun i => (i.zero, i.size, i.bytes)) = some (some (.slice none 0 0), 1, 24) := by kernel_rfl
end Go.Proofs.YtkbaiegfloajlaaDoor.Tp

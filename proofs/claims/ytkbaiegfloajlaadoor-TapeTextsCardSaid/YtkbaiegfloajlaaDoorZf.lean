/- Plain words for Parse of the specification: rows that may be nil. -/
import Derived.Test.YtkbaiegfloajlaaDoorZe
namespace Go.Proofs.YtkbaiegfloajlaaDoor.Tp
open Go.RowKit

def OwnRowsG (w : World) (B : Nat) (vs : List Value) (rows : List (List RuleS)) : Prop :=
  vs.length = rows.length ∧ ∀ (k : Nat) (u : Value) (r : List RuleS), vs[k]? = some u → rows[k]? = some r → w.ownsRow B 74 3 u r.length (rcellsL r)
theorem OwnRowsG.nil (w : World) (B : Nat) : OwnRowsG w B [] [] := ⟨rfl, fun k u r hu _ => by simp at hu⟩
theorem OwnRowsG.kept {w w' : World} {B : Nat} {vs : List Value} {rows : List (List RuleS)} {row : Option Nat} (h : OwnRowsG w B vs rows) (hg : w.grownBy w' row) (hne : ∀ (k : Nat) (u : Value), vs[k]? = some u → u.ownBlock = none ∨ u.ownBlock ≠ row) : OwnRowsG w' B vs rows :=
  ⟨h.1, fun k u r hu hr => (h.2 k u r hu hr).kept hg (hne k u hu)⟩
theorem OwnRowsG.below {w w' : World} {B : Nat} {vs : List Value} {rows : List (List RuleS)} (h : OwnRowsG w B vs rows) (hb : Below w.heap.size w w') : OwnRowsG w' B vs rows :=
  ⟨h.1, fun k u r hu hr => own_below (h.2 k u r hu hr) hb⟩
theorem OwnRowsG.snoc {w : World} {B : Nat} {vs : List Value} {rows : List (List RuleS)} {r : List RuleS} {u : Value} (h : OwnRowsG w B vs rows) (ho : w.ownsRow B 74 3 u r.length (rcellsL r)) : OwnRowsG w B (vs ++ [u]) (rows ++ [r]) := by
  refine ⟨by rw [List.length_append, List.length_append, h.1]; rfl, fun k x y hx hy => ?_⟩
  have hl := h.1
  rcases Nat.lt_or_ge k vs.length with hk | hk
  · rw [List.getElem?_append_left hk] at hx
    rw [List.getElem?_append_left (by omega)] at hy
    exact h.2 k x y hx hy
  · rw [List.getElem?_append_right hk] at hx
    rw [List.getElem?_append_right (by omega)] at hy
    have h0 : k - vs.length = 0 := by
      have := (List.getElem?_eq_some_iff.1 hx).1
      simp at this
      omega
    rw [h0] at hx
    rw [show k - rows.length = 0 by omega] at hy
    obtain rfl := Option.some.inj hx
    obtain rfl := Option.some.inj hy
    exact ho
theorem OwnRowsG.set {w : World} {B : Nat} {vs : List Value} {rows : List (List RuleS)} (h : OwnRowsG w B vs rows) {b i : Nat} (hb : b < B) (x : Value) : OwnRowsG (w.setCell ⟨b, i, none⟩ x) B vs rows :=
  ⟨h.1, fun k u r hu hr => ownsRow_setCell_other (a := ⟨b, i, none⟩) (h.2 k u r hu hr) (fun e => by have := own_lt (h.2 k u r hu hr) _ e; simp only at this; omega) _⟩
theorem OwnRowsG.rules2 {w : World} {B n c : Nat} {A : Option Addr} {vs : List Value} {rows : List (List RuleS)} (h : OwnRowsG w B vs rows) (ho : w.ownsRow B 72 1 (.slice A n c) n vs) : Rules2 w w.heap.size (.slice A n c) rows := by
  refine ⟨vs, own_any ho, h.1, fun k u r hu hr => ?_⟩
  have hk := h.2 k u r hu hr
  obtain ⟨A', c', rfl⟩ := own_form hk
  exact own_rules hk
/-- A slice of rows and a row of rules lie in different blocks. -/
theorem own_types {w : World} {B B' n n' : Nat} {v u : Value} {xs ys : List Value} (h : w.ownsRow B 72 1 v n xs) (h' : w.ownsRow B' 74 3 u n' ys) : v.ownBlock = none ∨ v.ownBlock ≠ u.ownBlock := by
  rcases h.2 with ⟨hn, _⟩ | ⟨q, cap, cu, hvv, _, hq, _⟩
  · left; rw [hn]; rfl
  · right
    rw [hvv]
    rcases h'.2 with ⟨hn, _⟩ | ⟨q', cap', cu', hvv', _, hq', _⟩
    · rw [hn]; simp [Value.ownBlock]
    · rw [hvv']
      simp only [Value.ownBlock, ne_eq, Option.some.injEq]
      intro e
      rw [e, hq'] at hq
      simp at hq
theorem own_types' {w : World} {B B' n n' : Nat} {v u : Value} {xs ys : List Value} (h : w.ownsRow B 74 3 v n xs) (h' : w.ownsRow B' 72 1 u n' ys) : v.ownBlock = none ∨ v.ownBlock ≠ u.ownBlock := by
  rcases h.2 with ⟨hn, _⟩ | ⟨q, cap, cu, hvv, _, hq, _⟩
  · left; rw [hn]; rfl
  · right
    rw [hvv]
    rcases h'.2 with ⟨hn, _⟩ | ⟨q', cap', cu', hvv', _, hq', _⟩
    · rw [hn]; simp [Value.ownBlock]
    · rw [hvv']
      simp only [Value.ownBlock, ne_eq, Option.some.injEq]
      intro e
      rw [e, hq'] at hq
      simp at hq
/-- What lies in memory while the specification's Parse reads a string. -/
structure RPS (B a : Nat) (rows : List (List RuleS)) (row : List RuleS) (v u : Value) (vs : List Value) (wr : World) : Prop where
  box : Blk wr a 24 #[.int .i64 ((rows.length : Int) + 1), .int .i64 0, v]
  own : wr.ownsRow B 72 1 v rows.length vs
  rws : OwnRowsG wr B vs rows
  cur : wr.ownsRow B 74 3 u row.length (rcellsL row)
  ne : ∀ (k : Nat) (x : Value), vs[k]? = some x → x.ownBlock = none ∨ x.ownBlock ≠ u.ownBlock
  lt : a < B
  le : B ≤ wr.heap.size
theorem RPS.to {B a : Nat} {rows : List (List RuleS)} {row : List RuleS} {v u : Value} {vs : List Value} {wr w' : World} (h : RPS B a rows row v u vs wr) (hb : Below wr.heap.size wr w') : RPS B a rows row v u vs w' :=
  ⟨h.box.to hb, own_below h.own hb, h.rws.below hb, own_below h.cur hb, h.ne, h.lt, Nat.le_trans h.le hb.size⟩
theorem RPS.push {B a : Nat} {rows : List (List RuleS)} {row : List RuleS} {v u v' : Value} {vs : List Value} {wr Z : World} {o : Obj} (h : RPS B a rows row v u vs wr) (hg : (wr.alloc o).grownBy Z v.ownBlock) (hown : Z.ownsRow B 72 1 v' (rows.length + 1) (vs ++ [u])) :
    Blk (Z.setCell ⟨a, 2, none⟩ v') a 24 #[.int .i64 ((rows.length : Int) + 1), .int .i64 0, v'] ∧ (Z.setCell ⟨a, 2, none⟩ v').ownsRow B 72 1 v' (rows.length + 1) (vs ++ [u]) ∧ OwnRowsG (Z.setCell ⟨a, 2, none⟩ v') B (vs ++ [u]) (rows ++ [row]) ∧ B ≤ (Z.setCell ⟨a, 2, none⟩ v').heap.size := by
  have hlt := h.lt
  have hv : ∀ q, v.ownBlock = some q → B ≤ q := own_lt h.own
  have hv' : ∀ q, v'.ownBlock = some q → B ≤ q := own_lt hown
  have hownA : (wr.alloc o).ownsRow B 72 1 v rows.length vs := own_below h.own (below1 wr o)
  have hcurA : (wr.alloc o).ownsRow B 74 3 u row.length (rcellsL row) := own_below h.cur (below1 wr o)
  refine ⟨?_, ?_, ?_, ?_⟩
  · have := ((h.box.alloc o).grownby hg (fun e => by have := hv _ e.symm; omega)).set_ 2 v'
    simpa using this
  · exact ownsRow_setCell_other (a := ⟨a, 2, none⟩) hown (fun e => by have := hv' _ e; simp only at this; omega) _
  · refine OwnRowsG.set ((((h.rws.below (below1 wr o)).kept hg (fun k x hx => ?_))).snoc (hcurA.kept hg (own_types' hcurA hownA))) h.lt _
    have hr : ∃ r, rows[k]? = some r := by
      have := (List.getElem?_eq_some_iff.1 hx).1
      exact ⟨_, List.getElem?_eq_getElem (by rw [← h.rws.1]; exact this)⟩
    obtain ⟨r, hr⟩ := hr
    exact own_types' (own_below (h.rws.2 k x r hx hr) (below1 wr o)) hownA
  · rw [set_size]
    refine Nat.le_trans h.le (Nat.le_trans ?_ hg.size)
    simp
theorem RPS.next {B a : Nat} {rows : List (List RuleS)} {row : List RuleS} {v' : Value} {vs : List Value} {u : Value} {Z : World} (hlt : a < B) (h : Blk Z a 24 #[.int .i64 ((rows.length : Int) + 1), .int .i64 0, v'] ∧ Z.ownsRow B 72 1 v' (rows.length + 1) (vs ++ [u]) ∧ OwnRowsG Z B (vs ++ [u]) (rows ++ [row]) ∧ B ≤ Z.heap.size) :
    RPS B a (rows ++ [row]) [] v' (.slice none 0 0) (vs ++ [u]) (Z.setCell ⟨a, 0, none⟩ (.int .i64 ((rows.length : Int) + 1 + 1))) := by
  obtain ⟨h1, h2, h3, h4⟩ := h
  have hl : (rows ++ [row]).length = rows.length + 1 := by simp
  refine ⟨?_, ?_, h3.set hlt _, ⟨rfl, .inl ⟨rfl, rfl⟩⟩, fun k x _ => ?_, hlt, by rw [set_size]; exact h4⟩
  · have := h1.set_ 0 (.int .i64 ((rows.length : Int) + 1 + 1))
    rw [hl]
    simpa using this
  · rw [hl]
    exact ownsRow_setCell_other (a := ⟨a, 0, none⟩) h2 (fun e => by have := own_lt h2 _ e; simp only at this; omega) _
  · cases hx : x.ownBlock with
    | none => exact .inl rfl
    | some q => right; simp [Value.ownBlock]
theorem RPS.add {B a : Nat} {rows : List (List RuleS)} {row : List RuleS} {v u u' : Value} {vs : List Value} {wr Z : World} {o : Obj} {r : RuleS} (h : RPS B a rows row v u vs wr) (hg : (wr.alloc o).grownBy Z u.ownBlock) (hown : Z.ownsRow B 74 3 u' (row.length + 1) (rcellsL row ++ rcells r)) (hat : u'.ownBlock = u.ownBlock ∨ u'.ownBlock = some (wr.alloc o).heap.size) :
    RPS B a rows (row ++ [r]) v u' vs Z := by
  have hlt := h.lt
  have hu : ∀ q, u.ownBlock = some q → B ≤ q := own_lt h.cur
  have hownA : (wr.alloc o).ownsRow B 72 1 v rows.length vs := own_below h.own (below1 wr o)
  have hcurA : (wr.alloc o).ownsRow B 74 3 u row.length (rcellsL row) := own_below h.cur (below1 wr o)
  refine ⟨(h.box.alloc o).grownby hg (fun e => by have := hu _ e.symm; omega), hownA.kept hg (own_types hownA hcurA), (h.rws.below (below1 wr o)).kept hg h.ne, ?_, fun k x hx => ?_, h.lt, ?_⟩
  · have e1 : (row ++ [r]).length = row.length + 1 := by simp
    have e2 : rcellsL (row ++ [r]) = rcellsL row ++ rcells r := by simp [rcellsL]
    rw [e1, e2]
    exact hown
  · rcases hat with e | e
    · rw [e]; exact h.ne k x hx
    · rw [e]
      have hr : ∃ r, rows[k]? = some r := by
        have := (List.getElem?_eq_some_iff.1 hx).1
        exact ⟨_, List.getElem?_eq_getElem (by rw [← h.rws.1]; exact this)⟩
      obtain ⟨r', hr⟩ := hr
      have hb := h.rws.2 k x r' hx hr
      cases hxo : x.ownBlock with
      | none => exact .inl rfl
      | some q =>
        right
        intro e2
        have := (hb.lt q hxo).2
        simp only [Option.some.injEq] at e2
        simp at e2
        omega
  · refine Nat.le_trans h.le (Nat.le_trans ?_ hg.size)
    simp
end Go.Proofs.YtkbaiegfloajlaaDoor.Tp

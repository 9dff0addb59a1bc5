/- Words for memory: slices of one-cell elements, boxes, what a call leaves. (Names and numbers of no program.) -/
import Derived.Test.YtonammaecpapmaaRows
import Derived.WalkKit
import Derived.WalkSpells
import Derived.WalkLawsBesides
import Derived.Deep.QuietTactic
import Derived.BigQuiet
import Derived.Deep.RegionHeld3
import Derived.Deep.DeepCutAuto
import Derived.Deep.CutBlock
import Derived.Deep.AppendLies
import Derived.Deep.RegionLaw
import Derived.Laws.EntriesVeiled
namespace Go.Proofs.Ytonammaecpapmaa
open Go.RowKit

theorem ret_bool {a b : Bool} (h : a = b) : Ending.returned (.bool a) = .returned (.bool b) := by rw [h]
theorem ret_int {a b : Int} (h : a = b) : Ending.returned (.int .i64 a) = .returned (.int .i64 b) := by rw [h]
theorem hid_ {p : Prop} (h : p) : Hid p := h
theorem addr_add (b off j : Nat) : (⟨b, off, none⟩ : Addr).add j = ⟨b, off + j, none⟩ := by
  unfold Addr.add
  split <;> simp_all
theorem cell_lt {w : World} {a : Addr} {v : Value} (h : w.cell? a = some v) : a.block < w.heap.size := by
  rcases Nat.lt_or_ge a.block w.heap.size with hlt | hge
  · exact hlt
  · rw [World.cell?, Array.getElem?_eq_none hge] at h
    cases h
/-- A cell that is there is there behind a call that leaves old memory alone. -/
theorem keepc {w w' : World} {a : Addr} {v : Value} (hb : Below w.heap.size w w') (h : w.cell? a = some v) : w'.cell? a = some v := (hb.cell (cell_lt h)).trans h
theorem keepc' {B : Nat} {w w' : World} {a : Addr} {v : Value} (hb : Below B w w') (h : w.cell? a = some v) (hl : a.block < B) : w'.cell? a = some v := (hb.cell hl).trans h
theorem keepa {w : World} {b j : Nat} {v : Value} (o : Obj) (h : w.cell? ⟨b, j, none⟩ = some v) : (w.alloc o).cell? ⟨b, j, none⟩ = some v := (World.cell?_alloc_past _ _ _ (cell_lt h)).trans h
theorem bnext {w w1 w2 : World} (h : Below w.heap.size w w1) (h2 : Below w1.heap.size w1 w2) : Below w.heap.size w w2 := h.trans (h2.mono h.size)
theorem below_drewN {B : Nat} {a w : World} (h : Below B a w) (n : Nat) : Below B a (w.drewN n) := ⟨h.os, h.tape, h.output, h.size, h.block⟩
theorem below1 (w : World) (o : Obj) : Below w.heap.size w (w.alloc o) := (Below.refl _ w).alloc (Nat.le_refl _) o
theorem below2 (w : World) (o o' : Obj) : Below w.heap.size w ((w.alloc o).alloc o') := (below1 w o).alloc (by simp) o'
theorem size_ad (w : World) (o : Obj) : (w.alloc o).drew.heap.size = w.heap.size + 1 := by
  show (w.alloc o).heap.size = _
  simp
theorem _root_.Go.RowKit.Below.drewl {w w' : World} (h : Below w.drew.heap.size w.drew w') : Below w.heap.size w w' := ⟨h.os, h.tape, h.output, h.size, h.block⟩
theorem _root_.Go.RowKit.Below.drewNl {w w' : World} {n : Nat} (h : Below (w.drewN n).heap.size (w.drewN n) w') : Below w.heap.size w w' := ⟨h.os, h.tape, h.output, h.size, h.block⟩

/-- Block g is just these cells. -/
def Blk (w : World) (g : Nat) (t : TypeId) (cs : Array Value) : Prop := w.heap[g]? = some (.cells cs t (0, 0))
section
variable {w w' : World} {g : Nat} {t : TypeId} {cs : Array Value}
theorem Blk.lt (h : Blk w g t cs) : g < w.heap.size := lt_of_block h
theorem Blk.cell (h : Blk w g t cs) (i : Nat) : w.cell? ⟨g, i, none⟩ = cs[i]? := by unfold Blk at h; simp [World.cell?, h]
theorem Blk.free (h : Blk w g t cs) (i : Nat) : w.frozen? ⟨g, i, none⟩ = false := by unfold Blk at h; simp [World.frozen?, h]
theorem Blk.new (w : World) (t : TypeId) (cs : Array Value) : Blk (w.alloc (.cells cs t)) w.heap.size t cs := heap_alloc_new w _
theorem Blk.alloc (h : Blk w g t cs) (o : Obj) : Blk (w.alloc o) g t cs := (Below.heap_alloc w o g h.lt).trans h
theorem Blk.below {B : Nat} (h : Blk w g t cs) (hb : Below B w w') (hg : g < B) : Blk w' g t cs := (hb.block g hg).trans h
theorem Blk.to (h : Blk w g t cs) (hb : Below w.heap.size w w') : Blk w' g t cs := h.below hb h.lt
theorem Blk.set_ (h : Blk w g t cs) (i : Nat) (u : Value) : Blk (w.setCell ⟨g, i, none⟩ u) g t (cs.setIfInBounds i u) := by
  unfold Blk at h ⊢
  simp [World.setCell, Array.getElem?_modify, h]
theorem Blk.far (h : Blk w g t cs) {p : Addr} (hp : g ≠ p.block) (u : Value) : Blk (w.setCell p u) g t cs := (Below.heap_setCell w p u g hp).trans h
theorem Blk.dN (h : Blk w g t cs) (n : Nat) : Blk (w.drewN n) g t cs := h
theorem Blk.grownby {gm : Option Nat} (h : Blk w g t cs) (hb : w.grownBy w' gm) (hg : some g ≠ gm) : Blk w' g t cs := (hb.block g h.lt hg).trans h
end

/-- A slice value whose elements are single cells: nil, empty, or cells in a block below B. -/
def Elems (w : World) (B : Nat) (v : Value) (cs : List Value) : Prop :=
  ((v = .slice none 0 0 ∨ ∃ a c, v = .slice (some a) 0 c) ∧ cs = []) ∨ ∃ b off c, v = .slice (some ⟨b, off, none⟩) cs.length c ∧ b < B ∧ ∀ (k : Nat) (u : Value), cs[k]? = some u → w.cell? ⟨b, off + k, none⟩ = some u
theorem Elems.nil (w : World) (B : Nat) : Elems w B (.slice none 0 0) [] := .inl ⟨.inl rfl, rfl⟩
theorem Elems.below {w w' : World} {B B' : Nat} {v : Value} {cs : List Value} (h : Elems w B v cs) (hb : Below B' w w') (hB : B ≤ B') : Elems w' B v cs := by
  rcases h with h | ⟨b, off, c, hv, hlt, hc⟩
  · exact .inl h
  · exact .inr ⟨b, off, c, hv, hlt, fun k u hu => (hb.cell (p := ⟨b, off + k, none⟩) (by show b < B'; omega)).trans (hc k u hu)⟩
theorem Elems.mono {w : World} {B B' : Nat} {v : Value} {cs : List Value} (h : Elems w B v cs) (hB : B ≤ B') : Elems w B' v cs := by
  rcases h with h | ⟨b, off, c, hv, hlt, hc⟩
  · exact .inl h
  · exact .inr ⟨b, off, c, hv, by omega, hc⟩
theorem Elems.to {w w' : World} {v : Value} {cs : List Value} (h : Elems w w.heap.size v cs) (hb : Below w.heap.size w w') : Elems w' w'.heap.size v cs :=
  (h.below hb (Nat.le_refl _)).mono hb.size
theorem Elems.form {w : World} {B : Nat} {v : Value} {cs : List Value} (h : Elems w B v cs) : ∃ A c, v = .slice A cs.length c := by
  rcases h with ⟨rfl | ⟨a, c, rfl⟩, rfl⟩ | ⟨b, off, c, rfl, _⟩
  · exact ⟨none, 0, rfl⟩
  · exact ⟨some a, c, rfl⟩
  · exact ⟨_, c, rfl⟩
theorem Elems.at_ {w : World} {B : Nat} {A : Option Addr} {n c : Nat} {cs : List Value} (h : Elems w B (.slice A n c) cs) (hn : 0 < n) :
    ∃ b off, A = some ⟨b, off, none⟩ ∧ b < B ∧ ∀ (k : Nat) (u : Value), cs[k]? = some u → w.cell? ⟨b, off + k, none⟩ = some u := by
  rcases h with ⟨hv | ⟨a, c', hv⟩, _⟩ | ⟨b, off, c', hv, hlt, hc⟩
  · simp at hv; omega
  · simp at hv; omega
  · simp at hv
    exact ⟨b, off, hv.1, hlt, hc⟩
theorem Elems.len {w : World} {B : Nat} {A : Option Addr} {n c : Nat} {cs : List Value} (h : Elems w B (.slice A n c) cs) : cs.length = n := by
  rcases h with ⟨hv | ⟨a, c', hv⟩, rfl⟩ | ⟨b, off, c', hv, _⟩
  · simp at hv; simp [hv.2.1]
  · simp at hv; simp [hv.2.1]
  · simp at hv; exact hv.2.1.symm
theorem own_elems {w : World} {base e g n c : Nat} {cs : List Value} (h : w.ownsRow base e 1 (.slice (some ⟨g, 0, none⟩) n c) n cs) : Elems w w.heap.size (.slice (some ⟨g, 0, none⟩) n c) cs := by
  have hl := h.1
  rw [Nat.mul_one] at hl
  have hlt := (h.lt g rfl).2
  refine .inr ⟨g, 0, c, by rw [hl], hlt, fun k u hu => ?_⟩
  have hk : k < cs.length := (List.getElem?_eq_some_iff.1 hu).1
  rw [Nat.zero_add, h.cellAt k (by omega)]
  exact hu
theorem own_any {w : World} {base e n : Nat} {v : Value} {cs : List Value} (h : w.ownsRow base e 1 v n cs) : Elems w w.heap.size v cs := by
  rcases h.2 with ⟨rfl, rfl⟩ | ⟨g, cap, cur, rfl, _⟩
  · have := h.1
    rw [Nat.zero_mul] at this
    rw [List.length_eq_zero_iff.1 this]
    exact Elems.nil _ _
  · exact own_elems h
theorem own_cap {w : World} {base e size g n c m : Nat} {xs : List Value} (h : w.ownsRow base e size (.slice (some ⟨g, 0, none⟩) n c) m xs) : n = m ∧ m ≤ c ∧ base ≤ g ∧ c ≤ maxLen := by
  rcases h.2 with ⟨hv, _⟩ | ⟨g', cap, cur, hv, hg', hh, h1, h2, _⟩
  · cases hv
  · simp only [Value.slice.injEq, Option.some.injEq, Addr.mk.injEq, and_true] at hv
    obtain ⟨rfl, rfl, rfl⟩ := hv
    exact ⟨rfl, h1, hg', h2⟩
theorem own_keep {w w' : World} {B base e size g n c m : Nat} {xs : List Value} (h : w.ownsRow base e size (.slice (some ⟨g, 0, none⟩) n c) m xs) (hb : Below B w w') (hg : g < B) : w'.ownsRow base e size (.slice (some ⟨g, 0, none⟩) n c) m xs := by
  rcases h.2 with ⟨hv, _⟩ | ⟨g', cap, cur, hv, hg', hh, r⟩
  · cases hv
  · have : g = g' := by simp at hv; omega
    subst this
    exact ⟨h.1, .inr ⟨g, cap, cur, hv, hg', (hb.block g hg).trans hh, r⟩⟩
theorem own_below {w w' : World} {base size n : Nat} {e : TypeId} {v : Value} {xs : List Value} (h : w.ownsRow base e size v n xs) (hb : Below w.heap.size w w') : w'.ownsRow base e size v n xs := by
  rcases h.2 with ⟨rfl, h0⟩ | ⟨g, cap, cur, hv, hg, hh, h1, h2, h3, h4⟩
  · exact ⟨h.1, .inl ⟨rfl, h0⟩⟩
  · have hlt : g < w.heap.size := by
      rcases Nat.lt_or_ge g w.heap.size with hlt | hge
      · exact hlt
      · rw [Array.getElem?_eq_none hge] at hh; cases hh
    exact ⟨h.1, .inr ⟨g, cap, cur, hv, hg, (hb.block g hlt).trans hh, h1, h2, h3, h4⟩⟩
theorem own_base {w : World} {B B' : Nat} {e : TypeId} {size : Nat} {v : Value} {n : Nat} {xs : List Value} (h : w.ownsRow B e size v n xs) (hB : B' ≤ B) : w.ownsRow B' e size v n xs := by
  obtain ⟨h1, h2⟩ := h
  refine ⟨h1, ?_⟩
  rcases h2 with h2 | ⟨g, cap, cur, hv, hg, r⟩
  · exact .inl h2
  · exact .inr ⟨g, cap, cur, hv, by omega, r⟩
theorem own_lt {w : World} {base size n : Nat} {e : TypeId} {v : Value} {xs : List Value} (h : w.ownsRow base e size v n xs) (k : Nat) (hk : v.ownBlock = some k) : base ≤ k := by
  rcases h.2 with ⟨rfl, _⟩ | ⟨g, cap, cur, rfl, hb, _⟩
  · simp [Value.ownBlock] at hk
  · simp [Value.ownBlock] at hk; omega
theorem own_ne {w : World} {base o size n : Nat} {e : TypeId} {v : Value} {xs : List Value} (h : w.ownsRow base e size v n xs) (ho : o < base) : some o ≠ v.ownBlock := fun e => by
  have := own_lt h o e.symm
  omega
/-- A new slice of nothing, as '[]T{}' makes it. -/
theorem own_empty (w : World) (e : TypeId) : (w.alloc (.cells #[] e)).ownsRow w.heap.size e 1 (.slice (some ⟨w.heap.size, 0, none⟩) 0 0) 0 [] :=
  ⟨rfl, .inr ⟨w.heap.size, 0, #[], rfl, Nat.le_refl _, heap_alloc_new w _, Nat.le_refl _, by unfold maxLen; omega, rfl, rfl⟩⟩
theorem make_below {w w' : World} (h : w.grownBy w' none) : Below w.heap.size w w' := ⟨h.os, h.tape, h.output, h.size, fun k hk => h.block k hk (by simp)⟩

def ints (rs : List Int) : List Value := rs.map (Value.int .i64)
theorem ints_one {rs : List Int} : ∀ u ∈ ints rs, u.oneCell' = true := by
  intro u hu
  simp [ints] at hu
  obtain ⟨x, _, rfl⟩ := hu
  rfl
theorem ints_len {rs : List Int} : (ints rs).length = rs.length := by simp [ints]
theorem ints_at {rs : List Int} {k : Nat} {x : Int} (h : rs[k]? = some x) : (ints rs)[k]? = some (.int .i64 x) := by simp [ints, h]
theorem ints_get {rs : List Int} {j : Nat} {u : Value} (h : (ints rs)[j]? = some u) : ∃ x, rs[j]? = some x ∧ u = .int .i64 x := by
  simp [ints] at h
  obtain ⟨x, hx, rfl⟩ := h
  exact ⟨x, hx, rfl⟩
theorem ints_set {xs : List Int} {k : Nat} {x : Int} : (ints xs).set k (.int .i64 x) = ints (xs.set k x) := by simp [ints]
def bools (bs : List Bool) : List Value := bs.map Value.bool
theorem bools_at {bs : List Bool} {k : Nat} {x : Bool} (h : bs[k]? = some x) : (bools bs)[k]? = some (.bool x) := by simp [bools, h]
/-- A slice of slices of integers. -/
def Rows2 (w : World) (B : Nat) (v : Value) (rows : List (List Int)) : Prop :=
  ∃ vs : List Value, Elems w B v vs ∧ vs.length = rows.length ∧ ∀ (k : Nat) (u : Value) (r : List Int), vs[k]? = some u → rows[k]? = some r → Elems w B u (ints r)
theorem Rows2.below {w w' : World} {B B' : Nat} {v : Value} {rows : List (List Int)} (h : Rows2 w B v rows) (hb : Below B' w w') (hB : B ≤ B') : Rows2 w' B v rows := by
  obtain ⟨vs, h1, h2, h3⟩ := h
  exact ⟨vs, h1.below hb hB, h2, fun k u r hu hr => (h3 k u r hu hr).below hb hB⟩
theorem Rows2.mono {w : World} {B B' : Nat} {v : Value} {rows : List (List Int)} (h : Rows2 w B v rows) (hB : B ≤ B') : Rows2 w B' v rows := by
  obtain ⟨vs, h1, h2, h3⟩ := h
  exact ⟨vs, h1.mono hB, h2, fun k u r hu hr => (h3 k u r hu hr).mono hB⟩
theorem Rows2.to {w w' : World} {v : Value} {rows : List (List Int)} (h : Rows2 w w.heap.size v rows) (hb : Below w.heap.size w w') : Rows2 w' w'.heap.size v rows :=
  (h.below hb (Nat.le_refl _)).mono hb.size
theorem Rows2.len {w : World} {B : Nat} {A : Option Addr} {n c : Nat} {rows : List (List Int)} (h : Rows2 w B (.slice A n c) rows) : rows.length = n := by
  obtain ⟨vs, h1, h2, _⟩ := h
  rw [← h2, h1.len]
/-- Row k: the cell that holds it, and what it is. -/
theorem Rows2.row {w : World} {B b off n c k : Nat} {rows : List (List Int)} {r : List Int} (h : Rows2 w B (.slice (some ⟨b, off, none⟩) n c) rows) (hk : rows[k]? = some r) :
    ∃ A d, w.cell? ⟨b, off + k, none⟩ = some (.slice A r.length d) ∧ Elems w B (.slice A r.length d) (ints r) := by
  have hlen := h.len
  obtain ⟨vs, h1, h2, h3⟩ := h
  have hkl : k < rows.length := (List.getElem?_eq_some_iff.1 hk).1
  obtain ⟨b', off', e, _, hc⟩ := h1.at_ (by omega)
  simp only [Option.some.injEq, Addr.mk.injEq, and_true] at e
  obtain ⟨rfl, rfl⟩ := e
  obtain ⟨u, hu⟩ : ∃ u, vs[k]? = some u := ⟨_, List.getElem?_eq_getElem (by omega)⟩
  have hE := h3 k u r hu hk
  obtain ⟨A, d, rfl⟩ := hE.form
  rw [ints_len] at hE hu
  exact ⟨A, d, hc k _ hu, hE⟩
theorem Rows2.addr {w : World} {B n c : Nat} {A : Option Addr} {rows : List (List Int)} (h : Rows2 w B (.slice A n c) rows) (hn : 0 < n) : ∃ b off, A = some ⟨b, off, none⟩ ∧ b < B := by
  obtain ⟨vs, h1, _⟩ := h
  obtain ⟨b, off, e, hlt, _⟩ := h1.at_ hn
  exact ⟨b, off, e, hlt⟩

theorem all_step {α : Type} {code : List α} {p : α → Bool} {k : Nat} {i : α} (hi : code[k]? = some i) (ht : (code.take k).all p = true) (hp : p i = true) : (code.take (k + 1)).all p = true := by
  rw [List.take_add_one, hi, List.all_append, ht]
  simp [hp]
theorem all_not {α : Type} {code : List α} {p : α → Bool} {k : Nat} {i : α} (hi : code[k]? = some i) (hp : p i = false) : code.all p = false := by
  rw [List.all_eq_false]
  exact ⟨i, List.mem_of_getElem? hi, by simp [hp]⟩
theorem getD_some {α : Type} {l : List α} {k : Nat} {x d : α} (h : l[k]? = some x) : l.getD k d = x := by rw [List.getD_eq_getElem?_getD, h]; rfl
end Go.Proofs.Ytonammaecpapmaa

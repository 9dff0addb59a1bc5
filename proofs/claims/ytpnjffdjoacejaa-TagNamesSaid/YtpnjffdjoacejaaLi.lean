/- Words for the law TagNames: the system that the law makes. -/
import Derived.Test.YtpnjffdjoacejaaLh
namespace Go.Proofs.Ytpnjffdjoacejaa
open Go.RowKit

/-- The system that the law fills: its box gu, its rules at g1, its stops at g2. -/
def MadeAt (W : World) (del : Int) (n gu g1 g2 : Nat) (f : Nat → List Int) (bs : List Bool) (wx : World) : Prop :=
  ∃ vs, Blk wx gu 25 #[.int .i64 del, .slice (some ⟨g1, 0, none⟩) n n, .slice (some ⟨g2, 0, none⟩) n n] ∧ wx.ownsRow W.heap.size 26 1 (.slice (some ⟨g1, 0, none⟩) n n) n vs ∧ SRow wx g1 f vs ∧ wx.ownsRow W.heap.size 4 1 (.slice (some ⟨g2, 0, none⟩) n n) n (bools bs) ∧ gu ≠ g1 ∧ gu ≠ g2 ∧ g1 ≠ g2 ∧ W.heap.size ≤ gu ∧ W.heap.size ≤ g1 ∧ W.heap.size ≤ g2 ∧ Below W.heap.size W wx ∧ ∀ (i : Nat) (u : Value), vs[i]? = some u → ∀ b, u.ownBlock = some b → b ≠ g2
def MadeU (W : World) (del : Int) (n : Nat) (f : Nat → List Int) (bs : List Bool) (s : Value) (wx : World) : Prop := ∃ gu g1 g2, s = .pointer (some ⟨gu, 0, none⟩) ∧ MadeAt W del n gu g1 g2 f bs wx
theorem rel3 (R : World → Prop) (w : World) (o1 o2 o3 : Obj) (h : ∀ X : World, X.heap[w.heap.size]? = some o1 → X.heap[w.heap.size + 1]? = some o2 → X.heap[w.heap.size + 1 + 1]? = some o3 → Below w.heap.size w X → R X) : R (((w.alloc o1).alloc o2).alloc o3).drew := by
  have h1 : ((w.alloc o1).alloc o2).heap.size = w.heap.size + 1 + 1 := by simp
  have h2 : (w.alloc o1).heap.size = w.heap.size + 1 := by simp
  refine h _ ?_ ?_ ?_ ?_
  · exact (Below.heap_alloc _ o3 w.heap.size (by omega)).trans ((Below.heap_alloc _ o2 w.heap.size (by omega)).trans (heap_alloc_new w o1))
  · have := heap_alloc_new (w.alloc o1) o2
    rw [h2] at this
    exact (Below.heap_alloc _ o3 (w.heap.size + 1) (by omega)).trans this
  · have := heap_alloc_new ((w.alloc o1).alloc o2) o3
    rw [h1] at this
    exact this
  · exact ((below2 w o1 o2).alloc (by omega) o3).drew
theorem own_block_mk {w : World} {base g n : Nat} {M : Array Value} {e : TypeId} (h : w.heap[g]? = some (.cells M e (0, 0))) (hg : base ≤ g) (hM : M.size = n) (hn : n ≤ maxLen) : w.ownsRow base e 1 (.slice (some ⟨g, 0, none⟩) n n) n M.toList :=
  ⟨by simp [hM], .inr ⟨g, n, M, rfl, hg, h, Nat.le_refl _, hn, by simp [hM], by rw [Nat.mul_one]; exact List.take_of_length_le (by simp [hM])⟩⟩
theorem madeU_mk {W wr wx : World} {del : Int} {n gu g1 g2 : Nat} {t : TagS} {tos : List Int} (hbr : Below W.heap.size W wr) (hb : Below wr.heap.size wr wx)
    (hu : wx.heap[gu]? = some (.cells #[.int .i64 del, .slice (some ⟨g1, 0, none⟩) n n, .slice (some ⟨g2, 0, none⟩) n n] 25 (0, 0)))
    (h1 : wx.heap[g1]? = some (.cells (madeCells (Value.slice none 0 0).cells (n * 1)) 26 (0, 0))) (h2 : wx.heap[g2]? = some (.cells (madeCells (Value.bool false).cells (n * 1)) 4 (0, 0)))
    (ku : W.heap.size ≤ gu) (k1 : W.heap.size ≤ g1) (k2 : W.heap.size ≤ g2) (hn : n ≤ maxLen) : MadeU W del n (fun i => (renR n t tos 0).getD i []) (renS n t tos 0) (.pointer (some ⟨gu, 0, none⟩)) wx := by
  have e1 : (madeCells (Value.slice none 0 0).cells (n * 1)).toList = List.replicate n (.slice none 0 0) := by rw [Nat.mul_one]; exact toList_madeCells_one _ _
  have e2 : (madeCells (Value.bool false).cells (n * 1)).toList = bools (renS n t tos 0) := by
    rw [Nat.mul_one]
    refine (toList_madeCells_one _ _).trans ?_
    simp [bools, renS]
  have o1 := own_block_mk h1 k1 (by simp [size_madeCells, Value.cells]) hn
  have o2 := own_block_mk h2 k2 (by simp [size_madeCells, Value.cells]) hn
  rw [e1] at o1
  rw [e2] at o2
  refine ⟨gu, g1, g2, rfl, _, hu, o1, ?_, o2, ?_, ?_, ?_, ku, k1, k2, bnext hbr hb, ?_⟩
  · intro i u hi
    rw [List.getElem?_replicate] at hi
    split at hi
    · obtain rfl := Option.some.inj hi
      have : (renR n t tos 0).getD i [] = [] := by
        simp only [renR, List.getD_eq_getElem?_getD, List.getElem?_replicate]
        split <;> rfl
      simp only [this]
      exact ⟨Elems.nil _ _, fun b h => by simp [Value.ownBlock] at h⟩
    · cases hi
  · rintro rfl
    rw [hu] at h1
    simp at h1
  · rintro rfl
    rw [hu] at h2
    simp at h2
  · rintro rfl
    rw [h1] at h2
    simp at h2
  · intro i u hi b hb
    rw [List.getElem?_replicate] at hi
    split at hi
    · obtain rfl := Option.some.inj hi
      simp [Value.ownBlock] at hb
    · cases hi

section
variable {W wx w' : World} {del : Int} {n gu g1 g2 : Nat} {f f' : Nat → List Int} {bs : List Bool}
theorem MadeAt.to (h : MadeAt W del n gu g1 g2 f bs wx) (hb : Below wx.heap.size wx w') : MadeAt W del n gu g1 g2 f bs w' := by
  obtain ⟨vs, a1, a2, a3, a4, a5, a6, a7, a8, a9, a10, a11, a12⟩ := h
  exact ⟨vs, a1.to hb, own_below a2 hb, a3.to hb, own_below a4 hb, a5, a6, a7, a8, a9, a10, bnext a11 hb, a12⟩
theorem MadeAt.dr (h : MadeAt W del n gu g1 g2 f bs wx) (k : Nat) : MadeAt W del n gu g1 g2 f bs (wx.drewN k) := h.to (below_drewN (Below.refl _ _) k)
theorem MadeAt.lt (h : MadeAt W del n gu g1 g2 f bs wx) : g1 < wx.heap.size ∧ g2 < wx.heap.size ∧ gu < wx.heap.size := by
  obtain ⟨vs, a1, a2, a3, a4, _⟩ := h
  exact ⟨(a2.lt g1 rfl).2, (a4.lt g2 rfl).2, a1.lt⟩
theorem MadeAt.set1 (h : MadeAt W del n gu g1 g2 f bs wx) {x : Nat} {u : Value} (hu : Elems wx wx.heap.size u (ints (f' x))) (hg : ∀ b, u.ownBlock = some b → g1 < b ∧ b ≠ g2) (hf : ∀ i, i ≠ x → f' i = f i) : MadeAt W del n gu g1 g2 f' bs (wx.setCell ⟨g1, x, none⟩ u) := by
  obtain ⟨vs, a1, a2, a3, a4, a5, a6, a7, a8, a9, a10, a11, a12⟩ := h
  refine ⟨vs.set x u, a1.far a5 _, (a2.stored x u).1, a3.set_ hu (fun b hb => (hg b hb).1) hf, ownsRow_setCell_other (a := ⟨g1, x, none⟩) a4 (by simp [Value.ownBlock]; omega) _, a5, a6, a7, a8, a9, a10, a11.setCell a9 _, fun i z hz b hb => ?_⟩
  rw [List.getElem?_set] at hz
  split at hz
  · split at hz
    · obtain rfl := Option.some.inj hz
      exact (hg b hb).2
    · cases hz
  · exact a12 i z hz b hb
theorem MadeAt.set2 (h : MadeAt W del n gu g1 g2 f bs wx) (x : Nat) (b : Bool) : MadeAt W del n gu g1 g2 f (bs.set x b) (wx.setCell ⟨g2, x, none⟩ (.bool b)) := by
  obtain ⟨vs, a1, a2, a3, a4, a5, a6, a7, a8, a9, a10, a11, a12⟩ := h
  refine ⟨vs, a1.far a6 _, ownsRow_setCell_other (a := ⟨g2, x, none⟩) a2 (by simp [Value.ownBlock]; omega) _, fun i u hu => ?_, by rw [← bools_set]; exact (a4.stored x (.bool b)).1, a5, a6, a7, a8, a9, a10, a11.setCell a10 _, a12⟩
  have hsz : (wx.setCell ⟨g2, x, none⟩ (.bool b)).heap.size = wx.heap.size := by simp [World.setCell]
  rw [hsz]
  exact ⟨(a3 i u hu).1.set_ (fun e => a12 i u hu g2 e rfl), (a3 i u hu).2⟩
theorem MadeAt.bel (h : MadeAt W del n gu g1 g2 f bs wx) : Below W.heap.size W wx := by
  obtain ⟨vs, _, _, _, _, _, _, _, _, _, _, h, _⟩ := h
  exact h
/-- What the walk reads of it. -/
theorem MadeAt.cells (h : MadeAt W del n gu g1 g2 f bs wx) : wx.cell? ⟨gu, 0, none⟩ = some (.int .i64 del) ∧ wx.cell? ⟨gu, 1, none⟩ = some (.slice (some ⟨g1, 0, none⟩) n n) ∧ wx.cell? ⟨gu, 2, none⟩ = some (.slice (some ⟨g2, 0, none⟩) n n) := by
  obtain ⟨vs, a1, _⟩ := h
  exact ⟨a1.cell 0, a1.cell 1, a1.cell 2⟩
theorem MadeAt.spot1 (h : MadeAt W del n gu g1 g2 f bs wx) {x : Nat} (hx : x < n) : (∃ u, wx.cell? ⟨g1, x, none⟩ = some u) ∧ wx.frozen? ⟨g1, x, none⟩ = false := by
  obtain ⟨vs, a1, a2, _⟩ := h
  have hl := a2.1
  exact ⟨⟨_, (a2.cellAt x (by omega)).trans (List.getElem?_eq_getElem (by omega))⟩, a2.frozenAt x⟩
theorem MadeAt.spot2 (h : MadeAt W del n gu g1 g2 f bs wx) {x : Nat} (hx : x < n) : (∃ u, wx.cell? ⟨g2, x, none⟩ = some u) ∧ wx.frozen? ⟨g2, x, none⟩ = false := by
  obtain ⟨vs, a1, a2, a3, a4, _⟩ := h
  have hl := a4.1
  exact ⟨⟨_, (a4.cellAt x (by omega)).trans (List.getElem?_eq_getElem (by omega))⟩, a4.frozenAt x⟩
theorem MadeAt.tag (h : MadeAt W del n gu g1 g2 f bs wx) {rows : List (List Int)} (hf : ∀ i, f i = rows.getD i []) (hr : rows.length = n) (hn : n ≤ 1000000) (hl : ∀ r ∈ rows, r.length ≤ 1000000) : TagIn wx wx.heap.size (.slice (some ⟨g1, 0, none⟩) n n) (.slice (some ⟨g2, 0, none⟩) n n) ⟨del, rows, bs⟩ := by
  obtain ⟨vs, a1, a2, a3, a4, _⟩ := h
  have hvl := a2.1
  have hbl := a4.1
  rw [bools_len] at hbl
  refine ⟨⟨vs, own_elems a2, by simp only; omega, fun k u r hu hk => ?_⟩, own_elems a4, by simp only; omega, by simp only; omega, hl⟩
  have := (a3 k u hu).1
  rw [hf, getD_some hk] at this
  exact this
end

/-- The eight facts of the second loop's statement, kept by calls and by stores. -/
theorem keep8 {w0 w w' : World} {a1 a2 a3 a4 a5 a6 a7 : Addr} {x1 x2 x3 x4 x5 x6 x7 : Value} (hb : Below w.heap.size w w') (h : w.cell? a1 = some x1 ∧ w.cell? a2 = some x2 ∧ w.cell? a3 = some x3 ∧ w.cell? a4 = some x4 ∧ w.cell? a5 = some x5 ∧ w.cell? a6 = some x6 ∧ w.cell? a7 = some x7 ∧ Below w0.heap.size w0 w) :
    w'.cell? a1 = some x1 ∧ w'.cell? a2 = some x2 ∧ w'.cell? a3 = some x3 ∧ w'.cell? a4 = some x4 ∧ w'.cell? a5 = some x5 ∧ w'.cell? a6 = some x6 ∧ w'.cell? a7 = some x7 ∧ Below w0.heap.size w0 w' :=
  ⟨keepc hb h.1, keepc hb h.2.1, keepc hb h.2.2.1, keepc hb h.2.2.2.1, keepc hb h.2.2.2.2.1, keepc hb h.2.2.2.2.2.1, keepc hb h.2.2.2.2.2.2.1, bnext h.2.2.2.2.2.2.2 hb⟩
theorem keep8s {w0 w : World} {p : Addr} {u : Value} {a1 a2 a3 a4 a5 a6 a7 : Addr} {x1 x2 x3 x4 x5 x6 x7 : Value} (h1 : a1.block ≠ p.block) (h2 : a2.block ≠ p.block) (h3 : a3.block ≠ p.block) (h4 : a4.block ≠ p.block) (h5 : a5.block ≠ p.block) (h6 : a6.block ≠ p.block) (h7 : a7.block ≠ p.block) (h0 : w0.heap.size ≤ p.block)
    (h : w.cell? a1 = some x1 ∧ w.cell? a2 = some x2 ∧ w.cell? a3 = some x3 ∧ w.cell? a4 = some x4 ∧ w.cell? a5 = some x5 ∧ w.cell? a6 = some x6 ∧ w.cell? a7 = some x7 ∧ Below w0.heap.size w0 w) :
    (w.setCell p u).cell? a1 = some x1 ∧ (w.setCell p u).cell? a2 = some x2 ∧ (w.setCell p u).cell? a3 = some x3 ∧ (w.setCell p u).cell? a4 = some x4 ∧ (w.setCell p u).cell? a5 = some x5 ∧ (w.setCell p u).cell? a6 = some x6 ∧ (w.setCell p u).cell? a7 = some x7 ∧ Below w0.heap.size w0 (w.setCell p u) :=
  have f {a : Addr} {x : Value} (hp : a.block ≠ p.block) (hx : w.cell? a = some x) : (w.setCell p u).cell? a = some x := (World.cell?_of_block (Below.heap_setCell w p u a.block hp)).trans hx
  ⟨f h1 h.1, f h2 h.2.1, f h3 h.2.2.1, f h4 h.2.2.2.1, f h5 h.2.2.2.2.1, f h6 h.2.2.2.2.2.1, f h7 h.2.2.2.2.2.2.1, h.2.2.2.2.2.2.2.setCell h0 u⟩
end Go.Proofs.Ytpnjffdjoacejaa

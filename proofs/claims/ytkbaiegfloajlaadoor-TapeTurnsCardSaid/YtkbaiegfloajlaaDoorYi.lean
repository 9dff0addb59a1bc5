/- A machine whose rows are appended and then written. -/
import Derived.Test.YtkbaiegfloajlaaDoorXg
import Derived.Test.YtkbaiegfloajlaaDoorVd
namespace Go.Proofs.YtkbaiegfloajlaaDoor.Tp
open Go.RowKit

structure MAp (w : World) (lo R : Nat) (rb : Nat → Nat) (S X : Nat) (f : Nat → Nat → RuleS) : Prop where
  rules : ∀ s, s < S → w.cell? ⟨R, s, none⟩ = some (.slice (some ⟨rb s, 0, none⟩) X X)
  rlt : R < w.heap.size
  row : ∀ s, s < S → Blk w (rb s) 74 (rowCells X (f s))
  inj : ∀ s t, s < S → t < S → rb s = rb t → s = t
  ne : ∀ s, s < S → rb s ≠ R
  low : lo ≤ R ∧ ∀ s, s < S → lo ≤ rb s
theorem MAp.to {w w' : World} {lo R : Nat} {rb : Nat → Nat} {S X : Nat} {f : Nat → Nat → RuleS} (h : MAp w lo R rb S X f) (hb : Below w.heap.size w w') : MAp w' lo R rb S X f :=
  ⟨fun s hs => keepc hb (h.rules s hs), Nat.lt_of_lt_of_le h.rlt hb.size, fun s hs => (h.row s hs).to hb, h.inj, h.ne, h.low⟩
theorem MAp.far {w : World} {lo R : Nat} {rb : Nat → Nat} {S X : Nat} {f : Nat → Nat → RuleS} (h : MAp w lo R rb S X f) {p : Addr} (hp : R ≠ p.block ∧ ∀ s, s < S → rb s ≠ p.block) (u : Value) : MAp (w.setCell p u) lo R rb S X f :=
  ⟨fun s hs => by rw [World.cell?_setCell_far _ _ _ _ (fun e => hp.1 e.symm)]; exact h.rules s hs, by rw [set_size]; exact h.rlt, fun s hs => (h.row s hs).far (hp.2 s hs) u, h.inj, h.ne, h.low⟩
theorem MAp.set {w : World} {lo R : Nat} {rb : Nat → Nat} {S X : Nat} {f : Nat → Nat → RuleS} (h : MAp w lo R rb S X f) {s x : Nat} (hs : s < S) (hx : x < X) (r : RuleS) :
    MAp (((w.setCell ⟨rb s, x * 3, none⟩ (.int .i64 r.w)).setCell ⟨rb s, x * 3 + 1, none⟩ (.int .i64 r.m)).setCell ⟨rb s, x * 3 + 2, none⟩ (.int .i64 r.n)) lo R rb S X (setF2 f s x r) := by
  refine ⟨fun t ht => ?_, by rw [set_size, set_size, set_size]; exact h.rlt, fun t ht => ?_, h.inj, h.ne, h.low⟩
  · rw [World.cell?_setCell_far _ _ _ _ (h.ne s hs), World.cell?_setCell_far _ _ _ _ (h.ne s hs), World.cell?_setCell_far _ _ _ _ (h.ne s hs)]
    exact h.rules t ht
  · by_cases e : t = s
    · subst e
      have := (((h.row t ht).set_ (x * 3) (.int .i64 r.w)).set_ (x * 3 + 1) (.int .i64 r.m)).set_ (x * 3 + 2) (.int .i64 r.n)
      rw [rowCells_set _ _ hx] at this
      simpa [setF2] using this
    · have hne : rb t ≠ rb s := fun he => e (h.inj t s ht hs he)
      have := (((h.row t ht).far (p := ⟨rb s, x * 3, none⟩) hne (.int .i64 r.w)).far (p := ⟨rb s, x * 3 + 1, none⟩) hne (.int .i64 r.m)).far (p := ⟨rb s, x * 3 + 2, none⟩) hne (.int .i64 r.n)
      simpa [setF2, e] using this
theorem MAp.mach {w : World} {lo R c : Nat} {rb : Nat → Nat} {S X : Nat} {f : Nat → Nat → RuleS} {m : MachS} (h : MAp w lo R rb S X f) (hl : m.rules.length = S) (hS2 : S ≤ 17592186044416) (hX2 : X ≤ 17592186044416) (hr : ∀ s, s < S → ∃ row, m.rules[s]? = some row ∧ row.length = X ∧ ∀ x r, row[x]? = some r → r = f s x) :
    MachIn w w.heap.size (.slice (some ⟨R, 0, none⟩) m.rules.length c) m := by
  subst hl
  refine ⟨⟨(List.range m.rules.length).map fun s => Value.slice (some ⟨rb s, 0, none⟩) X X, .inr ⟨R, 0, c, by simp, h.rlt, fun k u hu => ?_⟩, by simp, fun k u r hu hk => ?_⟩, hS2, fun r hm => ?_⟩
  · have hk : k < m.rules.length := by
      rcases Nat.lt_or_ge k m.rules.length with h' | h'
      · exact h'
      · rw [List.getElem?_eq_none (by simp; omega)] at hu; cases hu
    rw [Nat.zero_add, h.rules k hk]
    simpa [hk] using hu
  · have hkl : k < m.rules.length := by
      rcases Nat.lt_or_ge k m.rules.length with h' | h'
      · exact h'
      · rw [List.getElem?_eq_none h'] at hk; cases hk
    obtain ⟨row, h1, h2, h3⟩ := hr k hkl
    rw [hk] at h1
    cases h1
    obtain rfl : Value.slice (some ⟨rb k, 0, none⟩) X X = u := by simpa [hkl] using hu
    refine .inr ⟨rb k, 0, X, by rw [h2], (h.row k hkl).lt, fun x rr hx => ?_⟩
    have hxl : x < X := by
      rcases Nat.lt_or_ge x r.length with h' | h'
      · omega
      · rw [List.getElem?_eq_none h'] at hx; cases hx
    rw [h3 x rr hx]
    have g := (h.row k hkl)
    have g0 := g.cell (x * 3 + 0)
    have g1 := g.cell (x * 3 + 1)
    have g2 := g.cell (x * 3 + 2)
    rw [rowCells_get _ hxl (by omega)] at g0 g1 g2
    rw [Nat.zero_add]
    exact ⟨g0, g1, g2⟩
  · obtain ⟨i, hi⟩ := List.mem_iff_getElem?.1 hm
    have hil : i < m.rules.length := by
      rcases Nat.lt_or_ge i m.rules.length with h' | h'
      · exact h'
      · rw [List.getElem?_eq_none h'] at hi; cases hi
    obtain ⟨row, h1, h2, _⟩ := hr i hil
    rw [hi] at h1
    cases h1
    omega
def rowVs (X : Nat) (rb : Nat → Nat) (k : Nat) : List Value := (List.range k).map fun s => Value.slice (some ⟨rb s, 0, none⟩) X X
theorem rowVs_next (X : Nat) (rb : Nat → Nat) (k b : Nat) : rowVs X (fun s => if s = k then b else rb s) (k + 1) = rowVs X rb k ++ [.slice (some ⟨b, 0, none⟩) X X] := by
  rw [rowVs, List.range_succ, List.map_append, rowVs]
  congr 1
  · apply List.map_congr_left
    intro s hs
    have : s ≠ k := by have := List.mem_range.1 hs; omega
    simp [this]
  · simp
/-- The rows are made and appended, one by one. -/
structure RSt (s x : Int) (B a X k : Nat) (rb : Nat → Nat) (v : Value) (wr : World) : Prop where
  box : Blk wr a 24 #[.int .i64 s, .int .i64 x, v]
  own : wr.ownsRow B 72 1 v k (rowVs X rb k)
  row : ∀ t, t < k → Blk wr (rb t) 74 (rowCells X (fun _ => zeroR))
  inj : ∀ t u, t < k → u < k → rb t = rb u → t = u
  low : ∀ t, t < k → B ≤ rb t
  lt : a < B
  le : B ≤ wr.heap.size
theorem RSt.to {s x : Int} {B a X k : Nat} {rb : Nat → Nat} {v : Value} {wr w' : World} (h : RSt s x B a X k rb v wr) (hb : Below wr.heap.size wr w') : RSt s x B a X k rb v w' :=
  ⟨h.box.to hb, own_below h.own hb, fun t ht => (h.row t ht).to hb, h.inj, h.low, h.lt, Nat.le_trans h.le hb.size⟩
theorem RSt.next {s x : Int} {B a X k : Nat} {rb : Nat → Nat} {v v' : Value} {wr Z : World} {o : Obj} (h : RSt s x B a X k rb v wr)
    (hg : ((wr.alloc (.cells (rowCells X (fun _ => zeroR)) 74)).alloc o).grownBy Z v.ownBlock) (hown : Z.ownsRow B 72 1 v' (k + 1) (rowVs X rb k ++ [.slice (some ⟨wr.heap.size, 0, none⟩) X X])) : RSt s x B a X (k + 1) (fun t => if t = k then wr.heap.size else rb t) v' (Z.setCell ⟨a, 2, none⟩ v') := by
  have hv : ∀ q, v.ownBlock = some q → B ≤ q := own_lt h.own
  have hv' : ∀ q, v'.ownBlock = some q → B ≤ q := own_lt hown
  have hne : ∀ g cur, wr.heap[g]? = some (.cells cur 74 (0, 0)) → v.ownBlock ≠ some g := fun g cur hh e => by
    rcases h.own.2 with ⟨hn, _⟩ | ⟨q, cap, cu, hvv, _, hq, _⟩
    · rw [hn] at e; simp [Value.ownBlock] at e
    · rw [hvv] at e
      simp only [Value.ownBlock, Option.some.injEq] at e
      subst e
      rw [hq] at hh
      simp at hh
  have hvl : ∀ q, v.ownBlock = some q → q < wr.heap.size := fun q e => (h.own.lt q e).2
  have hlt := h.lt
  have hle := h.le
  refine ⟨?_, ?_, fun t ht => ?_, fun t u ht hu e => ?_, fun t ht => ?_, h.lt, ?_⟩
  · have := (((h.box.alloc _).alloc o).grownby hg (fun e => by have := hv _ e.symm; omega)).set_ 2 v'
    simpa using this
  · rw [rowVs_next]
    exact ownsRow_setCell_other (a := ⟨a, 2, none⟩) hown (fun e => by have := hv' _ e; simp only at this; omega) _
  · by_cases e : t = k
    · subst e
      simp only [if_true]
      exact ((((Blk.new wr 74 _).alloc o).grownby hg (fun e => by have := hvl _ e.symm; omega))).far (p := ⟨a, 2, none⟩) (by show wr.heap.size ≠ a; omega) _
    · have ht2 : t < k := by omega
      have hb := h.row t ht2
      have hlo := h.low t ht2
      simp only [if_neg e]
      exact (((hb.alloc _).alloc o).grownby hg (fun e => hne _ _ hb e.symm)).far (p := ⟨a, 2, none⟩) (by show rb t ≠ a; omega) _
  · have hlt2 : ∀ t, t < k → rb t < wr.heap.size := fun t ht => (h.row t ht).lt
    by_cases e1 : t = k
    · by_cases e2 : u = k
      · omega
      · have := hlt2 u (by omega)
        simp only [if_pos e1, if_neg e2] at e
        omega
    · by_cases e2 : u = k
      · have := hlt2 t (by omega)
        simp only [if_neg e1, if_pos e2] at e
        omega
      · simp only [if_neg e1, if_neg e2] at e
        exact h.inj t u (by omega) (by omega) e
  · by_cases e : t = k
    · simp only [if_pos e]; exact h.le
    · simp only [if_neg e]; exact h.low t (by omega)
  · rw [set_size]
    refine Nat.le_trans h.le (Nat.le_trans ?_ hg.size)
    simp
    omega
theorem RSt.map {s x : Int} {B a X k : Nat} {rb : Nat → Nat} {v : Value} {wr : World} (h : RSt s x B a X k rb v wr) (hk : 0 < k) : ∃ R c, v = .slice (some ⟨R, 0, none⟩) k c ∧ MAp wr B R rb k X (fun _ _ => zeroR) := by
  obtain ⟨A, c, rfl⟩ := own_form h.own
  obtain ⟨R, rfl, hR⟩ := own_addr h.own hk
  have hne : ∀ g cur, wr.heap[g]? = some (.cells cur 74 (0, 0)) → g ≠ R := fun g cur hh e => by
    rcases h.own.2 with ⟨hn, _⟩ | ⟨q, cap, cu, hvv, _, hq, _⟩
    · cases hn
    · simp only [Value.slice.injEq, Option.some.injEq, Addr.mk.injEq, and_true, true_and] at hvv
      rw [e, hvv.1, hq] at hh
      simp at hh
  refine ⟨R, c, rfl, fun t ht => ?_, ((h.own.lt R rfl).2), h.row, h.inj, fun t ht => hne _ _ (h.row t ht), hR, h.low⟩
  rcases own_elems h.own with ⟨hv, h0⟩ | ⟨b, off, d, hv, _, hc⟩
  · have hl := congrArg List.length h0
    simp [rowVs] at hl
    omega
  · simp only [Value.slice.injEq, Option.some.injEq, Addr.mk.injEq, and_true] at hv
    obtain ⟨⟨rfl, rfl⟩, _⟩ := hv
    have := hc t (.slice (some ⟨rb t, 0, none⟩) X X) (by simp [rowVs, ht])
    rwa [Nat.zero_add] at this
end Go.Proofs.YtkbaiegfloajlaaDoor.Tp

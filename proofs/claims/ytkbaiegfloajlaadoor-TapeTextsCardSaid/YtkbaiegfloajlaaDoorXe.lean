/- Contracts: blankMachine; a machine that is being written. -/
import Derived.Test.YtkbaiegfloajlaaDoorXd
namespace Go.Proofs.YtkbaiegfloajlaaDoor.Tp
open Go.RowKit

def ruleV (r : RuleS) (j : Nat) : Value := if j = 0 then .int .i64 r.w else if j = 1 then .int .i64 r.m else .int .i64 r.n
/-- The cells of a row of n rules. -/
def rowCells (n : Nat) (f : Nat → RuleS) : Array Value := ((List.range (n * 3)).map fun i => ruleV (f (i / 3)) (i % 3)).toArray
theorem rowCells_get {n x j : Nat} (f : Nat → RuleS) (hx : x < n) (hj : j < 3) : (rowCells n f)[x * 3 + j]? = some (ruleV (f x) j) := by
  have h1 : x * 3 + j < n * 3 := by omega
  have h2 : (x * 3 + j) / 3 = x := by omega
  have h3 : (x * 3 + j) % 3 = j := by omega
  simp [rowCells, h1, h2, h3]
def setF (f : Nat → RuleS) (x : Nat) (r : RuleS) : Nat → RuleS := fun y => if y = x then r else f y
theorem rowCells_set {n x : Nat} (f : Nat → RuleS) (r : RuleS) (hx : x < n) : (((rowCells n f).setIfInBounds (x * 3) (.int .i64 r.w)).setIfInBounds (x * 3 + 1) (.int .i64 r.m)).setIfInBounds (x * 3 + 2) (.int .i64 r.n) = rowCells n (setF f x r) := by
  apply Array.ext_getElem?
  intro i
  have hs : (rowCells n f).size = n * 3 := by simp [rowCells]
  rw [Array.getElem?_setIfInBounds, Array.getElem?_setIfInBounds, Array.getElem?_setIfInBounds]
  simp only [Array.size_setIfInBounds, hs]
  rcases Nat.lt_or_ge i (n * 3) with hi | hi
  · obtain ⟨y, j, hj, rfl⟩ : ∃ y j, j < 3 ∧ i = y * 3 + j := ⟨i / 3, i % 3, by omega, by omega⟩
    rw [rowCells_get _ (by omega) hj, rowCells_get _ (by omega) hj]
    by_cases e : y = x
    · subst e
      rcases (show j = 0 ∨ j = 1 ∨ j = 2 by omega) with rfl | rfl | rfl
      · rw [if_neg (by omega), if_neg (by omega), if_pos (by omega), if_pos (by omega)]
        simp [setF, ruleV]
      · rw [if_neg (by omega), if_pos (by omega), if_pos (by omega)]
        simp [setF, ruleV]
      · rw [if_pos (by omega), if_pos (by omega)]
        simp [setF, ruleV]
    · rw [if_neg (by omega), if_neg (by omega), if_neg (by omega)]
      simp [setF, e]
  · rw [Array.getElem?_eq_none (xs := rowCells n f) (by omega), Array.getElem?_eq_none (xs := rowCells n (setF f x r)) (by simp [rowCells]; omega)]
    rw [if_neg (by omega), if_neg (by omega), if_neg (by omega)]
def zeroR : RuleS := ⟨0, 0, 0⟩
theorem rowCells_zero (n : Nat) : madeCells (Value.agg #[.int .i64 0, .int .i64 0, .int .i64 0]).cells (n * 3) = rowCells n (fun _ => zeroR) := by
  apply Array.ext_getElem?
  intro i
  rcases Nat.lt_or_ge i (n * 3) with hi | hi
  · have h1 : (rowCells n (fun _ => zeroR))[i]? = some (ruleV zeroR (i % 3)) := by simp [rowCells, hi]
    have h2 : (Array.range (n * 3))[i]? = some i := by
      rw [Array.getElem?_eq_getElem (by simpa using hi)]
      simp
    rw [h1]
    rcases (show i % 3 = 0 ∨ i % 3 = 1 ∨ i % 3 = 2 by omega) with h | h | h <;> simp [madeCells, Value.cells, ruleV, zeroR, h, h2]
  · rw [Array.getElem?_eq_none (by simp [madeCells]; omega), Array.getElem?_eq_none (by simp [rowCells]; omega)]
/-- The cells of the list of rows: the first k are made. -/
def rowsV (S X : Nat) (rb : Nat → Nat) (k : Nat) : Array Value := ((List.range S).map fun s => if s < k then Value.slice (some ⟨rb s, 0, none⟩) X X else .slice none 0 0).toArray
theorem rowsV_get {S X s k : Nat} (rb : Nat → Nat) (h : s < S) : (rowsV S X rb k)[s]? = some (if s < k then Value.slice (some ⟨rb s, 0, none⟩) X X else .slice none 0 0) := by simp [rowsV, h]
theorem rowsV_zero (S X : Nat) (rb : Nat → Nat) : madeCells (Value.slice none 0 0).cells (S * 1) = rowsV S X rb 0 := by
  rw [Nat.mul_one]
  apply Array.ext'
  refine (toList_madeCells_one _ _).trans ?_
  simp only [rowsV, Nat.not_lt_zero, if_false]
  exact (List.eq_replicate_iff.2 ⟨by simp, by simp⟩).symm
theorem rowsV_set {S X k : Nat} (rb : Nat → Nat) (b : Nat) (_h : k < S) : (rowsV S X rb k).setIfInBounds k (.slice (some ⟨b, 0, none⟩) X X) = rowsV S X (fun s => if s = k then b else rb s) (k + 1) := by
  apply Array.ext_getElem?
  intro i
  rw [Array.getElem?_setIfInBounds]
  have hs : (rowsV S X rb k).size = S := by simp [rowsV]
  rcases Nat.lt_or_ge i S with hi | hi
  · rw [rowsV_get _ hi, rowsV_get _ hi]
    by_cases e : k = i
    · subst e; simp [hs, hi]
    · have e' : ¬ i = k := fun h => e h.symm
      rw [if_neg e]
      by_cases h1 : i < k
      · have h2 : i < k + 1 := by omega
        simp [h1, h2, e']
      · have h2 : ¬ i < k + 1 := by omega
        simp [h1, h2]
  · rw [Array.getElem?_eq_none (xs := rowsV S X rb k) (by omega), Array.getElem?_eq_none (by simp [rowsV]; omega), if_neg (by omega)]
/-- A machine that is being written: its rows, each in a block of its own; the first k are made. -/
structure MAt (w : World) (lo a R : Nat) (rb : Nat → Nat) (S X k : Nat) (f : Nat → Nat → RuleS) : Prop where
  rules : Blk w R 72 (rowsV S X rb k)
  row : ∀ s, s < k → Blk w (rb s) 74 (rowCells X (f s))
  inj : ∀ s t, s < k → t < k → rb s = rb t → s = t
  ne : ∀ s, s < k → rb s ≠ R ∧ rb s ≠ a
  low : lo ≤ R ∧ ∀ s, s < k → lo ≤ rb s
  nea : R ≠ a
theorem MAt.to {w w' : World} {lo a R : Nat} {rb : Nat → Nat} {S X k : Nat} {f : Nat → Nat → RuleS} (h : MAt w lo a R rb S X k f) (hb : Below w.heap.size w w') : MAt w' lo a R rb S X k f :=
  ⟨h.rules.to hb, fun s hs => (h.row s hs).to hb, h.inj, h.ne, h.low, h.nea⟩
theorem MAt.far {w : World} {lo a R : Nat} {rb : Nat → Nat} {S X k : Nat} {f : Nat → Nat → RuleS} (h : MAt w lo a R rb S X k f) {p : Addr} (hp : R ≠ p.block ∧ ∀ s, s < k → rb s ≠ p.block) (u : Value) : MAt (w.setCell p u) lo a R rb S X k f :=
  ⟨h.rules.far hp.1 u, fun s hs => (h.row s hs).far (hp.2 s hs) u, h.inj, h.ne, h.low, h.nea⟩
def setF2 (f : Nat → Nat → RuleS) (s x : Nat) (r : RuleS) : Nat → Nat → RuleS := fun t => if t = s then setF (f s) x r else f t
theorem MAt.set {w : World} {lo a R : Nat} {rb : Nat → Nat} {S X k : Nat} {f : Nat → Nat → RuleS} (h : MAt w lo a R rb S X k f) {s x : Nat} (hs : s < k) (hx : x < X) (r : RuleS) :
    MAt (((w.setCell ⟨rb s, x * 3, none⟩ (.int .i64 r.w)).setCell ⟨rb s, x * 3 + 1, none⟩ (.int .i64 r.m)).setCell ⟨rb s, x * 3 + 2, none⟩ (.int .i64 r.n)) lo a R rb S X k (setF2 f s x r) := by
  refine ⟨((h.rules.far (fun e => (h.ne s hs).1 e.symm) _).far (fun e => (h.ne s hs).1 e.symm) _).far (fun e => (h.ne s hs).1 e.symm) _, fun t ht => ?_, h.inj, h.ne, h.low, h.nea⟩
  by_cases e : t = s
  · subst e
    have := (((h.row t ht).set_ (x * 3) (.int .i64 r.w)).set_ (x * 3 + 1) (.int .i64 r.m)).set_ (x * 3 + 2) (.int .i64 r.n)
    rw [rowCells_set _ _ hx] at this
    simpa [setF2] using this
  · have hne : rb t ≠ rb s := fun he => e (h.inj t s ht hs he)
    have := (((h.row t ht).far (p := ⟨rb s, x * 3, none⟩) hne (.int .i64 r.w)).far (p := ⟨rb s, x * 3 + 1, none⟩) hne (.int .i64 r.m)).far (p := ⟨rb s, x * 3 + 2, none⟩) hne (.int .i64 r.n)
    simpa [setF2, e] using this
/-- A written machine is one in memory. -/
theorem MAt.mach {w : World} {lo a R : Nat} {rb : Nat → Nat} {S X : Nat} {f : Nat → Nat → RuleS} {m : MachS} (h : MAt w lo a R rb S X S f) (hS : 0 < S) (hX : 0 < X) (hl : m.rules.length = S) (hS2 : S ≤ 17592186044416) (hX2 : X ≤ 17592186044416) (hr : ∀ s, s < S → ∃ row, m.rules[s]? = some row ∧ row.length = X ∧ ∀ x r, row[x]? = some r → r = f s x) :
    MachIn w w.heap.size (.slice (some ⟨R, 0, none⟩) m.rules.length S) m := by
  subst hl
  refine ⟨⟨(List.range m.rules.length).map fun s => Value.slice (some ⟨rb s, 0, none⟩) X X, .inr ⟨R, 0, m.rules.length, by simp, h.rules.lt, fun k u hu => ?_⟩, by simp, fun k u r hu hk => ?_⟩, hS2, fun r hm => ?_⟩
  · have hk : k < m.rules.length := by
      rcases Nat.lt_or_ge k m.rules.length with h' | h'
      · exact h'
      · rw [List.getElem?_eq_none (by simp; omega)] at hu; cases hu
    rw [Nat.zero_add, h.rules.cell k, rowsV_get _ hk, if_pos hk]
    simpa [hk] using hu
  · have hkl : k < m.rules.length := by
      rcases Nat.lt_or_ge k m.rules.length with h' | h'
      · exact h'
      · rw [List.getElem?_eq_none h'] at hk; cases hk
    obtain ⟨row, h1, h2, h3⟩ := hr k hkl
    rw [hk] at h1
    cases h1
    obtain rfl : Value.slice (some ⟨rb k, 0, none⟩) X X = u := by simpa [hkl] using hu
    refine .inr ⟨rb k, 0, X, by rw [h2], (h.row k hkl).lt, fun x rr hx => ?_⟩
    have hxl : x < X := by
      rcases Nat.lt_or_ge x r.length with h' | h'
      · omega
      · rw [List.getElem?_eq_none h'] at hx; cases hx
    rw [h3 x rr hx]
    have g := (h.row k hkl)
    have g0 := g.cell (x * 3 + 0)
    have g1 := g.cell (x * 3 + 1)
    have g2 := g.cell (x * 3 + 2)
    rw [rowCells_get _ hxl (by omega)] at g0 g1 g2
    rw [Nat.zero_add]
    exact ⟨g0, g1, g2⟩
  · obtain ⟨i, hi⟩ := List.mem_iff_getElem?.1 hm
    have hil : i < m.rules.length := by
      rcases Nat.lt_or_ge i m.rules.length with h' | h'
      · exact h'
      · rw [List.getElem?_eq_none h'] at hi; cases hi
    obtain ⟨row, h1, h2, _⟩ := hr i hil
    rw [hi] at h1
    cases h1
    omega

end Go.Proofs.YtkbaiegfloajlaaDoor.Tp

/- Plain mathematics for package tape: cells, configurations, bands, steps. (Names and numbers of no program.) Plain mathematics for package tape: runs. (Names and numbers of no program.) Words for memory: machines, rows of the call's own, copies. (Names and numbers of no program.) -/
import Derived.Test.YtonammaecpapmaaKa
import Derived.Laws.AppendOwnNone
import Derived.Maps.AppendAt
import Derived.Laws.CopyOwn
namespace Go.Proofs.Ytonammaecpapmaa.Tp


/-- The cell at position p of a list that begins at position b. -/
def cellAt (b : Int) (l : List Int) (p : Int) : Int := if p < b then 0 else l.getD (p - b).toNat 0

theorem cellAt_lt {b : Int} {l : List Int} {p : Int} (h : p < b) : cellAt b l p = 0 := by rw [cellAt, if_pos h]
theorem cellAt_ge {b : Int} {l : List Int} {p : Int} (h : b + l.length ≤ p) : cellAt b l p = 0 := by
  rw [cellAt]
  split
  · rfl
  · rw [List.getD_eq_getElem?_getD, List.getElem?_eq_none (by omega)]
    rfl
theorem cellAt_in {b : Int} {l : List Int} {p : Int} (h : cellAt b l p ≠ 0) : b ≤ p ∧ p < b + l.length := by
  constructor
  · rcases Int.lt_or_le p b with hlt | hle
    · exact absurd (cellAt_lt hlt) h
    · exact hle
  · rcases Int.lt_or_le p (b + l.length) with hlt | hle
    · exact hlt
    · exact absurd (cellAt_ge hle) h
theorem cellAt_get {b : Int} {l : List Int} {p : Int} {k : Nat} {x : Int} (hp : p = b + k) (hx : l[k]? = some x) : cellAt b l p = x := by
  rw [cellAt, if_neg (by omega), show (p - b).toNat = k by omega, List.getD_eq_getElem?_getD, hx]
  rfl
theorem cellAt_nil (b p : Int) : cellAt b [] p = 0 := by simp [cellAt]
theorem cellAt_cons {b x : Int} {l : List Int} {p : Int} : cellAt b (x :: l) p = if p = b then x else cellAt (b + 1) l p := by
  unfold cellAt
  by_cases h1 : p < b
  · rw [if_pos h1, if_neg (by omega), if_pos (by omega)]
  · by_cases h2 : p = b
    · subst h2
      simp
    · rw [if_neg h1, if_neg h2, if_neg (by omega), show (p - b).toNat = (p - (b + 1)).toNat + 1 by omega, List.getD_cons_succ]
theorem cellAt_append {b : Int} {l r : List Int} {p : Int} : cellAt b (l ++ r) p = if p < b + l.length then cellAt b l p else cellAt (b + l.length) r p := by
  induction l generalizing b with
  | nil =>
    simp only [List.nil_append, List.length_nil]
    split
    · rw [cellAt_nil, cellAt_lt (by omega)]
    · rw [show b + ((0 : Nat) : Int) = b by omega]
  | cons x l ih =>
    rw [List.cons_append, cellAt_cons, ih, cellAt_cons]
    simp only [List.length_cons]
    by_cases h1 : p = b
    · rw [if_pos h1, if_pos (by omega), if_pos h1]
    · rw [if_neg h1, if_neg h1, show b + 1 + (l.length : Int) = b + ((l.length + 1 : Nat) : Int) by omega]
theorem cellAt_zeros (b : Int) (n : Nat) (p : Int) : cellAt b (List.replicate n 0) p = 0 := by
  unfold cellAt
  split
  · rfl
  · rw [List.getD_eq_getElem?_getD, List.getElem?_replicate]
    split <;> rfl
theorem cellAt_set {b : Int} {l : List Int} {k : Nat} {x p : Int} (hk : k < l.length) : cellAt b (l.set k x) p = if p = b + k then x else cellAt b l p := by
  unfold cellAt
  by_cases h1 : p < b
  · rw [if_pos h1, if_neg (by omega), if_pos h1]
  · rw [if_neg h1]
    by_cases h2 : p = b + k
    · rw [if_pos h2, show (p - b).toNat = k by omega, List.getD_eq_getElem?_getD, List.getElem?_set_self (by omega)]
      rfl
    · rw [if_neg h2, if_neg h1, List.getD_eq_getElem?_getD, List.getElem?_set_ne (by omega), ← List.getD_eq_getElem?_getD]
/-- A longer memory holds the same cells. -/
theorem cellAt_grown (b : Int) (m n : Nat) (l : List Int) (p : Int) : cellAt (b - m) (List.replicate m 0 ++ l ++ List.replicate n 0) p = cellAt b l p := by
  rw [List.append_assoc, cellAt_append, cellAt_append]
  simp only [List.length_replicate]
  rw [show b - (m : Int) + (m : Int) = b by omega, cellAt_zeros, cellAt_zeros]
  split
  · rw [cellAt_lt (by omega)]
  · split
    · rfl
    · rw [cellAt_ge (by omega)]
/-- The cells from low to high, all others being 0. -/
theorem cellAt_part {b : Int} {l : List Int} {lo hi : Int} (h1 : b ≤ lo) (h3 : lo ≤ hi + 1) (h2 : hi < b + l.length) (hz : ∀ p, cellAt b l p ≠ 0 → lo ≤ p ∧ p ≤ hi) (p : Int) :
    cellAt lo ((l.drop (lo - b).toNat).take (hi - lo + 1).toNat) p = cellAt b l p := by
  by_cases hp : lo ≤ p ∧ p ≤ hi
  · unfold cellAt
    rw [if_neg (by omega), if_neg (by omega), List.getD_eq_getElem?_getD, List.getElem?_take, if_pos (by omega), List.getElem?_drop, ← List.getD_eq_getElem?_getD]
    congr 1
    omega
  · have : cellAt b l p = 0 := by
      cases Decidable.em (cellAt b l p = 0) with
      | inl h => exact h
      | inr h => exact absurd (hz p h) hp
    rw [this]
    rcases Int.lt_or_le p lo with hlt | hle
    · exact cellAt_lt hlt
    · refine cellAt_ge ?_
      rw [List.length_take, List.length_drop]
      omega

def maxPos : Int := 1099511627776
def inR (p : Int) : Bool := decide (-maxPos ≤ p ∧ p ≤ maxPos)

/-- How many cells up to maxPos are not 0. -/
def innerL : Int → List Int → Int
  | _, [] => 0
  | b, x :: l => (if x ≠ 0 ∧ ¬ maxPos < b then 1 else 0) + innerL (b + 1) l
/-- Whether a cell beyond maxPos is not 0. -/
def outerL : Int → List Int → Bool
  | _, [] => false
  | b, x :: l => decide (x ≠ 0 ∧ maxPos < b) || outerL (b + 1) l

theorem innerL_nonneg (b : Int) (l : List Int) : 0 ≤ innerL b l := by
  induction l generalizing b with
  | nil => exact Int.le_refl _
  | cons x l ih =>
    have := ih (b + 1)
    rw [innerL]
    split <;> omega
theorem innerL_le (b : Int) (l : List Int) : innerL b l ≤ l.length := by
  induction l generalizing b with
  | nil => exact Int.le_refl _
  | cons x l ih =>
    have := ih (b + 1)
    rw [innerL, List.length_cons]
    split <;> omega
theorem innerL_append (b : Int) (l r : List Int) : innerL b (l ++ r) = innerL b l + innerL (b + l.length) r := by
  induction l generalizing b with
  | nil => simp [innerL]
  | cons x l ih =>
    rw [List.cons_append, innerL, innerL, ih, List.length_cons, show b + 1 + (l.length : Int) = b + ((l.length + 1 : Nat) : Int) by omega]
    omega
theorem outerL_append (b : Int) (l r : List Int) : outerL b (l ++ r) = (outerL b l || outerL (b + l.length) r) := by
  induction l generalizing b with
  | nil => simp [outerL]
  | cons x l ih =>
    rw [List.cons_append, outerL, outerL, ih, List.length_cons, show b + 1 + (l.length : Int) = b + ((l.length + 1 : Nat) : Int) by omega, Bool.or_assoc]
theorem innerL_zeros (b : Int) (n : Nat) : innerL b (List.replicate n 0) = 0 := by
  induction n generalizing b with
  | zero => rfl
  | succ n ih => rw [List.replicate_succ, innerL, ih]; simp
theorem outerL_zeros (b : Int) (n : Nat) : outerL b (List.replicate n 0) = false := by
  induction n generalizing b with
  | zero => rfl
  | succ n ih => rw [List.replicate_succ, outerL, ih]; simp
theorem innerL_grown (b : Int) (m n : Nat) (l : List Int) : innerL (b - m) (List.replicate m 0 ++ l ++ List.replicate n 0) = innerL b l := by
  rw [innerL_append, innerL_append, innerL_zeros, innerL_zeros]
  simp only [List.length_replicate]
  rw [show b - (m : Int) + (m : Int) = b by omega]
  omega
theorem outerL_grown (b : Int) (m n : Nat) (l : List Int) : outerL (b - m) (List.replicate m 0 ++ l ++ List.replicate n 0) = outerL b l := by
  rw [outerL_append, outerL_append, outerL_zeros, outerL_zeros]
  simp only [List.length_replicate]
  rw [show b - (m : Int) + (m : Int) = b by omega]
  simp
theorem innerL_set {b : Int} {l : List Int} {k : Nat} {y x : Int} (hy : l[k]? = some y) (hk : ¬ maxPos < b + k) : innerL b (l.set k x) = innerL b l + (if x ≠ 0 then 1 else 0) - (if y ≠ 0 then 1 else 0) := by
  induction l generalizing b k with
  | nil => simp at hy
  | cons z l ih =>
    cases k with
    | zero =>
      simp at hy
      subst hy
      rw [List.set_cons_zero, innerL, innerL]
      have : ¬ maxPos < b := by simpa using hk
      simp only [this, not_false_eq_true, and_true]
      omega
    | succ k =>
      rw [List.set_cons_succ, innerL, innerL, ih (by simpa using hy) (by omega)]
      omega
theorem outerL_set {b : Int} {l : List Int} {k : Nat} {y x : Int} (hy : l[k]? = some y) (hk : ¬ maxPos < b + k) : outerL b (l.set k x) = outerL b l := by
  induction l generalizing b k with
  | nil => simp at hy
  | cons z l ih =>
    cases k with
    | zero =>
      simp at hy
      subst hy
      rw [List.set_cons_zero, outerL, outerL]
      have : ¬ maxPos < b := by simpa using hk
      simp [this]
    | succ k =>
      rw [List.set_cons_succ, outerL, outerL, ih (by simpa using hy) (by omega)]
theorem innerL_pos {b : Int} {l : List Int} : 0 < innerL b l ↔ ∃ p, p ≤ maxPos ∧ cellAt b l p ≠ 0 := by
  induction l generalizing b with
  | nil => simp [innerL, cellAt_nil]
  | cons x l ih =>
    have h0 := innerL_nonneg (b + 1) l
    rw [innerL]
    constructor
    · intro h
      by_cases hx : x ≠ 0 ∧ ¬ maxPos < b
      · exact ⟨b, by omega, by rw [cellAt_cons, if_pos rfl]; exact hx.1⟩
      · rw [if_neg hx] at h
        obtain ⟨p, hp, hc⟩ := (ih (b := b + 1)).1 (by omega)
        have := cellAt_in hc
        exact ⟨p, hp, by rw [cellAt_cons, if_neg (by omega)]; exact hc⟩
    · rintro ⟨p, hp, hc⟩
      rw [cellAt_cons] at hc
      by_cases hpb : p = b
      · rw [if_pos hpb] at hc
        rw [if_pos ⟨hc, by omega⟩]
        omega
      · rw [if_neg hpb] at hc
        have := ih.2 ⟨p, hp, hc⟩
        split <;> omega
theorem outerL_true {b : Int} {l : List Int} : outerL b l = true ↔ ∃ p, maxPos < p ∧ cellAt b l p ≠ 0 := by
  induction l generalizing b with
  | nil => simp [outerL, cellAt_nil]
  | cons x l ih =>
    rw [outerL, Bool.or_eq_true, decide_eq_true_eq]
    constructor
    · rintro (⟨hx, hb⟩ | h)
      · exact ⟨b, hb, by rw [cellAt_cons, if_pos rfl]; exact hx⟩
      · obtain ⟨p, hp, hc⟩ := ih.1 h
        have := cellAt_in hc
        exact ⟨p, hp, by rw [cellAt_cons, if_neg (by omega)]; exact hc⟩
    · rintro ⟨p, hp, hc⟩
      rw [cellAt_cons] at hc
      by_cases hpb : p = b
      · rw [if_pos hpb] at hc
        exact .inl ⟨hc, by omega⟩
      · rw [if_neg hpb] at hc
        exact .inr (ih.2 ⟨p, hp, hc⟩)
/-- No cell is there but 0. -/
theorem all_zero {b : Int} {l : List Int} (h1 : innerL b l = 0) (h2 : outerL b l = false) (p : Int) : cellAt b l p = 0 := by
  cases Decidable.em (cellAt b l p = 0) with
  | inl h => exact h
  | inr h =>
    by_cases hp : p ≤ maxPos
    · have := innerL_pos.2 ⟨p, hp, h⟩
      omega
    · have := outerL_true.2 ⟨p, by omega, h⟩
      rw [this] at h2
      cases h2

/-- Written with as few cells as possible. -/
def Norm (b : Int) (l : List Int) : Prop := (l = [] ∧ b = 0) ∨ (l ≠ [] ∧ l.getD 0 0 ≠ 0 ∧ l.getD (l.length - 1) 0 ≠ 0)
theorem Norm.first {b : Int} {l : List Int} (h : Norm b l) (hl : l ≠ []) : cellAt b l b ≠ 0 := by
  rcases h with ⟨h, _⟩ | ⟨_, h, _⟩
  · exact absurd h hl
  · rw [cellAt, if_neg (by omega)]
    simpa using h
theorem Norm.last {b : Int} {l : List Int} (h : Norm b l) (hl : l ≠ []) : cellAt b l (b + l.length - 1) ≠ 0 := by
  have h0 : 0 < l.length := List.length_pos_iff.2 hl
  rcases h with ⟨h, _⟩ | ⟨_, _, h⟩
  · exact absurd h hl
  · rw [cellAt, if_neg (by omega), show (b + (l.length : Int) - 1 - b).toNat = l.length - 1 by omega]
    exact h
theorem Norm.unique {b c : Int} {l r : List Int} (h1 : Norm b l) (h2 : Norm c r) (h : ∀ p, cellAt b l p = cellAt c r p) : b = c ∧ l = r := by
  by_cases hl : l = []
  · subst hl
    by_cases hr : r = []
    · subst hr
      rcases h1 with ⟨_, h1⟩ | ⟨h1, _⟩
      · rcases h2 with ⟨_, h2⟩ | ⟨h2, _⟩
        · exact ⟨by omega, rfl⟩
        · exact absurd rfl h2
      · exact absurd rfl h1
    · have := h2.first hr
      rw [← h, cellAt_nil] at this
      exact absurd rfl this
  · by_cases hr : r = []
    · subst hr
      have := h1.first hl
      rw [h, cellAt_nil] at this
      exact absurd rfl this
    · have a1 := h1.first hl
      have a2 := h2.first hr
      have a3 := h1.last hl
      have a4 := h2.last hr
      rw [h] at a1 a3
      rw [← h] at a2 a4
      have c1 := cellAt_in a1
      have c2 := cellAt_in a2
      have c3 := cellAt_in a3
      have c4 := cellAt_in a4
      obtain rfl : b = c := by omega
      have hlen : l.length = r.length := by omega
      refine ⟨rfl, List.ext_getElem hlen fun i i1 i2 => ?_⟩
      have := h (b + i)
      rw [cellAt_get (k := i) rfl (List.getElem?_eq_getElem i1), cellAt_get (k := i) rfl (List.getElem?_eq_getElem i2)] at this
      exact this

def stripL : Int → List Int → Int × List Int
  | _, [] => (0, [])
  | b, x :: l => if x = 0 then stripL (b + 1) l else (b, x :: l)
def stripR : List Int → List Int
  | [] => []
  | x :: l => match stripR l with
    | [] => if x = 0 then [] else [x]
    | y :: r => x :: y :: r
def normL (b : Int) (l : List Int) : Int × List Int := stripL b (stripR l)
theorem stripL_cell (b : Int) (l : List Int) (p : Int) : cellAt (stripL b l).1 (stripL b l).2 p = cellAt b l p := by
  induction l generalizing b with
  | nil => simp [stripL, cellAt_nil]
  | cons x l ih =>
    rw [stripL]
    split
    · rename_i hx
      rw [ih, cellAt_cons, hx]
      split
      · rename_i hp
        rw [cellAt_lt (by omega)]
      · rfl
    · rfl
theorem stripR_cell (b : Int) (l : List Int) (p : Int) : cellAt b (stripR l) p = cellAt b l p := by
  induction l generalizing b with
  | nil => rfl
  | cons x l ih =>
    rw [stripR]
    have hi := ih (b + 1)
    cases hs : stripR l with
    | nil =>
      rw [hs, cellAt_nil] at hi
      simp only
      rw [cellAt_cons, ← hi]
      split
      · rename_i hx
        rw [cellAt_nil, hx]
        split <;> rfl
      · rw [cellAt_cons, cellAt_nil]
    | cons y r =>
      rw [hs] at hi
      simp only
      rw [cellAt_cons, cellAt_cons (l := l), hi]
theorem stripR_last (l : List Int) (h : stripR l ≠ []) : (stripR l).getD ((stripR l).length - 1) 0 ≠ 0 := by
  induction l with
  | nil => exact absurd rfl h
  | cons x l ih =>
    rw [stripR] at h ⊢
    cases hs : stripR l with
    | nil =>
      rw [hs] at h
      simp only at h ⊢
      split
      · rename_i hx
        rw [if_pos hx] at h
        exact absurd rfl h
      · rename_i hx
        simpa using hx
    | cons y r =>
      rw [hs] at ih
      have := ih (by simp)
      simp only [List.length_cons, Nat.add_one_sub_one, List.getD_cons_succ] at this ⊢
      exact this
theorem stripL_norm (b : Int) (l : List Int) (h : l ≠ [] → l.getD (l.length - 1) 0 ≠ 0) : Norm (stripL b l).1 (stripL b l).2 := by
  induction l generalizing b with
  | nil => exact .inl ⟨rfl, rfl⟩
  | cons x l ih =>
    rw [stripL]
    split
    · rename_i hx
      refine ih (b + 1) fun hl => ?_
      have := h (by simp)
      have h0 : 0 < l.length := List.length_pos_iff.2 hl
      rw [List.length_cons, Nat.add_one_sub_one] at this
      rw [show l.length = (l.length - 1) + 1 by omega, List.getD_cons_succ] at this
      exact this
    · rename_i hx
      exact .inr ⟨by simp, by simpa using hx, h (by simp)⟩
theorem normL_norm (b : Int) (l : List Int) : Norm (normL b l).1 (normL b l).2 := stripL_norm b _ (stripR_last l)
theorem normL_cell (b : Int) (l : List Int) (p : Int) : cellAt (normL b l).1 (normL b l).2 p = cellAt b l p := by
  rw [normL, stripL_cell, stripR_cell]
theorem normL_of {b c : Int} {l r : List Int} (h : Norm c r) (hc : ∀ p, cellAt c r p = cellAt b l p) : normL b l = (c, r) := by
  have := (normL_norm b l).unique h (fun p => by rw [normL_cell, hc])
  exact Prod.ext this.1 this.2

/-- The cells with x at p. -/
def putL (b : Int) (l : List Int) (p x : Int) : Int × List Int :=
  if b ≤ p ∧ p < b + l.length then (b, l.set (p - b).toNat x)
  else if x = 0 then (b, l)
  else if l = [] then (p, [x])
  else if p < b then (p, x :: (List.replicate (b - p - 1).toNat 0 ++ l))
  else (b, l ++ (List.replicate (p - b - l.length).toNat 0 ++ [x]))
theorem putL_cell (b : Int) (l : List Int) (p x q : Int) : cellAt (putL b l p x).1 (putL b l p x).2 q = if q = p then x else cellAt b l q := by
  unfold putL
  split
  · rename_i h
    simp only
    rw [cellAt_set (by omega)]
    by_cases hq : q = p
    · rw [if_pos (by omega), if_pos hq]
    · rw [if_neg (by omega), if_neg hq]
  · rename_i h
    have hp : cellAt b l p = 0 := by
      rcases Int.lt_or_le p b with h1 | h1
      · exact cellAt_lt h1
      · exact cellAt_ge (by omega)
    split
    · rename_i hx
      simp only
      by_cases hq : q = p
      · rw [if_pos hq, hq, hp, hx]
      · rw [if_neg hq]
    · split
      · rename_i hl
        subst hl
        simp only
        rw [cellAt_cons, cellAt_nil, cellAt_nil]
      · split
        · rename_i hlt
          simp only
          rw [cellAt_cons, cellAt_append, cellAt_zeros]
          simp only [List.length_replicate]
          rw [show p + 1 + ((b - p - 1).toNat : Int) = b by omega]
          by_cases hq : q = p
          · rw [if_pos hq, if_pos hq]
          · rw [if_neg hq, if_neg hq]
            split
            · rw [cellAt_lt (by omega)]
            · rfl
        · rename_i hlt
          simp only
          rw [cellAt_append, cellAt_append, cellAt_zeros, cellAt_cons, cellAt_nil]
          simp only [List.length_replicate]
          rw [show b + (l.length : Int) + ((p - b - (l.length : Int)).toNat : Int) = p by omega]
          by_cases hq : q = p
          · rw [if_pos hq, if_neg (by omega), if_neg (by omega), if_pos hq]
          · rw [if_neg hq]
            split
            · rfl
            · rw [cellAt_ge (p := q) (b := b) (l := l) (by omega)]
              simp

structure RuleS where
  w : Int
  m : Int
  n : Int
structure MachS where
  states : Int
  symbols : Int
  rules : List (List RuleS)
structure CfgS where
  st : Int
  pos : Int
  frm : Int
  cells : List Int

def ruleB (S X : Int) (r : RuleS) : Bool := decide (0 ≤ r.w) && decide (r.w < X) && decide (-1 ≤ r.n) && decide (r.n < S) && (decide (r.m = -1) || decide (r.m = 1))
def rowB (S X : Int) (row : List RuleS) : Bool := decide ((row.length : Int) = X) && row.all (ruleB S X)
def validM (m : MachS) : Bool := decide (1 ≤ m.states ∧ m.states ≤ 6) && decide (2 ≤ m.symbols ∧ m.symbols ≤ 4) && decide ((m.rules.length : Int) = m.states) && m.rules.all (rowB m.states m.symbols)
def normB (b : Int) (l : List Int) : Bool := if l = [] then decide (b = 0) else decide (l.getD 0 0 ≠ 0) && decide (l.getD (l.length - 1) 0 ≠ 0)
def symB (X : Int) (x : Int) : Bool := decide (0 ≤ x) && decide (x < X)
def withinC (c : CfgS) (S X : Int) : Bool := decide (-1 ≤ c.st) && decide (c.st < S) && inR c.pos && inR c.frm && decide (c.cells.length ≤ 100000) && normB c.frm c.cells && c.cells.all (symB X)
def fitsC (m : MachS) (c : CfgS) : Bool := validM m && withinC c m.states m.symbols
theorem normB_iff {b : Int} {l : List Int} : normB b l = true ↔ Norm b l := by
  unfold normB Norm
  by_cases h : l = []
  · simp [h]
  · simp [h]

def ruleAt (m : MachS) (s x : Int) : RuleS := (m.rules.getD s.toNat []).getD x.toNat ⟨0, 0, 0⟩
/-- A step; none: a limit is exceeded. -/
def stepC (m : MachS) (c : CfgS) : Option CfgS :=
  let r := ruleAt m c.st (cellAt c.frm c.cells c.pos)
  let q := putL c.frm c.cells c.pos r.w
  let n := normL q.1 q.2
  if n.2.length ≤ 100000 ∧ inR (c.pos + r.m) = true ∧ inR n.1 = true then some ⟨r.n, c.pos + r.m, n.1, n.2⟩ else none
/-- n steps, or fewer. -/
def runC (m : MachS) : Nat → CfgS → Option (CfgS × Nat)
  | 0, c => some (c, 0)
  | n + 1, c => if c.st = -1 then some (c, 0) else
    match stepC m c with
    | none => none
    | some d => match runC m n d with
      | none => none
      | some (e, k) => some (e, k + 1)

structure Band where
  st : Int
  pos : Int
  base : Int
  cells : List Int
  low : Int
  high : Int
  inner : Int
  outer : Bool

def Band.sym (b : Band) : Int := cellAt b.base b.cells b.pos
def Band.empty (b : Band) : Bool := decide (b.inner = 0) && !b.outer
def Band.clear (b : Band) : Band := { b with base := b.pos, cells := [], low := b.pos, high := b.pos - 1 }
def upTo (b : Int) (l : List Int) : Nat → Int → Int
  | 0, p => p
  | n + 1, p => if cellAt b l p = 0 then upTo b l n (p + 1) else p
def downTo (b : Int) (l : List Int) : Nat → Int → Int
  | 0, p => p
  | n + 1, p => if cellAt b l p = 0 then downTo b l n (p - 1) else p
def Band.drawIn (b : Band) : Band := { b with low := upTo b.base b.cells (b.high - b.low).toNat b.low, high := downTo b.base b.cells (b.high - b.low).toNat b.high }
def Band.fit (b : Band) : Band := { b with low := if b.pos < b.low then b.pos else b.low, high := if b.high < b.pos then b.pos else b.high }
def Band.before (b : Band) : Int := if b.low < b.base then b.base - b.low + (b.cells.length + (b.base - b.low)) else 0
def Band.after (b : Band) : Int := if b.base + b.cells.length - 1 < b.high then (b.high - (b.base + b.cells.length - 1)) + (b.cells.length + (b.high - (b.base + b.cells.length - 1))) else 0
def Band.reach (b : Band) : Band := { b with base := b.base - b.before, cells := List.replicate b.before.toNat 0 ++ b.cells ++ List.replicate b.after.toNat 0 }
def Band.fresh (b : Band) : Band := if b.empty = true then b.clear else b
def Band.wide (b : Band) : Bool := decide (100000 ≤ b.high - b.low)
def Band.widen (b : Band) : Option Band :=
  if b.fresh.fit.wide = false then some b.fresh.fit.reach
  else if b.fresh.drawIn.fit.wide = false then some b.fresh.drawIn.fit.reach
  else none
/-- The cell under the head becomes x. -/
def Band.put (b : Band) (old x : Int) : Band := { b with cells := b.cells.set (b.pos - b.base).toNat x, inner := b.inner + (if old = 0 then 1 else 0) - (if x = 0 then 1 else 0) }
def Band.write (b : Band) (x : Int) : Option Band :=
  if b.sym = x then some b
  else if x = 0 then some (b.put b.sym x)
  else match b.widen with
    | none => none
    | some d => some (d.put b.sym x)
def Band.go (b : Band) (r : RuleS) : Band := { b with pos := b.pos + r.m, st := r.n }
def Band.ok (b : Band) : Bool := inR b.pos && (decide (0 < b.inner) || !b.outer)
def Band.step (m : MachS) (b : Band) : Option Band :=
  match b.write (ruleAt m b.st b.sym).w with
  | none => none
  | some d => if (d.go (ruleAt m b.st b.sym)).ok = true then some (d.go (ruleAt m b.st b.sym)) else none
def Band.config (b : Band) : CfgS :=
  if b.empty = true then ⟨b.st, b.pos, 0, []⟩
  else ⟨b.st, b.pos, b.drawIn.low, (b.cells.drop (b.drawIn.low - b.base).toNat).take (b.drawIn.high - b.drawIn.low + 1).toNat⟩
def newB (c : CfgS) : Band := ⟨c.st, c.pos, c.frm, c.cells, c.frm, c.frm + c.cells.length - 1, innerL c.frm c.cells, outerL c.frm c.cells⟩

/-- What holds of a band: L and H are the least and the greatest bounds so far, since it was empty. -/
structure BandOk (b : Band) (L H : Int) : Prop where
  lo : b.base ≤ L
  lo2 : L ≤ b.low
  hi : b.high ≤ H
  hi2 : H < b.base + b.cells.length
  emp : b.low ≤ b.high + 1
  few : b.high - b.low < 100000
  sup : ∀ p, cellAt b.base b.cells p ≠ 0 → b.low ≤ p ∧ p ≤ b.high
  inn : b.inner = innerL b.base b.cells
  out : b.outer = outerL b.base b.cells
  s1 : L - b.base ≤ (b.base + b.cells.length - 1 - H) + (H - L + 1)
  s2 : b.base + b.cells.length - 1 - H ≤ (L - b.base) + (H - L + 1)
  s3 : L - b.base ≤ 2 * (H - L + 1)
  s4 : b.base + b.cells.length - 1 - H ≤ 2 * (H - L + 1)
  pos : inR b.pos = true
  neg : -maxPos ≤ L
  hig : H ≤ maxPos + 100000

theorem empty_iff {b : Band} {L H : Int} (h : BandOk b L H) : b.empty = true ↔ ∀ p, cellAt b.base b.cells p = 0 := by
  unfold Band.empty
  rw [Bool.and_eq_true, decide_eq_true_eq, Bool.not_eq_true']
  constructor
  · rintro ⟨h1, h2⟩ p
    exact all_zero (h.inn ▸ h1) (h.out ▸ h2) p
  · intro hz
    constructor
    · have h0 := innerL_nonneg b.base b.cells
      rcases Int.lt_or_le 0 (innerL b.base b.cells) with hp | hp
      · obtain ⟨p, _, hc⟩ := innerL_pos.1 hp
        exact absurd (hz p) hc
      · have := h.inn; omega
    · cases ho : b.outer with
      | false => rfl
      | true =>
        rw [h.out] at ho
        obtain ⟨p, _, hc⟩ := outerL_true.1 ho
        exact absurd (hz p) hc
theorem upTo_spec {b : Int} {l : List Int} (n : Nat) (p q : Int) (h1 : p ≤ q) (h2 : q ≤ p + n) (hq : cellAt b l q ≠ 0) : p ≤ upTo b l n p ∧ upTo b l n p ≤ q ∧ cellAt b l (upTo b l n p) ≠ 0 ∧ ∀ r, p ≤ r → r < upTo b l n p → cellAt b l r = 0 := by
  induction n generalizing p with
  | zero =>
    obtain rfl : p = q := by omega
    exact ⟨Int.le_refl _, Int.le_refl _, hq, fun r h3 h4 => by simp only [upTo] at h4; omega⟩
  | succ n ih =>
    rw [upTo]
    split
    · rename_i hz
      have hne : p ≠ q := fun e => hq (e ▸ hz)
      obtain ⟨i1, i2, i3, i4⟩ := ih (p + 1) (by omega) (by omega)
      refine ⟨by omega, i2, i3, fun r h3 h4 => ?_⟩
      by_cases hr : r = p
      · rw [hr]; exact hz
      · exact i4 r (by omega) h4
    · rename_i hz
      exact ⟨Int.le_refl _, h1, hz, fun r h3 h4 => by omega⟩
theorem downTo_spec {b : Int} {l : List Int} (n : Nat) (p q : Int) (h1 : q ≤ p) (h2 : p ≤ q + n) (hq : cellAt b l q ≠ 0) : q ≤ downTo b l n p ∧ downTo b l n p ≤ p ∧ cellAt b l (downTo b l n p) ≠ 0 ∧ ∀ r, r ≤ p → downTo b l n p < r → cellAt b l r = 0 := by
  induction n generalizing p with
  | zero =>
    obtain rfl : p = q := by omega
    exact ⟨Int.le_refl _, Int.le_refl _, hq, fun r h3 h4 => by simp only [downTo] at h4; omega⟩
  | succ n ih =>
    rw [downTo]
    split
    · rename_i hz
      have hne : p ≠ q := fun e => hq (e ▸ hz)
      obtain ⟨i1, i2, i3, i4⟩ := ih (p - 1) (by omega) (by omega)
      refine ⟨i1, by omega, i3, fun r h3 h4 => ?_⟩
      by_cases hr : r = p
      · rw [hr]; exact hz
      · exact i4 r (by omega) h4
    · rename_i hz
      exact ⟨h1, Int.le_refl _, hz, fun r h3 h4 => by omega⟩
/-- The bounds drawn in. -/
theorem drawIn_spec {b : Band} {L H : Int} (h : BandOk b L H) (he : b.empty = false) : b.low ≤ b.drawIn.low ∧ b.drawIn.high ≤ b.high ∧ b.drawIn.low ≤ b.drawIn.high ∧ cellAt b.base b.cells b.drawIn.low ≠ 0 ∧ cellAt b.base b.cells b.drawIn.high ≠ 0 ∧ ∀ p, cellAt b.base b.cells p ≠ 0 → b.drawIn.low ≤ p ∧ p ≤ b.drawIn.high := by
  have hne : ¬ ∀ p, cellAt b.base b.cells p = 0 := fun hz => by
    rw [(empty_iff h).2 hz] at he
    cases he
  obtain ⟨q, hq⟩ := Classical.not_forall.1 hne
  obtain ⟨q1, q2⟩ := h.sup q hq
  obtain ⟨u1, u2, u3, u4⟩ := upTo_spec (b := b.base) (l := b.cells) (b.high - b.low).toNat b.low q q1 (by omega) hq
  obtain ⟨d1, d2, d3, d4⟩ := downTo_spec (b := b.base) (l := b.cells) (b.high - b.low).toNat b.high q q2 (by omega) hq
  refine ⟨u1, d2, by show upTo _ _ _ _ ≤ downTo _ _ _ _; omega, u3, d3, fun p hp => ⟨?_, ?_⟩⟩
  · obtain ⟨p1, _⟩ := h.sup p hp
    rcases Int.lt_or_le p b.drawIn.low with hlt | hle
    · exact absurd (u4 p p1 hlt) hp
    · exact hle
  · obtain ⟨_, p2⟩ := h.sup p hp
    rcases Int.lt_or_le b.drawIn.high p with hlt | hle
    · exact absurd (d4 p p2 hlt) hp
    · exact hle
theorem inR_iff {p : Int} : inR p = true ↔ -maxPos ≤ p ∧ p ≤ maxPos := by simp [inR]
theorem drawIn_ok {b : Band} {L H : Int} (h : BandOk b L H) (he : b.empty = false) : BandOk b.drawIn L H := by
  obtain ⟨d1, d2, d3, d4, d5, d6⟩ := drawIn_spec h he
  have := h.lo2; have := h.hi; have := h.few; have := h.emp
  exact ⟨h.lo, by omega, by omega, h.hi2, by omega, by omega, d6, h.inn, h.out, h.s1, h.s2, h.s3, h.s4, h.pos, h.neg, h.hig⟩

/-- What a band's cells are, and what it holds besides. -/
structure Like (d b : Band) : Prop where
  cells : ∀ p, cellAt d.base d.cells p = cellAt b.base b.cells p
  st : d.st = b.st
  pos : d.pos = b.pos
  inner : d.inner = b.inner
  outer : d.outer = b.outer
theorem Like.refl (b : Band) : Like b b := ⟨fun _ => rfl, rfl, rfl, rfl, rfl⟩
theorem Like.trans {a b c : Band} (h : Like a b) (g : Like b c) : Like a c :=
  ⟨fun p => (h.cells p).trans (g.cells p), h.st.trans g.st, h.pos.trans g.pos, h.inner.trans g.inner, h.outer.trans g.outer⟩
theorem reach_like (b : Band) (h1 : 0 ≤ b.before) : Like b.reach b := by
  refine ⟨fun p => ?_, rfl, rfl, rfl, rfl⟩
  show cellAt (b.base - b.before) _ p = _
  have := cellAt_grown b.base b.before.toNat b.after.toNat b.cells p
  rw [show ((b.before.toNat : Nat) : Int) = b.before by omega] at this
  exact this
theorem clear_ok {b : Band} {L H : Int} (h : BandOk b L H) (he : b.empty = true) : BandOk b.clear b.pos (b.pos - 1) ∧ Like b.clear b := by
  have hz := (empty_iff h).1 he
  have hp := inR_iff.1 h.pos
  unfold Band.empty at he
  rw [Bool.and_eq_true, decide_eq_true_eq, Bool.not_eq_true'] at he
  refine ⟨⟨Int.le_refl _, Int.le_refl _, Int.le_refl _, ?_, ?_, ?_, ?_, ?_, ?_, ?_, ?_, ?_, ?_, h.pos, hp.1, ?_⟩, fun p => ?_, rfl, rfl, rfl, rfl⟩
  · show b.pos - 1 < b.pos + (([] : List Int).length : Int)
    simp
    omega
  · show b.pos ≤ b.pos - 1 + 1
    omega
  · show b.pos - 1 - b.pos < 100000
    omega
  · intro p hc
    exact absurd (cellAt_nil _ _) hc
  · exact he.1
  · exact he.2
  · show b.pos - b.pos ≤ b.pos + (([] : List Int).length : Int) - 1 - (b.pos - 1) + (b.pos - 1 - b.pos + 1)
    simp
    omega
  · show b.pos + (([] : List Int).length : Int) - 1 - (b.pos - 1) ≤ b.pos - b.pos + (b.pos - 1 - b.pos + 1)
    simp
    omega
  · show b.pos - b.pos ≤ _
    omega
  · show b.pos + (([] : List Int).length : Int) - 1 - (b.pos - 1) ≤ _
    simp
    omega
  · omega
  · show cellAt b.pos [] p = _
    rw [cellAt_nil, hz]
theorem fresh_ok {b : Band} {L H : Int} (h : BandOk b L H) : ∃ L' H', BandOk b.fresh L' H' ∧ Like b.fresh b ∧ H' - L' ≤ H - L ∧ b.fresh.empty = b.empty := by
  unfold Band.fresh
  cases he : b.empty
  · exact ⟨L, H, h, Like.refl b, Int.le_refl _, he⟩
  · obtain ⟨h1, h2⟩ := clear_ok h he
    refine ⟨_, _, h1, h2, ?_, ?_⟩
    · have := h.lo2; have := h.hi; have := h.emp
      omega
    · exact he
theorem fit_low (b : Band) : b.fit.low ≤ b.low ∧ b.fit.low ≤ b.pos ∧ (b.fit.low = b.low ∨ b.fit.low = b.pos) := by
  show (if b.pos < b.low then b.pos else b.low) ≤ _ ∧ (if b.pos < b.low then b.pos else b.low) ≤ _ ∧ ((if b.pos < b.low then b.pos else b.low) = _ ∨ (if b.pos < b.low then b.pos else b.low) = _)
  split <;> omega
theorem fit_high (b : Band) : b.high ≤ b.fit.high ∧ b.pos ≤ b.fit.high ∧ (b.fit.high = b.high ∨ b.fit.high = b.pos) := by
  show _ ≤ (if b.high < b.pos then b.pos else b.high) ∧ _ ≤ (if b.high < b.pos then b.pos else b.high) ∧ ((if b.high < b.pos then b.pos else b.high) = _ ∨ (if b.high < b.pos then b.pos else b.high) = _)
  split <;> omega
theorem fit_ok {b : Band} {L H : Int} (h : BandOk b L H) (hw : b.fit.wide = false) :
    ∃ L' H', BandOk b.fit.reach L' H' ∧ Like b.fit.reach b ∧ H' - L' ≤ H - L + 100000 ∧ b.fit.reach.low ≤ b.pos ∧ b.pos ≤ b.fit.reach.high ∧ 0 ≤ b.fit.before ∧ 0 ≤ b.fit.after := by
  obtain ⟨l1, l2, l3⟩ := fit_low b
  obtain ⟨u1, u2, u3⟩ := fit_high b
  have hw' : b.fit.high - b.fit.low < 100000 := by
    have := of_decide_eq_false hw
    omega
  have hp := inR_iff.1 h.pos
  have e1 := h.lo; have e2 := h.lo2; have e3 := h.hi; have e4 := h.hi2; have e5 := h.emp; have e6 := h.s1; have e7 := h.s2; have e8 := h.s3; have e9 := h.s4; have g1 := h.neg; have g2 := h.hig
  have eb : b.fit.base = b.base := rfl
  have ec : b.fit.cells = b.cells := rfl
  have hb0 : 0 ≤ b.fit.before := by
    unfold Band.before
    split <;> omega
  have ha0 : 0 ≤ b.fit.after := by
    unfold Band.after
    split <;> omega
  have hlen : (b.fit.reach.cells.length : Int) = b.fit.before + b.cells.length + b.fit.after := by
    show ((List.replicate b.fit.before.toNat 0 ++ b.cells ++ List.replicate b.fit.after.toNat 0).length : Int) = _
    simp
    omega
  have hbase : b.fit.reach.base = b.base - b.fit.before := rfl
  have hin : innerL b.fit.reach.base b.fit.reach.cells = innerL b.base b.cells := by
    have := innerL_grown b.base b.fit.before.toNat b.fit.after.toNat b.cells
    rw [show ((b.fit.before.toNat : Nat) : Int) = b.fit.before by omega] at this
    exact this
  have hout : outerL b.fit.reach.base b.fit.reach.cells = outerL b.base b.cells := by
    have := outerL_grown b.base b.fit.before.toNat b.fit.after.toNat b.cells
    rw [show ((b.fit.before.toNat : Nat) : Int) = b.fit.before by omega] at this
    exact this
  have hlike : Like b.fit.reach b := ⟨(reach_like b.fit hb0).cells, rfl, rfl, rfl, rfl⟩
  have hlow : b.fit.reach.low = b.fit.low := rfl
  have hhigh : b.fit.reach.high = b.fit.high := rfl
  have hbef : b.fit.before = if b.fit.low < b.base then b.base - b.fit.low + (b.cells.length + (b.base - b.fit.low)) else 0 := rfl
  have haft : b.fit.after = if b.base + b.cells.length - 1 < b.fit.high then (b.fit.high - (b.base + b.cells.length - 1)) + (b.cells.length + (b.fit.high - (b.base + b.cells.length - 1))) else 0 := rfl
  have hL : ∃ L', L' ≤ L ∧ L' ≤ b.fit.low ∧ (L' = L ∨ L' = b.fit.low) := by
    rcases Int.lt_or_le b.fit.low L with hh | hh
    · exact ⟨b.fit.low, by omega, by omega, .inr rfl⟩
    · exact ⟨L, by omega, by omega, .inl rfl⟩
  have hH : ∃ H', H ≤ H' ∧ b.fit.high ≤ H' ∧ (H' = H ∨ H' = b.fit.high) := by
    rcases Int.lt_or_le H b.fit.high with hh | hh
    · exact ⟨b.fit.high, by omega, by omega, .inr rfl⟩
    · exact ⟨H, by omega, by omega, .inl rfl⟩
  obtain ⟨L', a1, a2, a3⟩ := hL
  obtain ⟨H', c1, c2, c3⟩ := hH
  have hfew := h.few
  refine ⟨L', H', ⟨?_, ?_, ?_, ?_, ?_, ?_, fun p hc => ?_, ?_, ?_, ?_, ?_, ?_, ?_, h.pos, ?_, ?_⟩, hlike, ?_, by omega, by omega, hb0, ha0⟩
  · rw [hbase]; by_cases k1 : b.fit.low < b.base
    · rw [if_pos k1] at hbef; omega
    · rw [if_neg k1] at hbef; omega
  · omega
  · omega
  · rw [hbase, hlen]
    by_cases k1 : b.base + b.cells.length - 1 < b.fit.high
    · rw [if_pos k1] at haft; omega
    · rw [if_neg k1] at haft; omega
  · omega
  · omega
  · rw [hlike.cells] at hc
    have := h.sup p hc
    omega
  · rw [hin]; exact h.inn
  · rw [hout]; exact h.out
  all_goals first
    | (rw [hbase, hlen]
       by_cases k1 : b.fit.low < b.base
       · rw [if_pos k1] at hbef
         rw [if_neg (by omega)] at haft
         omega
       · rw [if_neg k1] at hbef
         by_cases k2 : b.base + b.cells.length - 1 < b.fit.high
         · rw [if_pos k2] at haft
           omega
         · rw [if_neg k2] at haft
           omega)
    | omega

theorem widen_some {b d : Band} {L H : Int} (h : BandOk b L H) (hd : b.widen = some d) :
    ∃ L' H', BandOk d L' H' ∧ Like d b ∧ H' - L' ≤ H - L + 100000 ∧ d.low ≤ b.pos ∧ b.pos ≤ d.high := by
  obtain ⟨L1, H1, h1, h2, h3, h4⟩ := fresh_ok h
  unfold Band.widen at hd
  split at hd
  · rename_i hw
    obtain rfl := Option.some.inj hd
    obtain ⟨L', H', g1, g2, g3, g4, g5, _⟩ := fit_ok h1 hw
    exact ⟨L', H', g1, g2.trans h2, by omega, by rw [← h2.pos]; exact g4, by rw [← h2.pos]; exact g5⟩
  · split at hd
    · rename_i hw1 hw
      obtain rfl := Option.some.inj hd
      have he : b.fresh.empty = false := by
        cases he : b.fresh.empty with
        | false => rfl
        | true =>
          rw [h4] at he
          have : b.fresh = b.clear := by rw [Band.fresh, if_pos he]
          rw [this] at hw1
          exfalso
          apply hw1
          show decide (100000 ≤ (if b.pos - 1 < b.pos then b.pos else b.pos - 1) - (if b.pos < b.pos then b.pos else b.pos)) = false
          rw [if_pos (by omega), if_neg (by omega)]
          simp
      have h5 := drawIn_ok h1 he
      obtain ⟨L', H', g1, g2, g3, g4, g5, _⟩ := fit_ok h5 hw
      have g2' : Like b.fresh.drawIn.fit.reach b.fresh := g2.trans ⟨fun _ => rfl, rfl, rfl, rfl, rfl⟩
      have hp : b.fresh.drawIn.pos = b.pos := h2.pos
      exact ⟨L', H', g1, g2'.trans h2, by omega, by rw [← hp]; exact g4, by rw [← hp]; exact g5⟩
    · cases hd
theorem widen_none {b : Band} {L H : Int} (h : BandOk b L H) (hd : b.widen = none) :
    ∃ p q, (cellAt b.base b.cells p ≠ 0 ∨ p = b.pos) ∧ (cellAt b.base b.cells q ≠ 0 ∨ q = b.pos) ∧ 100000 ≤ q - p := by
  obtain ⟨L1, H1, h1, h2, h3, h4⟩ := fresh_ok h
  unfold Band.widen at hd
  split at hd
  · cases hd
  · split at hd
    · cases hd
    · rename_i hw1 hw
      have he : b.fresh.empty = false := by
        cases he : b.fresh.empty with
        | false => rfl
        | true =>
          rw [h4] at he
          have : b.fresh = b.clear := by rw [Band.fresh, if_pos he]
          rw [this] at hw1
          exfalso
          apply hw1
          show decide (100000 ≤ (if b.pos - 1 < b.pos then b.pos else b.pos - 1) - (if b.pos < b.pos then b.pos else b.pos)) = false
          rw [if_pos (by omega), if_neg (by omega)]
          simp
      obtain ⟨d1, d2, d3, d4, d5, d6⟩ := drawIn_spec h1 he
      have hw' : 100000 ≤ b.fresh.drawIn.fit.high - b.fresh.drawIn.fit.low := by
        cases hx : b.fresh.drawIn.fit.wide with
        | false => exact absurd hx hw
        | true => exact of_decide_eq_true hx
      have hp : b.fresh.drawIn.pos = b.pos := h2.pos
      obtain ⟨_, _, l3⟩ := fit_low b.fresh.drawIn
      obtain ⟨_, _, u3⟩ := fit_high b.fresh.drawIn
      rw [h2.cells] at d4 d5
      refine ⟨b.fresh.drawIn.fit.low, b.fresh.drawIn.fit.high, ?_, ?_, hw'⟩
      · rcases l3 with e | e
        · rw [e]; exact .inl d4
        · rw [e]; exact .inr hp
      · rcases u3 with e | e
        · rw [e]; exact .inl d5
        · rw [e]; exact .inr hp
theorem sym_in {b : Band} {L H : Int} (h : BandOk b L H) (hs : b.sym ≠ 0) : b.low ≤ b.pos ∧ b.pos ≤ b.high := h.sup _ hs
theorem put_ok {b : Band} {L H x : Int} (h : BandOk b L H) (hi : b.low ≤ b.pos ∧ b.pos ≤ b.high) :
    BandOk (b.put b.sym x) L H ∧ ∀ p, cellAt (b.put b.sym x).base (b.put b.sym x).cells p = if p = b.pos then x else cellAt b.base b.cells p := by
  have e1 := h.lo; have e2 := h.lo2; have e3 := h.hi; have e4 := h.hi2
  have hp := inR_iff.1 h.pos
  have hk : (b.pos - b.base).toNat < b.cells.length := by omega
  have hpk : b.base + ((b.pos - b.base).toNat : Int) = b.pos := by omega
  obtain ⟨y, hy⟩ : ∃ y, b.cells[(b.pos - b.base).toNat]? = some y := ⟨_, List.getElem?_eq_getElem hk⟩
  have hys : b.sym = y := cellAt_get hpk.symm hy
  have hcell : ∀ p, cellAt (b.put b.sym x).base (b.put b.sym x).cells p = if p = b.pos then x else cellAt b.base b.cells p := by
    intro p
    show cellAt b.base (b.cells.set (b.pos - b.base).toNat x) p = _
    rw [cellAt_set hk, hpk]
  have hlen : (b.put b.sym x).cells.length = b.cells.length := by
    show (b.cells.set (b.pos - b.base).toNat x).length = _
    rw [List.length_set]
  refine ⟨⟨h.lo, h.lo2, h.hi, by rw [hlen]; exact h.hi2, h.emp, h.few, fun p hc => ?_, ?_, ?_, by rw [hlen]; exact h.s1, by rw [hlen]; exact h.s2, h.s3, by rw [hlen]; exact h.s4, h.pos, h.neg, h.hig⟩, hcell⟩
  · rw [hcell] at hc
    by_cases e : p = b.pos
    · rw [e]; exact hi
    · rw [if_neg e] at hc
      exact h.sup p hc
  · show b.inner + (if b.sym = 0 then 1 else 0) - (if x = 0 then 1 else 0) = innerL b.base (b.cells.set (b.pos - b.base).toNat x)
    rw [innerL_set hy (by omega), ← h.inn, hys]
    by_cases e1 : y = 0
    · by_cases e2 : x = 0
      · simp [e1, e2]
      · simp [e1, e2]
    · by_cases e2 : x = 0
      · simp [e1, e2]
      · simp [e1, e2]
  · show b.outer = outerL b.base (b.cells.set (b.pos - b.base).toNat x)
    rw [outerL_set hy (by omega)]
    exact h.out
theorem write_some {b d : Band} {L H x : Int} (h : BandOk b L H) (hd : b.write x = some d) :
    ∃ L' H', BandOk d L' H' ∧ (∀ p, cellAt d.base d.cells p = if p = b.pos then x else cellAt b.base b.cells p) ∧ d.st = b.st ∧ d.pos = b.pos ∧ H' - L' ≤ H - L + 100000 := by
  unfold Band.write at hd
  split at hd
  · rename_i hx
    obtain rfl := Option.some.inj hd
    refine ⟨L, H, h, fun p => ?_, rfl, rfl, by omega⟩
    split
    · rename_i e
      rw [e]; exact hx
    · rfl
  · rename_i hx
    split at hd
    · rename_i hx0
      obtain rfl := Option.some.inj hd
      obtain ⟨g1, g2⟩ := put_ok h (sym_in h (fun e => hx (e.trans hx0.symm)))
      exact ⟨L, H, g1, g2, rfl, rfl, by omega⟩
    · cases hw : b.widen with
      | none => rw [hw] at hd; cases hd
      | some e =>
        rw [hw] at hd
        obtain rfl := Option.some.inj hd
        obtain ⟨L', H', g1, g2, g3, g4, g5⟩ := widen_some h hw
        have hs : e.sym = b.sym := by
          show cellAt e.base e.cells e.pos = cellAt b.base b.cells b.pos
          rw [g2.cells, g2.pos]
        obtain ⟨k1, k2⟩ := put_ok (x := x) g1 (by rw [g2.pos]; exact ⟨g4, g5⟩)
        rw [hs] at k1 k2
        refine ⟨L', H', k1, fun p => ?_, g2.st, g2.pos, g3⟩
        rw [k2, g2.pos, g2.cells]
theorem write_none {b : Band} {L H x : Int} (h : BandOk b L H) (hd : b.write x = none) :
    x ≠ 0 ∧ ∃ p q, (cellAt b.base b.cells p ≠ 0 ∨ p = b.pos) ∧ (cellAt b.base b.cells q ≠ 0 ∨ q = b.pos) ∧ 100000 ≤ q - p := by
  unfold Band.write at hd
  split at hd
  · cases hd
  · split at hd
    · cases hd
    · rename_i hx0
      cases hw : b.widen with
      | none => exact ⟨hx0, widen_none h hw⟩
      | some e => rw [hw] at hd; cases hd

/-- A band stands for a configuration that is written with as few cells as possible. -/
structure Stands (b : Band) (c : CfgS) : Prop where
  st : b.st = c.st
  pos : b.pos = c.pos
  cells : ∀ p, cellAt b.base b.cells p = cellAt c.frm c.cells p
  norm : Norm c.frm c.cells
theorem norm_hull {b : Int} {l : List Int} {lo hi : Int} (h : Norm b l) (hs : ∀ p, cellAt b l p ≠ 0 → lo ≤ p ∧ p ≤ hi) : l = [] ∨ (l ≠ [] ∧ lo ≤ b ∧ b + l.length - 1 ≤ hi) := by
  by_cases hl : l = []
  · exact .inl hl
  · have h1 := hs _ (h.first hl)
    have h2 := hs _ (h.last hl)
    exact .inr ⟨hl, by omega, by omega⟩
theorem step_same {m : MachS} {b : Band} {c : CfgS} {L H : Int} (h : BandOk b L H) (hs : Stands b c) (hm : ∀ r, r = ruleAt m c.st (cellAt c.frm c.cells c.pos) → -1 ≤ r.m ∧ r.m ≤ 1) :
    (∃ d e, b.step m = some d ∧ stepC m c = some e ∧ Stands d e ∧ ∃ L' H', BandOk d L' H' ∧ H' - L' ≤ H - L + 100000) ∨ (b.step m = none ∧ stepC m c = none) := by
  have hsym : b.sym = cellAt c.frm c.cells c.pos := by
    show cellAt b.base b.cells b.pos = _
    rw [hs.cells, hs.pos]
  obtain ⟨r, hr⟩ : ∃ r, r = ruleAt m c.st (cellAt c.frm c.cells c.pos) := ⟨_, rfl⟩
  have hrb : ruleAt m b.st b.sym = r := by rw [hs.st, hsym, hr]
  have hmr := hm r hr
  obtain ⟨n, hn⟩ : ∃ n, n = normL (putL c.frm c.cells c.pos r.w).1 (putL c.frm c.cells c.pos r.w).2 := ⟨_, rfl⟩
  have hnn : Norm n.1 n.2 := by rw [hn]; exact normL_norm _ _
  have hnc : ∀ p, cellAt n.1 n.2 p = if p = c.pos then r.w else cellAt c.frm c.cells p := fun p => by rw [hn, normL_cell, putL_cell]
  have hstep : stepC m c = if n.2.length ≤ 100000 ∧ inR (c.pos + r.m) = true ∧ inR n.1 = true then some ⟨r.n, c.pos + r.m, n.1, n.2⟩ else none := by
    rw [stepC, ← hr, ← hn]
  unfold Band.step
  rw [hrb, hstep]
  cases hw : b.write r.w with
  | none =>
    refine .inr ⟨rfl, ?_⟩
    obtain ⟨hx0, p, q, hp, hq, hpq⟩ := write_none h hw
    have key : ∀ p, (cellAt b.base b.cells p ≠ 0 ∨ p = b.pos) → cellAt n.1 n.2 p ≠ 0 := by
      intro p hp
      rw [hnc]
      split
      · exact hx0
      · rename_i e
        rcases hp with hp | hp
        · rw [← hs.cells]; exact hp
        · exact absurd (hp.trans hs.pos) e
    have k1 := cellAt_in (key p hp)
    have k2 := cellAt_in (key q hq)
    rw [if_neg (fun hh => by have := hh.1; omega)]
  | some d =>
    obtain ⟨L', H', g1, g2, g3, g4, g5⟩ := write_some h hw
    have hdc : ∀ p, cellAt d.base d.cells p = cellAt n.1 n.2 p := fun p => by
      rw [g2, hnc, hs.pos, hs.cells]
    have hull := norm_hull hnn (fun p hp => g1.sup p (by rw [hdc]; exact hp))
    have hfew := g1.few
    have hneg := g1.neg
    have hlo2 := g1.lo2
    have hlen : n.2.length ≤ 100000 := by
      rcases hull with e | ⟨_, e1, e2⟩
      · rw [e]; simp
      · omega
    have hok : (d.go r).ok = true ↔ inR (c.pos + r.m) = true ∧ inR n.1 = true := by
      show (inR (d.pos + r.m) && (decide (0 < d.inner) || !d.outer)) = true ↔ _
      rw [Bool.and_eq_true, g4, hs.pos]
      refine and_congr_right fun _ => ?_
      rw [Bool.or_eq_true, decide_eq_true_eq, Bool.not_eq_true', inR_iff]
      rw [g1.inn, g1.out]
      constructor
      · intro hh
        rcases hull with e | ⟨e0, e1, e2⟩
        · rcases hnn with ⟨_, e3⟩ | ⟨e3, _⟩
          · rw [e3]; unfold maxPos; omega
          · exact absurd e e3
        · refine ⟨by omega, ?_⟩
          rcases hh with hh | hh
          · obtain ⟨p, hp, hc⟩ := innerL_pos.1 hh
            rw [hdc] at hc
            have := cellAt_in hc
            omega
          · rcases Int.lt_or_le maxPos n.1 with hlt | hle
            · have hf := hnn.first e0
              rw [← hdc] at hf
              rw [outerL_true.2 ⟨_, hlt, hf⟩] at hh
              cases hh
            · exact hle
      · rintro ⟨_, hle⟩
        rcases hull with e | ⟨e0, _, _⟩
        · refine .inr ?_
          cases ho : outerL d.base d.cells with
          | false => rfl
          | true =>
            obtain ⟨p, _, hc⟩ := outerL_true.1 ho
            rw [hdc, e, cellAt_nil] at hc
            exact absurd rfl hc
        · have hf := hnn.first e0
          rw [← hdc] at hf
          exact .inl (innerL_pos.2 ⟨_, hle, hf⟩)
    by_cases ho : (d.go r).ok = true
    · have ho2 := hok.1 ho
      refine .inl ⟨d.go r, _, if_pos ho, if_pos ⟨hlen, ho2⟩, ⟨rfl, by show d.pos + r.m = _; rw [g4, hs.pos], hdc, hnn⟩, L', H', ?_, g5⟩
      have hpos : inR (d.go r).pos = true := by
        show inR (d.pos + r.m) = true
        rw [g4, hs.pos]
        exact ho2.1
      exact ⟨g1.lo, g1.lo2, g1.hi, g1.hi2, g1.emp, g1.few, g1.sup, g1.inn, g1.out, g1.s1, g1.s2, g1.s3, g1.s4, hpos, g1.neg, g1.hig⟩
    · exact .inr ⟨if_neg ho, if_neg fun hh => ho (hok.2 hh.2)⟩
theorem config_same {b : Band} {c : CfgS} {L H : Int} (h : BandOk b L H) (hs : Stands b c) : b.config = c := by
  unfold Band.config
  obtain ⟨cst, cpos, cfrm, ccells⟩ := c
  have h1 := hs.st; have h2 := hs.pos; have h3 := hs.cells; have h4 := hs.norm
  simp only at h1 h2 h3 h4
  subst h1 h2
  cases he : b.empty with
  | true =>
    rw [if_pos rfl]
    have hz := (empty_iff h).1 he
    obtain ⟨e1, e2⟩ := Norm.unique (b := 0) (l := []) (.inl ⟨rfl, rfl⟩) h4 (fun p => by rw [cellAt_nil, ← h3, hz])
    rw [e1, e2]
  | false =>
    rw [if_neg (by simp)]
    obtain ⟨d1, d2, d3, d4, d5, d6⟩ := drawIn_spec h he
    have e1 := h.lo; have e2 := h.lo2; have e3 := h.hi; have e4 := h.hi2
    have hpart := cellAt_part (b := b.base) (l := b.cells) (lo := b.drawIn.low) (hi := b.drawIn.high) (by omega) (by omega) (by omega) d6
    obtain ⟨seg, hseg⟩ : ∃ seg, seg = (b.cells.drop (b.drawIn.low - b.base).toNat).take (b.drawIn.high - b.drawIn.low + 1).toNat := ⟨_, rfl⟩
    rw [← hseg] at hpart ⊢
    have hsl : (seg.length : Int) = b.drawIn.high - b.drawIn.low + 1 := by
      rw [hseg, List.length_take, List.length_drop]
      omega
    have hne : seg ≠ [] := fun e => by rw [e] at hsl; simp at hsl; omega
    have f1 : cellAt b.drawIn.low seg b.drawIn.low ≠ 0 := by rw [hpart]; exact d4
    have f2 : cellAt b.drawIn.low seg b.drawIn.high ≠ 0 := by rw [hpart]; exact d5
    have hnorm : Norm b.drawIn.low seg := by
      refine .inr ⟨hne, ?_, ?_⟩
      · rw [cellAt, if_neg (by omega)] at f1
        simpa using f1
      · rw [cellAt, if_neg (by omega), show (b.drawIn.high - b.drawIn.low).toNat = seg.length - 1 by omega] at f2
        exact f2
    obtain ⟨e5, e6⟩ := hnorm.unique h4 (fun p => by rw [hpart, h3])
    rw [e5, e6]
end Go.Proofs.Ytonammaecpapmaa.Tp
namespace Go.Proofs.Ytonammaecpapmaa.Tp

theorem runC_add (m : MachS) (k : Nat) (c d : CfgS) (h : runC m k c = some (d, k)) (j : Nat) : runC m (k + j) c = match runC m j d with
    | none => none
    | some (e, i) => some (e, k + i) := by
  induction k generalizing c with
  | zero =>
    simp only [runC, Option.some.injEq, Prod.mk.injEq, and_true] at h
    subst h
    rw [Nat.zero_add]
    cases runC m j c with
    | none => rfl
    | some p => simp
  | succ k ih =>
    rw [runC] at h
    split at h
    · simp at h
    · rename_i hs
      cases hst : stepC m c with
      | none => rw [hst] at h; cases h
      | some e =>
        rw [hst] at h
        simp only at h
        cases hr : runC m k e with
        | none => rw [hr] at h; cases h
        | some p =>
          rw [hr] at h
          simp only [Option.some.injEq, Prod.mk.injEq] at h
          obtain ⟨h1, h2⟩ := h
          have hp : runC m k e = some (d, k) := by
            rw [hr]
            exact congrArg some (Prod.ext h1 (by omega))
          rw [show k + 1 + j = (k + j) + 1 by omega, runC, if_neg hs, hst]
          simp only
          rw [ih e hp]
          cases runC m j d with
          | none => rfl
          | some q => simp; omega
theorem runC_stop {m : MachS} {k n : Nat} {c d : CfgS} (h : runC m k c = some (d, k)) (hs : d.st = -1) (hn : k ≤ n) : runC m n c = some (d, k) := by
  have := runC_add m k c d h (n - k)
  rw [show k + (n - k) = n by omega] at this
  rw [this]
  cases n - k with
  | zero => simp [runC]
  | succ j => simp [runC, hs]
theorem runC_next {m : MachS} {k : Nat} {c d e : CfgS} (h : runC m k c = some (d, k)) (hs : d.st ≠ -1) (he : stepC m d = some e) : runC m (k + 1) c = some (e, k + 1) := by
  rw [runC_add m k c d h 1]
  simp [runC, hs, he]
theorem runC_fail {m : MachS} {k n : Nat} {c d : CfgS} (h : runC m k c = some (d, k)) (hs : d.st ≠ -1) (he : stepC m d = none) (hn : k < n) : runC m n c = none := by
  have := runC_add m k c d h (n - k)
  rw [show k + (n - k) = n by omega] at this
  rw [this, show n - k = (n - k - 1) + 1 by omega, runC, if_neg hs, he]

theorem symB_cells {b X : Int} {l : List Int} (hX : 0 < X) : l.all (symB X) = true ↔ ∀ p, 0 ≤ cellAt b l p ∧ cellAt b l p < X := by
  rw [List.all_eq_true]
  constructor
  · intro h p
    unfold cellAt
    split
    · omega
    · rw [List.getD_eq_getElem?_getD]
      cases hx : l[(p - b).toNat]? with
      | none => simp; omega
      | some x =>
        have := h x (List.mem_of_getElem? hx)
        simp only [symB, Bool.and_eq_true, decide_eq_true_eq] at this
        simpa using this
  · intro h x hx
    obtain ⟨i, hi⟩ := List.mem_iff_getElem?.1 hx
    have := h (b + i)
    rw [cellAt_get (k := i) rfl hi] at this
    simp only [symB, Bool.and_eq_true, decide_eq_true_eq]
    exact this

theorem newB_ok {c : CfgS} (hn : Norm c.frm c.cells) (hl : c.cells.length ≤ 100000) (hp : inR c.pos = true) (hf : inR c.frm = true) : BandOk (newB c) c.frm (c.frm + c.cells.length - 1) ∧ Stands (newB c) c := by
  obtain ⟨st, pos, frm, cells⟩ := c
  have hr := inR_iff.1 hf
  simp only at hn hl hp hf hr
  refine ⟨⟨Int.le_refl _, Int.le_refl _, Int.le_refl _, ?_, ?_, ?_, fun p h => ?_, rfl, rfl, ?_, ?_, ?_, ?_, hp, hr.1, ?_⟩, ⟨rfl, rfl, fun _ => rfl, hn⟩⟩
  all_goals simp only [newB]
  case refine_4 => have := cellAt_in h; simp only [newB] at this; omega
  all_goals omega
end Go.Proofs.Ytonammaecpapmaa.Tp
namespace Go.Proofs.Ytonammaecpapmaa.Tp
open Go.RowKit

/-- A slice of rules, each of three cells. -/
def RulesIn (w : World) (B : Nat) (v : Value) (rs : List RuleS) : Prop :=
  ((v = .slice none 0 0 ∨ ∃ a c, v = .slice (some a) 0 c) ∧ rs = []) ∨ ∃ b off c, v = .slice (some ⟨b, off, none⟩) rs.length c ∧ b < B ∧ ∀ (k : Nat) (r : RuleS), rs[k]? = some r →
    w.cell? ⟨b, off + k * 3, none⟩ = some (.int .i64 r.w) ∧ w.cell? ⟨b, off + k * 3 + 1, none⟩ = some (.int .i64 r.m) ∧ w.cell? ⟨b, off + k * 3 + 2, none⟩ = some (.int .i64 r.n)
theorem RulesIn.below {w w' : World} {B B' : Nat} {v : Value} {rs : List RuleS} (h : RulesIn w B v rs) (hb : Below B' w w') (hB : B ≤ B') : RulesIn w' B v rs := by
  rcases h with h | ⟨b, off, c, hv, hlt, hc⟩
  · exact .inl h
  · refine .inr ⟨b, off, c, hv, hlt, fun k r hr => ?_⟩
    obtain ⟨h1, h2, h3⟩ := hc k r hr
    exact ⟨(hb.cell (p := ⟨b, off + k * 3, none⟩) (by show b < B'; omega)).trans h1, (hb.cell (p := ⟨b, off + k * 3 + 1, none⟩) (by show b < B'; omega)).trans h2, (hb.cell (p := ⟨b, off + k * 3 + 2, none⟩) (by show b < B'; omega)).trans h3⟩
theorem RulesIn.mono {w : World} {B B' : Nat} {v : Value} {rs : List RuleS} (h : RulesIn w B v rs) (hB : B ≤ B') : RulesIn w B' v rs := by
  rcases h with h | ⟨b, off, c, hv, hlt, hc⟩
  · exact .inl h
  · exact .inr ⟨b, off, c, hv, by omega, hc⟩
theorem RulesIn.to {w w' : World} {v : Value} {rs : List RuleS} (h : RulesIn w w.heap.size v rs) (hb : Below w.heap.size w w') : RulesIn w' w'.heap.size v rs :=
  (h.below hb (Nat.le_refl _)).mono hb.size
theorem RulesIn.form {w : World} {B : Nat} {v : Value} {rs : List RuleS} (h : RulesIn w B v rs) : ∃ A c, v = .slice A rs.length c := by
  rcases h with ⟨rfl | ⟨a, c, rfl⟩, rfl⟩ | ⟨b, off, c, rfl, _⟩
  · exact ⟨none, 0, rfl⟩
  · exact ⟨some a, c, rfl⟩
  · exact ⟨_, c, rfl⟩
theorem RulesIn.at_ {w : World} {B : Nat} {A : Option Addr} {n c : Nat} {rs : List RuleS} (h : RulesIn w B (.slice A n c) rs) (hn : 0 < n) :
    ∃ b off, A = some ⟨b, off, none⟩ ∧ b < B ∧ ∀ (k : Nat) (r : RuleS), rs[k]? = some r →
      w.cell? ⟨b, off + k * 3, none⟩ = some (.int .i64 r.w) ∧ w.cell? ⟨b, off + k * 3 + 1, none⟩ = some (.int .i64 r.m) ∧ w.cell? ⟨b, off + k * 3 + 2, none⟩ = some (.int .i64 r.n) := by
  rcases h with ⟨hv | ⟨a, c', hv⟩, _⟩ | ⟨b, off, c', hv, hlt, hc⟩
  · simp at hv; omega
  · simp at hv; omega
  · simp at hv
    exact ⟨b, off, hv.1, hlt, hc⟩
/-- A slice of slices of rules. -/
def Rules2 (w : World) (B : Nat) (v : Value) (rows : List (List RuleS)) : Prop :=
  ∃ vs : List Value, Elems w B v vs ∧ vs.length = rows.length ∧ ∀ (k : Nat) (u : Value) (r : List RuleS), vs[k]? = some u → rows[k]? = some r → RulesIn w B u r
theorem Rules2.below {w w' : World} {B B' : Nat} {v : Value} {rows : List (List RuleS)} (h : Rules2 w B v rows) (hb : Below B' w w') (hB : B ≤ B') : Rules2 w' B v rows := by
  obtain ⟨vs, h1, h2, h3⟩ := h
  exact ⟨vs, h1.below hb hB, h2, fun k u r hu hr => (h3 k u r hu hr).below hb hB⟩
theorem Rules2.mono {w : World} {B B' : Nat} {v : Value} {rows : List (List RuleS)} (h : Rules2 w B v rows) (hB : B ≤ B') : Rules2 w B' v rows := by
  obtain ⟨vs, h1, h2, h3⟩ := h
  exact ⟨vs, h1.mono hB, h2, fun k u r hu hr => (h3 k u r hu hr).mono hB⟩
theorem Rules2.to {w w' : World} {v : Value} {rows : List (List RuleS)} (h : Rules2 w w.heap.size v rows) (hb : Below w.heap.size w w') : Rules2 w' w'.heap.size v rows :=
  (h.below hb (Nat.le_refl _)).mono hb.size
theorem Rules2.len {w : World} {B : Nat} {A : Option Addr} {n c : Nat} {rows : List (List RuleS)} (h : Rules2 w B (.slice A n c) rows) : rows.length = n := by
  obtain ⟨vs, h1, h2, _⟩ := h
  rw [← h2, h1.len]
theorem Rules2.form {w : World} {B : Nat} {v : Value} {rows : List (List RuleS)} (h : Rules2 w B v rows) : ∃ A c, v = .slice A rows.length c := by
  obtain ⟨vs, h1, h2, _⟩ := h
  obtain ⟨A, c, rfl⟩ := h1.form
  exact ⟨A, c, by rw [h2]⟩
theorem Rules2.row {w : World} {B b off n c k : Nat} {rows : List (List RuleS)} {r : List RuleS} (h : Rules2 w B (.slice (some ⟨b, off, none⟩) n c) rows) (hk : rows[k]? = some r) :
    ∃ A d, w.cell? ⟨b, off + k, none⟩ = some (.slice A r.length d) ∧ RulesIn w B (.slice A r.length d) r := by
  have hlen := h.len
  obtain ⟨vs, h1, h2, h3⟩ := h
  have hkl : k < rows.length := (List.getElem?_eq_some_iff.1 hk).1
  obtain ⟨b', off', e, _, hc⟩ := h1.at_ (by omega)
  simp only [Option.some.injEq, Addr.mk.injEq, and_true] at e
  obtain ⟨rfl, rfl⟩ := e
  obtain ⟨u, hu⟩ : ∃ u, vs[k]? = some u := ⟨_, List.getElem?_eq_getElem (by omega)⟩
  have hE := h3 k u r hu hk
  obtain ⟨A, d, rfl⟩ := hE.form
  exact ⟨A, d, hc k _ hu, hE⟩
theorem Rules2.addr {w : World} {B n c : Nat} {A : Option Addr} {rows : List (List RuleS)} (h : Rules2 w B (.slice A n c) rows) (hn : 0 < n) : ∃ b off, A = some ⟨b, off, none⟩ ∧ b < B := by
  obtain ⟨vs, h1, _⟩ := h
  obtain ⟨b, off, e, hlt, _⟩ := h1.at_ hn
  exact ⟨b, off, e, hlt⟩
/-- A machine in memory, as great as may be. -/
structure MachIn (w : World) (B : Nat) (v : Value) (m : MachS) : Prop where
  rules : Rules2 w B v m.rules
  lim : m.rules.length ≤ 17592186044416 ∧ ∀ r ∈ m.rules, r.length ≤ 17592186044416
theorem MachIn.to {w w' : World} {v : Value} {m : MachS} (h : MachIn w w.heap.size v m) (hb : Below w.heap.size w w') : MachIn w' w'.heap.size v m := ⟨h.rules.to hb, h.lim⟩

theorem own_form {w : World} {base n size : Nat} {e : TypeId} {v : Value} {xs : List Value} (h : w.ownsRow base e size v n xs) : ∃ A c, v = .slice A n c := by
  rcases h.2 with ⟨rfl, rfl⟩ | ⟨g, cap, cur, rfl, _⟩
  · exact ⟨none, 0, rfl⟩
  · exact ⟨_, cap, rfl⟩
theorem own_addr {w : World} {base n c size : Nat} {e : TypeId} {A : Option Addr} {xs : List Value} (h : w.ownsRow base e size (.slice A n c) n xs) (hn : 0 < n) : ∃ g, A = some ⟨g, 0, none⟩ ∧ base ≤ g := by
  rcases h.2 with ⟨hv, h0⟩ | ⟨g, cap, cur, hv, hg, _⟩
  · omega
  · simp at hv
    exact ⟨g, hv.1, hg⟩
theorem own_nil (w : World) (B : Nat) (e : TypeId) : w.ownsRow B e 1 (.slice none 0 0) 0 [] := ⟨rfl, .inl ⟨rfl, rfl⟩⟩
theorem own_cells {w : World} {base n c e : Nat} {A : Option Addr} {xs : List Value} (h : w.ownsRow base e 1 (.slice A n c) n xs) (hn : 0 < n) :
    ∃ g cur, A = some ⟨g, 0, none⟩ ∧ base ≤ g ∧ w.heap[g]? = some (.cells cur e (0, 0)) ∧ n ≤ c ∧ c ≤ maxLen ∧ cur.size = c ∧ cur.toList.take n = xs := by
  rcases h.2 with ⟨hv, h0⟩ | ⟨g, cap, cur, hv, hg, hh, h1, h2, h3, h4⟩
  · omega
  · simp only [Value.slice.injEq, true_and] at hv
    obtain ⟨rfl, rfl⟩ := hv
    exact ⟨g, cur, rfl, hg, hh, h1, h2, by simpa using h3, by simpa using h4⟩
theorem blk_elems {w : World} {g n c : Nat} {t : TypeId} {cs : Array Value} {l : List Value} (h : Blk w g t cs) (hl : cs = l.toArray) (hn : n = l.length := by rfl) : Elems w w.heap.size (.slice (some ⟨g, 0, none⟩) n c) l := by
  subst hn
  refine .inr ⟨g, 0, c, rfl, h.lt, fun k u hu => ?_⟩
  rw [h.cell, hl]
  simpa using hu

section
variable {P : Program} {ops : Array Oper} {rest : List Oper} {o : Oper} {a : Act} {w : World} {Q : Exit → Act → World → Prop}
/-- A copy into a row of the call's own: the row, and no other block, is written. -/
theorem wpList_copy_e (hgd : o.guard = none) (d s : Operand) (T : TypeId)
    (ho : o.op = .call { callee := .builtin .copy, args := #[d, s], argTypes := #[T, T] }) (elem : TypeId) (hu : P.underlying T = some (.slice elem)) (hsz : (P.info? elem).map (·.size) = some 1)
    (g f n c m c2 : Nat) (A2 : Option Addr) (hd : a.eval d = .slice (some ⟨g, f, none⟩) n c) (hs : a.eval s = .slice A2 m c2)
    (cur : Array Value) (t : TypeId) (hg : w.heap[g]? = some (.cells cur t (0, 0))) (cs : List Value) (hcs : cs.length = m) (hmn : m ≤ n) (hnc : f + m ≤ cur.size)
    (hsrc : 0 < m → ∃ ad, A2 = some ad ∧ ∀ j v, cs[j]? = some v → w.cell? (ad.add j) = some v) (h1 : ∀ v ∈ cs, v.oneCell' = true)
    (h : ∀ w', w'.heap[g]? = some (.cells (cur.toList.take f ++ cs ++ cur.toList.drop (f + m)).toArray t (0, 0)) → w.grownBy w' (some g) → w'.heap.size = w.heap.size → wpList P ops Q rest (a.put o.dst (.int .i64 ((m : Nat) : Int))) w') :
    wpList P ops Q (o :: rest) a w := by
  refine wpList_plain hgd fun K hK => ?_
  rcases Nat.eq_zero_or_pos m with h0 | h0
  · subst h0
    have hcn : cs = [] := List.eq_nil_of_length_eq_zero hcs
    subst hcn
    have hrun := run_copy_none (P := P) w T T o.type elem (some ⟨g, f, none⟩) A2 n c 0 c2 hu hsz (by simp)
    unfold Oper.wp execOp
    simp only [ho, resolve, invoke, builtin, Sem.run_bind, Sem.run_pure, Result.andThen_ok, List.map_toArray, List.map_cons, List.map_nil, hd, hs, hrun]
    exact hK _ _ (h w (by simpa using hg) (World.grownBy.refl w _) rfl)
  · obtain ⟨ad, rfl, hc⟩ := hsrc h0
    have hrun := run_copy_row (P := P) w T T o.type elem g f n c ad m c2 cur t cs hu hsz hg (by rw [hcs]; simp [Nat.min_eq_left hmn]) hc (by omega) h1
    unfold Oper.wp execOp
    simp only [ho, resolve, invoke, builtin, Sem.run_bind, Sem.run_pure, Result.andThen_ok, List.map_toArray, List.map_cons, List.map_nil, hd, hs, hrun]
    have := h (w.setRow g (cur.toList.take f ++ cs ++ cur.toList.drop (f + m)).toArray) (setRow_heap w g _ _ t _ hg) ⟨rfl, rfl, rfl, by simp [World.setRow], fun k _ hk => setRow_other w g k _ (fun e => hk (by rw [e]))⟩ (by simp [World.setRow])
    refine hK _ _ ?_
    simpa [hcs, goInt, Oper.upon] using this
end
end Go.Proofs.Ytonammaecpapmaa.Tp

/- pair.Two, plainly: the points, the code that the writer gathers, and their lengths. -/
import Derived.Test.YtonammaecpapmaaAj
namespace Go.Proofs.Ytonammaecpapmaa.Pp
open Go.RowKit

theorem primeN_pos (n : Nat) : 1 ≤ primeN n := by
  unfold primeN
  match n with
  | 0 | 1 | 2 | 3 | 4 | 5 => decide
  | _ + 6 => simp
theorem mulL_len (len q : Nat) (next : Int) : (mulL len q next).length = q + 4 := by
  rw [mulL]; simp [addL_len, mbL_len]
theorem divL_len (len q : Nat) (next zero : Int) (h : 1 ≤ q) : (divL len q next zero).length = 3 * q + 4 := by
  simp only [divL, List.length_append, List.length_cons, List.length_nil, addL_len, mbL_len, dkL_len]; omega
theorem wrI_len (pts : List Int) (len : Nat) (i : InstS) : (wrI pts len i).length = lenI i := by
  have hp := primeN_pos i.reg.toNat
  unfold wrI lenI
  by_cases h0 : i.op = 0
  · rw [if_pos h0, if_pos h0, mulL_len]
  · rw [if_neg h0, if_neg h0]
    by_cases h1 : i.op = 1
    · rw [if_pos h1, if_pos h1, divL_len _ _ _ _ hp]
    · rw [if_neg h1, if_neg h1]; rfl
/-- The length of the code that the first instructions become. -/
def sizeL : List InstS → Nat
  | [] => 0
  | i :: l => lenI i + sizeL l
theorem sizeL_append (a b : List InstS) : sizeL (a ++ b) = sizeL a + sizeL b := by
  induction a with
  | nil => simp [sizeL]
  | cons x l ih => simp [sizeL, ih, Nat.add_assoc]
/-- The points of a code, when its first one is s. -/
def ptsL : Nat → List InstS → List Int
  | _, [] => []
  | s, i :: l => (s : Int) :: ptsL (s + lenI i) l
theorem ptsL_len (l : List InstS) : ∀ s, (ptsL s l).length = l.length := by
  induction l with
  | nil => intro s; rfl
  | cons x l ih => intro s; simp [ptsL, ih]
theorem ptsL_append (a b : List InstS) : ∀ s, ptsL s (a ++ b) = ptsL s a ++ ptsL (s + sizeL a) b := by
  induction a with
  | nil => intro s; simp [ptsL, sizeL]
  | cons x l ih => intro s; simp [ptsL, sizeL, ih, Nat.add_assoc]
/-- The code that the writer holds after the instructions, from what it held before. -/
def codeL (pts : List Int) : List InstS → List InstS → List InstS
  | acc, [] => acc
  | acc, i :: l => codeL pts (acc ++ wrI pts acc.length i) l
theorem codeL_append (pts : List Int) (a b : List InstS) : ∀ acc, codeL pts acc (a ++ b) = codeL pts (codeL pts acc a) b := by
  induction a with
  | nil => intro acc; rfl
  | cons x l ih => intro acc; simp [codeL, ih]
theorem codeL_len (pts : List Int) (l : List InstS) : ∀ acc, (codeL pts acc l).length = acc.length + sizeL l := by
  induction l with
  | nil => intro acc; simp [codeL, sizeL]
  | cons x l ih => intro acc; simp [codeL, sizeL, ih, wrI_len, Nat.add_assoc]
theorem sizeL_take_le (l : List InstS) (k : Nat) : sizeL (l.take k) ≤ sizeL l := by
  have h := sizeL_append (l.take k) (l.drop k)
  rw [List.take_append_drop] at h
  omega
theorem primeN_le17 (n : Nat) : primeN n ≤ 13 := by
  unfold primeN
  match n with
  | 0 | 1 | 2 | 3 | 4 | 5 => decide
  | _ + 6 => simp
theorem lenI_le (i : InstS) : 1 ≤ lenI i ∧ lenI i ≤ 43 := by
  have := primeN_le17 i.reg.toNat
  unfold lenI
  split
  · omega
  · split <;> omega
theorem sizeL_le (l : List InstS) : sizeL l ≤ 43 * l.length := by
  induction l with
  | nil => simp [sizeL]
  | cons x l ih => have := lenI_le x; simp [sizeL]; omega
end Go.Proofs.Ytonammaecpapmaa.Pp

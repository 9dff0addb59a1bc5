/- The machine with two registers, plainly. -/
import Derived.Test.YtonammaecpapmaaBa
import Derived.Test.YtonammaecpapmaaCs
namespace Go.Proofs.Ytonammaecpapmaa.Pp
open Cn

def insOf (i : InstS) : Ins := ⟨i.op, i.reg, i.next, i.zero⟩
def qC (l : List InstS) : List Ins := l.map insOf
/-- From a, x, y the machine comes to a', x', y' in k steps, with no end between. -/
def Go2 (c : List Ins) (fin : Nat → Bool) (k a x y a' x' y' : Nat) : Prop := ∀ n d, bump d (walkC c fin (k + n) a [(x : Int), (y : Int)]) = bump (d + k) (walkC c fin n a' [(x' : Int), (y' : Int)])
/-- The same, and it ends there. -/
def Fin2 (c : List Ins) (fin : Nat → Bool) (k a x y a' x' y' : Nat) : Prop := ∀ n d, bump d (walkC c fin (k + n) a [(x : Int), (y : Int)]) = some ⟨a', [(x' : Int), (y' : Int)], d + k, true⟩
section
variable {c : List Ins} {fin : Nat → Bool}
theorem Go2.refl {a x y : Nat} : Go2 c fin 0 a x y a x y := fun n d => by rw [Nat.zero_add, Nat.add_zero]
theorem Go2.trans {k l a x y a1 x1 y1 a2 x2 y2 : Nat} (h : Go2 c fin k a x y a1 x1 y1) (g : Go2 c fin l a1 x1 y1 a2 x2 y2) : Go2 c fin (k + l) a x y a2 x2 y2 := fun n d => by
  rw [Nat.add_assoc, h, g, Nat.add_assoc]
theorem Go2.ends {k l a x y a1 x1 y1 a2 x2 y2 : Nat} (h : Go2 c fin k a x y a1 x1 y1) (g : Fin2 c fin l a1 x1 y1 a2 x2 y2) : Fin2 c fin (k + l) a x y a2 x2 y2 := fun n d => by
  rw [Nat.add_assoc, h, g, Nat.add_assoc]
theorem step2 {a x y a' x' y' : Nat} (h : stp c a [(x : Int), (y : Int)] = some (some (a', [(x' : Int), (y' : Int)]))) (hf : fin a' = false) : Go2 c fin 1 a x y a' x' y' := fun n d => by
  rw [Nat.add_comm 1 n, walk_on h hf]
theorem stepF {a x y a' x' y' : Nat} (h : stp c a [(x : Int), (y : Int)] = some (some (a', [(x' : Int), (y' : Int)]))) (hf : fin a' = true) : Fin2 c fin 1 a x y a' x' y' := fun n d => by
  rw [Nat.add_comm 1 n, walk_met h hf]
theorem stp_inc0 {a x y nx : Nat} {zr : Int} (h : c[a]? = some ⟨0, 0, (nx : Int), zr⟩) (hx : x < 1152921504606846976) : stp c a [(x : Int), (y : Int)] = some (some (nx, [((x + 1 : Nat) : Int), (y : Int)])) := by
  have e : ¬ (x : Int) = 1152921504606846976 := by omega
  simp [stp, h, e]
theorem stp_inc1 {a x y nx : Nat} {zr : Int} (h : c[a]? = some ⟨0, 1, (nx : Int), zr⟩) (hx : y < 1152921504606846976) : stp c a [(x : Int), (y : Int)] = some (some (nx, [(x : Int), ((y + 1 : Nat) : Int)])) := by
  have e : ¬ (y : Int) = 1152921504606846976 := by omega
  simp [stp, h, e]
theorem stp_dec0 {a x y nx : Nat} {zr : Int} (h : c[a]? = some ⟨1, 0, (nx : Int), zr⟩) : stp c a [((x + 1 : Nat) : Int), (y : Int)] = some (some (nx, [(x : Int), (y : Int)])) := by
  have e : ¬ ((x + 1 : Nat) : Int) = 0 := by omega
  have e2 : ((x + 1 : Nat) : Int) - 1 = x := by omega
  simp only [stp, h]
  rw [if_neg (by decide), if_neg (by decide)]
  simp only [Int.toNat_zero, List.getD_cons_zero, List.set_cons_zero, Int.toNat_natCast]
  rw [if_neg e, e2]
theorem stp_dec0z {a y zr : Nat} {nx : Int} (h : c[a]? = some ⟨1, 0, nx, (zr : Int)⟩) : stp c a [((0 : Nat) : Int), (y : Int)] = some (some (zr, [((0 : Nat) : Int), (y : Int)])) := by
  simp [stp, h]
theorem stp_dec1 {a x y nx : Nat} {zr : Int} (h : c[a]? = some ⟨1, 1, (nx : Int), zr⟩) : stp c a [(x : Int), ((y + 1 : Nat) : Int)] = some (some (nx, [(x : Int), (y : Int)])) := by
  have e : ¬ ((y + 1 : Nat) : Int) = 0 := by omega
  have e2 : ((y + 1 : Nat) : Int) - 1 = y := by omega
  simp only [stp, h]
  rw [if_neg (by decide), if_neg (by decide)]
  have e3 : (1 : Int).toNat = 1 := rfl
  simp only [e3, List.getD_cons_succ, List.getD_cons_zero, List.set_cons_succ, List.set_cons_zero, Int.toNat_natCast]
  rw [if_neg e, e2]
theorem stp_dec1z {a x zr : Nat} {nx : Int} (h : c[a]? = some ⟨1, 1, nx, (zr : Int)⟩) : stp c a [(x : Int), ((0 : Nat) : Int)] = some (some (zr, [(x : Int), ((0 : Nat) : Int)])) := by
  simp [stp, h]

/-- A piece of code stands at s. -/
def CAt (c : List Ins) (s : Nat) (l : List InstS) : Prop := ∀ j i, l[j]? = some i → c[s + j]? = some (insOf i)
theorem CAt.left {s : Nat} {l m : List InstS} (h : CAt c s (l ++ m)) : CAt c s l := fun j i hi => h j i (by
  rw [List.getElem?_append_left (List.getElem?_eq_some_iff.1 hi).1]; exact hi)
theorem CAt.right {s : Nat} {l m : List InstS} (h : CAt c s (l ++ m)) : CAt c (s + l.length) m := fun j i hi => by
  have := h (l.length + j) i (by rw [List.getElem?_append_right (by omega)]; simpa using hi)
  rw [Nat.add_assoc]; exact this
theorem CAt.head {s : Nat} {i : InstS} {l : List InstS} (h : CAt c s (i :: l)) : c[s]? = some (insOf i) := h 0 i rfl
theorem CAt.tail {s : Nat} {i : InstS} {l : List InstS} (h : CAt c s (i :: l)) : CAt c (s + 1) l := fun j k hk => by
  have := h (j + 1) k (by simpa using hk)
  rw [show s + 1 + j = s + (j + 1) by omega]; exact this

/-- q Incs, one after the other. -/
theorem add0 {nx : Nat} : ∀ (q s x y : Nat), 1 ≤ q → CAt c s (addL s 0 (nx : Int) q) → (∀ p, s < p → p < s + q → fin p = false) → fin nx = false → x + q ≤ 1152921504606846976 → Go2 c fin q s x y nx (x + q) y := by
  intro q
  induction q with
  | zero => intro s x y h; omega
  | succ q ih =>
    intro s x y _ hC hf hn hx
    rw [addL] at hC
    cases q with
    | zero => exact step2 (stp_inc0 (by simpa [insOf] using hC.head) (by omega)) hn
    | succ q =>
      have h1 : Go2 c fin 1 s x y (s + 1) (x + 1) y := step2 (stp_inc0 (nx := s + 1) (by simpa [insOf] using hC.head) (by omega)) (hf _ (by omega) (by omega))
      have h2 := ih (s + 1) (x + 1) y (by omega) hC.tail (fun p h1 h2 => hf p (by omega) (by omega)) hn (by omega)
      have h3 := h1.trans h2
      rw [show 1 + (q + 1) = q + 1 + 1 by omega, show x + 1 + (q + 1) = x + (q + 1 + 1) by omega] at h3
      exact h3
theorem add1 {nx : Nat} : ∀ (q s x y : Nat), 1 ≤ q → CAt c s (addL s 1 (nx : Int) q) → (∀ p, s < p → p < s + q → fin p = false) → fin nx = false → y + q ≤ 1152921504606846976 → Go2 c fin q s x y nx x (y + q) := by
  intro q
  induction q with
  | zero => intro s x y h; omega
  | succ q ih =>
    intro s x y _ hC hf hn hx
    rw [addL] at hC
    cases q with
    | zero => exact step2 (stp_inc1 (by simpa [insOf] using hC.head) (by omega)) hn
    | succ q =>
      have h1 : Go2 c fin 1 s x y (s + 1) x (y + 1) := step2 (stp_inc1 (nx := s + 1) (by simpa [insOf] using hC.head) (by omega)) (hf _ (by omega) (by omega))
      have h2 := ih (s + 1) x (y + 1) (by omega) hC.tail (fun p h1 h2 => hf p (by omega) (by omega)) hn (by omega)
      have h3 := h1.trans h2
      rw [show 1 + (q + 1) = q + 1 + 1 by omega, show y + 1 + (q + 1) = y + (q + 1 + 1) by omega] at h3
      exact h3
/-- The last r of the Incs. -/
theorem addL_drop (reg : Int) (nx : Int) : ∀ (j q s : Nat), addL (s + j) reg nx q = (addL s reg nx (j + q)).drop j := by
  intro j
  induction j with
  | zero => intro q s; simp
  | succ j ih =>
    intro q s
    rw [show j + 1 + q = (j + q) + 1 by omega, addL, List.drop_succ_cons, show s + (j + 1) = s + 1 + j by omega]
    exact ih q (s + 1)
theorem CAt.drop {s j : Nat} {l : List InstS} (h : CAt c s l) : CAt c (s + j) (l.drop j) := fun k i hi => by
  rw [List.getElem?_drop] at hi
  rw [Nat.add_assoc]; exact h _ _ hi
/-- The loop that moves back. -/
theorem moveBack2 {q s nx : Nat} (hq : 1 ≤ q) (hC : CAt c s (mbL s q (nx : Int))) (hf : ∀ p, s < p → p < s + 1 + q → fin p = false) (hs : fin s = false) (hn : fin nx = true) : ∀ (y x : Nat), x + q * y ≤ 1152921504606846976 → Fin2 c fin ((q + 1) * y + 1) s x y nx (x + q * y) 0 := by
  rw [mbL] at hC
  intro y
  induction y with
  | zero => intro x _; exact stepF (stp_dec1z (by simpa [insOf] using hC.head)) hn
  | succ y ih =>
    intro x hx
    rw [Nat.mul_succ] at hx
    have h1 : Go2 c fin 1 s x (y + 1) (s + 1) x y := step2 (stp_dec1 (by simpa [insOf] using hC.head)) (hf _ (by omega) (by omega))
    have h2 := add0 (fin := fin) q (s + 1) x y hq hC.tail (fun p h1 h2 => hf p (by omega) (by omega)) hs (by omega)
    have h3 := (h1.trans h2).ends (ih (x + q) (by omega))
    rw [show 1 + q + ((q + 1) * y + 1) = (q + 1) * (y + 1) + 1 by rw [Nat.mul_succ]; omega, show x + q + q * y = x + q * (y + 1) by rw [Nat.mul_succ]; omega] at h3
    exact h3
/-- Multiplication: from n to q n. -/
theorem multiply2 {q s nx : Nat} (hq : 1 ≤ q) (hC : CAt c s (mulL s q (nx : Int))) (hf : ∀ p, s < p → p < s + (q + 4) → fin p = false) (hn : fin nx = true) (n : Nat) (hn1 : 1 ≤ n) (hb : q * n ≤ 1152921504606846976) : Fin2 c fin (3 * (q * n) + n + 2) s n 0 nx (q * n) 0 := by
  rw [mulL] at hC
  have hA := hC.left.left.left
  have hB := hC.left.left.right
  have hD := hC.left.right
  have hM := hC.right
  simp only [List.length_append, List.length_cons, List.length_nil, addL_len] at hB hD hM
  rw [show s + (0 + 1) = s + 1 by omega] at hB
  rw [show s + (0 + 1 + q) = s + 1 + q by omega] at hD
  rw [show s + (0 + 1 + q + (0 + 1)) = s + 1 + q + 1 by omega] at hM
  have hf2 : ∀ p, s < p → p < s + 1 + q + 1 + 2 → fin p = false := fun p h1 h2 => hf p h1 (by omega)
  have loop : ∀ x y, y + q * (x + 1) ≤ 1152921504606846976 → Go2 c fin ((q + 1) * (x + 1)) (s + 1) x y (s + 1 + q + 1) 0 (y + q * (x + 1)) := by
    intro x
    induction x with
    | zero =>
      intro y hy
      rw [Nat.zero_add, Nat.mul_one] at hy
      have h1 := add1 (fin := fin) q (s + 1) 0 y hq hB (fun p h1 h2 => hf2 p (by omega) (by omega)) (hf2 _ (by omega) (by omega)) hy
      have h2 : Go2 c fin 1 (s + 1 + q) 0 (y + q) (s + 1 + q + 1) 0 (y + q) := step2 (stp_dec0z (by simpa [insOf] using hD.head)) (hf2 _ (by omega) (by omega))
      have h3 := h1.trans h2
      rw [Nat.zero_add, Nat.mul_one, Nat.mul_one]
      exact h3
    | succ x ih =>
      intro y hy
      rw [Nat.mul_succ] at hy
      have h1 := add1 (fin := fin) q (s + 1) (x + 1) y hq hB (fun p h1 h2 => hf2 p (by omega) (by omega)) (hf2 _ (by omega) (by omega)) (by omega)
      have h2 : Go2 c fin 1 (s + 1 + q) (x + 1) (y + q) (s + 1) x (y + q) := step2 (stp_dec0 (by simpa [insOf] using hD.head)) (hf2 _ (by omega) (by omega))
      have h3 := (h1.trans h2).trans (ih (y + q) (by omega))
      rw [show q + 1 + (q + 1) * (x + 1) = (q + 1) * (x + 1 + 1) by rw [Nat.mul_succ (q + 1) (x + 1)]; omega, show y + q + q * (x + 1) = y + q * (x + 1 + 1) by rw [Nat.mul_succ q (x + 1)]; omega] at h3
      exact h3
  obtain ⟨m, rfl⟩ : ∃ m, n = m + 1 := ⟨n - 1, by omega⟩
  have h1 : Go2 c fin 1 s (m + 1) 0 (s + 1) m 0 := step2 (stp_dec0 (by simpa [insOf] using hA.head)) (hf2 _ (by omega) (by omega))
  have h2 := h1.trans (loop m 0 (by omega))
  rw [Nat.zero_add] at h2
  have h3 := h2.ends (moveBack2 (Nat.le_refl 1) hM (fun p h1 h2 => hf2 p (by omega) (by omega)) (hf2 _ (by omega) (by omega)) hn (q * (m + 1)) 0 (by omega))
  rw [show 1 + (q + 1) * (m + 1) + ((1 + 1) * (q * (m + 1)) + 1) = 3 * (q * (m + 1)) + (m + 1) + 2 by rw [Nat.add_mul q 1]; omega, show 0 + 1 * (q * (m + 1)) = q * (m + 1) by omega] at h3
  exact h3
theorem dkL_get (len q : Nat) : ∀ (n k j : Nat), j < n → (dkL len q k n)[j]? = some ⟨1, 0, ((len + 1 + (k + j) + 1 : Nat) : Int), ((len + q + 4 : Nat) : Int) + q - 1 - (k + j : Nat)⟩ := by
  intro n
  induction n with
  | zero => intro k j h; omega
  | succ n ih =>
    intro k j h
    rw [dkL]
    cases j with
    | zero => simp
    | succ j =>
      rw [List.getElem?_cons_succ, ih (k + 1) j (by omega), show k + 1 + j = k + (j + 1) by omega]
/-- Division. -/
theorem divide2 {q s nx zr : Nat} (hq : 2 ≤ q) (hC : CAt c s (divL s q (nx : Int) (zr : Int))) (hf : ∀ p, s < p → p < s + (3 * q + 4) → fin p = false) (hn : fin nx = true) (hz : fin zr = true) (n : Nat) (hn1 : 1 ≤ n) (hb : n ≤ 1152921504606846976) :
    (n % q = 0 → ∃ k, 1 ≤ k ∧ k ≤ 6 * n + 21 ∧ Fin2 c fin k s n 0 nx (n / q) 0) ∧ (n % q ≠ 0 → ∃ k, 1 ≤ k ∧ k ≤ 6 * n + 21 ∧ Fin2 c fin k s n 0 zr n 0) := by
  rw [divL] at hC
  have hA := hC.left.left.left.left.left
  have hK := hC.left.left.left.left.right
  have hI := hC.left.left.left.right
  have hW := hC.left.left.right
  have hR := hC.left.right
  have hM := hC.right
  simp only [List.length_append, List.length_cons, List.length_nil, addL_len, mbL_len, dkL_len] at hK hI hW hR hM
  rw [show s + (0 + 1 + 1) = s + 2 by omega] at hK
  rw [show s + (0 + 1 + 1 + (q - 1)) = s + q + 1 by omega] at hI
  rw [show s + (0 + 1 + 1 + (q - 1) + 1) = s + q + 2 by omega] at hW
  rw [show s + (0 + 1 + 1 + (q - 1) + 1 + (1 + 1)) = s + q + 4 by omega] at hR
  rw [show s + (0 + 1 + 1 + (q - 1) + 1 + (1 + 1) + (q - 1)) = s + q + 4 + (q - 1) by omega] at hM
  have hL : c[s + 1]? = some ⟨1, 0, ((s + 2 : Nat) : Int), ((s + q + 2 : Nat) : Int)⟩ := by simpa [insOf] using hA.tail.head
  have hk : ∀ k, 1 ≤ k → k < q → c[s + 1 + k]? = some ⟨1, 0, ((s + 1 + k + 1 : Nat) : Int), ((s + q + 4 + (q - 1 - k) : Nat) : Int)⟩ := by
    intro k h1 h2
    have := hK (k - 1) _ (dkL_get s q (q - 1) 1 (k - 1) (by omega))
    rw [show s + 2 + (k - 1) = s + 1 + k by omega] at this
    rw [this, insOf]
    congr 2
    · simp only; omega
    · simp only; omega
  have whole : ∀ y, y ≤ 1152921504606846976 → Fin2 c fin (2 * y + 1) (s + q + 2) 0 y nx y 0 := by
    intro y hy
    have := moveBack2 (c := c) (fin := fin) (Nat.le_refl 1) hW (fun p h1 h2 => hf p (by omega) (by omega)) (hf _ (by omega) (by omega)) hn y 0 (by omega)
    rw [show (1 + 1) * y + 1 = 2 * y + 1 by omega, show 0 + 1 * y = y by omega] at this
    exact this
  have rest : ∀ r y, 1 ≤ r → r < q → r + q * y ≤ 1152921504606846976 → Fin2 c fin (r + ((q + 1) * y + 1)) (s + q + 4 + (q - 1 - r)) 0 y zr (r + q * y) 0 := by
    intro r y h1 h2 hy
    have hd := hR.drop (j := q - 1 - r)
    have ea := addL_drop 0 ((s + q + 4 + (q - 1) : Nat) : Int) (q - 1 - r) r (s + q + 4)
    rw [show q - 1 - r + r = q - 1 by omega] at ea
    rw [← ea] at hd
    have g1 := add0 (fin := fin) r _ 0 y h1 hd (fun p h1 h2 => hf p (by omega) (by omega)) (hf _ (by omega) (by omega)) (by have := Nat.zero_le (q * y); omega)
    rw [Nat.zero_add] at g1
    exact g1.ends (moveBack2 (c := c) (fin := fin) (by omega) hM (fun p h1 h2 => hf p (by omega) (by omega)) (hf _ (by omega) (by omega)) hz y r hy)
  have group : ∀ j k x y, k + j = q → 1 ≤ k → Go2 c fin j (s + 1 + k) (x + j) y (s + q + 1) x y := by
    intro j
    induction j with
    | zero => intro k x y h _; rw [show s + q + 1 = s + 1 + k by omega]; exact Go2.refl
    | succ j ih =>
      intro k x y h h1
      have g1 : Go2 c fin 1 (s + 1 + k) (x + j + 1) y (s + 1 + k + 1) (x + j) y := step2 (stp_dec0 (hk k h1 (by omega))) (hf _ (by omega) (by omega))
      have g2 := g1.trans (ih (k + 1) x y (by omega) (by omega))
      rw [show 1 + j = j + 1 by omega] at g2
      exact g2
  have short : ∀ x k y, 1 ≤ k → k + x < q → Go2 c fin (x + 1) (s + 1 + k) x y (s + q + 4 + (q - 1 - (k + x))) 0 y := by
    intro x
    induction x with
    | zero =>
      intro k y h1 h2
      exact step2 (stp_dec0z (hk k h1 (by omega))) (hf _ (by omega) (by omega))
    | succ x ih =>
      intro k y h1 h2
      have g1 : Go2 c fin 1 (s + 1 + k) (x + 1) y (s + 1 + k + 1) x y := step2 (stp_dec0 (hk k h1 (by omega))) (hf _ (by omega) (by omega))
      have g2 := g1.trans (ih (k + 1) y (by omega) (by omega))
      rw [show 1 + (x + 1) = x + 1 + 1 by omega, show k + 1 + x = k + (x + 1) by omega] at g2
      exact g2
  have main : ∀ f N y, N ≤ f → 1 ≤ N → N + q * y ≤ 1152921504606846976 →
      (N % q = 0 → ∃ k, 1 ≤ k ∧ k ≤ 6 * N + 2 * (q * y) + 2 * y + 20 ∧ Fin2 c fin k (s + 2) (N - 1) y nx (N / q + y) 0) ∧ (N % q ≠ 0 → ∃ k, 1 ≤ k ∧ k ≤ 6 * N + 2 * (q * y) + 2 * y + 20 ∧ Fin2 c fin k (s + 2) (N - 1) y zr (N + q * y) 0) := by
    intro f
    induction f with
    | zero => intro N y h1 h2; omega
    | succ f ih =>
      intro N y hN h1 hy
      have hqy : y ≤ q * y := Nat.le_mul_of_pos_left y (by omega)
      rcases Nat.lt_or_ge N q with hlt | hge
      · have hm : N % q = N := Nat.mod_eq_of_lt hlt
        refine ⟨fun h => by omega, fun _ => ?_⟩
        have g1 := short (N - 1) 1 y (Nat.le_refl _) (by omega)
        rw [show 1 + (N - 1) = N by omega, show N - 1 + 1 = N by omega] at g1
        have g2 := g1.ends (rest N y h1 hlt hy)
        exact ⟨_, by omega, by rw [Nat.add_mul q 1]; omega, g2⟩
      · obtain ⟨M, rfl⟩ : ∃ M, N = M + q := ⟨N - q, by omega⟩
        rw [Nat.add_mod_right, Nat.add_div_right _ (by omega)]
        have e1 : q * (y + 1) = q * y + q := Nat.mul_succ q y
        have g1 := group (q - 1) 1 M y (by omega) (Nat.le_refl _)
        rw [show M + (q - 1) = M + q - 1 by omega] at g1
        have g2 := add1 (c := c) (fin := fin) (nx := s + 1) 1 (s + q + 1) M y (Nat.le_refl _) hI (fun p h1 h2 => by omega) (hf _ (by omega) (by omega)) (by omega)
        have g3 := g1.trans g2
        rcases Nat.eq_zero_or_pos M with rfl | hM0
        · refine ⟨fun _ => ?_, fun h => absurd (Nat.zero_mod q) h⟩
          have g4 : Go2 c fin 1 (s + 1) 0 (y + 1) (s + q + 2) 0 (y + 1) := step2 (stp_dec0z hL) (hf _ (by omega) (by omega))
          have g5 := (g3.trans g4).ends (whole (y + 1) (by omega))
          rw [Nat.zero_div, show Nat.succ 0 + y = y + 1 by omega]
          exact ⟨_, by omega, by omega, g5⟩
        · obtain ⟨x, rfl⟩ : ∃ x, M = x + 1 := ⟨M - 1, by omega⟩
          have g4 : Go2 c fin 1 (s + 1) (x + 1) (y + 1) (s + 2) x (y + 1) := step2 (stp_dec0 hL) (hf _ (by omega) (by omega))
          have g5 := g3.trans g4
          obtain ⟨i1, i2⟩ := ih (x + 1) (y + 1) (by omega) (by omega) (by omega)
          rw [show x + 1 - 1 = x by omega] at i1 i2
          refine ⟨fun h => ?_, fun h => ?_⟩
          · obtain ⟨k, k1, k2, k3⟩ := i1 h
            have g6 := g5.ends k3
            rw [show (x + 1) / q + (y + 1) = ((x + 1) / q).succ + y by omega] at g6
            exact ⟨_, by omega, by omega, g6⟩
          · obtain ⟨k, k1, k2, k3⟩ := i2 h
            have g6 := g5.ends k3
            rw [show x + 1 + q * (y + 1) = x + 1 + q + q * y by omega] at g6
            exact ⟨_, by omega, by omega, g6⟩
  obtain ⟨m, rfl⟩ : ∃ m, n = m + 1 := ⟨n - 1, by omega⟩
  have g0 : Go2 c fin 1 s (m + 1) 0 (s + 2) m 0 := step2 (stp_dec0 (by simpa [insOf] using hA.head)) (hf _ (by omega) (by omega))
  obtain ⟨i1, i2⟩ := main (m + 1) (m + 1) 0 (Nat.le_refl _) (by omega) (by omega)
  rw [show m + 1 - 1 = m by omega, Nat.mul_zero, Nat.add_zero] at i1 i2
  refine ⟨fun h => ?_, fun h => ?_⟩
  · obtain ⟨k, k1, k2, k3⟩ := i1 h
    exact ⟨_, by omega, by omega, g0.ends k3⟩
  · obtain ⟨k, k1, k2, k3⟩ := i2 h
    exact ⟨_, by omega, by omega, g0.ends k3⟩
end
end Go.Proofs.Ytonammaecpapmaa.Pp

/- Plain mathematics of layer 8: numbers that encode contents. -/
import Derived.Test.YtonammaecpapmaaRows
namespace Go.Proofs.Ytonammaecpapmaa.Pp

def primeN (i : Nat) : Nat := [2, 3, 5, 7, 11, 13].getD i 1
def mulS (p : Nat) : Nat → Nat → Option Nat
  | 0, n => some n
  | x + 1, n => if 1152921504606846976 / p < n then none else mulS p x (n * p)
def encS : Nat → List Nat → Nat → Option Nat
  | _, [], n => some n
  | i, x :: l, n => (mulS (primeN i) x n).bind fun m => encS (i + 1) l m
def divF (p : Nat) : Nat → Nat → Nat × Nat
  | 0, n => (0, n)
  | f + 1, n => if n % p = 0 then ((divF p f (n / p)).1 + 1, (divF p f (n / p)).2) else (0, n)
/-- How often a number can be divided, and what is left. -/
def divS (p n : Nat) : Nat × Nat := divF p n n
def decS : Nat → Nat → Nat → List Nat × Nat
  | _, 0, n => ([], n)
  | i, k + 1, n => ((divS (primeN i) n).1 :: (decS (i + 1) k (divS (primeN i) n).2).1, (decS (i + 1) k (divS (primeN i) n).2).2)
theorem primeN_cases {i : Nat} (h : i < 6) : primeN i = 2 ∨ primeN i = 3 ∨ primeN i = 5 ∨ primeN i = 7 ∨ primeN i = 11 ∨ primeN i = 13 := by
  match i, h with
  | 0, _ => exact .inl rfl
  | 1, _ => exact .inr (.inl rfl)
  | 2, _ => exact .inr (.inr (.inl rfl))
  | 3, _ => exact .inr (.inr (.inr (.inl rfl)))
  | 4, _ => exact .inr (.inr (.inr (.inr (.inl rfl))))
  | 5, _ => exact .inr (.inr (.inr (.inr (.inr rfl))))
theorem primeN_le {i : Nat} (h : i < 6) : 2 ≤ primeN i ∧ primeN i ≤ 13 := by
  rcases primeN_cases h with e | e | e | e | e | e <;> omega
theorem mod_mul {p : Nat} (hp : p = 2 ∨ p = 3 ∨ p = 5 ∨ p = 7 ∨ p = 11 ∨ p = 13) {a b : Nat} (ha : a % p ≠ 0) (hb : b % p ≠ 0) : (a * b) % p ≠ 0 := by
  have key : ∀ p : Nat, 0 < p → (∀ x y : Fin p, x.1 ≠ 0 → y.1 ≠ 0 → (x.1 * y.1) % p ≠ 0) → ∀ a b : Nat, a % p ≠ 0 → b % p ≠ 0 → (a * b) % p ≠ 0 := fun p h0 h a b ha hb => by
    rw [Nat.mul_mod]
    exact h ⟨a % p, Nat.mod_lt _ h0⟩ ⟨b % p, Nat.mod_lt _ h0⟩ ha hb
  rcases hp with rfl | rfl | rfl | rfl | rfl | rfl
  · exact key 2 (by decide) (by decide) a b ha hb
  · exact key 3 (by decide) (by decide) a b ha hb
  · exact key 5 (by decide) (by decide) a b ha hb
  · exact key 7 (by decide) (by decide) a b ha hb
  · exact key 11 (by decide) (by decide) a b ha hb
  · exact key 13 (by decide) (by decide) a b ha hb
theorem divF_more (p : Nat) (hp : 2 ≤ p) : ∀ (f n : Nat), 1 ≤ n → n ≤ f → divF p f n = divF p n n := by
  intro f
  induction f with
  | zero => intro n h1 h2; omega
  | succ f ih =>
    intro n h1 h2
    obtain ⟨k, rfl⟩ : ∃ k, n = k + 1 := ⟨n - 1, by omega⟩
    rw [divF, divF]
    by_cases h : (k + 1) % p = 0
    · rw [if_pos h, if_pos h]
      have hq : 1 ≤ (k + 1) / p := by
        have := Nat.div_add_mod (k + 1) p
        rcases Nat.eq_zero_or_pos ((k + 1) / p) with e | e
        · rw [e, h] at this; omega
        · exact e
      have hl : (k + 1) / p < k + 1 := Nat.div_lt_self (by omega) (by omega)
      have e1 := ih ((k + 1) / p) hq (by omega)
      have e2 : divF p k ((k + 1) / p) = divF p ((k + 1) / p) ((k + 1) / p) := by
        have : ∀ f', (k + 1) / p ≤ f' → f' ≤ f → divF p f' ((k + 1) / p) = divF p ((k + 1) / p) ((k + 1) / p) := fun f' g1 g2 => by
          clear e1
          induction f' with
          | zero => omega
          | succ f' ih' =>
            rcases Nat.lt_or_ge f' ((k + 1) / p) with g | g
            · have : f' + 1 = (k + 1) / p := by omega
              rw [this]
            · have hm : ∀ f n, 1 ≤ n → n ≤ f → divF p (f + 1) n = divF p f n := by
                intro f
                induction f with
                | zero => intro n a b; omega
                | succ f ihf =>
                  intro n a b
                  rw [divF]
                  conv => rhs; rw [divF]
                  by_cases hn : n % p = 0
                  · rw [if_pos hn, if_pos hn]
                    have hq : 1 ≤ n / p := by
                      have := Nat.div_add_mod n p
                      rcases Nat.eq_zero_or_pos (n / p) with e | e
                      · rw [e, hn] at this; omega
                      · exact e
                    have hl : n / p < n := Nat.div_lt_self (by omega) (by omega)
                    rw [ihf (n / p) hq (by omega)]
                  · rw [if_neg hn, if_neg hn]
              rw [hm f' _ hq g, ih' g (by omega)]
        exact this k (by omega) (by omega)
      rw [e1, e2]
    · rw [if_neg h, if_neg h]
/-- One division. -/
theorem divS_step {p n : Nat} (hp : 2 ≤ p) (hn : 1 ≤ n) (h : n % p = 0) : divS p n = ((divS p (n / p)).1 + 1, (divS p (n / p)).2) ∧ 1 ≤ n / p ∧ n / p < n := by
  have hq : 1 ≤ n / p := by
    have := Nat.div_add_mod n p
    rcases Nat.eq_zero_or_pos (n / p) with e | e
    · rw [e, h] at this; omega
    · exact e
  have hl : n / p < n := Nat.div_lt_self (by omega) (by omega)
  refine ⟨?_, hq, hl⟩
  obtain ⟨k, rfl⟩ : ∃ k, n = k + 1 := ⟨n - 1, by omega⟩
  rw [divS, divF, if_pos h, divF_more p hp k ((k + 1) / p) hq (by omega)]
  rfl
theorem divS_end {p n : Nat} (h : ¬ n % p = 0) : divS p n = (0, n) := by
  rw [divS]
  cases n with
  | zero => rfl
  | succ k => rw [divF, if_neg h]
theorem divS_pow {p : Nat} (hp : 2 ≤ p) {m : Nat} (hm : ¬ m % p = 0) : ∀ x, divS p (p ^ x * m) = (x, m)
  | 0 => by rw [Nat.pow_zero, Nat.one_mul, divS_end hm]
  | x + 1 => by
    have hm1 : 1 ≤ m := by rcases Nat.eq_zero_or_pos m with e | e; (subst e; simp at hm); exact e
    have hpos : 1 ≤ p ^ x * m := Nat.mul_pos (Nat.pow_pos (by omega)) hm1
    have e : p ^ (x + 1) * m = p * (p ^ x * m) := by rw [Nat.pow_succ, Nat.mul_comm (p ^ x) p, Nat.mul_assoc]
    have h := (divS_step (p := p) (n := p ^ (x + 1) * m) hp (by rw [e]; exact Nat.mul_pos (by omega) hpos) (by rw [e]; exact Nat.mul_mod_right _ _)).1
    rw [h, e, Nat.mul_div_cancel_left _ (by omega : 0 < p), divS_pow hp hm x]
def prodS : Nat → List Nat → Nat
  | _, [] => 1
  | i, x :: l => primeN i ^ x * prodS (i + 1) l
theorem pow_no {p q : Nat} (hp : p = 2 ∨ p = 3 ∨ p = 5 ∨ p = 7 ∨ p = 11 ∨ p = 13) (hq : q % p ≠ 0) : ∀ x, (q ^ x) % p ≠ 0
  | 0 => by rw [Nat.pow_zero, Nat.mod_eq_of_lt (by omega)]; decide
  | x + 1 => by rw [Nat.pow_succ]; exact mod_mul hp (pow_no hp hq x) hq
theorem prime_no {i j : Nat} (hij : i < j) (hj : j < 6) : primeN j % primeN i ≠ 0 := by
  match j, hj, i, hij with
  | 1, _, 0, _ => decide
  | 2, _, 0, _ => decide
  | 2, _, 1, _ => decide
  | 3, _, 0, _ => decide
  | 3, _, 1, _ => decide
  | 3, _, 2, _ => decide
  | 4, _, 0, _ => decide
  | 4, _, 1, _ => decide
  | 4, _, 2, _ => decide
  | 4, _, 3, _ => decide
  | 5, _, 0, _ => decide
  | 5, _, 1, _ => decide
  | 5, _, 2, _ => decide
  | 5, _, 3, _ => decide
  | 5, _, 4, _ => decide
theorem prod_no {i : Nat} (hi : i < 6) : ∀ (l : List Nat) (j : Nat), i < j → j + l.length ≤ 6 → (prodS j l) % primeN i ≠ 0
  | [], j, _, _ => by
    have := primeN_le hi
    rw [prodS, Nat.mod_eq_of_lt (by omega)]
    decide
  | x :: l, j, hj, hl => by
    simp only [List.length_cons] at hl
    rw [prodS]
    exact mod_mul (primeN_cases hi) (pow_no (primeN_cases hi) (prime_no hj (by omega)) x) (prod_no hi l (j + 1) (by omega) (by omega))
theorem dec_prod : ∀ (l : List Nat) (i : Nat), i + l.length ≤ 6 → decS i l.length (prodS i l) = (l, 1)
  | [], _, _ => rfl
  | x :: l, i, h => by
    simp only [List.length_cons] at h ⊢
    have hi : i < 6 := by omega
    rw [decS, prodS, divS_pow (primeN_le hi).1 (prod_no hi l (i + 1) (by omega) (by omega)) x]
    simp only
    rw [dec_prod l (i + 1) (by omega)]
theorem mulS_is {p : Nat} (hp : 2 ≤ p) : ∀ (x n m : Nat), mulS p x n = some m → m = n * p ^ x ∧ (n ≤ 1152921504606846976 → m ≤ 1152921504606846976)
  | 0, n, m, h => by
    rw [mulS] at h
    obtain rfl := Option.some.inj h
    exact ⟨by simp, id⟩
  | x + 1, n, m, h => by
    rw [mulS] at h
    split at h
    · cases h
    · next hn =>
      obtain ⟨h1, h2⟩ := mulS_is hp x _ m h
      refine ⟨by rw [h1, Nat.pow_succ, Nat.mul_assoc, Nat.mul_comm p], fun _ => h2 ?_⟩
      have : n * p ≤ 1152921504606846976 / p * p := Nat.mul_le_mul_right _ (by omega)
      have := Nat.div_mul_le_self 1152921504606846976 p
      omega
theorem encS_is : ∀ (l : List Nat) (i n m : Nat), i + l.length ≤ 6 → encS i l n = some m → m = n * prodS i l ∧ (n ≤ 1152921504606846976 → m ≤ 1152921504606846976)
  | [], _, n, m, _, h => by
    rw [encS] at h
    obtain rfl := Option.some.inj h
    exact ⟨by simp [prodS], id⟩
  | x :: l, i, n, m, hl, h => by
    simp only [List.length_cons] at hl
    rw [encS] at h
    cases hm : mulS (primeN i) x n with
    | none => rw [hm] at h; cases h
    | some k =>
      rw [hm] at h
      obtain ⟨h1, h2⟩ := mulS_is (primeN_le (by omega)).1 x n k hm
      obtain ⟨h3, h4⟩ := encS_is l (i + 1) k m (by omega) h
      exact ⟨by rw [h3, h1, prodS, Nat.mul_assoc], fun hn => h4 (h2 hn)⟩
theorem mulS_big {p : Nat} (hp : 2 ≤ p) : ∀ (x n : Nat), 1 ≤ n → 1152921504606846976 < n * 2 ^ x → n ≤ 1152921504606846976 → mulS p x n = none
  | 0, n, _, h, h2 => by simp at h; omega
  | x + 1, n, h1, h, h2 => by
    rw [mulS]
    split
    · rfl
    · next hn =>
      have h3 : n * p ≤ 1152921504606846976 / p * p := Nat.mul_le_mul_right _ (by omega)
      have h4 := Nat.div_mul_le_self 1152921504606846976 p
      refine mulS_big hp x (n * p) (Nat.mul_pos h1 (by omega)) ?_ (by omega)
      have h5 : n * 2 ^ (x + 1) = n * 2 * 2 ^ x := by rw [Nat.pow_succ, Nat.mul_comm (2 ^ x) 2, Nat.mul_assoc]
      have h6 : n * 2 * 2 ^ x ≤ n * p * 2 ^ x := Nat.mul_le_mul_right _ (Nat.mul_le_mul_left _ hp)
      omega
theorem encS_big : ∀ (l : List Nat) (i n : Nat), i + l.length ≤ 6 → 1 ≤ n → n ≤ 1152921504606846976 → (∃ x ∈ l, 60 < x) → encS i l n = none
  | [], _, _, _, _, _, h => by obtain ⟨x, hx, _⟩ := h; simp at hx
  | x :: l, i, n, hl, h1, h2, h => by
    simp only [List.length_cons] at hl
    rw [encS]
    cases hm : mulS (primeN i) x n with
    | none => rfl
    | some k =>
      obtain ⟨e, hk⟩ := mulS_is (primeN_le (by omega)).1 x n k hm
      by_cases hx : 60 < x
      · have : 1152921504606846976 < n * 2 ^ x := by
          have a1 : 2 ^ 61 ≤ 2 ^ x := Nat.pow_le_pow_right (by decide) hx
          have a2 : 1 * 2 ^ x ≤ n * 2 ^ x := Nat.mul_le_mul_right _ h1
          have a3 : (2 : Nat) ^ 61 = 2305843009213693952 := by decide
          omega
        rw [mulS_big (primeN_le (by omega)).1 x n h1 this h2] at hm
        cases hm
      · refine encS_big l (i + 1) k (by omega) ?_ (hk h2) ?_
        · rw [e]; exact Nat.mul_pos h1 (Nat.pow_pos (by have := (primeN_le (show i < 6 by omega)).1; omega))
        · obtain ⟨y, hy, h60⟩ := h
          rcases List.mem_cons.1 hy with rfl | hy
          · omega
          · exact ⟨y, hy, h60⟩
/-- P8.3 -/
theorem dec_enc {l : List Nat} {n : Nat} (hl : l.length ≤ 6) (h : encS 0 l 1 = some n) : decS 0 l.length n = (l, 1) ∧ 1 ≤ n ∧ n ≤ 1152921504606846976 := by
  obtain ⟨h1, h2⟩ := encS_is l 0 1 n (by omega) h
  rw [Nat.one_mul] at h1
  have hp : ∀ (l : List Nat) (i : Nat), i + l.length ≤ 6 → 1 ≤ prodS i l := fun l => by
    induction l with
    | nil => intro i _; exact Nat.le_refl _
    | cons x l ih =>
      intro i hl
      simp only [List.length_cons] at hl
      exact Nat.mul_pos (Nat.pow_pos (by have := (primeN_le (show i < 6 by omega)).1; omega)) (ih (i + 1) (by omega))
  exact ⟨by rw [h1]; exact dec_prod l 0 (by omega), by rw [h1]; exact hp l 0 (by omega), h2 (by omega)⟩
end Go.Proofs.Ytonammaecpapmaa.Pp

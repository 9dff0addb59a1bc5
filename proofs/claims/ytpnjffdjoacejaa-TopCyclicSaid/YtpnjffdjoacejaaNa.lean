/- Plain mathematics: a cyclic tag system does what its tag system does. -/
import Derived.Test.YtpnjffdjoacejaaMr
namespace Go.Proofs.Ytpnjffdjoacejaa

def oneh (r : Nat) (x : Int) : List Int := (List.replicate r 0).set x.toNat 1
def encF (r : Nat) (q : List Int) : List Int := (q.map (oneh r)).flatten
theorem oneh_len (r : Nat) (x : Int) : (oneh r x).length = r := by simp [oneh]
theorem encF_len (r : Nat) (q : List Int) : (encF r q).length = q.length * r := by
  induction q with
  | nil => simp [encF]
  | cons x q ih =>
    rw [encF, List.map_cons, List.flatten_cons, List.length_append, oneh_len, List.length_cons, Nat.add_mul, Nat.one_mul]
    have : ((q.map (oneh r)).flatten).length = q.length * r := ih
    omega
theorem encF_append (r : Nat) (a b : List Int) : encF r (a ++ b) = encF r a ++ encF r b := by simp [encF]
theorem oneh_parts {r j : Nat} (h : j < r) : oneh r (j : Int) = List.replicate j 0 ++ 1 :: List.replicate (r - 1 - j) 0 := by
  apply List.ext_getElem?
  intro i
  rw [oneh, Int.toNat_natCast, List.getElem?_set]
  simp only [List.getElem?_replicate, List.length_replicate]
  rcases Nat.lt_trichotomy i j with hi | hi | hi
  · rw [if_neg (by omega), List.getElem?_append_left (by simp; omega), List.getElem?_replicate, if_pos hi, if_pos (by omega)]
  · subst hi
    rw [if_pos rfl, if_pos h, List.getElem?_append_right (by simp)]
    simp
  · rw [if_neg (by omega), List.getElem?_append_right (by simp; omega), List.length_replicate]
    obtain ⟨m, rfl⟩ : ∃ m, i = j + 1 + m := ⟨i - j - 1, by omega⟩
    rw [show j + 1 + m - j = m + 1 by omega, List.getElem?_cons_succ, List.getElem?_replicate]
    by_cases hr : j + 1 + m < r
    · rw [if_pos hr, if_pos (by omega)]
    · rw [if_neg hr, if_neg (by omega)]
theorem encL_eq {r : Nat} {q : List Int} (hw : wordB r q = true) (k : Nat) (hk : k ≤ q.length) : encL r q k = encF r (q.take k) ++ List.replicate ((q.length - k) * r) 0 := by
  induction k with
  | zero => simp [encL, encF]
  | succ k ih =>
    obtain ⟨x, hx⟩ : ∃ x, q[k]? = some x := ⟨_, List.getElem?_eq_getElem (by omega)⟩
    have hxr := wordB_get hw hx
    obtain ⟨j, rfl⟩ := Int.eq_ofNat_of_zero_le hxr.1
    have hj : j < r := by omega
    rw [encL, ih (by omega), getD_some hx, Int.toNat_natCast]
    have hlen : (encF r (q.take k)).length = k * r := by rw [encF_len, List.length_take, Nat.min_eq_left (by omega)]
    rw [List.set_append_right _ _ (by rw [hlen]; omega), hlen, show k * r + j - k * r = j by omega]
    rw [List.take_add_one, hx, Option.toList_some, encF_append, List.append_assoc]
    congr 1
    rw [show (q.length - k) * r = r + (q.length - (k + 1)) * r by rw [show q.length - k = (q.length - (k + 1)) + 1 by omega, Nat.add_mul]; omega, ← List.replicate_append_replicate]
    rw [List.set_append_left _ _ (by simp; exact hj)]
    simp [encF, oneh]
theorem enc_eq {r : Nat} {q : List Int} (hw : wordB r q = true) : enc r q = encF r q := by
  rw [enc, encL_eq hw _ (Nat.le_refl _)]
  simp
theorem oneh_bits (r : Nat) (x : Int) : wordB 2 (oneh r x) = true := by
  rw [wordB, List.all_eq_true]
  intro y hy
  rcases List.mem_or_eq_of_mem_set hy with h | h
  · have := (List.mem_replicate.1 h).2
    subst this
    simp
  · subst h
    simp
theorem encF_bits (r : Nat) (q : List Int) : wordB 2 (encF r q) = true := by
  induction q with
  | nil => simp [encF, wordB]
  | cons x q ih =>
    rw [encF, List.map_cons, List.flatten_cons]
    exact wordB_append (oneh_bits r x) ih

/-! ### What is appended while a word passes the head -/
def appB (ws : List (List Int)) : Nat → List Int → List Int
  | _, [] => []
  | a, x :: xs => (if x = 1 then ws.getD a [] else []) ++ appB ws ((a + 1) % ws.length) xs
theorem appB_append (ws : List (List Int)) (b1 b2 : List Int) (a : Nat) (ha : a < ws.length) : appB ws a (b1 ++ b2) = appB ws a b1 ++ appB ws ((a + b1.length) % ws.length) b2 := by
  induction b1 generalizing a with
  | nil => simp [appB, Nat.mod_eq_of_lt ha]
  | cons x xs ih =>
    have h := ih ((a + 1) % ws.length) (Nat.mod_lt _ (by omega))
    rw [List.cons_append, appB, appB, h, List.append_assoc, Nat.mod_add_mod, List.length_cons, show a + 1 + xs.length = a + (xs.length + 1) by omega]
theorem appB_zeros (ws : List (List Int)) (m a : Nat) : appB ws a (List.replicate m 0) = [] := by
  induction m generalizing a with
  | zero => rfl
  | succ m ih => rw [List.replicate_succ, appB, ih]; simp
theorem appB_oneh (ws : List (List Int)) {r j a : Nat} (hj : j < r) (ha : a + r ≤ ws.length) : appB ws a (oneh r (j : Int)) = ws.getD (a + j) [] := by
  rw [oneh_parts hj, appB_append _ _ _ _ (by omega), appB_zeros, List.nil_append, List.length_replicate, Nat.mod_eq_of_lt (by omega), appB, appB_zeros]
  simp
theorem roll_prefix (ws : List (List Int)) (b rest : List Int) (a : Nat) (ha : a < ws.length) (hl : (b ++ rest).length + (appB ws a b).length ≤ 1000000) : rollC ws b.length a (b ++ rest) = some ((a + b.length) % ws.length, rest ++ appB ws a b, b.length) := by
  induction b generalizing a rest with
  | nil => simp [rollC, appB, Nat.mod_eq_of_lt ha]
  | cons x xs ih =>
    have e : turnQ ws a (x :: xs ++ rest) = xs ++ (rest ++ (if x = 1 then ws.getD a [] else [])) := by simp [turnQ]
    rw [appB] at hl ⊢
    simp only [List.cons_append, List.length_cons, List.length_append] at hl
    have h := ih (rest ++ (if x = 1 then ws.getD a [] else [])) ((a + 1) % ws.length) (Nat.mod_lt _ (by omega)) (by simp only [List.length_append]; omega)
    rw [List.length_cons, rollC, if_neg (by simp), e, if_neg (by simp only [List.length_append]; omega), h]
    simp only [Option.map_some, Nat.mod_add_mod, List.append_assoc]
    rw [show a + 1 + xs.length = a + (xs.length + 1) by omega]

/-! ### A step of the tag system -/
theorem cycL_len (t : TagS) : (cycL t).length = t.del.toNat * t.rules.length := by simp [cycL]
theorem cycL_get {t : TagS} {i : Nat} (h : i < t.del.toNat * t.rules.length) : (cycL t).getD i [] = cycRow t t.rules.length i := by
  rw [List.getD_eq_getElem?_getD, cycL, List.getElem?_map, List.getElem?_range h]
  rfl
theorem appB_rest (t : TagS) (i : Nat) (q : List Int) (hi : 1 ≤ i) (hq : i + q.length ≤ t.del.toNat) (hw : wordB t.rules.length q = true) (hr : 1 ≤ t.rules.length) : appB (cycL t) (i * t.rules.length % (cycL t).length) (encF t.rules.length q) = [] := by
  induction q generalizing i with
  | nil => rfl
  | cons x q ih =>
    rw [List.length_cons] at hq
    have hx := wordB_get hw (k := 0) rfl
    obtain ⟨j, rfl⟩ := Int.eq_ofNat_of_zero_le hx.1
    have hj : j < t.rules.length := by omega
    have hle : (i + 1) * t.rules.length ≤ t.del.toNat * t.rules.length := Nat.mul_le_mul_right _ (by omega)
    have hge : 1 * t.rules.length ≤ i * t.rules.length := Nat.mul_le_mul_right _ hi
    rw [Nat.add_mul, Nat.one_mul] at hle
    have hlt : i * t.rules.length < (cycL t).length := by rw [cycL_len]; omega
    rw [Nat.mod_eq_of_lt hlt, show encF t.rules.length ((j : Int) :: q) = oneh t.rules.length (j : Int) ++ encF t.rules.length q from rfl]
    rw [appB_append _ _ _ _ hlt, appB_oneh _ hj (by rw [cycL_len]; omega), cycL_get (by omega), oneh_len]
    have hz : cycRow t t.rules.length (i * t.rules.length + j) = [] := by
      rw [cycRow, if_neg (fun h => by omega)]
    have hw2 : wordB t.rules.length q = true := by
      have := wordB_drop hw 1
      simpa using this
    have := ih (i + 1) (by omega) (by omega) hw2
    rw [Nat.add_mul, Nat.one_mul] at this
    rw [hz, this]
    rfl
theorem cyc_step {t : TagS} {q : List Int} (hf : fitsT t q = true) (hs : stoppedT t q = false) (hl : (q.length + 200) * t.rules.length ≤ 1000000) :
    rollC (cycL t) (t.del.toNat * t.rules.length) 0 (encF t.rules.length q) = some (0, encF t.rules.length (stepT t q), t.del.toNat * t.rules.length) := by
  have hd : ¬ ((q.length : Int) < t.del) := fun hd => by rw [stoppedT_short hd] at hs; cases hs
  obtain ⟨hv, _, hw⟩ := fitsT_parts hf
  obtain ⟨d1, d2, r1, r2, _, _⟩ := validT_parts hv
  obtain ⟨j, r, b, hj, hjr, hr, hb⟩ := head_get hf hd
  have hb2 := stoppedT_eq hj hd hb
  rw [hs] at hb2
  subst hb2
  have hrl := (rule_get hv hr)
  have hlen : (encF t.rules.length (q.take t.del.toNat)).length = t.del.toNat * t.rules.length := by rw [encF_len, List.length_take, Nat.min_eq_left (by omega)]
  have hmul : 1 * t.rules.length ≤ t.del.toNat * t.rules.length := Nat.mul_le_mul_right _ (by omega)
  rw [Nat.one_mul] at hmul
  obtain ⟨x, xs, rfl⟩ : ∃ x xs, q = x :: xs := by
    cases q with
    | nil => simp at hj
    | cons x xs => exact ⟨x, xs, rfl⟩
  simp only [List.getElem?_cons_zero, Option.some.injEq] at hj
  subst hj
  have happ : appB (cycL t) 0 (encF t.rules.length (((j : Int) :: xs).take t.del.toNat)) = encF t.rules.length r := by
    obtain ⟨m, hm⟩ : ∃ m, t.del.toNat = m + 1 := ⟨t.del.toNat - 1, by omega⟩
    rw [hm, List.take_succ_cons, show encF t.rules.length ((j : Int) :: xs.take m) = oneh t.rules.length (j : Int) ++ encF t.rules.length (xs.take m) from rfl]
    rw [appB_append _ _ _ _ (by rw [cycL_len]; omega), appB_oneh _ hjr (by rw [cycL_len]; omega), oneh_len, cycL_get (by omega)]
    have hrow : cycRow t t.rules.length (0 + j) = encF t.rules.length r := by
      have h1 : t.stops.getD j false = false := getD_some hb
      rw [Nat.zero_add, cycRow, if_pos ⟨hjr, h1⟩, getD_some hr, enc_eq hrl.2]
    have hw2 : wordB t.rules.length (xs.take m) = true := by
      have h2 := wordB_drop hw 1
      simp only [List.drop_succ_cons, List.drop_zero] at h2
      rw [wordB, List.all_eq_true] at h2 ⊢
      exact fun y hy => h2 y (List.mem_of_mem_take hy)
    have h3 := appB_rest t 1 (xs.take m) (Nat.le_refl _) (by rw [List.length_take]; omega) hw2 r1
    rw [Nat.one_mul] at h3
    rw [hrow, Nat.zero_add, h3, List.append_nil]
  have hsplit : encF t.rules.length ((j : Int) :: xs) = encF t.rules.length (((j : Int) :: xs).take t.del.toNat) ++ encF t.rules.length (((j : Int) :: xs).drop t.del.toNat) := by rw [← encF_append, List.take_append_drop]
  have hrb : r.length * t.rules.length ≤ 200 * t.rules.length := Nat.mul_le_mul_right _ hrl.1
  have hp := roll_prefix (cycL t) (encF t.rules.length (((j : Int) :: xs).take t.del.toNat)) (encF t.rules.length (((j : Int) :: xs).drop t.del.toNat)) 0 (by rw [cycL_len]; omega) (by
    rw [happ, ← hsplit, encF_len, encF_len]
    rw [Nat.add_mul] at hl
    omega)
  rw [hlen, ← hsplit, happ, cycL_len, Nat.zero_add, Nat.mod_self, ← encF_append] at hp
  rw [hp, stepT_eq (t := t) (q := (j : Int) :: xs) rfl hr]
  have : ((j : Int) :: xs).drop t.del.toNat ++ r = (((j : Int) :: xs) ++ r).drop t.del.toNat := by
    rw [List.drop_append_of_le_length (by omega)]
  rw [this]
theorem cyc_run {t : TagS} (n : Nat) {q a : List Int} {k : Nat} (hf : fitsT t q = true) (hl : (q.length + 200 * n) * t.rules.length ≤ 1000000) (hr : runT t n q = some (a, k)) :
    rollC (cycL t) (k * (t.del.toNat * t.rules.length)) 0 (encF t.rules.length q) = some (0, encF t.rules.length a, k * (t.del.toNat * t.rules.length)) := by
  induction n generalizing q a k with
  | zero =>
    simp [runT] at hr
    obtain ⟨rfl, rfl⟩ := hr
    simp [rollC]
  | succ n ih =>
    rw [runT] at hr
    cases hs : stoppedT t q with
    | true =>
      rw [hs] at hr
      simp at hr
      obtain ⟨rfl, rfl⟩ := hr
      simp [rollC]
    | false =>
      rw [hs] at hr
      by_cases hb : 100000 < (stepT t q).length
      · simp [hb] at hr
      · simp only [hb, if_false, Bool.false_eq_true] at hr
        cases hn : runT t n (stepT t q) with
        | none => rw [hn] at hr; simp at hr
        | some r2 =>
          rw [hn] at hr
          simp at hr
          obtain ⟨rfl, rfl⟩ := hr
          have hd : ¬ ((q.length : Int) < t.del) := fun hd => by rw [stoppedT_short hd] at hs; cases hs
          obtain ⟨j, r, b, hj, hjr, hr', hb'⟩ := head_get hf hd
          have hrl := (rule_get (fitsT_parts hf).1 hr').1
          have hsl : (stepT t q).length ≤ q.length + 200 := by
            rw [stepT_eq hj hr', List.length_drop, List.length_append]
            omega
          have h1 := cyc_step hf hs (Nat.le_trans (Nat.mul_le_mul_right _ (by omega)) hl)
          have h2 := ih (stepT_fits hf hs hb) (Nat.le_trans (Nat.mul_le_mul_right _ (by omega)) hl) (q := stepT t q) (a := r2.1) (k := r2.2) hn
          rw [show (r2.2 + 1) * (t.del.toNat * t.rules.length) = t.del.toNat * t.rules.length + r2.2 * (t.del.toNat * t.rules.length) by rw [Nat.add_mul]; omega, rollC_add, h1, Option.bind_some, h2]
          rfl
end Go.Proofs.Ytpnjffdjoacejaa

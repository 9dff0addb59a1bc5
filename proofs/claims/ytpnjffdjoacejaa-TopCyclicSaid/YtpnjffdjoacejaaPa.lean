/- Plain mathematics: letters that are encoded, decoded. -/
import Derived.Test.YtpnjffdjoacejaaNc
namespace Go.Proofs.Ytpnjffdjoacejaa

/-- What has been seen of a letter's elements. -/
inductive Seen where
  | zero
  | one (i : Nat)
  | bad
def Seen.next (s : Seen) (k : Nat) (x : Int) : Seen := if x = 0 then s else if x = 1 then (match s with | .zero => .one k | _ => .bad) else .bad
def seenK (l : List Int) : Nat → Seen
  | 0 => .zero
  | k + 1 => (seenK l k).next k (l.getD k 0)
def decL (l : List Int) : Option Nat := match seenK l l.length with
  | .one i => some i
  | _ => none
theorem seen_bad_next (k : Nat) (x : Int) : Seen.next .bad k x = .bad := by
  unfold Seen.next
  split
  · rfl
  · split <;> rfl
theorem seen_bad {l : List Int} {k : Nat} (h : seenK l k = .bad) (m : Nat) (hm : k ≤ m) : seenK l m = .bad := by
  induction m with
  | zero => rw [show k = 0 by omega] at h; exact h
  | succ m ih =>
    by_cases hk : k = m + 1
    · rw [← hk]; exact h
    · rw [seenK, ih (by omega), seen_bad_next]
theorem dec_bad {l : List Int} {k : Nat} (h : seenK l k = .bad) (hk : k ≤ l.length) : decL l = none := by
  rw [decL, seen_bad h _ hk]
theorem seen_step {l : List Int} {k : Nat} {x : Int} (hx : l[k]? = some x) : seenK l (k + 1) = (seenK l k).next k x := by rw [seenK, getD_some hx]
theorem next_zero (s : Seen) (k : Nat) : s.next k 0 = s := by simp [Seen.next]
theorem next_first (k : Nat) : Seen.next .zero k 1 = .one k := by simp [Seen.next]
theorem next_second (i k : Nat) : Seen.next (.one i) k 1 = .bad := by simp [Seen.next]
theorem next_other (s : Seen) (k : Nat) {x : Int} (h0 : x ≠ 0) (h1 : x ≠ 1) : s.next k x = .bad := by simp [Seen.next, h0, h1]
theorem seen_zeros {l : List Int} (k : Nat) (h : ∀ i, i < k → l.getD i 0 = 0) : seenK l k = .zero := by
  induction k with
  | zero => rfl
  | succ k ih => rw [seenK, ih (fun i hi => h i (by omega)), h k (by omega), next_zero]
theorem seen_stay {l : List Int} {i k : Nat} (h : seenK l k = .one i) (m : Nat) (hm : k ≤ m) (hz : ∀ j, k ≤ j → j < m → l.getD j 0 = 0) : seenK l m = .one i := by
  induction m with
  | zero => rw [show k = 0 by omega] at h; exact h
  | succ m ih =>
    by_cases hk : k = m + 1
    · rw [← hk]; exact h
    · rw [seenK, ih (by omega) (fun j h1 h2 => hz j h1 (by omega)), hz m (by omega) (by omega), next_zero]
theorem oneh_getD {r j i : Nat} (hj : j < r) : (oneh r (j : Int)).getD i 0 = if i = j then 1 else 0 := by
  rw [oneh, Int.toNat_natCast, List.getD_eq_getElem?_getD, List.getElem?_set, List.length_replicate, List.getElem?_replicate]
  by_cases h : j = i
  · subst h; simp [hj]
  · have hij : ¬ i = j := fun e => h e.symm
    rw [if_neg h]
    simp only [hij, if_false]
    by_cases hi : i < r <;> simp [hi]
theorem dec_oneh {r j : Nat} (hj : j < r) : decL (oneh r (j : Int)) = some j := by
  have h0 : seenK (oneh r (j : Int)) j = .zero := seen_zeros j (fun i hi => by rw [oneh_getD hj, if_neg (by omega)])
  have h1 : seenK (oneh r (j : Int)) (j + 1) = .one j := by rw [seenK, h0, oneh_getD hj, if_pos rfl, next_first]
  rw [decL, oneh_len, seen_stay h1 r (by omega) (fun i h2 _ => by rw [oneh_getD hj, if_neg (by omega)])]

/-- Block k of r elements. -/
def blockL (r : Nat) (bits : List Int) (k : Nat) : List Int := (bits.drop (k * r)).take r
def lettersK (r : Nat) (bits : List Int) : Nat → Option (List Int)
  | 0 => some []
  | k + 1 => match lettersK r bits k with
    | none => none
    | some L => match decL (blockL r bits k) with
      | none => none
      | some i => some (L ++ [(i : Int)])
theorem letters_none {r : Nat} {bits : List Int} {k : Nat} (h : lettersK r bits k = none) (m : Nat) (hm : k ≤ m) : lettersK r bits m = none := by
  induction m with
  | zero => rw [show k = 0 by omega] at h; exact h
  | succ m ih =>
    by_cases hk : k = m + 1
    · rw [← hk]; exact h
    · rw [lettersK, ih (by omega)]
theorem letters_some {r : Nat} {bits L : List Int} {k i : Nat} (h : lettersK r bits k = some L) (hd : decL (blockL r bits k) = some i) : lettersK r bits (k + 1) = some (L ++ [(i : Int)]) := by rw [lettersK, h]; simp [hd]
theorem letters_fail {r : Nat} {bits L : List Int} {k : Nat} (h : lettersK r bits k = some L) (hd : decL (blockL r bits k) = none) : lettersK r bits (k + 1) = none := by rw [lettersK, h]; simp [hd]
theorem letters_len {r : Nat} {bits L : List Int} {k : Nat} (h : lettersK r bits k = some L) : L.length = k := by
  induction k generalizing L with
  | zero => simp [lettersK] at h; subst h; rfl
  | succ k ih =>
    cases hk : lettersK r bits k with
    | none => rw [lettersK, hk] at h; simp at h
    | some L2 =>
      cases hd : decL (blockL r bits k) with
      | none => rw [letters_fail hk hd] at h; cases h
      | some i => rw [letters_some hk hd] at h; obtain rfl := Option.some.inj h; simp [ih hk]
/-- What Letters returns. -/
def lettersS (t : TagS) (bits : List Int) : TRes := if validT t = false then ⟨[], 0, 1⟩ else if bits.length % t.rules.length ≠ 0 then ⟨[], 0, 2⟩ else match lettersK t.rules.length bits (bits.length / t.rules.length) with
  | none => ⟨[], 0, 2⟩
  | some L => ⟨L, 0, 0⟩
theorem block_encF {r : Nat} {q : List Int} {k : Nat} {x : Int} (hx : q[k]? = some x) : blockL r (encF r q) k = oneh r x := by
  have hk := (List.getElem?_eq_some_iff.1 hx).1
  have h1 : q = q.take k ++ x :: q.drop (k + 1) := by
    have h2 := (List.getElem?_eq_some_iff.1 hx).2
    rw [← h2, ← List.drop_eq_getElem_cons hk, List.take_append_drop]
  have h3 : (encF r (q.take k)).length = k * r := by rw [encF_len, List.length_take, Nat.min_eq_left (by omega)]
  have h4 : encF r q = encF r (q.take k) ++ (oneh r x ++ encF r (q.drop (k + 1))) := by
    conv => lhs; rw [h1]
    rw [encF_append]
    rfl
  rw [blockL, h4, ← h3, List.drop_left, List.take_left' (oneh_len r x)]
theorem letters_enc {r : Nat} {q : List Int} (hw : wordB r q = true) (k : Nat) (hk : k ≤ q.length) : lettersK r (encF r q) k = some (q.take k) := by
  induction k with
  | zero => simp [lettersK]
  | succ k ih =>
    obtain ⟨x, hx⟩ : ∃ x, q[k]? = some x := ⟨_, List.getElem?_eq_getElem (by omega)⟩
    have hxr := wordB_get hw hx
    obtain ⟨j, rfl⟩ := Int.eq_ofNat_of_zero_le hxr.1
    have hj : j < r := by omega
    rw [letters_some (ih (by omega)) (by rw [block_encF hx]; exact dec_oneh hj), List.take_add_one, hx]
    rfl
theorem lettersS_enc {t : TagS} {q : List Int} (hf : fitsT t q = true) : lettersS t (encF t.rules.length q) = ⟨q, 0, 0⟩ := by
  obtain ⟨hv, _, hw⟩ := fitsT_parts hf
  obtain ⟨_, _, r1, _⟩ := validT_parts hv
  rw [lettersS, if_neg (by rw [hv]; simp), encF_len, if_neg (by simp), Nat.mul_div_cancel _ (by omega), letters_enc hw _ (Nat.le_refl _), List.take_length]
end Go.Proofs.Ytpnjffdjoacejaa

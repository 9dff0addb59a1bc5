/- Plain mathematics: renamed tag systems; a run in two parts. -/
import Derived.Test.YtpnjffdjoacejaaKb
namespace Go.Proofs.Ytpnjffdjoacejaa

/-- The system u is t with other names. -/
structure Ren (t u : TagS) (tos : List Int) : Prop where
  del : u.del = t.del
  rl : u.rules.length = t.rules.length
  sl : u.stops.length = t.rules.length
  inr : ∀ (i : Nat) (x : Int), tos[i]? = some x → 0 ≤ x ∧ x < t.rules.length
  tl : tos.length = t.rules.length
  rule : ∀ (i : Nat) (x : Int) (r : List Int), tos[i]? = some x → t.rules[i]? = some r → u.rules[x.toNat]? = some (nameL tos r)
  stop : ∀ (i : Nat) (x : Int) (b : Bool), tos[i]? = some x → t.stops[i]? = some b → u.stops[x.toNat]? = some b
  all : ∀ r' ∈ u.rules, r' = [] ∨ ∃ r ∈ t.rules, r' = nameL tos r

theorem nameL_len {tos l : List Int} : (nameL tos l).length = l.length := by simp [nameL]
theorem nameL_append {tos a b : List Int} : nameL tos (a ++ b) = nameL tos a ++ nameL tos b := by simp [nameL]
theorem nameL_drop {tos a : List Int} {d : Nat} : nameL tos (a.drop d) = (nameL tos a).drop d := by simp [nameL, List.map_drop]
theorem nameL_get {tos l : List Int} {i : Nat} {j : Nat} {x : Int} (h : l[i]? = some (j : Int)) (hx : tos[j]? = some x) : (nameL tos l)[i]? = some x := by
  simp [nameL, h, List.getD_eq_getElem?_getD, hx]
theorem nameL_snoc {tos l : List Int} {k : Nat} {j : Nat} {x : Int} (h : l[k]? = some (j : Int)) (hx : tos[j]? = some x) : nameL tos (l.take (k + 1)) = nameL tos (l.take k) ++ [x] := by
  rw [List.take_add_one, h]
  simp [nameL, List.getD_eq_getElem?_getD, hx]
theorem Ren.get {t u : TagS} {tos : List Int} (h : Ren t u tos) {j : Nat} (hj : j < t.rules.length) : ∃ y : Nat, tos[j]? = some (y : Int) ∧ y < t.rules.length := by
  obtain ⟨x, hx⟩ : ∃ x, tos[j]? = some x := ⟨_, List.getElem?_eq_getElem (by rw [h.tl]; exact hj)⟩
  have := h.inr j x hx
  obtain ⟨y, rfl⟩ := Int.eq_ofNat_of_zero_le this.1
  exact ⟨y, hx, by omega⟩
theorem Ren.word {t u : TagS} {tos l : List Int} (h : Ren t u tos) (hw : wordB t.rules.length l = true) : wordB t.rules.length (nameL tos l) = true := by
  rw [wordB, List.all_eq_true] at *
  intro y hy
  simp only [nameL, List.mem_map] at hy
  obtain ⟨x, hx, rfl⟩ := hy
  have := hw x hx
  simp only [decide_eq_true_eq] at this ⊢
  obtain ⟨j, rfl⟩ := Int.eq_ofNat_of_zero_le this.1
  obtain ⟨y, hy, hlt⟩ := h.get (j := j) (by omega)
  rw [Int.toNat_natCast, getD_some hy]
  omega
theorem Ren.valid {t u : TagS} {tos : List Int} (h : Ren t u tos) (hv : validT t = true) : validT u = true := by
  obtain ⟨h1, h2, h3, h4, h5, h6⟩ := validT_parts hv
  simp only [validT, Bool.and_eq_true, decide_eq_true_eq, h.del, h.rl, h.sl, List.all_eq_true]
  refine ⟨⟨⟨⟨h1, h2⟩, h3, h4⟩, trivial⟩, fun r' hr' => ?_⟩
  rcases h.all r' hr' with rfl | ⟨r, hr, rfl⟩
  · simp [ruleB, wordB]
  · obtain ⟨k, hk⟩ := List.mem_iff_getElem?.1 hr
    obtain ⟨ha, hb⟩ := rule_get hv hk
    simp only [ruleB, Bool.and_eq_true, decide_eq_true_eq, nameL_len]
    exact ⟨by omega, h.word hb⟩
theorem Ren.fits {t u : TagS} {tos q : List Int} (h : Ren t u tos) (hf : fitsT t q = true) : fitsT u (nameL tos q) = true := by
  obtain ⟨h1, h2, h3⟩ := fitsT_parts hf
  exact fitsT_mk (h.valid h1) (by rw [nameL_len]; exact h2) (by rw [h.rl]; exact h.word h3)
theorem Ren.stopped {t u : TagS} {tos q : List Int} (h : Ren t u tos) (hf : fitsT t q = true) : stoppedT u (nameL tos q) = stoppedT t q := by
  by_cases hs : (q.length : Int) < t.del
  · rw [stoppedT_short hs, stoppedT_short (by rw [nameL_len, h.del]; exact hs)]
  · obtain ⟨j, r, b, hj, hjr, hr, hb⟩ := head_get hf hs
    obtain ⟨y, hy, hlt⟩ := h.get hjr
    rw [stoppedT_eq hj hs hb, stoppedT_eq (nameL_get hj hy) (by rw [nameL_len, h.del]; exact hs) (b := b)]
    have := h.stop j y b hy hb
    simpa using this
theorem Ren.step {t u : TagS} {tos q : List Int} (h : Ren t u tos) (hf : fitsT t q = true) (hs : ¬ ((q.length : Int) < t.del)) : stepT u (nameL tos q) = nameL tos (stepT t q) := by
  obtain ⟨j, r, b, hj, hjr, hr, hb⟩ := head_get hf hs
  obtain ⟨y, hy, hlt⟩ := h.get hjr
  have hr2 := h.rule j y r hy hr
  rw [Int.toNat_natCast] at hr2
  rw [stepT_eq hj hr, stepT_eq (nameL_get hj hy) hr2, h.del, nameL_drop, nameL_append]
theorem Ren.run {t u : TagS} {tos : List Int} (h : Ren t u tos) (n : Nat) (q : List Int) (hf : fitsT t q = true) : runT u n (nameL tos q) = (runT t n q).map fun r => (nameL tos r.1, r.2) := by
  induction n generalizing q with
  | zero => simp [runT]
  | succ n ih =>
    rw [runT, runT, h.stopped hf]
    cases hs : stoppedT t q with
    | true => simp
    | false =>
      have hd : ¬ ((q.length : Int) < t.del) := fun hd => by rw [stoppedT_short hd] at hs; cases hs
      rw [h.step hf hd, nameL_len]
      by_cases hl : 100000 < (stepT t q).length
      · simp [hl]
      · have := ih (stepT t q) (stepT_fits hf hs hl)
        simp only [hl, if_false, this]
        cases runT t n (stepT t q) <;> simp
theorem names_run {t u : TagS} {tos q : List Int} (h : Ren t u tos) (hf : fitsT t q = true) (N : Int) (h0 : 0 ≤ N) (h1 : N ≤ 1000000) : runTS u (nameL tos q) N = ⟨nameL tos (runTS t q N).q, (runTS t q N).k, (runTS t q N).err⟩ := by
  rw [runTS, runTS, if_neg (by rw [h.fits hf]; simp), if_neg (by omega), if_neg (by rw [hf]; simp), if_neg (by omega), h.run _ _ hf]
  cases runT t N.toNat q <;> simp [tresOf, nameL]
theorem runTS_fits {t : TagS} {q : List Int} {N : Int} (h : fitsT t q = true) (h0 : 0 ≤ N) (h1 : N ≤ 1000000) : fitsT t (runTS t q N).q = true := by
  rw [runTS, if_neg (by rw [h]; simp), if_neg (by omega)]
  cases hr : runT t N.toNat q with
  | none => exact fitsT_mk (fitsT_parts h).1 (by simp [tresOf]) (by simp [tresOf, wordB])
  | some r => exact (runT_fits h hr).1

/-! ### The loops of the law that build the other system -/
def metL (n : Nat) (tos : List Int) : Nat → List Bool
  | 0 => List.replicate n false
  | k + 1 => (metL n tos k).set (tos.getD k 0).toNat true
theorem metL_len {n : Nat} {tos : List Int} (k : Nat) : (metL n tos k).length = n := by
  induction k with
  | zero => simp [metL]
  | succ k ih => simp [metL, ih]
theorem metL_new {n : Nat} {tos : List Int} {k : Nat} {x : Nat} (h : (metL n tos k)[x]? = some false) (i : Nat) (hi : i < k) : (tos.getD i 0).toNat ≠ x := by
  induction k with
  | zero => omega
  | succ k ih =>
    rw [metL, List.getElem?_set] at h
    by_cases he : (tos.getD k 0).toNat = x
    · rw [if_pos he] at h
      split at h <;> cases h
    · rw [if_neg he] at h
      by_cases hik : i = k
      · subst hik; exact he
      · exact ih h (by omega)
/-- The first k names are different, and in range. -/
def Dif (n : Nat) (tos : List Int) (k : Nat) : Prop := ∀ i x, i < k → tos[i]? = some x → 0 ≤ x ∧ x < (n : Int) ∧ ∀ j, j < i → tos[j]? ≠ some x
theorem Dif.zero (n : Nat) (tos : List Int) : Dif n tos 0 := fun i x hi => by omega
theorem Dif.next {n : Nat} {tos : List Int} {k : Nat} (h : Dif n tos k) {x : Nat} (hx : tos[k]? = some (x : Int)) (hn : x < n) (hm : (metL n tos k)[x]? = some false) : Dif n tos (k + 1) := fun i y hi hy => by
  by_cases hik : i = k
  · subst hik
    rw [hx] at hy
    obtain rfl := Option.some.inj hy
    refine ⟨by omega, by omega, fun j hj he => ?_⟩
    have := metL_new hm j hj
    rw [getD_some he] at this
    simp at this
  · exact h i y (by omega) hy
def renR (n : Nat) (t : TagS) (tos : List Int) : Nat → List (List Int)
  | 0 => List.replicate n []
  | k + 1 => (renR n t tos k).set (tos.getD k 0).toNat (nameL tos (t.rules.getD k []))
def renS (n : Nat) (t : TagS) (tos : List Int) : Nat → List Bool
  | 0 => List.replicate n false
  | k + 1 => (renS n t tos k).set (tos.getD k 0).toNat (t.stops.getD k false)
theorem renR_len {n : Nat} {t : TagS} {tos : List Int} (k : Nat) : (renR n t tos k).length = n := by
  induction k with
  | zero => simp [renR]
  | succ k ih => simp [renR, ih]
theorem renS_len {n : Nat} {t : TagS} {tos : List Int} (k : Nat) : (renS n t tos k).length = n := by
  induction k with
  | zero => simp [renS]
  | succ k ih => simp [renS, ih]
theorem ren_get {α : Type} (f : Nat → List α) (g : Nat → α) {n : Nat} {tos : List Int} (hl : ∀ k, (f k).length = n) (hs : ∀ k, f (k + 1) = (f k).set (tos.getD k 0).toNat (g k)) {m : Nat} (hd : Dif n tos m) (hm : m ≤ tos.length) (i : Nat) (x : Int) (hi : i < m) (hx : tos[i]? = some x) : (f m)[x.toNat]? = some (g i) := by
  induction m with
  | zero => omega
  | succ m ih =>
    rw [hs m, List.getElem?_set]
    have hmx : m < tos.length := by omega
    by_cases him : i = m
    · subst him
      have := hd i x hi hx
      rw [getD_some hx, if_pos rfl, if_pos (by rw [hl]; omega)]
    · obtain ⟨y, hy⟩ : ∃ y, tos[m]? = some y := ⟨_, List.getElem?_eq_getElem hmx⟩
      have h1 := hd m y (by omega) hy
      have h2 := hd i x hi hx
      have hne : y.toNat ≠ x.toNat := fun e => h1.2.2 i (by omega) (by rw [hx]; congr 1; omega)
      rw [getD_some hy, if_neg hne]
      exact ih (fun a b ha hb => hd a b (by omega) hb) (by omega) (by omega)
theorem renR_all {n : Nat} {t : TagS} {tos : List Int} (k : Nat) (hk : k ≤ t.rules.length) : ∀ r' ∈ renR n t tos k, r' = [] ∨ ∃ r ∈ t.rules, r' = nameL tos r := by
  induction k with
  | zero => intro r' h; left; simp [renR] at h; exact h.2
  | succ k ih =>
    intro r' h
    rw [renR] at h
    rcases List.mem_or_eq_of_mem_set h with h | h
    · exact ih (by omega) r' h
    · right
      refine ⟨t.rules.getD k [], ?_, h⟩
      rw [List.getD_eq_getElem?_getD, List.getElem?_eq_getElem (by omega)]
      exact List.getElem_mem _
theorem ren_mk {t : TagS} {tos : List Int} (hd : Dif tos.length tos tos.length) (hl : tos.length = t.rules.length) (hs : t.stops.length = t.rules.length) : Ren t ⟨t.del, renR tos.length t tos tos.length, renS tos.length t tos tos.length⟩ tos where
  del := rfl
  rl := by simp only [renR_len, hl]
  sl := by simp only [renS_len, hl]
  inr i x hx := by
    have hi := (List.getElem?_eq_some_iff.1 hx).1
    have := hd i x hi hx
    omega
  tl := hl
  rule i x r hx hr := by
    have hi := (List.getElem?_eq_some_iff.1 hx).1
    have := ren_get (renR tos.length t tos) (fun k => nameL tos (t.rules.getD k [])) renR_len (fun k => rfl) hd (Nat.le_refl _) i x hi hx
    simp only [getD_some hr] at this
    exact this
  stop i x b hx hb := by
    have hi := (List.getElem?_eq_some_iff.1 hx).1
    have := ren_get (renS tos.length t tos) (fun k => t.stops.getD k false) renS_len (fun k => rfl) hd (Nat.le_refl _) i x hi hx
    simp only [getD_some hb] at this
    exact this
  all := renR_all _ (by omega)

/-! ### A run in two parts -/
theorem runT_add {t : TagS} {a b : Nat} {q : List Int} : runT t (a + b) q = (runT t a q).bind fun r => tbump r.2 (runT t b r.1) := by
  induction a generalizing q with
  | zero => simp [runT, tbump_zero]
  | succ a ih =>
    rw [show a + 1 + b = (a + b) + 1 by omega, runT, runT]
    cases hs : stoppedT t q with
    | true =>
      simp [runT_stop hs]
    | false =>
      by_cases hl : 100000 < (stepT t q).length
      · simp [hl]
      · simp only [hl, if_false]
        rw [ih]
        cases runT t a (stepT t q) with
        | none => simp
        | some r =>
          simp only [Option.map_some, Option.bind_some, tbump, Option.map_map, Bool.false_eq_true, if_false]
          cases runT t b r.1 <;> simp
          omega
end Go.Proofs.Ytpnjffdjoacejaa

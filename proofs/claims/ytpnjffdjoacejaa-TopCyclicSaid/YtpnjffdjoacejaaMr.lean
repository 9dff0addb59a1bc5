/- Plain mathematics of TagParts: runs in two parts, what a step does to the length. -/
import Derived.Test.YtpnjffdjoacejaaMm
namespace Go.Proofs.Ytpnjffdjoacejaa

theorem runTS_add (t : TagS) (q : List Int) (n k : Nat) (h : n + k ≤ 1000000) :
    ((runTS t q n).err = 0 → (runTS t q ((n : Int) + k)).err = (runTS t (runTS t q n).q k).err ∧ (runTS t q ((n : Int) + k)).q = (runTS t (runTS t q n).q k).q ∧ ((runTS t q ((n : Int) + k)).err = 0 → (runTS t q ((n : Int) + k)).k = (runTS t q n).k + (runTS t (runTS t q n).q k).k)) ∧
    ((runTS t q n).err ≠ 0 → (runTS t q ((n : Int) + k)).err = (runTS t q n).err) := by
  cases hf : fitsT t q with
  | false =>
    have e : ∀ N, runTS t q N = ⟨[], 0, 1⟩ := fun N => if_pos hf
    rw [e, e]
    exact ⟨fun h => absurd h (by simp), fun _ => rfl⟩
  | true =>
    have e2 := runTS_in (N := n) hf (by omega)
    have e1 := runTS_in (N := n + k) hf h
    rw [Int.natCast_add] at e1
    rw [e1, e2, runT_add]
    cases hr : runT t n q with
    | none => exact ⟨fun h => absurd h (by simp [tresOf]), fun _ => rfl⟩
    | some r =>
      refine ⟨fun _ => ?_, fun h => absurd rfl h⟩
      have hfr := (runT_fits hf hr).1
      have e3 := runTS_in (N := k) hfr (by omega)
      simp only [Option.bind_some, tresOf] at e3 ⊢
      rw [e3]
      cases runT t k r.1 <;> simp [tbump]
theorem runTS_len (t : TagS) (q : List Int) (N : Int) : (runTS t q N).q.length ≤ 100000 := by
  cases hf : fitsT t q with
  | false => rw [show runTS t q N = ⟨[], 0, 1⟩ from if_pos hf]; simp
  | true =>
    by_cases hn : N < 0 ∨ 1000000 < N
    · rw [runTS_out hf hn]; simp
    · obtain ⟨n, rfl⟩ := Int.eq_ofNat_of_zero_le (show 0 ≤ N by omega)
      exact (fitsT_parts (runTS_fits hf (by omega) (by omega))).2.1
theorem runTS_k (t : TagS) (q : List Int) (n : Nat) : 0 ≤ (runTS t q n).k ∧ (runTS t q n).k ≤ n := by
  cases hf : fitsT t q with
  | false => rw [show runTS t q n = ⟨[], 0, 1⟩ from if_pos hf]; simp
  | true =>
    by_cases hn : n ≤ 1000000
    · rw [runTS_in hf hn]
      cases hr : runT t n q with
      | none => simp [tresOf]
      | some r =>
        have := (runT_fits hf hr).2
        simp only [tresOf]
        omega
    · rw [runTS_out hf (by omega)]; simp
theorem stepTS_ok {t : TagS} {q : List Int} (h : (stepTS t q).err = 0) : fitsT t q = true ∧ ¬ ((q.length : Int) < t.del) ∧ (stepTS t q).q = stepT t q := by
  cases hf : fitsT t q with
  | false => rw [show stepTS t q = ⟨[], 0, 1⟩ from if_pos hf] at h; simp at h
  | true =>
    cases hs : stoppedT t q with
    | true => rw [stepTS_stop hf hs] at h; simp at h
    | false =>
      by_cases hb : 100000 < (stepT t q).length
      · rw [stepTS_big hf hs hb] at h; simp at h
      · exact ⟨rfl, (fun hd => by rw [stoppedT_short hd] at hs; cases hs), by rw [stepTS_on hf hs hb]⟩
theorem stepTS_len (t : TagS) (q : List Int) : (stepTS t q).q.length ≤ 100000 := by
  rw [stepTS]
  split
  · simp
  · split
    · simp
    · exact runTS_len t q 1

theorem rollS_add (ws : List (List Int)) (a : Int) (q : List Int) (n k : Nat) (h : n + k ≤ 1000000) :
    ((rollS ws a q n).err = 0 → (rollS ws a q ((n : Int) + k)).err = (rollS ws (rollS ws a q n).pos (rollS ws a q n).q k).err ∧ (rollS ws a q ((n : Int) + k)).pos = (rollS ws (rollS ws a q n).pos (rollS ws a q n).q k).pos ∧ (rollS ws a q ((n : Int) + k)).q = (rollS ws (rollS ws a q n).pos (rollS ws a q n).q k).q ∧ ((rollS ws a q ((n : Int) + k)).err = 0 → (rollS ws a q ((n : Int) + k)).k = (rollS ws a q n).k + (rollS ws (rollS ws a q n).pos (rollS ws a q n).q k).k)) ∧
    ((rollS ws a q n).err ≠ 0 → (rollS ws a q ((n : Int) + k)).err = (rollS ws a q n).err) := by
  cases hf : fitsC ws a q with
  | false =>
    have e : ∀ N, rollS ws a q N = ⟨0, [], 0, 1⟩ := fun N => if_pos hf
    rw [e, e]
    exact ⟨fun h => absurd h (by simp), fun _ => rfl⟩
  | true =>
    obtain ⟨an, rfl⟩ := Int.eq_ofNat_of_zero_le (fitsC_parts hf).2.1
    have e2 := rollS_in (N := n) hf (by omega)
    have e1 := rollS_in (N := n + k) hf h
    rw [Int.natCast_add] at e1
    rw [e1, e2, rollC_add]
    cases hr : rollC ws n an q with
    | none => exact ⟨fun h => absurd h (by simp [wresOf]), fun _ => rfl⟩
    | some r =>
      refine ⟨fun _ => ?_, fun h => absurd rfl h⟩
      have hfr := (rollC_fits hf hr).1
      have e3 := rollS_in (N := k) hfr (by omega)
      simp only [Option.bind_some, wresOf] at e3 ⊢
      rw [e3]
      cases rollC ws k r.1 r.2.1 <;> simp [cbump]
theorem rollS_len (ws : List (List Int)) (a : Int) (q : List Int) (n : Nat) : (rollS ws a q n).q.length ≤ 1000000 := by
  cases hf : fitsC ws a q with
  | false => rw [show rollS ws a q n = ⟨0, [], 0, 1⟩ from if_pos hf]; simp
  | true =>
    obtain ⟨an, rfl⟩ := Int.eq_ofNat_of_zero_le (fitsC_parts hf).2.1
    by_cases hn : n ≤ 1000000
    · rw [rollS_in hf hn]
      cases hr : rollC ws n an q with
      | none => simp [wresOf]
      | some r => exact (fitsC_parts (rollC_fits hf hr).1).2.2.2.1
    · rw [rollS_out hf (by omega)]; simp
theorem rollS_k (ws : List (List Int)) (a : Int) (q : List Int) (n : Nat) : 0 ≤ (rollS ws a q n).k ∧ (rollS ws a q n).k ≤ n := by
  cases hf : fitsC ws a q with
  | false => rw [show rollS ws a q n = ⟨0, [], 0, 1⟩ from if_pos hf]; simp
  | true =>
    obtain ⟨an, rfl⟩ := Int.eq_ofNat_of_zero_le (fitsC_parts hf).2.1
    by_cases hn : n ≤ 1000000
    · rw [rollS_in hf hn]
      cases hr : rollC ws n an q with
      | none => simp [wresOf]
      | some r =>
        have := (rollC_fits hf hr).2
        simp only [wresOf]
        omega
    · rw [rollS_out hf (by omega)]; simp
end Go.Proofs.Ytpnjffdjoacejaa

/- Plain mathematics for the law TagCyclic. -/
import Derived.Test.YtpnjffdjoacejaaNb
namespace Go.Proofs.Ytpnjffdjoacejaa

theorem sumL_le_mul {rows : List (List Int)} {M : Nat} (h : ∀ r ∈ rows, r.length ≤ M) : sumL rows ≤ rows.length * M := by
  have := sumL_bound h rows.length
  rwa [List.take_length] at this
theorem cycL_valid {t : TagS} (hv : validT t = true) (hr : t.rules.length ≤ 40) : validC (cycL t) = true := by
  obtain ⟨d1, d2, r1, r2, _, _⟩ := validT_parts hv
  have hl := cycL_len t
  have h1 : t.del.toNat * t.rules.length ≤ 4 * 40 := Nat.mul_le_mul (by omega) hr
  have h2 : 1 * 1 ≤ t.del.toNat * t.rules.length := Nat.mul_le_mul (by omega) r1
  rw [validC_mk (by omega) (by omega), List.all_eq_true]
  intro r hrm
  rw [cycL, List.mem_map] at hrm
  obtain ⟨i, hi, rfl⟩ := hrm
  rw [cycRow]
  split
  · rename_i hc
    obtain ⟨row, hrow⟩ : ∃ row, t.rules[i]? = some row := ⟨_, List.getElem?_eq_getElem hc.1⟩
    have hg := rule_get hv hrow
    rw [getD_some hrow, enc_eq hg.2]
    have : row.length * t.rules.length ≤ 200 * 40 := Nat.mul_le_mul hg.1 hr
    simp only [wordC, Bool.and_eq_true, decide_eq_true_eq, encF_len]
    exact ⟨by omega, encF_bits _ _⟩
  · simp [wordC, wordB]
/-- The run of the tag system, and the run of its cyclic one. -/
theorem cyc_law {t : TagS} {q : List Int} {n : Nat} (hf : fitsT t q = true) (hr : t.rules.length ≤ 40) (hq : q.length ≤ 400) (hn : n ≤ 12) :
    ∃ (a : List Int) (k : Nat), runTS t q n = ⟨a, k, 0⟩ ∧ k ≤ n ∧ fitsT t a = true ∧ a.length ≤ 2800 ∧ bitsS t q = ⟨encF t.rules.length q, 0, 0⟩ ∧ bitsS t a = ⟨encF t.rules.length a, 0, 0⟩ ∧
      rollS (cycL t) 0 (encF t.rules.length q) ((k * (t.del.toNat * t.rules.length) : Nat) : Int) = ⟨0, encF t.rules.length a, ((k * (t.del.toNat * t.rules.length) : Nat) : Int), 0⟩ ∧ (k = n ∨ stoppedT t a = true) := by
  obtain ⟨hv, _, hw⟩ := fitsT_parts hf
  obtain ⟨d1, d2, r1, r2, _, _⟩ := validT_parts hv
  have hrun : ∀ (m : Nat) (p : List Int), fitsT t p = true → p.length + 200 * m ≤ 2800 → ∃ r, runT t m p = some r ∧ r.1.length ≤ 2800 ∧ (r.2 = m ∨ stoppedT t r.1 = true) := by
    intro m
    induction m with
    | zero => intro p _ hp; exact ⟨(p, 0), by simp [runT], by simp only; omega, .inl rfl⟩
    | succ m ih =>
      intro p hp hl
      rw [runT]
      cases hs : stoppedT t p with
      | true => exact ⟨(p, 0), by simp, by simp only; omega, .inr hs⟩
      | false =>
        have hd : ¬ ((p.length : Int) < t.del) := fun hd => by rw [stoppedT_short hd] at hs; cases hs
        obtain ⟨j, r, b, hj, hjr, hr', hb'⟩ := head_get hp hd
        have hrl := (rule_get hv hr').1
        have hsl : (stepT t p).length ≤ p.length + 200 := by
          rw [stepT_eq hj hr', List.length_drop, List.length_append]
          omega
        have hb : ¬ 100000 < (stepT t p).length := by omega
        obtain ⟨r3, h1, h2, h3⟩ := ih (stepT t p) (stepT_fits hp hs hb) (by omega)
        refine ⟨(r3.1, r3.2 + 1), by simp [hb, h1], h2, ?_⟩
        rcases h3 with h3 | h3
        · left; simp only; omega
        · right; exact h3
  obtain ⟨r, h1, h2, h3⟩ := hrun n q hf (by omega)
  obtain ⟨a, k⟩ := r
  simp only at h2 h3
  have hfa := runT_fits hf h1
  simp only at hfa
  have hbits : ∀ p, fitsT t p = true → p.length ≤ 2800 → bitsS t p = ⟨encF t.rules.length p, 0, 0⟩ := by
    intro p hp hl
    have : p.length * t.rules.length ≤ 2800 * 40 := Nat.mul_le_mul hl hr
    rw [bitsS, if_neg (by rw [hp]; simp), if_neg (by omega), enc_eq (fitsT_parts hp).2.2]
  have hsz : (q.length + 200 * n) * t.rules.length ≤ 2800 * 40 := Nat.mul_le_mul (by omega) hr
  have hroll := cyc_run n hf (by omega) h1
  have hM1 : t.del.toNat * t.rules.length ≤ 4 * 40 := Nat.mul_le_mul (by omega) hr
  have hM2 : k * (t.del.toNat * t.rules.length) ≤ 12 * (4 * 40) := Nat.mul_le_mul (by omega) hM1
  have hM3 : 1 * 1 ≤ t.del.toNat * t.rules.length := Nat.mul_le_mul (by omega) r1
  have hl0 : q.length * t.rules.length ≤ 400 * 40 := Nat.mul_le_mul hq hr
  have hfc : fitsC (cycL t) ((0 : Nat) : Int) (encF t.rules.length q) = true := fitsC_mk (cycL_valid hv hr) (by omega) (by rw [cycL_len]; omega) (by rw [encF_len]; omega) (encF_bits _ _)
  refine ⟨a, k, ?_, hfa.2, hfa.1, h2, hbits q hf (by omega), hbits a hfa.1 h2, ?_, h3⟩
  · rw [runTS_in hf (by omega), h1]
    rfl
  · have := rollS_in (N := k * (t.del.toNat * t.rules.length)) hfc (by omega)
    refine this.trans ?_
    rw [hroll]
    rfl
end Go.Proofs.Ytpnjffdjoacejaa

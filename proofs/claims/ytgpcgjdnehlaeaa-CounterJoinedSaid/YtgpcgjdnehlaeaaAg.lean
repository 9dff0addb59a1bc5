/- The plain mathematics of Join. -/
import Derived.Test.YtgpcgjdnehlaeaaAd
namespace Go.Proofs.Ytgpcgjdnehlaeaa

theorem joinC_len (a b : List Ins) : a.length + b.length ≤ (joinC a b).length ∧ (joinC a b).length ≤ a.length + b.length + 1 := by
  unfold joinC
  split <;> simp <;> omega

theorem vIns_mono {R R' : Int} {n n' : Int} {i : Ins} (h : vIns R n i = true) (hR : R ≤ R') (hn : n ≤ n') : vIns R' n' i = true := by
  obtain ⟨op, rg, nx, zr⟩ := i
  rcases vIns_op h with ho | ho | ho
  · simp only at ho; subst ho
    simp [vIns, vInc, inB] at h ⊢
    omega
  · simp only at ho; subst ho
    simp [vIns, vDec, inB] at h ⊢
    omega
  · simp only at ho; subst ho
    simpa [vIns, vHalt] using h

theorem vIns_shift {R R' F : Int} {n n' : Int} {i : Ins} (h : vIns R n i = true) (hR : R ≤ R') (hF : 0 ≤ F) (hn : n + F ≤ n') : vIns R' n' (shiftI F i) = true := by
  obtain ⟨op, rg, nx, zr⟩ := i
  rcases vIns_op h with ho | ho | ho
  · simp only at ho; subst ho
    simp [vIns, vInc, inB, shiftI] at h ⊢
    omega
  · simp only at ho; subst ho
    simp [vIns, vDec, inB, shiftI] at h ⊢
    omega
  · simp only at ho; subst ho
    simpa [vIns, vHalt, shiftI] using h

theorem halts_of {a : List Ins} {i : Ins} (h : i ∈ a) (ho : i.op = 2) : halts a = true := by
  rw [halts, List.any_eq_true]
  exact ⟨i, h, by simp [ho]⟩

/-- The joined machine is valid exactly if it is not too long. -/
theorem vCode_join {R1 R2 : Int} {a b : List Ins} (h1 : vCode R1 a = true) (h2 : vCode R2 b = true) : vCode (if R1 < R2 then R2 else R1) (joinC a b) = decide ((joinC a b).length ≤ 2000) := by
  obtain ⟨r1, r2, n1, n2⟩ := vCode_reg h1
  obtain ⟨s1, s2, m1, m2⟩ := vCode_reg h2
  obtain ⟨hl, hu⟩ := joinC_len a b
  have hM : R1 ≤ (if R1 < R2 then R2 else R1) ∧ R2 ≤ (if R1 < R2 then R2 else R1) ∧ (if R1 < R2 then R2 else R1) ≤ 16 := by split <;> omega
  generalize (if R1 < R2 then R2 else R1) = M at *
  have key : (joinC a b).all (vIns M ((joinC a b).length : Int)) = true := by
    rw [List.all_eq_true]
    intro i hi
    have hlen : (joinC a b).length = a.length + (if halts a = true then 1 else 0) + b.length := by
      unfold joinC
      split <;> simp
      omega
    unfold joinC at hi
    rw [List.mem_append, List.mem_append] at hi
    rcases hi with (hi | hi) | hi
    · obtain ⟨x, hx, rfl⟩ := List.mem_map.1 hi
      obtain ⟨k, hk⟩ := List.getElem?_of_mem hx
      have hv := vCode_ins h1 hk
      unfold linkI
      split
      · next ho =>
        have := halts_of hx ho
        simp [vIns, vInc, inB]
        rw [hlen, this]
        simp
        omega
      · exact vIns_mono hv hM.1 (by omega)
    · split at hi
      · next hh =>
        simp at hi
        subst hi
        simp [vIns, vDec, inB]
        rw [hlen, hh]
        simp
        omega
      · simp at hi
    · obtain ⟨x, hx, rfl⟩ := List.mem_map.1 hi
      obtain ⟨k, hk⟩ := List.getElem?_of_mem hx
      refine vIns_shift (vCode_ins h2 hk) hM.2.1 (by unfold firstI; split <;> omega) ?_
      rw [hlen]
      unfold firstI
      split <;> simp <;> omega
  rw [vCode, key, Bool.and_true]
  have e1 : decide (1 ≤ M ∧ M ≤ 16) = true := decide_eq_true (by omega)
  rw [e1, Bool.true_and]
  exact decide_eq_decide.2 ⟨fun h => h.2, fun h => ⟨by omega, h⟩⟩
end Go.Proofs.Ytgpcgjdnehlaeaa

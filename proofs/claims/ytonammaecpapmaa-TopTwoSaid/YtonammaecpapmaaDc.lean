/- The machine with two registers, plainly. -/
import Derived.Test.YtonammaecpapmaaDb
namespace Go.Proofs.Ytonammaecpapmaa.Pp
open Cn

def okV (N : Nat) (i : InstS) : Prop := vIns 2 N (insOf i) = true
theorem okV_inc {N : Nat} {r nx : Int} (h1 : 0 ≤ r ∧ r < 2) (h2 : 0 ≤ nx ∧ nx < N) : okV N ⟨0, r, nx, 0⟩ := by
  simp [okV, insOf, vIns, vInc, inB, h1, h2]
theorem okV_dec {N : Nat} {r nx zr : Int} (h1 : 0 ≤ r ∧ r < 2) (h2 : 0 ≤ nx ∧ nx < N) (h3 : 0 ≤ zr ∧ zr < N) : okV N ⟨1, r, nx, zr⟩ := by
  simp [okV, insOf, vIns, vDec, inB, h1, h2, h3]
theorem okV_halt {N : Nat} : okV N ⟨2, 0, 0, 0⟩ := by simp [okV, insOf, vIns, vHalt]
theorem addL_ok {N : Nat} {r nx : Int} (h1 : 0 ≤ r ∧ r < 2) (h2 : 0 ≤ nx ∧ nx < N) : ∀ (q s : Nat), s + q ≤ N → ∀ i ∈ addL s r nx q, okV N i
  | 0, _, _, i, hi => by simp [addL] at hi
  | q + 1, s, h, i, hi => by
    rw [addL, List.mem_cons] at hi
    rcases hi with rfl | hi
    · refine okV_inc h1 ?_
      split
      · exact h2
      · omega
    · exact addL_ok h1 h2 q (s + 1) (by omega) i hi
theorem mbL_ok {N q s : Nat} {nx : Int} (hq : 1 ≤ q) (h2 : 0 ≤ nx ∧ nx < N) (h : s + 1 + q ≤ N) : ∀ i ∈ mbL s q nx, okV N i := by
  intro i hi
  rw [mbL, List.mem_cons] at hi
  rcases hi with rfl | hi
  · exact okV_dec (by decide) (by omega) h2
  · exact addL_ok (by decide) (by omega) q (s + 1) (by omega) i hi
theorem mulL_ok {N q s : Nat} {nx : Int} (hq : 1 ≤ q) (h2 : 0 ≤ nx ∧ nx < N) (h : s + (q + 4) ≤ N) : ∀ i ∈ mulL s q nx, okV N i := by
  intro i hi
  rw [mulL, List.mem_append, List.mem_append, List.mem_append, List.mem_singleton, List.mem_singleton] at hi
  rcases hi with ((rfl | hi) | rfl) | hi
  · exact okV_dec (by decide) (by omega) (by omega)
  · exact addL_ok (by decide) (by omega) q (s + 1) (by omega) i hi
  · exact okV_dec (by decide) (by omega) (by omega)
  · exact mbL_ok (Nat.le_refl _) h2 (by omega) i hi
theorem dkL_ok {N s q : Nat} : ∀ (n k : Nat), k + n ≤ q → 1 ≤ k → s + (3 * q + 4) ≤ N → ∀ i ∈ dkL s q k n, okV N i
  | 0, _, _, _, _, i, hi => by simp [dkL] at hi
  | n + 1, k, h, hk, hN, i, hi => by
    rw [dkL, List.mem_cons] at hi
    rcases hi with rfl | hi
    · exact okV_dec (by decide) (by omega) (by omega)
    · exact dkL_ok n (k + 1) (by omega) (by omega) hN i hi
theorem divL_ok {N q s : Nat} {nx zr : Int} (hq : 2 ≤ q) (h2 : 0 ≤ nx ∧ nx < N) (h3 : 0 ≤ zr ∧ zr < N) (h : s + (3 * q + 4) ≤ N) : ∀ i ∈ divL s q nx zr, okV N i := by
  intro i hi
  rw [divL, List.mem_append, List.mem_append, List.mem_append, List.mem_append, List.mem_append, List.mem_cons, List.mem_singleton] at hi
  rcases hi with (((((rfl | rfl) | hi) | hi) | hi) | hi) | hi
  · exact okV_dec (by decide) (by omega) (by omega)
  · exact okV_dec (by decide) (by omega) (by omega)
  · exact dkL_ok (q - 1) 1 (by omega) (Nat.le_refl _) h i hi
  · exact addL_ok (by decide) (by omega) 1 _ (by omega) i hi
  · exact mbL_ok (Nat.le_refl _) h2 (by omega) i hi
  · exact addL_ok (by decide) (by omega) (q - 1) _ (by omega) i hi
  · exact mbL_ok (by omega) h3 (by omega) i hi
theorem codeL_mem (pts : List Int) : ∀ (l acc : List InstS) (i : InstS), i ∈ codeL pts acc l → i ∈ acc ∨ ∃ a j, l[a]? = some j ∧ i ∈ wrI pts (acc.length + sizeL (l.take a)) j
  | [], acc, i, h => .inl h
  | y :: l, acc, i, h => by
    rw [codeL] at h
    rcases codeL_mem pts l _ i h with h | ⟨a, j, h1, h2⟩
    · rcases List.mem_append.1 h with h | h
      · exact .inl h
      · exact .inr ⟨0, y, rfl, by simpa [sizeL] using h⟩
    · refine .inr ⟨a + 1, j, by simpa using h1, ?_⟩
      rw [List.take_succ_cons, sizeL]
      rw [List.length_append, wrI_len] at h2
      rw [← Nat.add_assoc]
      exact h2
/-- The instructions of a valid machine with at most six registers. -/
theorem okI_of {R : Nat} {code : List Ins} (hv : vCode R code = true) (hR : R ≤ 6) : ∀ i ∈ code.map sOf, okI code.length i := by
  intro i hi
  obtain ⟨x, hx, rfl⟩ := List.mem_map.1 hi
  obtain ⟨k, hk⟩ := List.mem_iff_getElem?.1 hx
  have hvi := vCode_ins hv hk
  rcases vIns_op hvi with ho | ho | ho
  · have hb := vIns_inc hvi ho
    have hz : x.zr = 0 := by
      have := hvi
      simp only [vIns, ho, if_true, vInc, Bool.and_eq_true, beq_iff_eq] at this
      exact this.2
    refine .inr ⟨.inl ho, hb.1, ?_, hb.2.2.1, hb.2.2.2, ?_, ?_⟩
    · have := hb.2.1; simp only [sOf]; omega
    · simp only [sOf]; omega
    · simp only [sOf]; omega
  · have hb := vIns_dec hvi ho
    refine .inr ⟨.inr ho, hb.1, ?_, hb.2.2.1, hb.2.2.2.1, hb.2.2.2.2.1, hb.2.2.2.2.2⟩
    have := hb.2.1; simp only [sOf]; omega
  · exact .inl ho
theorem vq {R : Nat} {code : List Ins} (hv : vCode R code = true) (hR : R ≤ 6) (hs : sizeL (code.map sOf) ≤ 2000) : vCode 2 (qC (codeL (ptsL 0 (code.map sOf)) [] (code.map sOf))) = true := by
  have hlen : (qC (codeL (ptsL 0 (code.map sOf)) [] (code.map sOf))).length = sizeL (code.map sOf) := by rw [qC, List.length_map, codeL_len]; simp
  have hl : (code.map sOf).length = code.length := by simp
  have hne : 1 ≤ code.length := by
    simp only [vCode, Bool.and_eq_true, decide_eq_true_eq] at hv
    exact hv.1.2.1
  have h1 : 1 ≤ sizeL (code.map sOf) := by
    have := size_lt (p := code.map sOf) (a := 0) (b := (code.map sOf).length) (by omega) (by omega)
    rw [List.take_length] at this
    omega
  rw [vCode, hlen, Bool.and_eq_true, Bool.and_eq_true, List.all_eq_true]
  refine ⟨⟨by decide, decide_eq_true ⟨h1, hs⟩⟩, fun x hx => ?_⟩
  obtain ⟨i, hi, rfl⟩ := List.mem_map.1 hx
  rcases codeL_mem _ _ _ i hi with h | ⟨a, j, h2, h3⟩
  · simp at h
  · have ha : a < code.length := by have := (List.getElem?_eq_some_iff.1 h2).1; omega
    have hst := size_step h2
    have hmo := size_mono (code.map sOf) ((code.map sOf).length - (a + 1)) (a + 1)
    rw [show a + 1 + ((code.map sOf).length - (a + 1)) = (code.map sOf).length by omega, List.take_length] at hmo
    simp only [List.length_nil, Nat.zero_add] at h3
    have hpt : ∀ x : Int, 0 ≤ x → x < code.length → 0 ≤ (ptsL 0 (code.map sOf)).getD x.toNat 0 ∧ (ptsL 0 (code.map sOf)).getD x.toNat 0 < (sizeL (code.map sOf) : Nat) := by
      intro x h0 h1
      rw [pts_get (by omega)]
      have := size_lt (p := code.map sOf) (a := x.toNat) (b := (code.map sOf).length) (by omega) (by omega)
      rw [List.take_length] at this
      omega
    have hok := okI_of hv hR j (List.mem_of_getElem? h2)
    show okV _ i
    rcases hok with h0 | ⟨h0, r1, r2, t1, t2, z1, z2⟩
    · rw [wrI, if_neg (by omega), if_neg (by omega), List.mem_singleton] at h3
      rw [h3]; exact okV_halt
    · have hp := primeN_le (show j.reg.toNat < 6 by omega)
      rcases h0 with h0 | h0
      · rw [wrI, if_pos h0] at h3
        rw [lenI, if_pos h0] at hst
        exact mulL_ok (by omega) (hpt _ t1 t2) (by omega) i h3
      · rw [wrI, if_neg (by omega), if_pos h0] at h3
        rw [lenI, if_neg (by omega), if_pos h0] at hst
        exact divL_ok hp.1 (hpt _ t1 t2) (hpt _ z1 z2) (by omega) i h3
/-- The instruction at a point is a Halt exactly if the simulated one is. -/
theorem halt_at {code : List Ins} {a : Nat} {i : Ins} (h : code[a]? = some i) (ho : i.op = 0 ∨ i.op = 1 ∨ i.op = 2) : ∃ x, (qC (codeL (ptsL 0 (code.map sOf)) [] (code.map sOf)))[sizeL ((code.map sOf).take a)]? = some x ∧ (x.op = 2 ↔ i.op = 2) := by
  have hpi : (code.map sOf)[a]? = some (sOf i) := by rw [List.getElem?_map, h]; rfl
  have hC := code_at (ptsL 0 (code.map sOf)) hpi
  rcases ho with h0 | h0 | h0
  · rw [wrI, if_pos (by exact h0), mulL] at hC
    exact ⟨_, hC.left.left.left.head, by simp [insOf, h0]⟩
  · rw [wrI, if_neg (by rw [sOf]; simp [h0]), if_pos (by exact h0), divL] at hC
    exact ⟨_, hC.left.left.left.left.left.head, by simp [insOf, h0]⟩
  · rw [wrI, if_neg (by rw [sOf]; simp [h0]), if_neg (by rw [sOf]; simp [h0])] at hC
    exact ⟨_, hC.head, by simp [insOf, h0]⟩
theorem size40 (l : List InstS) (h : l.length ≤ 40) : sizeL l ≤ 2000 := by
  have := sizeL_le l
  omega
end Go.Proofs.Ytonammaecpapmaa.Pp

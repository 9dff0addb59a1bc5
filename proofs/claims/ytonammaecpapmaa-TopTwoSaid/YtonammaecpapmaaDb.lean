/- The machine with two registers, plainly. -/
import Derived.Test.YtonammaecpapmaaDa
import Derived.Test.YtonammaecpapmaaCl
namespace Go.Proofs.Ytonammaecpapmaa.Pp
open Cn

/-- An instruction as the writer takes it. -/
def sOf (i : Ins) : InstS := ⟨i.op, i.rg, i.nx, i.zr⟩
theorem codeL_ext (pts : List Int) : ∀ (l acc : List InstS), ∃ t, codeL pts acc l = acc ++ t
  | [], acc => ⟨[], by simp [codeL]⟩
  | i :: l, acc => by
    obtain ⟨t, h⟩ := codeL_ext pts l (acc ++ wrI pts acc.length i)
    exact ⟨wrI pts acc.length i ++ t, by rw [codeL, h, List.append_assoc]⟩
theorem split_at {α : Type} {p : List α} {a : Nat} {i : α} (h : p[a]? = some i) : p = p.take a ++ i :: p.drop (a + 1) := by
  obtain ⟨hl, rfl⟩ := List.getElem?_eq_some_iff.1 h
  rw [← List.drop_eq_getElem_cons hl, List.take_append_drop]
theorem code_at (pts : List Int) {p : List InstS} {a : Nat} {i : InstS} (h : p[a]? = some i) : CAt (qC (codeL pts [] p)) (sizeL (p.take a)) (wrI pts (sizeL (p.take a)) i) := by
  have hs := split_at h
  have e1 : (codeL pts [] (p.take a)).length = sizeL (p.take a) := by rw [codeL_len]; simp
  have e2 : codeL pts [] p = codeL pts (codeL pts [] (p.take a) ++ wrI pts (sizeL (p.take a)) i) (p.drop (a + 1)) := by
    conv => lhs; rw [hs, codeL_append, codeL]
    rw [e1]
  obtain ⟨t, ht⟩ := codeL_ext pts (p.drop (a + 1)) (codeL pts [] (p.take a) ++ wrI pts (sizeL (p.take a)) i)
  intro j k hk
  have hj := (List.getElem?_eq_some_iff.1 hk).1
  rw [e2, ht, qC, List.getElem?_map, List.append_assoc, List.getElem?_append_right (by omega), e1, Nat.add_sub_cancel_left, List.getElem?_append_left hj, hk]
  rfl
theorem pts_at : ∀ (p : List InstS) (s a : Nat), a < p.length → (ptsL s p)[a]? = some ((s + sizeL (p.take a) : Nat) : Int)
  | [], _, _, h => by simp at h
  | i :: l, s, 0, _ => by simp [ptsL, sizeL]
  | i :: l, s, a + 1, h => by
    rw [ptsL, List.getElem?_cons_succ, pts_at l (s + lenI i) a (by simpa using h), List.take_succ_cons, sizeL, Nat.add_assoc]
theorem pts_get {p : List InstS} {a : Nat} (h : a < p.length) : (ptsL 0 p).getD a 0 = (sizeL (p.take a) : Nat) := by
  rw [List.getD_eq_getElem?_getD, pts_at p 0 a h, Nat.zero_add]; rfl
theorem size_step {p : List InstS} {a : Nat} {i : InstS} (h : p[a]? = some i) : sizeL (p.take (a + 1)) = sizeL (p.take a) + lenI i := by
  rw [List.take_add_one, h, sizeL_append]; simp [sizeL]
theorem size_mono (p : List InstS) : ∀ (d a : Nat), sizeL (p.take a) ≤ sizeL (p.take (a + d)) := by
  intro d
  induction d with
  | zero => intro a; exact Nat.le_refl _
  | succ d ih =>
    intro a
    refine Nat.le_trans (ih a) ?_
    rw [show a + (d + 1) = a + d + 1 by omega, List.take_add_one, sizeL_append]
    omega
theorem size_lt {p : List InstS} {a b : Nat} (h : a < b) (hb : a < p.length) : sizeL (p.take a) < sizeL (p.take b) := by
  have h1 := size_step (List.getElem?_eq_getElem hb)
  have h2 := (lenI_le p[a]).1
  have h3 := size_mono p (b - (a + 1)) (a + 1)
  rw [show a + 1 + (b - (a + 1)) = b by omega] at h3
  omega
theorem fin_at {p : List InstS} {a : Nat} (h : a < p.length) : finP (ptsL 0 p) (sizeL (p.take a)) = true := by
  rw [finP, memB, List.contains_iff_mem]
  have := List.mem_of_getElem? (pts_at p 0 a h)
  rw [Nat.zero_add] at this
  exact this
/-- Between a point and the next one there is no point. -/
theorem fin_not {p : List InstS} {a q : Nat} {i : InstS} (h : p[a]? = some i) (h1 : sizeL (p.take a) < q) (h2 : q < sizeL (p.take a) + lenI i) : finP (ptsL 0 p) q = false := by
  rw [finP, memB, Bool.eq_false_iff]
  intro hc
  rw [List.contains_iff_mem] at hc
  obtain ⟨b, hb, he⟩ := List.getElem_of_mem hc
  rw [ptsL_len] at hb
  have h3 := pts_at p 0 b hb
  rw [List.getElem?_eq_getElem (by rw [ptsL_len]; exact hb), he, Nat.zero_add] at h3
  have h4 : q = sizeL (p.take b) := by
    have := Option.some.inj h3
    omega
  rcases Nat.lt_or_ge a b with hlt | hge
  · have h5 := size_mono p (b - (a + 1)) (a + 1)
    rw [show a + 1 + (b - (a + 1)) = b by omega, size_step h] at h5
    omega
  · have h5 := size_mono p (a - b) b
    rw [show b + (a - b) = a by omega] at h5
    omega
theorem rise_pts (p : List InstS) : riseB (sizeL p : Nat) (ptsL 0 p) = true := by
  rw [riseB, List.all_eq_true]
  intro j hj
  rw [List.mem_range, ptsL_len] at hj
  have e1 := pts_get hj
  have h1 := size_lt (p := p) (a := j) (b := p.length) hj hj
  rw [List.take_length] at h1
  rw [riseAt, e1, Bool.and_eq_true]
  refine ⟨inB_true.2 ⟨by omega, by omega⟩, ?_⟩
  cases j with
  | zero => rfl
  | succ j =>
    have e2 := pts_get (p := p) (a := j) (by omega)
    have h2 := size_lt (p := p) (a := j) (b := j + 1) (by omega) (by omega)
    rw [Nat.add_sub_cancel, e2, Bool.or_eq_true, decide_eq_true_eq]
    right; omega

theorem prodS_set : ∀ (l : List Nat) (i j x : Nat), l[j]? = some x → prodS i (l.set j (x + 1)) = primeN (i + j) * prodS i l
  | [], _, _, _, h => by simp at h
  | y :: l, i, 0, x, h => by
    simp only [List.getElem?_cons_zero, Option.some.injEq] at h
    subst h
    rw [List.set_cons_zero, prodS, prodS, Nat.pow_succ, Nat.add_zero, ← Nat.mul_assoc, Nat.mul_comm (primeN i ^ y), Nat.add_zero]
    rfl
  | y :: l, i, j + 1, x, h => by
    rw [List.set_cons_succ, prodS, prodS, prodS_set l (i + 1) j x (by simpa using h), show i + 1 + j = i + (j + 1) by omega]
    rw [Nat.mul_left_comm]
theorem prodS_no : ∀ (l : List Nat) (i j : Nat), l[j]? = some 0 → i + l.length ≤ 6 → prodS i l % primeN (i + j) ≠ 0
  | [], _, _, h, _ => by simp at h
  | y :: l, i, 0, h, hl => by
    simp only [List.getElem?_cons_zero, Option.some.injEq] at h
    subst h
    simp only [List.length_cons] at hl
    rw [prodS, Nat.pow_zero, Nat.one_mul]
    exact prod_no (by omega) l (i + 1) (by omega) (by omega)
  | y :: l, i, j + 1, h, hl => by
    simp only [List.length_cons] at hl
    have hj : j < l.length := (List.getElem?_eq_some_iff.1 (by simpa using h : l[j]? = some 0)).1
    rw [prodS, show i + (j + 1) = i + 1 + j by omega]
    have h1 : i + 1 + j < 6 := by omega
    refine mod_mul (primeN_cases h1) (pow_no (primeN_cases h1) ?_ y) (prodS_no l (i + 1) j (by simpa using h) (by omega))
    have h2 : ∀ a < 6, ∀ b < 6, a < b → primeN a % primeN b ≠ 0 := by decide
    exact h2 i (by omega) _ h1 (by omega)
theorem natL_at {l : List Int} {j : Nat} {x : Int} (h : l[j]? = some x) : (natL l)[j]? = some x.toNat := by
  rw [natL, List.getElem?_map, h]; rfl
theorem natL_set {l : List Int} {j : Nat} {x : Int} : natL (l.set j x) = (natL l).set j x.toNat := by rw [natL, natL, List.map_set]

/-- P8.1, P8.4: a step, simulated. -/
theorem sim_step {R : Nat} {code : List Ins} (hv : vCode R code = true) (hR : R ≤ 6) {a a' : Nat} {rs rs' : List Int} (hg : Cn.Good R code a rs) (hs : stp code a rs = some (some (a', rs'))) {n m : Nat} (hn : encS 0 (natL rs) 1 = some n) (hm : encS 0 (natL rs') 1 = some m) :
    ∃ k, 1 ≤ k ∧ k ≤ 100 + 100 * max n m ∧ Fin2 (qC (codeL (ptsL 0 (code.map sOf)) [] (code.map sOf))) (finP (ptsL 0 (code.map sOf))) k (sizeL ((code.map sOf).take a)) n 0 (sizeL ((code.map sOf).take a')) m 0 := by
  have hlr : (natL rs).length ≤ 6 := by rw [natL, List.length_map, hg.len]; exact hR
  obtain ⟨_, n1, n2⟩ := dec_enc hlr hn
  have en := (encS_is (natL rs) 0 1 n (by omega) hn).1
  obtain ⟨i, hi⟩ : ∃ i, code[a]? = some i := ⟨_, List.getElem?_eq_getElem hg.lt⟩
  have hg' := hg.step hv hs
  have hlr' : (natL rs').length ≤ 6 := by rw [natL, List.length_map, hg'.len]; exact hR
  obtain ⟨_, m1, m2⟩ := dec_enc hlr' hm
  have em := (encS_is (natL rs') 0 1 m (by omega) hm).1
  rw [Nat.one_mul] at en em
  have hvi := vCode_ins hv hi
  have hpi : (code.map sOf)[a]? = some (sOf i) := by rw [List.getElem?_map, hi]; rfl
  have hC := code_at (ptsL 0 (code.map sOf)) hpi
  have hl : (code.map sOf).length = code.length := by simp
  have ha' : finP (ptsL 0 (code.map sOf)) (sizeL ((code.map sOf).take a')) = true := fin_at (by rw [hl]; exact hg'.lt)
  have hf : ∀ q, sizeL ((code.map sOf).take a) < q → q < sizeL ((code.map sOf).take a) + lenI (sOf i) → finP (ptsL 0 (code.map sOf)) q = false := fun q h1 h2 => fin_not hpi h1 h2
  obtain ⟨op, rg, nx, zr⟩ := i
  unfold stp at hs
  rw [hi] at hs
  simp only at hs
  rcases vIns_op hvi with ho | ho | ho
  · have hb := vIns_inc hvi ho
    simp only at ho hb
    subst ho
    rw [if_neg (by decide), if_pos rfl] at hs
    obtain ⟨j, rfl⟩ := Int.eq_ofNat_of_zero_le hb.1
    obtain ⟨t, rfl⟩ := Int.eq_ofNat_of_zero_le hb.2.2.1
    simp only [Int.toNat_natCast] at hs
    obtain ⟨x, hx⟩ : ∃ x, rs[j]? = some x := ⟨_, List.getElem?_eq_getElem (by rw [hg.len]; omega)⟩
    have hx0 := hg.ok x (List.mem_of_getElem? hx)
    obtain ⟨X, rfl⟩ := Int.eq_ofNat_of_zero_le hx0.1
    rw [show rs.getD j 0 = (X : Int) by rw [List.getD_eq_getElem?_getD, hx]; rfl] at hs
    split at hs
    · cases hs
    · simp only [Option.some.injEq, Prod.mk.injEq] at hs
      obtain ⟨rfl, rfl⟩ := hs
      have hmul : m = primeN j * n := by
        rw [em, en, natL_set, show ((X : Int) + 1).toNat = X + 1 by omega, prodS_set _ 0 j X (by simpa using natL_at hx), Nat.zero_add]
      have hp := primeN_pos j
      have e1 : wrI (ptsL 0 (code.map sOf)) (sizeL ((code.map sOf).take a)) (sOf ⟨0, (j : Int), (t : Int), zr⟩) = mulL (sizeL ((code.map sOf).take a)) (primeN j) ((sizeL ((code.map sOf).take t) : Nat) : Int) := by
        rw [wrI, sOf, if_pos rfl]
        simp only [Int.toNat_natCast]
        rw [pts_get (by rw [hl]; exact hg'.lt)]
      have e2 : lenI (sOf ⟨0, (j : Int), (t : Int), zr⟩) = primeN j + 4 := by rw [lenI, sOf, if_pos rfl]; simp
      rw [e1] at hC
      rw [e2] at hf
      rw [hmul]
      exact ⟨_, by omega, by omega, multiply2 hp hC hf ha' n n1 (by omega)⟩
  · have hb := vIns_dec hvi ho
    simp only at ho hb
    subst ho
    rw [if_neg (by decide), if_neg (by decide)] at hs
    obtain ⟨j, rfl⟩ := Int.eq_ofNat_of_zero_le hb.1
    obtain ⟨t, rfl⟩ := Int.eq_ofNat_of_zero_le hb.2.2.1
    obtain ⟨z, rfl⟩ := Int.eq_ofNat_of_zero_le hb.2.2.2.2.1
    simp only [Int.toNat_natCast] at hs
    obtain ⟨x, hx⟩ : ∃ x, rs[j]? = some x := ⟨_, List.getElem?_eq_getElem (by rw [hg.len]; omega)⟩
    have hx0 := hg.ok x (List.mem_of_getElem? hx)
    obtain ⟨X, rfl⟩ := Int.eq_ofNat_of_zero_le hx0.1
    rw [show rs.getD j 0 = (X : Int) by rw [List.getD_eq_getElem?_getD, hx]; rfl] at hs
    have hp := primeN_le (show j < 6 by omega)
    have ht : finP (ptsL 0 (code.map sOf)) (sizeL ((code.map sOf).take t)) = true := fin_at (by rw [hl]; omega)
    have hz : finP (ptsL 0 (code.map sOf)) (sizeL ((code.map sOf).take z)) = true := fin_at (by rw [hl]; omega)
    have e1 : wrI (ptsL 0 (code.map sOf)) (sizeL ((code.map sOf).take a)) (sOf ⟨1, (j : Int), (t : Int), (z : Int)⟩) = divL (sizeL ((code.map sOf).take a)) (primeN j) ((sizeL ((code.map sOf).take t) : Nat) : Int) ((sizeL ((code.map sOf).take z) : Nat) : Int) := by
      rw [wrI, sOf, if_neg (show ¬ (1 : Int) = 0 by decide), if_pos rfl]
      simp only [Int.toNat_natCast]
      rw [pts_get (by rw [hl]; omega), pts_get (by rw [hl]; omega)]
    have e2 : lenI (sOf ⟨1, (j : Int), (t : Int), (z : Int)⟩) = 3 * primeN j + 4 := by rw [lenI, sOf, if_neg (show ¬ (1 : Int) = 0 by decide), if_pos rfl]; simp
    rw [e1] at hC
    rw [e2] at hf
    obtain ⟨d1, d2⟩ := divide2 hp.1 hC hf ht hz n n1 n2
    split at hs
    · next h0 =>
      simp only [Option.some.injEq, Prod.mk.injEq] at hs
      obtain ⟨rfl, rfl⟩ := hs
      have hX : X = 0 := by omega
      subst hX
      have hno := prodS_no (natL rs) 0 j (by simpa using natL_at hx) (by omega)
      rw [Nat.zero_add, ← en] at hno
      obtain rfl : m = n := by rw [em, en]
      obtain ⟨k, k1, k2, k3⟩ := d2 hno
      exact ⟨k, k1, by omega, k3⟩
    · next h0 =>
      simp only [Option.some.injEq, Prod.mk.injEq] at hs
      obtain ⟨rfl, rfl⟩ := hs
      obtain ⟨Y, rfl⟩ : ∃ Y, X = Y + 1 := ⟨X - 1, by omega⟩
      have hrs : natL rs = (natL (rs.set j (((Y + 1 : Nat) : Int) - 1))).set j (Y + 1) := by
        have h1 : (natL rs)[j]? = some (Y + 1) := by simpa using natL_at hx
        rw [natL_set, List.set_set]
        refine List.ext_getElem? fun q => ?_
        rw [List.getElem?_set]
        split
        · next e => subst e; rw [if_pos (List.getElem?_eq_some_iff.1 h1).1, h1]
        · rfl
      have hmul : n = primeN j * m := by
        rw [en, em, hrs, prodS_set _ 0 j Y ?_, Nat.zero_add]
        · rw [natL_set, List.getElem?_set_self (by rw [natL, List.length_map, hg.len]; omega), show (((Y + 1 : Nat) : Int) - 1).toNat = Y by omega]
      have h0 : n % primeN j = 0 := by rw [hmul, Nat.mul_mod_right]
      have h1 : n / primeN j = m := by rw [hmul, Nat.mul_div_cancel_left _ (by omega)]
      obtain ⟨k, k1, k2, k3⟩ := d1 h0
      rw [h1] at k3
      exact ⟨k, k1, by omega, k3⟩
  · simp only at ho
    subst ho
    rw [if_pos rfl] at hs
    cases hs
end Go.Proofs.Ytonammaecpapmaa.Pp

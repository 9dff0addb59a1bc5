/- The plain mathematics of renamed registers. -/
import Derived.Test.YtgpcgjdnehlaeaaN
namespace Go.Proofs.Ytgpcgjdnehlaeaa

def renI (tos : List Int) (i : Ins) : Ins := if i.op = 2 then i else ⟨i.op, tos.getD i.rg.toNat 0, i.nx, i.zr⟩

structure NamesOk (R : Nat) (tos : List Int) (free : Nat) : Prop where
  len : tos.length = R
  dom : ∀ j, j < R → 0 ≤ tos.getD j 0 ∧ tos.getD j 0 ≤ R
  inj : ∀ i j, i < R → j < R → tos.getD i 0 = tos.getD j 0 → i = j
  fle : free ≤ R
  fne : ∀ j, j < R → tos.getD j 0 ≠ (free : Int)

structure Ren (R : Nat) (tos : List Int) (free : Nat) (extra : Int) (rs rs' : List Int) : Prop where
  len : rs.length = R
  len' : rs'.length = R + 1
  at_ : ∀ j, j < R → rs'.getD (tos.getD j 0).toNat 0 = rs.getD j 0
  ex : rs'.getD free 0 = extra

theorem getD_set {l : List Int} {i j : Nat} {y : Int} (hi : i < l.length) : (l.set i y).getD j 0 = if j = i then y else l.getD j 0 := by
  rw [List.getD_eq_getElem?_getD, List.getElem?_set]
  by_cases h : i = j
  · subst h
    simp [hi]
  · rw [if_neg h, if_neg (fun e => h e.symm), List.getD_eq_getElem?_getD]

theorem Ren.set_ {R free : Nat} {tos : List Int} {extra : Int} {rs rs' : List Int} (h : Ren R tos free extra rs rs') (hn : NamesOk R tos free) {j : Nat} (hj : j < R) (y : Int) :
    Ren R tos free extra (rs.set j y) (rs'.set (tos.getD j 0).toNat y) := by
  have hd := hn.dom j hj
  have hl' : (tos.getD j 0).toNat < rs'.length := by rw [h.len']; omega
  refine ⟨by simpa using h.len, by simpa using h.len', fun i hi => ?_, ?_⟩
  · rw [getD_set hl', getD_set (by rw [h.len]; exact hj)]
    by_cases hij : i = j
    · subst hij; simp
    · have hdi := hn.dom i hi
      have : ¬ (tos.getD i 0).toNat = (tos.getD j 0).toNat := fun e => hij (hn.inj i j hi hj (by omega))
      rw [if_neg this, if_neg hij]
      exact h.at_ i hi
  · rw [getD_set hl']
    have := hn.fne j hj
    rw [if_neg (by omega)]
    exact h.ex

section
variable {R free a : Nat} {tos : List Int} {extra : Int} {code : List Ins} {rs rs' : List Int}
theorem ren_get {i : Ins} (h : code[a]? = some i) : (code.map (renI tos))[a]? = some (renI tos i) := by simp [h]

theorem ren_stp (hv : vCode R code = true) (hg : Good R code a rs) (hn : NamesOk R tos free) (hr : Ren R tos free extra rs rs') :
    match stp code a rs with
    | none => stp (code.map (renI tos)) a rs' = none
    | some none => stp (code.map (renI tos)) a rs' = some none
    | some (some s) => ∃ r', stp (code.map (renI tos)) a rs' = some (some (s.1, r')) ∧ Ren R tos free extra s.2 r' := by
  obtain ⟨i, hi⟩ : ∃ i, code[a]? = some i := ⟨_, List.getElem?_eq_getElem hg.lt⟩
  have hvi := vCode_ins hv hi
  have hi' := ren_get (tos := tos) hi
  have hlen := hg.len
  rcases vIns_op hvi with ho | ho | ho
  · have hb := vIns_inc hvi ho
    have hj : i.rg.toNat < R := by omega
    have hx := hr.at_ _ hj
    have hs := hr.set_ hn hj (rs.getD i.rg.toNat 0 + 1)
    rw [show renI tos i = ⟨0, tos.getD i.rg.toNat 0, i.nx, i.zr⟩ by simp [renI, ho]] at hi'
    generalize tos.getD i.rg.toNat 0 = y at hi' hx hs
    unfold stp
    rw [hi, hi']
    dsimp only
    rw [ho, hx]
    generalize rs.getD i.rg.toNat 0 = v at hs
    by_cases hbig : v = 1152921504606846976
    · simp [hbig]
    · simp [hbig]
      exact hs
  · have hb := vIns_dec hvi ho
    have hj : i.rg.toNat < R := by omega
    have hx := hr.at_ _ hj
    have hs := hr.set_ hn hj (rs.getD i.rg.toNat 0 - 1)
    rw [show renI tos i = ⟨1, tos.getD i.rg.toNat 0, i.nx, i.zr⟩ by simp [renI, ho]] at hi'
    generalize tos.getD i.rg.toNat 0 = y at hi' hx hs
    unfold stp
    rw [hi, hi']
    dsimp only
    rw [ho, hx]
    generalize rs.getD i.rg.toNat 0 = v at hs
    by_cases hbig : v = 0
    · simp [hbig]
      exact hr
    · simp [hbig]
      exact hs
  · simp [stp, hi, hi', renI, ho]

theorem ren_walk {n : Nat} (hv : vCode R code = true) (hg : Good R code a rs) (hn : NamesOk R tos free) (hr : Ren R tos free extra rs rs') :
    match walkC code ff n a rs with
    | none => walkC (code.map (renI tos)) ff n a rs' = none
    | some o => ∃ r', walkC (code.map (renI tos)) ff n a rs' = some ⟨o.at_, r', o.k, o.met⟩ ∧ Ren R tos free extra o.rs r' := by
  induction n generalizing a rs rs' with
  | zero => simp [walkC]; exact hr
  | succ n ih =>
    have hs := ren_stp hv hg hn hr
    cases h : stp code a rs with
    | none => rw [h] at hs; simp only at hs; simp [walkC, h, hs]; exact hr
    | some s =>
      cases s with
      | none => rw [h] at hs; simp only at hs; simp [walkC, h, hs]
      | some s =>
        obtain ⟨a', r⟩ := s
        rw [h] at hs
        simp only at hs
        obtain ⟨r', h', hr'⟩ := hs
        have hg' := hg.step hv h
        have := ih hg' hr'
        simp only [walkC, h, h', ff]
        cases hw : walkC code ff n a' r with
        | none => rw [hw] at this; simp only at this; simp [this]
        | some o =>
          rw [hw] at this
          simp only at this
          obtain ⟨r2, e2, hr2⟩ := this
          simp [e2]
          exact hr2
end

/-- The contents under the new names, behind the first k. -/
def putL (R : Nat) (tos rs : List Int) : Nat → List Int
  | 0 => List.replicate (R + 1) 0
  | k + 1 => (putL R tos rs k).set (tos.getD k 0).toNat (rs.getD k 0)
theorem putL_len {R : Nat} {tos rs : List Int} (k : Nat) : (putL R tos rs k).length = R + 1 := by
  induction k with
  | zero => simp [putL]
  | succ k ih => simp [putL, ih]
theorem putL_ok {R : Nat} {tos rs : List Int} (hr : ∀ x ∈ rs, 0 ≤ x ∧ x ≤ 1152921504606846976) (k : Nat) : ∀ x ∈ putL R tos rs k, 0 ≤ x ∧ x ≤ 1152921504606846976 := by
  induction k with
  | zero => intro x hx; simp [putL] at hx; omega
  | succ k ih =>
    intro x hx
    rcases mem_set hx with rfl | hx
    · rw [List.getD_eq_getElem?_getD]
      cases h : rs[k]? with
      | none => simp
      | some y => simpa using hr y (List.mem_of_getElem? h)
    · exact ih x hx

/-- The first k names are different numbers from 0 to R. -/
def Named (R : Nat) (tos : List Int) (k : Nat) : Prop := (∀ j, j < k → 0 ≤ tos.getD j 0 ∧ tos.getD j 0 ≤ R) ∧ ∀ i j, i < k → j < k → tos.getD i 0 = tos.getD j 0 → i = j
theorem named_zero (R : Nat) (tos : List Int) : Named R tos 0 := ⟨fun j h => by omega, fun i j h => by omega⟩
theorem mem_take_iff {l : List Int} {k : Nat} {x : Int} (hk : k ≤ l.length) : memB x (l.take k) = true ↔ ∃ j, j < k ∧ l.getD j 0 = x := by
  simp only [memB, List.contains_iff_mem]
  constructor
  · intro hy
    obtain ⟨j, hj, rfl⟩ := List.mem_iff_getElem.1 hy
    simp at hj
    refine ⟨j, by omega, ?_⟩
    rw [List.getD_eq_getElem?_getD, List.getElem?_eq_getElem (by omega)]
    simp
  · rintro ⟨j, hj, rfl⟩
    rw [List.getD_eq_getElem?_getD, List.getElem?_eq_getElem (by omega)]
    refine List.mem_iff_getElem.2 ⟨j, by simp; omega, by simp⟩
theorem named_step {R k : Nat} {tos : List Int} (h : Named R tos k) (hk : k < tos.length) (h0 : 0 ≤ tos.getD k 0) (h1 : tos.getD k 0 ≤ R) (hm : memB (tos.getD k 0) (tos.take k) = false) : Named R tos (k + 1) := by
  have hne : ∀ j, j < k → tos.getD j 0 ≠ tos.getD k 0 := fun j hj e => by
    have := (mem_take_iff (by omega : k ≤ tos.length)).2 ⟨j, hj, e⟩
    rw [hm] at this
    cases this
  refine ⟨fun j hj => ?_, fun i j hi hj e => ?_⟩
  · by_cases hjk : j = k
    · subst hjk; exact ⟨h0, h1⟩
    · exact h.1 j (by omega)
  · by_cases hik : i = k
    · by_cases hjk : j = k
      · omega
      · subst hik; exact absurd e.symm (hne j (by omega))
    · by_cases hjk : j = k
      · subst hjk; exact absurd e (hne i (by omega))
      · exact h.2 i j (by omega) (by omega) e
theorem putL_get {R k : Nat} {tos rs : List Int} (h : Named R tos k) : ∀ j, j < k → (putL R tos rs k).getD (tos.getD j 0).toNat 0 = rs.getD j 0 := by
  induction k with
  | zero => intro j hj; omega
  | succ k ih =>
    intro j hj
    have hk := h.1 k (by omega)
    rw [putL, getD_set (by rw [putL_len]; omega)]
    by_cases hjk : j = k
    · subst hjk; simp
    · have hj' := h.1 j hj
      have : ¬ (tos.getD j 0).toNat = (tos.getD k 0).toNat := fun e => hjk (h.2 j k hj (by omega) (by omega))
      rw [if_neg this]
      exact ih ⟨fun i hi => h.1 i (by omega), fun i j hi hj => h.2 i j (by omega) (by omega)⟩ j (by omega)

theorem many_of_all (n : Nat) (l : List Int) (h : ∀ i : Nat, i < n → (i : Int) ∈ l) : n ≤ l.length := by
  induction n generalizing l with
  | zero => omega
  | succ n ih =>
    have hn := h n (by omega)
    have := ih (l.erase (n : Int)) (fun i hi => (List.mem_erase_of_ne (by omega)).2 (h i (by omega)))
    rw [List.length_erase_of_mem hn] at this
    have : 0 < l.length := List.length_pos_of_mem hn
    omega
theorem memB_iff {x : Int} {l : List Int} : memB x l = true ↔ x ∈ l := by simp [memB]
theorem free_ex {R : Nat} {tos : List Int} (hl : tos.length = R) : ∃ f : Nat, f ≤ R ∧ memB (f : Int) tos = false := by
  by_cases h : ∃ f : Nat, f ≤ R ∧ memB (f : Int) tos = false
  · exact h
  · exfalso
    have := many_of_all (R + 1) tos fun i hi => by
      rw [← memB_iff]
      cases hm : memB (i : Int) tos with
      | true => rfl
      | false => exact absurd ⟨i, by omega, hm⟩ h
    omega

theorem names_ok {R free : Nat} {tos : List Int} (hl : tos.length = R) (h : Named R tos R) (hf : free ≤ R) (hm : memB (free : Int) tos = false) : NamesOk R tos free :=
  ⟨hl, h.1, h.2, hf, fun j hj e => by
    have : memB (free : Int) (tos.take R) = true := (mem_take_iff (by omega)).2 ⟨j, hj, e⟩
    rw [List.take_of_length_le (by omega), hm] at this
    cases this⟩
theorem put_ren {R free : Nat} {tos rs : List Int} (hn : NamesOk R tos free) (hr : rs.length = R) (extra : Int) : Ren R tos free extra rs ((putL R tos rs R).set free extra) := by
  have hl : free < (putL R tos rs R).length := by have := hn.fle; rw [putL_len]; omega
  refine ⟨hr, by simp [putL_len], fun j hj => ?_, by rw [getD_set hl]; simp⟩
  have h1 := hn.dom j hj
  have h2 := hn.fne j hj
  rw [getD_set hl, if_neg (by omega)]
  exact putL_get ⟨hn.dom, hn.inj⟩ j hj

theorem ren_vIns {R : Nat} {n : Int} {tos : List Int} {free : Nat} (hn : NamesOk R tos free) {i : Ins} (h : vIns R n i = true) : vIns ((R : Int) + 1) n (renI tos i) = true := by
  rcases vIns_op h with ho | ho | ho
  · have hb := vIns_inc h ho
    have hd := hn.dom i.rg.toNat (by omega)
    simp only [renI, ho, vIns, vInc]
    generalize tos.getD i.rg.toNat 0 = y at hd ⊢
    simp [vIns, vInc, ho] at h
    simp [inB] at h ⊢
    omega
  · have hb := vIns_dec h ho
    have hd := hn.dom i.rg.toNat (by omega)
    simp only [renI, ho, vIns, vDec]
    generalize tos.getD i.rg.toNat 0 = y at hd ⊢
    simp [vIns, vDec, ho] at h
    simp [inB] at h ⊢
    omega
  · simp [vIns, ho] at h
    simp [renI, ho, vIns, h]

theorem ren_fits {R free : Nat} {at_ : Int} {tos rs rs' : List Int} {code : List Ins} {extra : Int} (hn : NamesOk R tos free) (hR : R < 16) (hf : fitsB R code at_ rs = true) (hr : Ren R tos free extra rs rs') (hok : ∀ x ∈ rs', 0 ≤ x ∧ x ≤ 1152921504606846976) :
    fitsB ((R : Int) + 1) (code.map (renI tos)) at_ rs' = true := by
  simp only [fitsB, vCode, Bool.and_eq_true, decide_eq_true_eq, List.all_eq_true, inB_true] at hf ⊢
  obtain ⟨⟨⟨⟨⟨h1, h2⟩, h3⟩, h4⟩, h5⟩, h6⟩ := hf
  refine ⟨⟨⟨⟨⟨by omega, by simpa using h2⟩, ?_⟩, by simpa using h4⟩, by rw [hr.len']; simp⟩, fun x hx => by have := hok x hx; simp [okR]; omega⟩
  intro i hi
  simp only [List.mem_map] at hi
  obtain ⟨j, hj, rfl⟩ := hi
  have := ren_vIns hn (h3 j hj)
  simpa using this

/-- P6.3, P6.4. -/
theorem names_run {R free : Nat} {at_ n : Int} {tos rs rs' : List Int} {code : List Ins} {extra : Int} (hn : NamesOk R tos free) (hR : R < 16) (hf : fitsB R code at_ rs = true) (hr : Ren R tos free extra rs rs') (hok : ∀ x ∈ rs', 0 ≤ x ∧ x ≤ 1152921504606846976)
    (h0 : 0 ≤ n) (h1 : n ≤ 2000) :
    ((runS R code at_ rs n).err = 0 ∧ ∃ r', runS ((R : Int) + 1) (code.map (renI tos)) at_ rs' n = ⟨(runS R code at_ rs n).at_, r', (runS R code at_ rs n).k, 0⟩ ∧ Ren R tos free extra (runS R code at_ rs n).rs r') ∨
    (runS R code at_ rs n = ⟨0, [], 0, 4⟩ ∧ runS ((R : Int) + 1) (code.map (renI tos)) at_ rs' n = ⟨0, [], 0, 4⟩) := by
  have hf' := ren_fits hn hR hf hr hok
  rw [runS_eq hf h0 (by omega), runS_eq hf' h0 (by omega)]
  obtain ⟨hv, hg, _, _⟩ := fitsB_good hf
  simp only [Int.toNat_natCast] at hg
  have := ren_walk (n := n.toNat) hv hg hn hr
  cases hw : walkC code ff n.toNat at_.toNat rs with
  | none => rw [hw] at this; simp only at this; rw [this]; exact .inr ⟨rfl, rfl⟩
  | some o =>
    rw [hw] at this
    simp only at this
    obtain ⟨r', e, h⟩ := this
    rw [e]
    exact .inl ⟨rfl, r', rfl, h⟩
end Go.Proofs.Ytgpcgjdnehlaeaa

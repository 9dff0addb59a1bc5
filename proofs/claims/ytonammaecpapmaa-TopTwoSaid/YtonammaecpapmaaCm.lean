/- The plain mathematics of runs: a run of n + k steps, runs that end at points. -/
import Derived.Test.YtonammaecpapmaaCj
import Derived.Test.YtonammaecpapmaaCl
namespace Go.Proofs.Ytonammaecpapmaa.Cn

def ff : Nat → Bool := fun _ => false

section
variable {code : List Ins} {fin : Nat → Bool}

theorem walk_add {n k : Nat} {a : Nat} {rs : List Int} {o : Out} (h : walkC code ff n a rs = some o) : o.met = false ∧ o.k ≤ n ∧ walkC code ff (n + k) a rs = bump o.k (walkC code ff k o.at_ o.rs) := by
  induction n generalizing a rs o with
  | zero =>
    simp [walkC] at h
    subst h
    simp [bump_zero]
  | succ n ih =>
    rw [walkC] at h
    rw [show n + 1 + k = (n + k) + 1 by omega, walkC]
    cases hs : stp code a rs with
    | none =>
      rw [hs] at h
      simp at h
      subst h
      refine ⟨rfl, by simp, ?_⟩
      cases k with
      | zero => simp [walkC, bump]
      | succ k => simp [walkC, hs, bump]
    | some s =>
      cases s with
      | none => rw [hs] at h; simp at h
      | some s =>
        rw [hs] at h
        simp [ff] at h
        obtain ⟨o1, h1, rfl⟩ := h
        obtain ⟨hm, hk, he⟩ := ih h1
        refine ⟨hm, by simp; omega, ?_⟩
        simp only [ff, Bool.false_eq_true, if_false]
        rw [he]
        cases walkC code ff k o1.at_ o1.rs <;> simp [bump]
        omega

theorem walk_none_add {n k a : Nat} {rs : List Int} (h : walkC code ff n a rs = none) : walkC code ff (n + k) a rs = none := by
  induction n generalizing a rs with
  | zero => simp [walkC] at h
  | succ n ih =>
    rw [walkC] at h
    rw [show n + 1 + k = (n + k) + 1 by omega, walkC]
    cases hs : stp code a rs with
    | none => rw [hs] at h; simp at h
    | some s =>
      cases s with
      | none => rfl
      | some s =>
        rw [hs] at h
        simp [ff] at h ⊢
        exact ih h

theorem walk_good {R n a : Nat} {rs : List Int} {o : Out} (hv : vCode R code = true) (hg : Good R code a rs) (h : walkC code fin n a rs = some o) : Good R code o.at_ o.rs := by
  induction n generalizing a rs o with
  | zero => simp [walkC] at h; subst h; exact hg
  | succ n ih =>
    rw [walkC] at h
    cases hs : stp code a rs with
    | none => rw [hs] at h; simp at h; subst h; exact hg
    | some s =>
      cases s with
      | none => rw [hs] at h; simp at h
      | some s =>
        have hg' := hg.step hv (a' := s.1) (rs' := s.2) hs
        rw [hs] at h
        by_cases hf : fin s.1 = true
        · simp [hf] at h; subst h; exact hg'
        · simp [hf] at h
          obtain ⟨o1, h1, rfl⟩ := h
          have := ih (o := o1) hg' h1
          exact ⟨this.lt, this.len, this.ok⟩

/-- Where a run to a point fails, so does the run. -/
theorem until_none {n a : Nat} {rs : List Int} (h : walkC code fin n a rs = none) : walkC code ff n a rs = none := by
  induction n generalizing a rs with
  | zero => simp [walkC] at h
  | succ n ih =>
    rw [walkC] at h ⊢
    cases hs : stp code a rs with
    | none => rw [hs] at h; simp at h
    | some s =>
      cases s with
      | none => rfl
      | some s =>
        rw [hs] at h
        by_cases hf : fin s.1 = true
        · simp [hf] at h
        · simp [hf] at h
          simp [ff]
          exact ih h

theorem until_met {n a : Nat} {rs : List Int} {o : Out} (h : walkC code fin n a rs = some o) (hm : o.met = true) :
    1 ≤ o.k ∧ o.k ≤ n ∧ fin o.at_ = true ∧ walkC code ff o.k a rs = some ⟨o.at_, o.rs, o.k, false⟩ ∧
      ∀ q, 1 ≤ q → q < o.k → ∃ a' r', walkC code ff q a rs = some ⟨a', r', q, false⟩ ∧ fin a' = false := by
  induction n generalizing a rs o with
  | zero => simp [walkC] at h; subst h; simp at hm
  | succ n ih =>
    rw [walkC] at h
    cases hs : stp code a rs with
    | none => rw [hs] at h; simp at h; subst h; simp at hm
    | some s =>
      cases s with
      | none => rw [hs] at h; simp at h
      | some s =>
        rw [hs] at h
        by_cases hf : fin s.1 = true
        · simp [hf] at h
          subst h
          refine ⟨Nat.le_refl _, by simp, hf, by simp [walkC, hs, ff], fun q h1 h2 => by simp at h2; omega⟩
        · simp [hf] at h
          obtain ⟨o1, h1, rfl⟩ := h
          obtain ⟨k1, k2, k3, k4, k5⟩ := ih h1 hm
          refine ⟨by simp, by simp; omega, k3, by simp [walkC, hs, ff] at k4 ⊢; simp [k4], fun q q1 q2 => ?_⟩
          obtain ⟨q', rfl⟩ : ∃ q', q = q' + 1 := ⟨q - 1, by omega⟩
          cases q' with
          | zero => exact ⟨s.1, s.2, by simp [walkC, hs, ff], by simpa using hf⟩
          | succ q' =>
            obtain ⟨a', r', e1, e2⟩ := k5 (q' + 1) (by omega) (by simp at q2; omega)
            exact ⟨a', r', by rw [walkC, hs]; simp only [ff, Bool.false_eq_true, if_false]; rw [e1]; rfl, e2⟩
end

theorem good_fits {R : Nat} {code : List Ins} {a : Nat} {rs : List Int} (hv : vCode R code = true) (h : Good R code a rs) : fitsB R code a rs = true := by
  have := h.lt
  simp only [fitsB, hv, h.len, Bool.and_eq_true, decide_eq_true_eq, List.all_eq_true, inB_true]
  refine ⟨⟨⟨trivial, by omega, by omega⟩, trivial⟩, fun x hx => ?_⟩
  have := h.ok x hx
  simp [okR, this.1, this.2]

section
variable {R at_ : Int} {code : List Ins} {rs : List Int}

theorem runS_eq {n : Int} (hf : fitsB R code at_ rs = true) (h0 : 0 ≤ n) (h1 : n ≤ 1000000) : runS R code at_ rs n = resOf (walkC code ff n.toNat at_.toNat rs) := by
  have : ¬ (n < 0 ∨ 1000000 < n) := by omega
  rw [runS, hf, if_neg (by simp), if_neg this]
  rfl

/-- P6.1: a run of n + k steps is a run of n steps and then one of k steps. -/
theorem parts_err {n k : Int} (h0 : 0 ≤ n) (h1 : 0 ≤ k) (h2 : n + k ≤ 2000) (h : (runS R code at_ rs n).err ≠ 0) : (runS R code at_ rs (n + k)).err = (runS R code at_ rs n).err := by
  cases hf : fitsB R code at_ rs
  · simp [runS, hf]
  · rw [runS_eq hf h0 (by omega)] at h ⊢
    rw [runS_eq hf (by omega) (by omega), show (n + k).toNat = n.toNat + k.toNat by omega]
    cases hw : walkC code ff n.toNat at_.toNat rs with
    | none => rw [walk_none_add hw]
    | some o => rw [hw] at h; simp [resOf] at h

theorem parts_ok {n k : Int} (h0 : 0 ≤ n) (h1 : 0 ≤ k) (h2 : n + k ≤ 2000) (h : (runS R code at_ rs n).err = 0) :
    (runS R code at_ rs (n + k)).err = (runS R code (runS R code at_ rs n).at_ (runS R code at_ rs n).rs k).err ∧
    sameB (runS R code at_ rs (n + k)).at_ (runS R code at_ rs (n + k)).rs (runS R code (runS R code at_ rs n).at_ (runS R code at_ rs n).rs k).at_ (runS R code (runS R code at_ rs n).at_ (runS R code at_ rs n).rs k).rs = true ∧
    ((runS R code at_ rs (n + k)).err = 0 → (runS R code at_ rs (n + k)).k = (runS R code at_ rs n).k + (runS R code (runS R code at_ rs n).at_ (runS R code at_ rs n).rs k).k) := by
  cases hf : fitsB R code at_ rs
  · simp [runS, hf] at h
  · obtain ⟨hv, hg, hR, hat⟩ := fitsB_good hf
    rw [runS_eq hf (n := n + k) (by omega) (by omega), show (n + k).toNat = n.toNat + k.toNat by omega]
    rw [runS_eq hf h0 (by omega)] at h ⊢
    cases hw : walkC code ff n.toNat at_.toNat rs with
    | none => rw [hw] at h; simp [resOf] at h
    | some o =>
      obtain ⟨_, _, he⟩ := walk_add (k := k.toNat) hw
      have hg' := walk_good (fin := ff) (by rw [hR]; exact hv) hg hw
      have hf' := good_fits (by rw [hR]; exact hv) hg'
      rw [hR] at hf'
      rw [he]
      simp only [resOf]
      rw [runS_eq hf' h1 (by omega), Int.toNat_natCast]
      cases walkC code ff k.toNat o.at_ o.rs with
      | none => simp [bump, resOf, sameB]
      | some o2 => simp [bump, resOf, sameB]

/-- P6.5 -/
theorem until_err {n : Int} {pts : List Int} (h0 : 0 ≤ n) (h1 : n ≤ 2000) (h : (runS R code at_ rs n).err = 0) (hu : (untilS R code at_ rs pts n).err ≠ 0) : (untilS R code at_ rs pts n).err = 6 ∨ (untilS R code at_ rs pts n).err = 2 := by
  cases hf : fitsB R code at_ rs
  · simp [runS, hf] at h
  · rw [runS_eq hf h0 (by omega)] at h
    rw [untilS, hf, if_neg (by simp)] at hu ⊢
    by_cases hc : n < 1 ∨ 1000000 < n ∨ riseB code.length pts = false
    · rw [if_pos hc]; exact .inr rfl
    · rw [if_neg hc] at hu ⊢
      cases hw : walkC code (finP pts) n.toNat at_.toNat rs with
      | none => rw [until_none hw] at h; simp [resOf] at h
      | some o =>
        rw [hw] at hu
        by_cases hm : o.met = true
        · simp [untilR, hm] at hu
        · simp [untilR, hm]

/-- A step is a run of one step. -/
theorem stepS_of {a : Nat} {a' : Nat} {r r' : List Int} (hv : vCode R code = true) (hg : Good R.toNat code a r) (hs : stp code a r = some (some (a', r'))) : stepS R code a r = ⟨a', r', 1, 0⟩ := by
  have hR := vCode_reg hv
  have hf := good_fits (R := R.toNat) (by rw [Int.toNat_of_nonneg (by omega)]; exact hv) hg
  rw [Int.toNat_of_nonneg (by omega)] at hf
  rw [stepS, hf, if_neg (by simp), Int.toNat_natCast, hs, if_neg (by simp), runS_eq hf (by omega) (by omega), Int.toNat_natCast]
  simp [walkC, hs, ff, resOf]

structure Chain (R : Int) (code : List Ins) (at_ : Int) (rs pts : List Int) (t : Nat) (f : Nat → Int × List Int) : Prop where
  zero : f 0 = (at_, rs)
  step : ∀ q, 1 ≤ q → q < t → stepS R code (f (q - 1)).1 (f (q - 1)).2 = ⟨(f q).1, (f q).2, 1, 0⟩ ∧ memB (f q).1 pts = false

theorem until_ok {n : Int} {pts : List Int} (h1 : n ≤ 2000) (hu : (untilS R code at_ rs pts n).err = 0) :
    ∃ (t : Nat) (f : Nat → Int × List Int), (untilS R code at_ rs pts n).k = t ∧ 1 ≤ t ∧ (t : Int) ≤ n ∧ runS R code at_ rs t = ⟨(untilS R code at_ rs pts n).at_, (untilS R code at_ rs pts n).rs, t, 0⟩ ∧ memB (untilS R code at_ rs pts n).at_ pts = true ∧ Chain R code at_ rs pts t f := by
  cases hf : fitsB R code at_ rs
  · simp [untilS, hf] at hu
  · obtain ⟨hv, hg, hR, hat⟩ := fitsB_good hf
    rw [untilS, hf, if_neg (by simp)] at hu ⊢
    by_cases hc : n < 1 ∨ 1000000 < n ∨ riseB code.length pts = false
    · rw [if_pos hc] at hu; simp at hu
    · rw [if_neg hc] at hu ⊢
      cases hw : walkC code (finP pts) n.toNat at_.toNat rs with
      | none => rw [hw] at hu; simp [untilR] at hu
      | some o =>
        rw [hw] at hu
        by_cases hm : o.met = true
        · obtain ⟨k1, k2, k3, k4, k5⟩ := until_met hw hm
          simp only [untilR, hm, if_true]
          refine ⟨o.k, fun q => match walkC code ff q at_.toNat rs with | some o => ((o.at_ : Int), o.rs) | none => (0, []), rfl, k1, by omega, ?_, k3, ?_, ?_⟩
          · rw [runS_eq hf (by omega) (by omega), Int.toNat_natCast, k4]
            rfl
          · simp [walkC, hat]
          · intro q q1 q2
            obtain ⟨a', r', e1, e2⟩ := k5 q q1 q2
            obtain ⟨q', rfl⟩ : ∃ q', q = q' + 1 := ⟨q - 1, by omega⟩
            have e0 : ∃ a0 r0, walkC code ff q' at_.toNat rs = some ⟨a0, r0, q', false⟩ := by
              cases q' with
              | zero => exact ⟨_, _, rfl⟩
              | succ q'' =>
                obtain ⟨a0, r0, e0, _⟩ := k5 (q'' + 1) (by omega) (by omega)
                exact ⟨a0, r0, e0⟩
            obtain ⟨a0, r0, e0⟩ := e0
            have hg0 := walk_good (fin := ff) (by rw [hR]; exact hv) hg e0
            simp only [Nat.add_sub_cancel, e0, e1]
            refine ⟨?_, e2⟩
            have he := (walk_add (k := 1) e0).2.2
            rw [e1] at he
            have hst : stp code a0 r0 = some (some (a', r')) := by
              cases hs : stp code a0 r0 with
              | none => simp [walkC, hs, bump] at he
              | some s =>
                cases s with
                | none => simp [walkC, hs, bump] at he
                | some s =>
                  simp [walkC, hs, ff, bump] at he
                  obtain ⟨rfl, rfl⟩ := he
                  rfl
            exact stepS_of hv hg0 hst
        · simp [untilR, hm] at hu
end
end Go.Proofs.Ytonammaecpapmaa.Cn

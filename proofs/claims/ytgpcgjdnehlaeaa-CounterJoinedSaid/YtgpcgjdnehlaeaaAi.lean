/- The plain mathematics of joined machines: what a run of each does, the joined machine does. -/
import Derived.Test.YtgpcgjdnehlaeaaAg
import Derived.Test.YtgpcgjdnehlaeaaM
namespace Go.Proofs.Ytgpcgjdnehlaeaa

/-- code' does from off on what code does, but for its halts. -/
def Within (code code' : List Ins) (off : Nat) : Prop := ∀ p i, code[p]? = some i → i.op ≠ 2 → code'[p + off]? = some (shiftI off i)

theorem sim_step {R : Nat} {code code' : List Ins} {off p p' : Nat} {rs rs' : List Int} (ext : List Int) (hv : vCode R code = true) (hg : Good R code p rs) (hw : Within code code' off) (hs : stp code p rs = some (some (p', rs'))) :
    stp code' (p + off) (rs ++ ext) = some (some (p' + off, rs' ++ ext)) := by
  obtain ⟨i, hi⟩ : ∃ i, code[p]? = some i := ⟨_, List.getElem?_eq_getElem hg.lt⟩
  have hvi := vCode_ins hv hi
  have hop := vIns_op hvi
  have hlen := hg.len
  obtain ⟨op, rg, nx, zr⟩ := i
  simp only at hop
  rcases hop with rfl | rfl | rfl
  · obtain ⟨q1, q2, q3, q4⟩ := vIns_inc hvi rfl
    simp only at q1 q2 q3 q4
    have hi' := hw p _ hi (by simp)
    obtain ⟨j, rfl⟩ := Int.eq_ofNat_of_zero_le q1
    obtain ⟨nx, rfl⟩ := Int.eq_ofNat_of_zero_le q3
    have hj : j < rs.length := by omega
    simp [shiftI] at hi'
    simp [stp, hi] at hs
    simp [stp, hi']
    rw [List.getElem?_append_left hj]
    split at hs
    · simp at hs
    · next h =>
      simp at hs
      obtain ⟨rfl, rfl⟩ := hs
      rw [if_neg h]
      simp
      refine ⟨by omega, ?_⟩
      rw [List.set_append_left _ _ hj]
  · obtain ⟨q1, q2, q3, q4, q5, q6⟩ := vIns_dec hvi rfl
    simp only at q1 q2 q3 q4 q5 q6
    have hi' := hw p _ hi (by simp)
    obtain ⟨j, rfl⟩ := Int.eq_ofNat_of_zero_le q1
    obtain ⟨nx, rfl⟩ := Int.eq_ofNat_of_zero_le q3
    obtain ⟨zr, rfl⟩ := Int.eq_ofNat_of_zero_le q5
    have hj : j < rs.length := by omega
    simp [shiftI] at hi'
    simp [stp, hi] at hs
    simp [stp, hi']
    rw [List.getElem?_append_left hj]
    split at hs
    · next h =>
      simp at hs
      obtain ⟨rfl, rfl⟩ := hs
      rw [if_pos h]
      simp
      omega
    · next h =>
      simp at hs
      obtain ⟨rfl, rfl⟩ := hs
      rw [if_neg h]
      simp
      refine ⟨by omega, ?_⟩
      rw [List.set_append_left _ _ hj]
  · simp [stp, hi] at hs

theorem bump_bump {d e : Nat} {o : Option Out} : bump d (bump e o) = bump (d + e) o := by
  cases o <;> simp [bump]
  omega

/-- What a run does, the greater machine does with more registers, from its place on. -/
theorem sim_walk {R : Nat} {code code' : List Ins} {off n p m : Nat} {rs : List Int} {o : Out} (ext : List Int) (hv : vCode R code = true) (hg : Good R code p rs) (hw : Within code code' off) (h : walkC code ff n p rs = some o) :
    walkC code' ff (o.k + m) (p + off) (rs ++ ext) = bump o.k (walkC code' ff m (o.at_ + off) (o.rs ++ ext)) := by
  induction n generalizing p rs o with
  | zero =>
    simp [walkC] at h
    subst h
    simp [bump_zero]
  | succ n ih =>
    rw [walkC] at h
    cases hs : stp code p rs with
    | none =>
      rw [hs] at h
      simp at h
      subst h
      simp [bump_zero]
    | some s =>
      cases s with
      | none => rw [hs] at h; simp at h
      | some s =>
        rw [hs] at h
        simp [ff] at h
        obtain ⟨o1, h1, rfl⟩ := h
        have hg' := hg.step hv (a' := s.1) (rs' := s.2) hs
        have := ih hg' h1
        simp only
        rw [show o1.k + 1 + m = (o1.k + m) + 1 by omega]
        have hst := sim_step ext hv hg hw (p' := s.1) (rs' := s.2) hs
        have := ih hg' h1
        have e := walk_on (d := 0) (n := o1.k + m) hst (fin := ff) rfl
        rw [bump_zero] at e
        rw [e, this, bump_bump, Nat.add_comm 1]

theorem first_nat (n : Nat) (a : List Ins) : ∃ F : Nat, firstI n a = (F : Int) ∧ F = n + (if halts a = true then 1 else 0) := by
  unfold firstI
  split
  · exact ⟨n + 1, by omega, by simp [*]⟩
  · exact ⟨n, rfl, by simp [*]⟩
theorem within_a (a b : List Ins) : Within a (joinC a b) 0 := fun p i hi ho => by
  have hp : p < a.length := (List.getElem?_eq_some_iff.1 hi).1
  have hl : p < (a.map (linkI a.length)).length := by simpa using hp
  rw [joinC, List.append_assoc, List.getElem?_append_left (by simpa using hp)]
  simp [hi, linkI, ho, shiftI]
theorem within_b {a b : List Ins} {F : Nat} (hF : firstI a.length a = (F : Int)) (hF2 : F = a.length + (if halts a = true then 1 else 0)) : Within b (joinC a b) F := fun p i hi _ => by
  have hl : (a.map (linkI a.length) ++ (if halts a = true then [(⟨1, 0, (a.length : Int) + 1, (a.length : Int) + 1⟩ : Ins)] else [])).length = F := by
    rw [hF2]
    split <;> simp
  rw [joinC, List.getElem?_append_right (by omega), hl, hF]
  simp [hi]
theorem at_halt {a b : List Ins} {p : Nat} {i : Ins} (hi : a[p]? = some i) (ho : i.op = 2) : (joinC a b)[p]? = some ⟨0, 0, (a.length : Int), 0⟩ := by
  have hp : p < a.length := (List.getElem?_eq_some_iff.1 hi).1
  rw [joinC, List.append_assoc, List.getElem?_append_left (by simpa using hp)]
  simp [hi, linkI, ho]
theorem at_mid {a b : List Ins} (h : halts a = true) : (joinC a b)[a.length]? = some ⟨1, 0, (a.length : Int) + 1, (a.length : Int) + 1⟩ := by
  rw [joinC, List.append_assoc, List.getElem?_append_right (by simp)]
  simp [h]
theorem at_halt_b {a b : List Ins} {F p : Nat} {i : Ins} (hF : firstI a.length a = (F : Int)) (hF2 : F = a.length + (if halts a = true then 1 else 0)) (hi : b[p]? = some i) : (joinC a b)[p + F]? = some (shiftI F i) := by
  have hl : (a.map (linkI a.length) ++ (if halts a = true then [(⟨1, 0, (a.length : Int) + 1, (a.length : Int) + 1⟩ : Ins)] else [])).length = F := by
    rw [hF2]
    split <;> simp
  rw [joinC, List.getElem?_append_right (by omega), hl, hF]
  simp [hi]

/-- P6.2. -/
theorem joined_run {R1 R2 : Nat} {a b : List Ins} {x1 x2 : List Int} {o1 o2 : Out} {r0 : Int} {i1 i2 : Ins} {e1 e2 : List Int} {N1 N2 N : Nat}
    (h1 : vCode R1 a = true) (h2 : vCode R2 b = true) (g1 : Good R1 a 0 x1) (g2 : Good R2 b 0 x2)
    (hw1 : walkC a ff N1 0 x1 = some o1) (hi1 : a[o1.at_]? = some i1) (ho1 : i1.op = 2) (hr : o1.rs[0]? = some r0) (hr0 : r0 ≠ 1152921504606846976) (hrp : 0 ≤ r0)
    (hx : o1.rs ++ e1 = x2 ++ e2) (hw2 : walkC b ff N2 0 x2 = some o2) (hi2 : b[o2.at_]? = some i2) (ho2 : i2.op = 2) (hN : o1.k + o2.k + 2 < N) :
    ∃ F : Nat, (joinC a b)[o2.at_ + F]? = some (shiftI F i2) ∧ walkC (joinC a b) ff N 0 (x1 ++ e1) = some ⟨o2.at_ + F, o2.rs ++ e2, o1.k + o2.k + 2, false⟩ := by
  obtain ⟨F, hF, hF2⟩ := first_nat a.length a
  have hh := halts_of (List.mem_of_getElem? hi1) ho1
  rw [hh] at hF2
  simp at hF2
  refine ⟨F, at_halt_b hF (by rw [hh]; simpa using hF2) hi2, ?_⟩
  obtain ⟨M, rfl⟩ : ∃ M, N = o1.k + (2 + (o2.k + (M + 1))) := ⟨N - (o1.k + o2.k + 2) - 1, by omega⟩
  have s1 := sim_walk (m := 2 + (o2.k + (M + 1))) e1 h1 g1 (within_a a b) hw1
  simp only [Nat.add_zero] at s1
  rw [s1]
  have hlen : 0 < o1.rs.length := (List.getElem?_eq_some_iff.1 hr).1
  have hr' : (o1.rs ++ e1)[0]? = some r0 := by rw [List.getElem?_append_left hlen]; exact hr
  -- the link: register 0 goes up, and down again
  have t1 := stp_inc (j := 0) (nx := a.length) (nz := 0) (at_halt (b := b) hi1 ho1) hr' hr0
  have t2 := stp_dec (j := 0) (nx := a.length + 1) (nz := (a.length : Int) + 1) (rs := (o1.rs ++ e1).set 0 (r0 + 1)) (x := r0 + 1) (by simpa using at_mid (b := b) hh) (List.getElem?_set_self (by simp; omega)) (by omega)
  have hback : ((o1.rs ++ e1).set 0 (r0 + 1)).set 0 (r0 + 1 - 1) = x2 ++ e2 := by
    rw [List.set_set, ← hx]
    apply List.ext_getElem?
    intro q
    rw [List.getElem?_set]
    split
    · next hq =>
      subst hq
      rw [if_pos (by simp; omega), hr']
      simp
    · rfl
  rw [hback] at t2
  have u1 := walk_on (d := 0) (n := 1 + (o2.k + (M + 1))) t1 (fin := ff) rfl
  have u2 := walk_on (d := 0 + 1) (n := o2.k + (M + 1)) t2 (fin := ff) rfl
  rw [bump_zero, show 1 + (o2.k + (M + 1)) + 1 = 2 + (o2.k + (M + 1)) by omega] at u1
  rw [show o2.k + (M + 1) + 1 = 1 + (o2.k + (M + 1)) by omega] at u2
  rw [u1, u2]
  have s2 := sim_walk (m := M + 1) e2 h2 g2 (within_b (b := b) hF (by rw [hh]; simpa using hF2)) hw2
  rw [show 0 + F = a.length + 1 by omega] at s2
  rw [s2]
  have hst : stp (joinC a b) (o2.at_ + F) (o2.rs ++ e2) = none := by
    have := at_halt_b (b := b) hF (by rw [hh]; simpa using hF2) hi2
    simp [stp, this, shiftI, ho2]
  have u3 := walk_halt (d := 0) (n := M) (fin := ff) hst
  rw [bump_zero] at u3
  rw [u3]
  simp [bump]
  omega
end Go.Proofs.Ytgpcgjdnehlaeaa

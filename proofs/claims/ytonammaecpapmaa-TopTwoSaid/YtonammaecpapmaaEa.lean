/- The simulation with two registers, for TopTwo. -/
import Derived.Test.YtonammaecpapmaaDe
import Derived.Test.YtonammaecpapmaaCm
namespace Go.Proofs.Ytonammaecpapmaa.Pp
open Go.RowKit

/-- The machine with two registers, and its points. -/
def qOf (code : List Cn.Ins) : List Cn.Ins := qC (codeL (ptsL 0 (code.map sOf)) [] (code.map sOf))
def pOf (code : List Cn.Ins) : List Int := ptsL 0 (code.map sOf)
theorem qOf_len (code : List Cn.Ins) : (qOf code).length = sizeL (code.map sOf) := by rw [qOf, qC, List.length_map, codeL_len]; simp
theorem pOf_len (code : List Cn.Ins) : (pOf code).length = code.length := by rw [pOf, ptsL_len, List.length_map]
theorem pOf_at {code : List Cn.Ins} {k : Nat} (h : k < code.length) : (pOf code)[k]? = some ((sizeL ((code.map sOf).take k) : Nat) : Int) := by
  rw [pOf, pts_at _ 0 k (by rw [List.length_map]; exact h), Nat.zero_add]
theorem twoS_ok {R : Int} {code : List Cn.Ins} (hv : Cn.vCode R code = true) (hR : ¬ 6 < R) (hs : ¬ 2000 < sizeL (code.map sOf)) : twoS R code = ⟨2, qOf code, pOf code, 0⟩ := by
  rw [twoS, if_neg (by rw [hv]; simp), if_neg hR, if_neg hs]; rfl
theorem two_ok (R : Int) (A : Option Addr) (n c : Nat) (code : List Cn.Ins) (w : World) (hc : Cn.CodeAt w w.heap.size A n code) (hv : Cn.vCode R code = true) (hR : ¬ 6 < R) (hs : ¬ 2000 < sizeL (code.map sOf)) :
    Calls Try.prog 6 #[.agg #[.int .i64 R, .slice A n c]] w fun e w' => ∃ b off c1 b2 off2 c2, e = .returned (.tuple #[.agg #[.int .i64 2, .slice (some ⟨b, off, none⟩) (sizeL (code.map sOf)) c1], .slice (some ⟨b2, off2, none⟩) n c2, .int .i64 0]) ∧ b < w'.heap.size ∧ Cn.CodeIn w' b off (qOf code) ∧ b2 < w'.heap.size ∧ Cn.IntsIn w' b2 off2 (pOf code) ∧ w.heap.size ≤ b2 ∧ Below w.heap.size w w' := by
  have hl := hc.len
  have h2 := two_any R A n c code w hc
  rw [twoS_ok hv hR hs] at h2
  refine h2.mono ?_
  rintro e w' ⟨A1, n1, c1, A2, n2, c2, rfl, k1, k2, hfr, hb⟩
  have e1 : n1 = sizeL (code.map sOf) := by rw [← k1.len, qOf_len]
  have e2 : n2 = n := by rw [← k2.len, pOf_len, hl]
  subst e1 e2
  have hpos : 0 < n2 := by
    have := (Cn.vCode_reg hv).2.2.1
    omega
  have hposL : 0 < sizeL (code.map sOf) := by
    have := size_lt (p := code.map sOf) (a := 0) (b := (code.map sOf).length) (by rw [List.length_map]; omega) (by rw [List.length_map]; omega)
    rw [List.take_length] at this
    omega
  obtain ⟨b, off, rfl, h3, h4⟩ := k1.at_ hposL
  obtain ⟨b2, off2, rfl, h5, h6⟩ := k2.at_ hpos
  exact ⟨b, off, c1, b2, off2, c2, rfl, h3, h4, h5, h6, hfr b2 rfl, hb⟩
theorem qOf_valid {R : Int} {code : List Cn.Ins} (hv : Cn.vCode R code = true) (hR : ¬ 6 < R) (hs : ¬ 2000 < sizeL (code.map sOf)) : Cn.vCode 2 (qOf code) = true := by
  obtain ⟨r1, _⟩ := Cn.vCode_reg hv
  obtain ⟨RN, rfl⟩ := Int.eq_ofNat_of_zero_le (show 0 ≤ R by omega)
  exact vq hv (by omega) (by omega)

theorem step_two {R : Int} {code : List Cn.Ins} {a : Nat} {rs : List Int} (hv : Cn.vCode R code = true) (hg : Cn.Good R.toNat code a rs) :
    ((Cn.stepS R code a rs).err = 5 ∨ (Cn.stepS R code a rs).err = 4) ∨ ∃ a' rs', Cn.stp code a rs = some (some (a', rs')) ∧ Cn.Good R.toNat code a' rs' ∧ Cn.stepS R code a rs = ⟨(a' : Int), rs', 1, 0⟩ := by
  have hR := Cn.vCode_reg hv
  have hf := Cn.good_fits (R := R.toNat) (by rw [Int.toNat_of_nonneg (by omega)]; exact hv) hg
  rw [Int.toNat_of_nonneg (by omega)] at hf
  cases hs : Cn.stp code a rs with
  | none =>
    left; left
    rw [Cn.stepS, hf, if_neg (by simp), Int.toNat_natCast, if_pos hs]
  | some o =>
    cases o with
    | none =>
      left; right
      rw [Cn.stepS, hf, if_neg (by simp), Int.toNat_natCast, hs, if_neg (by simp), Cn.runS_eq hf (by omega) (by omega), Int.toNat_natCast]
      simp [Cn.walkC, hs, Cn.resOf]
    | some s =>
      right
      exact ⟨s.1, s.2, rfl, hg.step (by rw [Int.toNat_of_nonneg (by omega)]; exact hv) hs, Cn.stepS_of hv hg hs⟩
theorem good_cont {R : Int} {code : List Cn.Ins} {a : Nat} {rs : List Int} (hv : Cn.vCode R code = true) (hR : ¬ 6 < R) (hg : Cn.Good R.toNat code a rs) : contB rs = true ∧ (∀ x ∈ rs, x ≤ 9223372036854775807) ∧ rs.length ≤ 6 := by
  have h1 := Cn.vCode_reg hv
  have h2 := hg.len
  refine ⟨?_, fun x hx => by have := (hg.ok x hx).2; omega, by omega⟩
  rw [contB, Bool.and_eq_true, Bool.and_eq_true, List.all_eq_true]
  exact ⟨⟨fun x hx => by simpa using (hg.ok x hx).1, by simp; omega⟩, by simp; omega⟩
/-- P8.1, P8.4: Until, on the machine with two registers. -/
theorem until_big {R : Int} {code : List Cn.Ins} (hv : Cn.vCode R code = true) (hR : ¬ 6 < R) (hs : ¬ 2000 < sizeL (code.map sOf)) {a a' : Nat} {rs rs' : List Int} (hg : Cn.Good R.toNat code a rs) (hst : Cn.stp code a rs = some (some (a', rs'))) {n m : Nat} (hn : encS 0 (natL rs) 1 = some n) (hm : encS 0 (natL rs') 1 = some m) (hx : n ≤ 9000 ∧ m ≤ 9000) :
    ∃ k : Int, Cn.untilS 2 (qOf code) ((sizeL ((code.map sOf).take a) : Nat) : Int) [(n : Int), 0] (pOf code) 1000000 = ⟨((sizeL ((code.map sOf).take a') : Nat) : Int), [(m : Int), 0], k, 0⟩ := by
  have hR1 := Cn.vCode_reg hv
  have hv' : Cn.vCode (R.toNat : Int) code = true := by rw [Int.toNat_of_nonneg (by omega)]; exact hv
  obtain ⟨k, k1, k2, k3⟩ := sim_step hv' (by omega) hg hst hn hm
  have hq := qOf_valid hv hR hs
  have hal : a < (code.map sOf).length := by rw [List.length_map]; exact hg.lt
  have hsl := size_lt (p := code.map sOf) (a := a) (b := (code.map sOf).length) hal hal
  rw [List.take_length] at hsl
  have hgq : Cn.Good 2 (qOf code) (sizeL ((code.map sOf).take a)) [(n : Int), 0] := ⟨by rw [qOf_len]; exact hsl, rfl, fun x h => by
    simp at h
    omega⟩
  have hf : Cn.fitsB 2 (qOf code) ((sizeL ((code.map sOf).take a) : Nat) : Int) [(n : Int), 0] = true := Cn.good_fits (R := 2) hq hgq
  have hr := rise_pts (code.map sOf)
  have e1 : (1000000 : Int).toNat = k + (1000000 - k) := by omega
  refine ⟨k, ?_⟩
  have h9 := k3 (1000000 - k) 0
  rw [Cn.bump_zero, Nat.zero_add] at h9
  rw [Cn.untilS, hf, if_neg (by simp), if_neg (by
    rw [qOf_len, pOf, hr]
    simp), e1, Int.toNat_natCast]
  have h10 : Cn.walkC (qOf code) (Cn.finP (pOf code)) (k + (1000000 - k)) (sizeL ((code.map sOf).take a)) [(n : Int), 0] = some ⟨sizeL ((code.map sOf).take a'), [(m : Int), 0], k, true⟩ := h9
  rw [h10]
  rfl
theorem ints_elems {w : World} {A : Option Addr} {n c : Nat} {xs : List Int} (h : Cn.IntsAt w w.heap.size A n xs) (hn : 0 < n) : Elems w w.heap.size (.slice A n c) (ints xs) := by
  obtain ⟨b, off, rfl, hb, hc⟩ := h.at_ hn
  refine .inr ⟨b, off, c, by rw [ints_len, h.len], hb, fun k u hu => ?_⟩
  obtain ⟨x, hx, rfl⟩ := ints_get hu
  exact hc k x hx
theorem elems_ints {w : World} {A : Option Addr} {n c : Nat} {xs : List Int} (h : Elems w w.heap.size (.slice A n c) (ints xs)) : Cn.IntsAt w w.heap.size A n xs := by
  have hl := h.len
  rw [ints_len] at hl
  refine ⟨hl, fun hn => ?_⟩
  obtain ⟨b, off, rfl, hb, hc⟩ := h.at_ hn
  exact ⟨b, off, rfl, hb, fun k x hk => hc k _ (ints_at hk)⟩
theorem ints_two {w1 : World} {b o r : Nat} {xs : List Int} (h : Cn.IntsIn w1 b o xs) (hne : b ≠ r) (x y : Value) : Cn.IntsIn ((w1.setCell ⟨r, 0, none⟩ x).setCell ⟨r, 1, none⟩ y) b o xs := fun k z hk => by
  rw [World.cell?_of_block (a := ⟨b, o + k, none⟩) ((Below.heap_setCell _ ⟨r, 1, none⟩ y _ hne).trans (Below.heap_setCell _ ⟨r, 0, none⟩ x _ hne))]
  exact h k z hk
theorem cell_two {w1 : World} {r : Nat} {p : Addr} {v : Value} (h : w1.cell? p = some v) (hne : p.block ≠ r) (x y : Value) : ((w1.setCell ⟨r, 0, none⟩ x).setCell ⟨r, 1, none⟩ y).cell? p = some v := by
  rw [World.cell?_of_block (a := p) ((Below.heap_setCell _ ⟨r, 1, none⟩ y _ hne).trans (Below.heap_setCell _ ⟨r, 0, none⟩ x _ hne))]
  exact h

theorem mulS_ok {p : Nat} (hp : 2 ≤ p) : ∀ (x n : Nat), 1 ≤ n → n * p ^ x ≤ 1152921504606846976 → mulS p x n = some (n * p ^ x)
  | 0, n, _, _ => by simp [mulS]
  | x + 1, n, h1, h => by
    have e : n * p ^ (x + 1) = n * p * p ^ x := by rw [Nat.pow_succ, Nat.mul_comm (p ^ x), Nat.mul_assoc]
    have h2 : n * p * 1 ≤ n * p * p ^ x := Nat.mul_le_mul_left _ (Nat.pow_pos (by omega))
    rw [mulS, if_neg (by rw [Nat.not_lt]; exact (Nat.le_div_iff_mul_le (by omega)).2 (by omega)), mulS_ok hp x (n * p) (Nat.mul_pos h1 (by omega)) (by omega), e]
theorem encS_ok : ∀ (l : List Nat) (i n : Nat), i + l.length ≤ 6 → 1 ≤ n → n * prodS i l ≤ 1152921504606846976 → encS i l n = some (n * prodS i l)
  | [], _, n, _, _, _ => by simp [encS, prodS]
  | x :: l, i, n, hl, h1, h => by
    simp only [List.length_cons] at hl
    have hp := (primeN_le (show i < 6 by omega)).1
    have hpos : 1 ≤ primeN i ^ x := Nat.pow_pos (by omega)
    have hprod : 1 ≤ prodS (i + 1) l := by
      have : ∀ (l : List Nat) (i : Nat), i + l.length ≤ 6 → 1 ≤ prodS i l := fun l => by
        induction l with
        | nil => intro i _; exact Nat.le_refl _
        | cons x l ih =>
          intro i hl
          simp only [List.length_cons] at hl
          exact Nat.mul_pos (Nat.pow_pos (by have := (primeN_le (show i < 6 by omega)).1; omega)) (ih (i + 1) (by omega))
      exact this l (i + 1) (by omega)
    rw [prodS, ← Nat.mul_assoc] at h
    have h2 : n * primeN i ^ x * 1 ≤ n * primeN i ^ x * prodS (i + 1) l := Nat.mul_le_mul_left _ hprod
    rw [encS, mulS_ok hp x n h1 (by omega), prodS]
    show encS (i + 1) l (n * primeN i ^ x) = _
    rw [encS_ok l (i + 1) (n * primeN i ^ x) (by omega) (Nat.mul_pos h1 hpos) h, Nat.mul_assoc]
/-- Up to three registers of at most 6 have an encoding. -/
theorem enc_small {l : List Int} (h1 : l.length ≤ 3) (h2 : ∀ x ∈ l, 0 ≤ x ∧ x ≤ 6) : ∃ n, encS 0 (natL l) 1 = some n := by
  have hb : ∀ (i x : Nat), i < 3 → x ≤ 6 → primeN i ^ x ≤ 15625 := by
    have : ∀ i < 3, ∀ x < 7, primeN i ^ x ≤ 15625 := by decide
    exact fun i x hi hx => this i hi x (by omega)
  have hpr : prodS 0 (natL l) ≤ 15625 * (15625 * (15625 * 1)) := by
    match l, h1, h2 with
    | [], _, _ => decide
    | [a], _, h2 =>
      have ha := h2 a (by simp)
      simp only [natL, List.map_cons, List.map_nil, prodS]
      exact Nat.le_trans (Nat.mul_le_mul (hb 0 _ (by omega) (by omega)) (Nat.le_refl 1)) (by decide)
    | [a, b], _, h2 =>
      have ha := h2 a (by simp)
      have hb2 := h2 b (by simp)
      simp only [natL, List.map_cons, List.map_nil, prodS]
      exact Nat.le_trans (Nat.mul_le_mul (hb 0 _ (by omega) (by omega)) (Nat.mul_le_mul (hb 1 _ (by omega) (by omega)) (Nat.le_refl 1))) (by decide)
    | [a, b, c], _, h2 =>
      have ha := h2 a (by simp)
      have hb2 := h2 b (by simp)
      have hc := h2 c (by simp)
      simp only [natL, List.map_cons, List.map_nil, prodS]
      exact Nat.mul_le_mul (hb 0 _ (by omega) (by omega)) (Nat.mul_le_mul (hb 1 _ (by omega) (by omega)) (Nat.mul_le_mul (hb 2 _ (by omega) (by omega)) (Nat.le_refl 1)))
    | _ :: _ :: _ :: _ :: _, h1, _ => simp at h1
  exact ⟨_, encS_ok (natL l) 0 1 (by rw [natL, List.length_map]; omega) (Nat.le_refl _) (by rw [Nat.one_mul]; omega)⟩

/-- Where the machine has stopped, so has the one with two registers. -/
theorem halt_two {R : Int} {code : List Cn.Ins} (hv : Cn.vCode R code = true) (hR : ¬ 6 < R) (hs : ¬ 2000 < sizeL (code.map sOf)) {a : Nat} {rs : List Int} (hg : Cn.Good R.toNat code a rs) (hst : Cn.stp code a rs = none) {n : Nat} (hn : n ≤ 9000) : (Cn.stepS 2 (qOf code) ((sizeL ((code.map sOf).take a) : Nat) : Int) [(n : Int), 0]).err = 5 := by
  have hq := qOf_valid hv hR hs
  obtain ⟨i, hi⟩ : ∃ i, code[a]? = some i := ⟨_, List.getElem?_eq_getElem hg.lt⟩
  have hop := (Cn.stp_none hv hi).1 hst
  obtain ⟨x, h1, h2⟩ := halt_at hi (Cn.vIns_op (Cn.vCode_ins hv hi))
  have hal : a < (code.map sOf).length := by rw [List.length_map]; exact hg.lt
  have hsl := size_lt (p := code.map sOf) (a := a) (b := (code.map sOf).length) hal hal
  rw [List.take_length] at hsl
  have hgq : Cn.Good 2 (qOf code) (sizeL ((code.map sOf).take a)) [(n : Int), 0] := ⟨by rw [qOf_len]; exact hsl, rfl, fun x h => by
    simp at h
    omega⟩
  have hf : Cn.fitsB 2 (qOf code) ((sizeL ((code.map sOf).take a) : Nat) : Int) [(n : Int), 0] = true := Cn.good_fits (R := 2) hq hgq
  have h3 : Cn.stp (qOf code) (sizeL ((code.map sOf).take a)) [(n : Int), 0] = none := (Cn.stp_none hq h1).2 (h2.2 hop)
  rw [Cn.stepS, hf, if_neg (by simp), Int.toNat_natCast, if_pos h3]
end Go.Proofs.Ytonammaecpapmaa.Pp

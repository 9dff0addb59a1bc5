/- Contracts: prime, primes, Contents, same. -/
import Derived.Test.YtckabinmmficlaaAb
namespace Go.Proofs.Ytckabinmmficlaa.Pp
open Go.RowKit

set_option maxRecDepth 100000 in
theorem prime_any (i : Nat) (h : i < 6) (w : World) : Calls Try.prog 23 #[.int .i64 (i : Int)] w fun e w' => e = .returned (.int .i64 (primeN i : Int)) ∧ w' = w := by
  match i, h with
  | 0, _ =>
    have hix : ∀ X : World, (Instr.index 72 (.agg #[.int .i64 2, .int .i64 3, .int .i64 5, .int .i64 7, .int .i64 11, .int .i64 13]) (.int .i64 0)).run Try.prog X = .ok (.int .i64 2) X := fun X => by
      simp [Instr.index, run_underlying Try.underlying72, asIntOf, go_sem]
    go_enter Try.func23, Try.ntmps23
    go_wp2_with fail
    go_ret
    exact ⟨rfl, rfl⟩
  | 1, _ =>
    have hix : ∀ X : World, (Instr.index 72 (.agg #[.int .i64 2, .int .i64 3, .int .i64 5, .int .i64 7, .int .i64 11, .int .i64 13]) (.int .i64 1)).run Try.prog X = .ok (.int .i64 3) X := fun X => by
      simp [Instr.index, run_underlying Try.underlying72, asIntOf, go_sem]
    go_enter Try.func23, Try.ntmps23
    go_wp2_with fail
    go_ret
    exact ⟨rfl, rfl⟩
  | 2, _ =>
    have hix : ∀ X : World, (Instr.index 72 (.agg #[.int .i64 2, .int .i64 3, .int .i64 5, .int .i64 7, .int .i64 11, .int .i64 13]) (.int .i64 2)).run Try.prog X = .ok (.int .i64 5) X := fun X => by
      simp [Instr.index, run_underlying Try.underlying72, asIntOf, go_sem]
    go_enter Try.func23, Try.ntmps23
    go_wp2_with fail
    go_ret
    exact ⟨rfl, rfl⟩
  | 3, _ =>
    have hix : ∀ X : World, (Instr.index 72 (.agg #[.int .i64 2, .int .i64 3, .int .i64 5, .int .i64 7, .int .i64 11, .int .i64 13]) (.int .i64 3)).run Try.prog X = .ok (.int .i64 7) X := fun X => by
      simp [Instr.index, run_underlying Try.underlying72, asIntOf, go_sem]
    go_enter Try.func23, Try.ntmps23
    go_wp2_with fail
    go_ret
    exact ⟨rfl, rfl⟩
  | 4, _ =>
    have hix : ∀ X : World, (Instr.index 72 (.agg #[.int .i64 2, .int .i64 3, .int .i64 5, .int .i64 7, .int .i64 11, .int .i64 13]) (.int .i64 4)).run Try.prog X = .ok (.int .i64 11) X := fun X => by
      simp [Instr.index, run_underlying Try.underlying72, asIntOf, go_sem]
    go_enter Try.func23, Try.ntmps23
    go_wp2_with fail
    go_ret
    exact ⟨rfl, rfl⟩
  | 5, _ =>
    have hix : ∀ X : World, (Instr.index 72 (.agg #[.int .i64 2, .int .i64 3, .int .i64 5, .int .i64 7, .int .i64 11, .int .i64 13]) (.int .i64 5)).run Try.prog X = .ok (.int .i64 13) X := fun X => by
      simp [Instr.index, run_underlying Try.underlying72, asIntOf, go_sem]
    go_enter Try.func23, Try.ntmps23
    go_wp2_with fail
    go_ret
    exact ⟨rfl, rfl⟩

set_option maxRecDepth 100000 in
theorem primes_any (w : World) : Calls Try.prog 24 #[] w fun e w' => ∃ g, e = .returned (.slice (some ⟨g, 0, none⟩) 6 6) ∧ (∀ i, i < 6 → w'.cell? ⟨g, i, none⟩ = some (.int .i64 (primeN i : Int))) ∧ Below w.heap.size w w' := by
  go_enter Try.func24, Try.ntmps24
  go_wp2_with fail
  go_ret
  refine ⟨w.heap.size, rfl, fun i hi => ?_, below1 w _⟩
  rw [(Blk.new w 3 _).cell i]
  match i, hi with
  | 0, _ => rfl
  | 1, _ => rfl
  | 2, _ => rfl
  | 3, _ => rfl
  | 4, _ => rfl
  | 5, _ => rfl
def contB (l : List Int) : Bool := l.all (fun x => decide (0 ≤ x)) && decide (1 ≤ l.length) && decide (l.length ≤ 6)

set_option maxRecDepth 100000 in
theorem contents_any (l : List Int) (v : Value) (w : World) (hE : Elems w w.heap.size v (ints l)) (hl : l.length ≤ 17592186044416) :
    Calls Try.prog 12 #[v] w fun e w' => e = .returned (.bool (contB l)) ∧ w' = w := by
  obtain ⟨A, c, rfl⟩ := hE.form
  rw [ints_len] at hE ⊢
  have HE := hid_ hE
  clear hE
  go_enter Try.func12, Try.ntmps12
  go_wp2_with fail
  go_loopw [3] (fun s wr => ∃ k : Nat, s = .int .i64 (k : Int) ∧ k ≤ l.length ∧ Hid ((l.take k).all (fun x => decide (0 ≤ x)) = true) ∧ wr = w) (fun s _ => l.length - (intOf s).toNat)
  case atStart => exact ⟨0, rfl, Nat.zero_le _, hid_ rfl, rfl⟩
  case round =>
    obtain ⟨k, rfl, hk, HA, rfl⟩ := hrel
    by_cases hlt : k < l.length
    · obtain ⟨x, hx⟩ : ∃ x, l[k]? = some x := ⟨_, List.getElem?_eq_getElem hlt⟩
      obtain ⟨b1, o1, rfl, _, hc⟩ := HE.out.at_ (by omega)
      have i1 := hc k _ (ints_at hx)
      have t0 : 0 ≤ (k : Int) := by omega
      clear hc
      by_cases hn : x < 0
      · have HN : Hid (contB l = false) := hid_ (by
          rw [contB]
          have : l.all (fun x => decide (0 ≤ x)) = false := by
            rw [List.all_eq_false]
            exact ⟨x, List.mem_of_getElem? hx, by simp; omega⟩
          rw [this]; rfl)
        clear hx
        go_wp2_with fail
        go_ret
        exact ⟨by rw [HN.out]; rfl, rfl⟩
      · have HA1 : Hid ((l.take (k + 1)).all (fun x => decide (0 ≤ x)) = true) := hid_ (all_step hx HA.out (by simp; omega))
        clear hx HA
        go_wp2_with fail
        go_roundw
        case rel => exact ⟨k + 1, by go_num, by omega, HA1, trivial⟩
        case measure => simp [intOf]; omega
    · obtain rfl : k = l.length := by omega
      have HA2 : Hid (contB l = (decide (1 ≤ l.length) && decide (l.length ≤ 6))) := hid_ (by
        have h := HA.out
        rw [List.take_length] at h
        rw [contB, h]; rfl)
      clear HA
      by_cases h1 : (1 : Int) ≤ (l.length : Int)
      · by_cases h6 : (l.length : Int) ≤ 6
        · have D1 := hid_ (decide_eq_true (show 1 ≤ l.length by omega))
          have D6 := hid_ (decide_eq_true (show l.length ≤ 6 by omega))
          go_wp2_with fail
          go_ret
          exact ⟨by rw [HA2.out, D1.out, D6.out]; rfl, rfl⟩
        · have D1 := hid_ (decide_eq_true (show 1 ≤ l.length by omega))
          have D6 := hid_ (decide_eq_false (show ¬ l.length ≤ 6 by omega))
          go_wp2_with fail
          go_ret
          exact ⟨by rw [HA2.out, D1.out, D6.out]; rfl, rfl⟩
      · have D1 := hid_ (decide_eq_false (show ¬ 1 ≤ l.length by omega))
        go_wp2_with fail
        go_ret
        exact ⟨by rw [HA2.out, D1.out]; rfl, rfl⟩

set_option maxRecDepth 100000 in
theorem samecount_any (a : Int) (l l2 : List Int) (v u : Value) (w : World) (hE : Elems w w.heap.size v (ints l)) (hF : Elems w w.heap.size u (ints l2)) (hl : l.length ≤ 17592186044416) (hl2 : l2.length ≤ 17592186044416) :
    Calls Try.prog 22 #[.agg #[.int .i64 a, v], .agg #[.int .i64 a, u]] w fun e w' => e = .returned (.bool (decide (l = l2))) ∧ Below w.heap.size w w' := by
  obtain ⟨A, c, rfl⟩ := hE.form
  obtain ⟨B, d, rfl⟩ := hF.form
  rw [ints_len] at hE hF ⊢
  rw [ints_len]
  have hbW := below2 w (.cells #[.int .i64 a, .slice A l.length c] 47) (.cells #[.int .i64 a, .slice B l2.length d] 47)
  have HE := hid_ (hE.to hbW)
  have HF := hid_ (hF.to hbW)
  have K1 := (Blk.new w 47 #[.int .i64 a, .slice A l.length c]).alloc (.cells #[.int .i64 a, .slice B l2.length d] 47)
  have K2 := Blk.new (w.alloc (.cells #[.int .i64 a, .slice A l.length c] 47)) 47 #[.int .i64 a, .slice B l2.length d]
  rw [show (w.alloc (.cells #[.int .i64 a, .slice A l.length c] 47)).heap.size = w.heap.size + 1 by simp] at K2
  have HK1 := hid_ K1
  have HK2 := hid_ K2
  have ta : (a != a) = false := by simp
  clear hE hF K1 K2
  go_enter Try.func22, Try.ntmps22
  go_upto_region 1 with fail
  generalize (w.alloc (.cells #[.int .i64 a, .slice A l.length c] 47)).alloc (.cells #[.int .i64 a, .slice B l2.length d] 47) = W at *
  have p0 := HK1.out.cell 0
  have p1 := HK1.out.cell 1
  have q0 := HK2.out.cell 0
  have q1 := HK2.out.cell 1
  simp at p0 p1 q0 q1
  by_cases hn : l.length = l2.length
  · have tn : ((l.length : Int) != (l2.length : Int)) = false := by simp; omega
    go_wp2_with fail
    go_loopw [5] (fun s wr => ∃ k : Nat, s = .int .i64 (k : Int) ∧ k ≤ l.length ∧ Hid (l.take k = l2.take k) ∧ Below W.heap.size W wr) (fun s _ => l.length - (intOf s).toNat)
    case atStart => exact ⟨0, rfl, Nat.zero_le _, hid_ rfl, Below.refl _ _⟩
    case round =>
      obtain ⟨k, rfl, hk, HA, hbr⟩ := hrel
      have p1 := (HK1.out.to hbr).cell 1
      have q1 := (HK2.out.to hbr).cell 1
      simp at p1 q1
      by_cases hlt : k < l.length
      · obtain ⟨x, hx⟩ : ∃ x, l[k]? = some x := ⟨_, List.getElem?_eq_getElem hlt⟩
        obtain ⟨y, hy⟩ : ∃ y, l2[k]? = some y := ⟨_, List.getElem?_eq_getElem (by omega)⟩
        obtain ⟨b1, o1, rfl, _, hc⟩ := (HE.out.to hbr).at_ (by omega)
        obtain ⟨b2, o2, rfl, _, hd⟩ := (HF.out.to hbr).at_ (by omega)
        have i1 := hc k _ (ints_at hx)
        have i2 := hd k _ (ints_at hy)
        have t0 : 0 ≤ (k : Int) := by omega
        have t1 : (k : Int) < (l.length : Int) := by omega
        have t2 : (k : Int) < (l2.length : Int) := by omega
        clear hc hd
        have HX := hid_ hx
        have HY := hid_ hy
        clear hx hy
        by_cases hxy : x = y
        · subst hxy
          go_wp2_with fail
          go_quiet (fail)
          go_wp2_with fail
          go_roundw
          case rel => exact ⟨k + 1, by go_num, by omega, hid_ (by rw [List.take_add_one, List.take_add_one, HX.out, HY.out, HA.out]), below_drewN hbr _⟩
          case measure => simp [intOf]; omega
        · have hne : (x != y) = true := by simpa using hxy
          have hne2 : (x == y) = false := by simpa using hxy
          have HXY := hid_ hxy
          clear hxy
          go_wp2_with fail
          go_quiet (fail)
          go_wp2_with fail
          go_ret
          refine ⟨ret_bool (decide_eq_false fun e => ?_).symm, bnext hbW (below_drewN hbr _)⟩
          subst e
          exact HXY.out (Option.some.inj (HX.out.symm.trans HY.out))
      · have HF9 := hid_ (show l = l2 by
          have h := HA.out
          rwa [List.take_of_length_le (by omega), List.take_of_length_le (by omega)] at h)
        clear HA
        go_wp2_with fail
        go_ret
        exact ⟨ret_bool (decide_eq_true HF9.out).symm, bnext hbW hbr⟩
  · have tn : ((l.length : Int) != (l2.length : Int)) = true := by simp; omega
    have HN : Hid (decide (l = l2) = false) := hid_ (decide_eq_false (fun e => hn (by rw [e])))
    clear hn
    go_wp2_with fail
    go_ret
    exact ⟨by rw [HN.out]; rfl, hbW⟩

set_option maxRecDepth 100000 in
theorem same_any (l l2 : List Int) (v u : Value) (w : World) (hE : Elems w w.heap.size v (ints l)) (hF : Elems w w.heap.size u (ints l2)) (hl : l.length ≤ 17592186044416) (hl2 : l2.length ≤ 17592186044416) :
    Calls Try.prog 11 #[v, u] w fun e w' => e = .returned (.bool (decide (l = l2))) ∧ Below w.heap.size w w' := by
  obtain ⟨A, c, rfl⟩ := hE.form
  obtain ⟨B, d, rfl⟩ := hF.form
  rw [ints_len] at hE hF ⊢
  rw [ints_len]
  have K := hid_ (samecount_any 0 l l2 _ _ w hE hF hl hl2)
  clear hE hF
  go_enter Try.func11, Try.ntmps11
  go_wp2_with (go_at_call 22; (with_reducible refine K.out.mono ?_); rintro e w1 ⟨rfl, hb⟩)
  go_ret
  exact ⟨rfl, hb⟩
end Go.Proofs.Ytckabinmmficlaa.Pp

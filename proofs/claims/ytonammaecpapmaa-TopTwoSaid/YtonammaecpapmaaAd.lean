/- Contracts: Encode of the program and of the specification. -/
import Derived.Test.YtonammaecpapmaaAc
namespace Go.Proofs.Ytonammaecpapmaa.Pp
open Go.RowKit

def natL (l : List Int) : List Nat := l.map Int.toNat
def encC (l : List Int) : Int × Int := if contB l = true then (match encS 0 (natL l) 1 with
  | some n => ((n : Int), 0)
  | none => (0, 4)) else (0, 2)
theorem natL_get {l : List Int} {k : Nat} {x : Int} (h : l[k]? = some x) : (natL l).drop k = x.toNat :: (natL l).drop (k + 1) := by
  have hk := (List.getElem?_eq_some_iff.1 h).1
  rw [List.drop_eq_getElem_cons (by rw [natL, List.length_map]; exact hk)]
  congr 1
  have : (natL l)[k]? = some x.toNat := by rw [natL, List.getElem?_map, h]; rfl
  exact Option.some.inj ((List.getElem?_eq_getElem _).symm.trans this)
theorem cont_at {l : List Int} (h : contB l = true) {k : Nat} {x : Int} (hx : l[k]? = some x) : 0 ≤ x := by
  rw [contB, Bool.and_eq_true, Bool.and_eq_true] at h
  have := (List.all_eq_true.1 h.1.1) x (List.mem_of_getElem? hx)
  simpa using this
theorem cont_len {l : List Int} (h : contB l = true) : 1 ≤ l.length ∧ l.length ≤ 6 := by
  rw [contB, Bool.and_eq_true, Bool.and_eq_true, decide_eq_true_eq, decide_eq_true_eq] at h
  exact ⟨h.1.2, h.2⟩

set_option maxRecDepth 100000 in
set_option maxHeartbeats 4000000 in
theorem encode_go (l : List Int) (v : Value) (w : World) (hE : Elems w w.heap.size v (ints l)) (hcb : contB l = true) (hbi : ∀ x ∈ l, x ≤ 9223372036854775807) :
    Calls Try.prog 7 #[v] w fun e w' => e = .returned (.tuple #[.int .i64 (encC l).1, .int .i64 (encC l).2]) ∧ w' = w := by
  obtain ⟨A, c, rfl⟩ := hE.form
  rw [ints_len] at hE ⊢
  have HE := hid_ hE
  have HC := hid_ hcb
  have HBI := hid_ hbi
  have h16 := cont_len hcb
  have t1 : ¬ (l.length : Int) < 1 := by omega
  have t6 : ¬ (6 : Int) < (l.length : Int) := by omega
  clear hE hcb hbi
  go_enter Try.func7, Try.ntmps7
  go_wp2_with fail
  go_loopw [19] (fun s wr => ∃ k : Nat, s = .int .i64 (k : Int) ∧ k ≤ l.length ∧ w = wr) (fun s _ => l.length - (intOf s).toNat)
  case atStart => exact ⟨0, rfl, Nat.zero_le _, rfl⟩
  case round =>
    obtain ⟨k, rfl, hk, rfl⟩ := hrel
    by_cases hlt : k < l.length
    · obtain ⟨x, hx⟩ : ∃ x, l[k]? = some x := ⟨_, List.getElem?_eq_getElem hlt⟩
      obtain ⟨b1, o1, rfl, _, hc⟩ := HE.out.at_ (by omega)
      have i1 := hc k _ (ints_at hx)
      have t0 : 0 ≤ (k : Int) := by omega
      have tx : ¬ x < 0 := by have := cont_at HC.out hx; omega
      clear hc hx
      go_wp2_with fail
      go_roundw
      case rel => exact ⟨k + 1, by go_num, by omega, trivial⟩
      case measure => simp [intOf]; omega
    · obtain rfl : k = l.length := by omega
      go_wp2_with fail
      go_loopw [28, 6] (fun a b wr => ∃ k n : Nat, a = .int .i64 (k : Int) ∧ b = .int .i64 (n : Int) ∧ k ≤ l.length ∧ Hid (encS 0 (natL l) 1 = encS k ((natL l).drop k) n) ∧ 1 ≤ n ∧ n ≤ 1152921504606846976 ∧ w = wr) (fun a _ _ => l.length - (intOf a).toNat)
      case atStart => exact ⟨0, 1, rfl, rfl, Nat.zero_le _, hid_ rfl, by omega, by omega, rfl⟩
      case round =>
        obtain ⟨k, n, rfl, rfl, hk, HA, hn1, hn2, rfl⟩ := hrel
        by_cases hlt : k < l.length
        · obtain ⟨x, hx⟩ : ∃ x, l[k]? = some x := ⟨_, List.getElem?_eq_getElem hlt⟩
          obtain ⟨b1, o1, rfl, _, hc⟩ := HE.out.at_ (by omega)
          have i1 := hc k _ (ints_at hx)
          have t0 : 0 ≤ (k : Int) := by omega
          obtain ⟨X, rfl⟩ := Int.eq_ofNat_of_zero_le (cont_at HC.out hx)
          have HD : Hid (encS 0 (natL l) 1 = (mulS (primeN k) X n).bind fun m => encS (k + 1) ((natL l).drop (k + 1)) m) := hid_ (by rw [HA.out, natL_get hx, encS, Int.toNat_natCast])
          have hk6 : k < 6 := by have := cont_len HC.out; omega
          obtain ⟨p, hp⟩ : ∃ p, p = primeN k := ⟨_, rfl⟩
          have hp2 : 2 ≤ p ∧ p ≤ 13 := by rw [hp]; exact primeN_le hk6
          have HPP := hid_ hp
          rw [← hp] at HD
          have m9 : (1152921504606846976 : Int).tdiv (p : Int) = ((1152921504606846976 / p : Nat) : Int) := by
            rw [Int.tdiv_eq_ediv_of_nonneg (by decide)]
            rfl
          obtain ⟨M, hM⟩ : ∃ M, M = 1152921504606846976 / p := ⟨_, rfl⟩
          have HMM := hid_ hM
          have hM2 : M ≤ 1152921504606846976 := by rw [hM]; exact Nat.div_le_self _ _
          rw [← hM] at m9
          have m8 : IntKind.i64.wrap (M : Int) = (M : Int) := IntWalk.i64_in _ (by omega)
          have p0 : ¬ (p : Int) = 0 := by omega
          clear HA hc hp hM
          have KPR : Hid (∀ Y, Calls Try.prog 16 #[.int .i64 (k : Int)] Y fun e w' => e = .returned (.int .i64 (p : Int)) ∧ Y = w') := hid_ (fun Y => by rw [HPP.out]; exact (prime_any k hk6 Y).mono (fun e w' h => ⟨h.1, h.2.symm⟩))
          have hXm : (X : Int) ≤ 9223372036854775807 := HBI.out _ (List.mem_of_getElem? hx)
          clear hx
          go_wp2_with fail
          go_loopw [34, 6] (fun a b wx => ∃ j n : Nat, a = .int .i64 (j : Int) ∧ b = .int .i64 (n : Int) ∧ j ≤ X ∧ Hid (encS 0 (natL l) 1 = (mulS p (X - j) n).bind fun m => encS (k + 1) ((natL l).drop (k + 1)) m) ∧ 1 ≤ n ∧ n ≤ 1152921504606846976 ∧ w = wx) (fun a _ _ => X - (intOf a).toNat)
          case atStart => exact ⟨0, n, rfl, rfl, Nat.zero_le _, HD, hn1, hn2, rfl⟩
          case round =>
            clear HD hn1 hn2
            obtain ⟨j, n, rfl, rfl, hj, HD, hn1, hn2, rfl⟩ := hrel
            by_cases hjl : j < X
            · have tj : (j : Int) < (X : Int) := by omega
              by_cases hM : M < n
              · have tM : (M : Int) < (n : Int) := by omega
                have HN : Hid (encS 0 (natL l) 1 = none) := hid_ (by
                  rw [HD.out, show X - j = (X - j - 1) + 1 by omega, mulS, if_pos (by rw [← HMM.out]; exact hM)]
                  rfl)
                clear HD
                go_wp2_with (go_at_call 16; (with_reducible refine (KPR.out _).mono ?_); rintro e _ ⟨rfl, rfl⟩)
                refine bodyPost_ret (v := .tuple #[.int .i64 0, .int .i64 4]) (by simp [results, Try.results7, go_sem]) rfl ?_
                exact ⟨by rw [encC, if_pos HC.out, HN.out], rfl⟩
              · have tM : ¬ (M : Int) < (n : Int) := by omega
                have hmul : n * p ≤ 1152921504606846976 := by
                  have h1 : n * p ≤ M * p := Nat.mul_le_mul_right _ (by omega)
                  have h2 : M * p ≤ 1152921504606846976 := by rw [HMM.out]; exact Nat.div_mul_le_self _ _
                  omega
                have hpos : 1 ≤ n * p := Nat.mul_pos hn1 (by omega)
                have HD1 : Hid (encS 0 (natL l) 1 = (mulS p (X - (j + 1)) (n * p)).bind fun m => encS (k + 1) ((natL l).drop (k + 1)) m) := hid_ (by
                  rw [HD.out, show X - j = (X - (j + 1)) + 1 by omega, mulS, if_neg (by rw [← HMM.out]; omega)])
                have m5 : (n : Int) * (p : Int) = ((n * p : Nat) : Int) := by simp
                have m6 : IntKind.i64.wrap ((n : Int) * (p : Int)) = ((n * p : Nat) : Int) := by rw [m5]; exact IntWalk.i64_in _ (by omega)
                generalize n * p = np at *
                have m7 : IntKind.i64.wrap ((j : Int) + 1) = ((j + 1 : Nat) : Int) := by rw [IntWalk.i64_in _ (by omega)]; omega
                clear HD m5
                go_wp2_with (go_at_call 16; (with_reducible refine (KPR.out _).mono ?_); rintro e _ ⟨rfl, rfl⟩)
                go_roundw
                case rel => exact ⟨j + 1, np, by go_num, by go_num, by omega, HD1, hpos, hmul, trivial⟩
                case measure => simp [intOf]; omega
            · have hjX : j = X := by omega
              have HD1 : Hid (encS 0 (natL l) 1 = encS (k + 1) ((natL l).drop (k + 1)) n) := hid_ (by
                have := HD.out
                rw [hjX, Nat.sub_self, mulS] at this
                exact this)
              have tj : ¬ (j : Int) < (X : Int) := by omega
              clear HD
              go_wp2_with fail
              go_roundw
              case rel => exact ⟨k + 1, n, by go_num, by go_num, by omega, HD1, hn1, hn2, trivial⟩
              case measure => simp [intOf]; omega
        · obtain rfl : k = l.length := by omega
          have HN : Hid (encS 0 (natL l) 1 = some n) := hid_ (by
            rw [HA.out, List.drop_eq_nil_of_le (by rw [natL, List.length_map]; exact Nat.le_refl _)]
            rfl)
          clear HA
          go_wp2_with fail
          refine bodyPost_ret (v := .tuple #[.int .i64 (n : Int), .int .i64 0]) (by simp [results, Try.results7, go_sem]) rfl ?_
          exact ⟨by rw [encC, if_pos HC.out, HN.out], rfl⟩

set_option maxRecDepth 100000 in
set_option maxHeartbeats 4000000 in
theorem encode_bad (l : List Int) (v : Value) (w : World) (hE : Elems w w.heap.size v (ints l)) (hcb : contB l = false) (hl : l.length ≤ 17592186044416) :
    Calls Try.prog 7 #[v] w fun e w' => e = .returned (.tuple #[.int .i64 (encC l).1, .int .i64 (encC l).2]) ∧ w' = w := by
  obtain ⟨A, c, rfl⟩ := hE.form
  rw [ints_len] at hE ⊢
  have HE := hid_ hE
  have HN : Hid (encC l = (0, 2)) := hid_ (by rw [encC, if_neg (by rw [hcb]; simp)])
  have HC := hid_ hcb
  clear hE hcb
  go_enter Try.func7, Try.ntmps7
  by_cases h1 : l.length < 1
  · have t1 : (l.length : Int) < 1 := by omega
    go_wp2_with fail
    refine bodyPost_ret (v := .tuple #[.int .i64 0, .int .i64 2]) (by simp [results, Try.results7, go_sem]) rfl ?_
    exact ⟨by rw [HN.out], rfl⟩
  have t1 : ¬ (l.length : Int) < 1 := by omega
  by_cases h6 : 6 < l.length
  · have t6 : (6 : Int) < (l.length : Int) := by omega
    go_wp2_with fail
    refine bodyPost_ret (v := .tuple #[.int .i64 0, .int .i64 2]) (by simp [results, Try.results7, go_sem]) rfl ?_
    exact ⟨by rw [HN.out], rfl⟩
  have t6 : ¬ (6 : Int) < (l.length : Int) := by omega
  go_wp2_with fail
  go_loopw [19] (fun s wr => ∃ k : Nat, s = .int .i64 (k : Int) ∧ k ≤ l.length ∧ Hid ((l.take k).all (fun x => decide (0 ≤ x)) = true) ∧ w = wr) (fun s _ => l.length - (intOf s).toNat)
  case atStart => exact ⟨0, rfl, Nat.zero_le _, hid_ rfl, rfl⟩
  case round =>
    obtain ⟨k, rfl, hk, HA, rfl⟩ := hrel
    by_cases hlt : k < l.length
    · obtain ⟨x, hx⟩ : ∃ x, l[k]? = some x := ⟨_, List.getElem?_eq_getElem hlt⟩
      obtain ⟨b1, o1, rfl, _, hc⟩ := HE.out.at_ (by omega)
      have i1 := hc k _ (ints_at hx)
      have t0 : 0 ≤ (k : Int) := by omega
      by_cases tx : x < 0
      · clear hc hx
        go_wp2_with fail
        refine bodyPost_ret (v := .tuple #[.int .i64 0, .int .i64 2]) (by simp [results, Try.results7, go_sem]) rfl ?_
        exact ⟨by rw [HN.out], rfl⟩
      · have HA1 : Hid ((l.take (k + 1)).all (fun x => decide (0 ≤ x)) = true) := hid_ (all_step hx HA.out (by simp; omega))
        clear hc hx HA
        go_wp2_with fail
        go_roundw
        case rel => exact ⟨k + 1, by go_num, by omega, HA1, trivial⟩
        case measure => simp [intOf]; omega
    · exfalso
      have h := HA.out
      rw [List.take_of_length_le (by omega)] at h
      have h2 := HC.out
      rw [contB, h, decide_eq_true (show 1 ≤ l.length by omega), decide_eq_true (show l.length ≤ 6 by omega)] at h2
      cases h2

theorem encode_any (l : List Int) (v : Value) (w : World) (hE : Elems w w.heap.size v (ints l)) (hl : l.length ≤ 17592186044416) (hbi : ∀ x ∈ l, x ≤ 9223372036854775807) :
    Calls Try.prog 7 #[v] w fun e w' => e = .returned (.tuple #[.int .i64 (encC l).1, .int .i64 (encC l).2]) ∧ w' = w := by
  cases h : contB l with
  | true => exact encode_go l v w hE h hbi
  | false => exact encode_bad l v w hE h hl

end Go.Proofs.Ytonammaecpapmaa.Pp

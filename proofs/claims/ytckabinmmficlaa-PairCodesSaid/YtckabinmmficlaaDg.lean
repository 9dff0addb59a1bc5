/- The law PairCodes, way by way. -/
import Derived.Test.YtckabinmmficlaaDf
namespace Go.Proofs.Ytckabinmmficlaa.Pp
open Go.RowKit

/-- A slice of these ints, and memory. -/
def SlRan (l : List Int) (x : Value) (w : World) (e : Ending) (w' : World) : Prop :=
  ∃ A c, e = .returned (.tuple #[.slice A l.length c, x]) ∧ Elems w' w'.heap.size (.slice A l.length c) (ints l) ∧ Below w.heap.size w w'
theorem DecRan.sl {l : List Int} {x : Value} {w : World} {e : Ending} {w' : World} (h : DecRan l x w e w') : SlRan l x w e w' := by
  obtain ⟨v, rfl, hE, hb⟩ := h
  obtain ⟨A, c, rfl⟩ := hE.form
  rw [ints_len] at hE ⊢
  exact ⟨A, c, rfl, hE, hb⟩
theorem natL_back {l : List Int} (h : contB l = true) : (natL l).map (fun x : Nat => (x : Int)) = l := by
  rw [contB, Bool.and_eq_true, Bool.and_eq_true, List.all_eq_true] at h
  rw [natL, List.map_map]
  conv => rhs; rw [← List.map_id l]
  refine List.map_congr_left fun x hx => ?_
  have := h.1.1 x hx
  simp only [decide_eq_true_eq] at this
  show ((x.toNat : Nat) : Int) = x
  omega
theorem decC_back {l : List Int} {n : Nat} (h : contB l = true) (hn : encS 0 (natL l) 1 = some n) : decC (n : Int) (l.length : Int) = (l, 0) := by
  obtain ⟨h1, h2⟩ := cont_len h
  have hl : (natL l).length = l.length := by rw [natL, List.length_map]
  obtain ⟨d1, d2, d3⟩ := dec_enc (by omega) hn
  rw [hl] at d1
  rw [decC, if_neg (by omega), Int.toNat_natCast, Int.toNat_natCast, d1, if_pos rfl, natL_back h]

set_option maxRecDepth 100000 in
set_option maxHeartbeats 8000000 in
theorem codes_wide (l : List Int) (N M : Int) (A : Option Addr) (c : Nat) (w : World) (hE : Elems w w.heap.size (.slice A l.length c) (ints l)) (hl : l.length ≤ 17592186044416) (hbi : ∀ x ∈ l, x ≤ 9223372036854775807) (h100 : 100 < l.length) :
    Calls Try.prog 3 #[.slice A l.length c, .int .i64 N, .int .i64 M] w fun e w' => e = .returned (.bool true) ∧ Below w.heap.size w w' := by
  have hlen : ¬ (l.length : Int) ≤ 100 := by omega
  have hlen2 : (100 : Int) < l.length := by omega
  clear hE hbi
  go_enter Try.func3, Try.ntmps3
  go_wp2_with (go_at_call 7; (with_reducible refine (awake_any _).mono ?_); rintro e w99 ⟨rfl, hb99⟩)
  go_ret
  exact ⟨rfl, hb99⟩

set_option maxRecDepth 100000 in
set_option maxHeartbeats 8000000 in
theorem codes_bad_con (l : List Int) (N M : Int) (A : Option Addr) (c : Nat) (w : World) (hE : Elems w w.heap.size (.slice A l.length c) (ints l)) (hl : l.length ≤ 17592186044416) (hbi : ∀ x ∈ l, x ≤ 9223372036854775807) (h100 : l.length ≤ 100) (hd : N < 1 ∨ 1152921504606846976 < N ∨ M < 1 ∨ 6 < M) (hr : contB l = false) :
    Calls Try.prog 3 #[.slice A l.length c, .int .i64 N, .int .i64 M] w fun e w' => e = .returned (.bool true) ∧ Below w.heap.size w w' := by
  have HE := hid_ hE
  have HBI := hid_ hbi
  have KDE : Hid (∀ Y, Calls Try.prog 9 #[.int .i64 N, .int .i64 M] Y (SlRan [] (.int .i64 2) Y)) := hid_ (fun Y => (decode_any N M Y).mono fun e w' h => by rw [show decC N M = ([], 2) by rw [decC, if_pos hd]] at h; exact h.sl)
  have HEN : Hid (encC l = (0, 2)) := hid_ (by rw [encC, if_neg (by rw [hr]; simp)])
  have HCO := hid_ hr
  clear hr
  have KEN : Hid (∀ Y, Elems Y Y.heap.size (.slice A l.length c) (ints l) → Calls Try.prog 8 #[.slice A l.length c] Y fun e w' => e = .returned (.tuple #[.int .i64 0, .int .i64 2]) ∧ Y = w') := hid_ (fun Y h => (encode_any l _ Y h hl hbi).mono fun e w' h => by rw [HEN.out] at h; exact ⟨h.1, h.2.symm⟩)
  have KRC : Hid (∀ Y, Elems Y Y.heap.size (.slice A l.length c) (ints l) → Calls Try.prog 12 #[.slice A l.length c] Y fun e w' => e = .returned (.bool false) ∧ Y = w') := hid_ (fun Y h => (contents_any l _ Y h hl).mono fun e w' h => by rw [HCO.out] at h; exact ⟨h.1, h.2.symm⟩)
  have HL := hid_ hl
  have hlen : (l.length : Int) ≤ 100 := by omega
  clear hE hbi hl
  go_enter Try.func3, Try.ntmps3
  go_upto_region 5 with (first | (go_at_call 8; (with_reducible refine (KEN.out _ HE.out).mono ?_); rintro e _ ⟨rfl, rfl⟩) | (go_at_call 9; (with_reducible refine (KDE.out _).mono ?_); rintro e w1 ⟨A1, c1, rfl, hE1, hb1⟩))
  replace HE := hid_ (HE.out.to hb1)
  have HE1 := hid_ hE1
  clear hE1
  obtain ⟨W, rfl⟩ : ∃ X : World, X = w1 := ⟨_, rfl⟩
  go_cut [46] (fun s wx => s = .bool true ∧ W = wx)
  case first => as_aux_lemma =>
    by_cases n1 : N < 1
    · go_wp2_with fail
      go_meet
      exact ⟨rfl, rfl⟩
    · by_cases n2 : 1152921504606846976 < N
      · go_wp2_with fail
        go_meet
        exact ⟨rfl, rfl⟩
      · by_cases n3 : M < 1
        · go_wp2_with fail
          go_meet
          exact ⟨rfl, rfl⟩
        · have n4 : 6 < M := by omega
          go_wp2_with fail
          go_meet
          exact ⟨rfl, rfl⟩
  case rest => as_aux_lemma =>
    obtain ⟨rfl, rfl⟩ := hcut
    have hz0 : ¬ (0 : Int) < 0 := by omega
    go_upto_region 11 with fail
    go_wp2_with (first | (go_at_call 12; (with_reducible refine (KRC.out _ HE.out).mono ?_); rintro e _ ⟨rfl, rfl⟩) | (go_at_call 7; (with_reducible refine (awake_any _).mono ?_); rintro e w99 ⟨rfl, hb99⟩))
    go_ret
    exact ⟨rfl, bnext hb1 hb99⟩

set_option maxRecDepth 100000 in
set_option maxHeartbeats 8000000 in
theorem codes_bad_big (l : List Int) (N M : Int) (A : Option Addr) (c : Nat) (w : World) (hE : Elems w w.heap.size (.slice A l.length c) (ints l)) (hl : l.length ≤ 17592186044416) (hbi : ∀ x ∈ l, x ≤ 9223372036854775807) (h100 : l.length ≤ 100) (hd : N < 1 ∨ 1152921504606846976 < N ∨ M < 1 ∨ 6 < M) (hr : contB l = true) (hx : ∃ x ∈ l, 60 < x) :
    Calls Try.prog 3 #[.slice A l.length c, .int .i64 N, .int .i64 M] w fun e w' => e = .returned (.bool true) ∧ Below w.heap.size w w' := by
  have HE := hid_ hE
  have HBI := hid_ hbi
  have KDE : Hid (∀ Y, Calls Try.prog 9 #[.int .i64 N, .int .i64 M] Y (SlRan [] (.int .i64 2) Y)) := hid_ (fun Y => (decode_any N M Y).mono fun e w' h => by rw [show decC N M = ([], 2) by rw [decC, if_pos hd]] at h; exact h.sl)
  have HEN : Hid (encC l = (0, 4)) := hid_ (by
    have h : encS 0 (natL l) 1 = none := encS_big _ 0 1 (by rw [natL, List.length_map]; have := (cont_len hr).2; omega) (by omega) (by omega) (by
      obtain ⟨x, hx1, hx2⟩ := hx
      exact ⟨x.toNat, List.mem_map.2 ⟨x, hx1, rfl⟩, by omega⟩)
    rw [encC, if_pos hr, h])
  have HCO := hid_ hr
  have HXX := hid_ hx
  clear hr hx
  have KEN : Hid (∀ Y, Elems Y Y.heap.size (.slice A l.length c) (ints l) → Calls Try.prog 8 #[.slice A l.length c] Y fun e w' => e = .returned (.tuple #[.int .i64 0, .int .i64 4]) ∧ Y = w') := hid_ (fun Y h => (encode_any l _ Y h hl hbi).mono fun e w' h => by rw [HEN.out] at h; exact ⟨h.1, h.2.symm⟩)
  have KRC : Hid (∀ Y, Elems Y Y.heap.size (.slice A l.length c) (ints l) → Calls Try.prog 12 #[.slice A l.length c] Y fun e w' => e = .returned (.bool true) ∧ Y = w') := hid_ (fun Y h => (contents_any l _ Y h hl).mono fun e w' h => by rw [HCO.out] at h; exact ⟨h.1, h.2.symm⟩)
  have HL := hid_ hl
  have hlen : (l.length : Int) ≤ 100 := by omega
  clear hE hbi hl
  go_enter Try.func3, Try.ntmps3
  go_upto_region 5 with (first | (go_at_call 8; (with_reducible refine (KEN.out _ HE.out).mono ?_); rintro e _ ⟨rfl, rfl⟩) | (go_at_call 9; (with_reducible refine (KDE.out _).mono ?_); rintro e w1 ⟨A1, c1, rfl, hE1, hb1⟩))
  replace HE := hid_ (HE.out.to hb1)
  have HE1 := hid_ hE1
  clear hE1
  obtain ⟨W, rfl⟩ : ∃ X : World, X = w1 := ⟨_, rfl⟩
  go_cut [46] (fun s wx => s = .bool true ∧ W = wx)
  case first => as_aux_lemma =>
    by_cases n1 : N < 1
    · go_wp2_with fail
      go_meet
      exact ⟨rfl, rfl⟩
    · by_cases n2 : 1152921504606846976 < N
      · go_wp2_with fail
        go_meet
        exact ⟨rfl, rfl⟩
      · by_cases n3 : M < 1
        · go_wp2_with fail
          go_meet
          exact ⟨rfl, rfl⟩
        · have n4 : 6 < M := by omega
          go_wp2_with fail
          go_meet
          exact ⟨rfl, rfl⟩
  case rest => as_aux_lemma =>
    obtain ⟨rfl, rfl⟩ := hcut
    have hz0 : ¬ (0 : Int) < 0 := by omega
    go_upto_region 11 with fail
    have hpos : 0 < l.length := (cont_len HCO.out).1
    obtain ⟨bb, oo, hA, hbl, hcc⟩ := HE.out.at_ hpos
    subst hA
    have HCC := hid_ hcc
    clear hcc
    go_upto_region 13 with (go_at_call 12; (with_reducible refine (KRC.out _ HE.out).mono ?_); rintro e _ ⟨rfl, rfl⟩)
    go_wp2_with fail
    go_loopw [13] (fun a wr => ∃ k : Nat, a = .int .i64 (k : Int) ∧ k ≤ l.length ∧ Hid (∀ j, j < k → ∀ x, l[j]? = some x → x ≤ 60) ∧ W = wr) (fun a _ => l.length - (intOf a).toNat)
    case atStart => exact ⟨0, rfl, Nat.zero_le _, hid_ (fun j hj => by omega), rfl⟩
    case round =>
      obtain ⟨k, rfl, hk, HT, rfl⟩ := hrel
      by_cases hlt : k < l.length
      · obtain ⟨x, hx⟩ : ∃ x, l[k]? = some x := ⟨_, List.getElem?_eq_getElem hlt⟩
        have i0 := HCC.out k _ (ints_at hx)
        have HX := hid_ hx
        clear hx
        by_cases h60 : 60 < x
        · go_wp2_with (go_at_call 7; (with_reducible refine (awake_any _).mono ?_); rintro e w99 ⟨rfl, hb99⟩)
          go_ret
          exact ⟨rfl, bnext hb1 hb99⟩
        · go_wp2_with fail
          go_round
          case rel => exact ⟨k + 1, by go_num, by omega, hid_ (fun j hj y hy => by
            rcases Nat.lt_or_ge j k with h | h
            · exact HT.out j h y hy
            · obtain rfl : j = k := by omega
              rw [HX.out] at hy
              obtain rfl := Option.some.inj hy
              omega), (by first | rfl | trivial)⟩
          case measure => simp [intOf]; omega
      · exfalso
        obtain ⟨x, hx1, hx2⟩ := HXX.out
        obtain ⟨j, hj⟩ := List.mem_iff_getElem?.1 hx1
        have hjl := (List.getElem?_eq_some_iff.1 hj).1
        have := HT.out j (by omega) x hj
        omega

set_option maxRecDepth 100000 in
set_option maxHeartbeats 8000000 in
theorem codes_bad_no (l : List Int) (N M : Int) (A : Option Addr) (c : Nat) (w : World) (hE : Elems w w.heap.size (.slice A l.length c) (ints l)) (hl : l.length ≤ 17592186044416) (hbi : ∀ x ∈ l, x ≤ 9223372036854775807) (h100 : l.length ≤ 100) (hd : N < 1 ∨ 1152921504606846976 < N ∨ M < 1 ∨ 6 < M) (hr : contB l = true) (hx : ∀ x ∈ l, x ≤ 60) (hs : encS 0 (natL l) 1 = none) :
    Calls Try.prog 3 #[.slice A l.length c, .int .i64 N, .int .i64 M] w fun e w' => e = .returned (.bool true) ∧ Below w.heap.size w w' := by
  have HE := hid_ hE
  have HBI := hid_ hbi
  have KDE : Hid (∀ Y, Calls Try.prog 9 #[.int .i64 N, .int .i64 M] Y (SlRan [] (.int .i64 2) Y)) := hid_ (fun Y => (decode_any N M Y).mono fun e w' h => by rw [show decC N M = ([], 2) by rw [decC, if_pos hd]] at h; exact h.sl)
  have HEN : Hid (encC l = (0, 4)) := hid_ (by rw [encC, if_pos hr, hs])
  have HCO := hid_ hr
  have HXX := hid_ hx
  have KRE : Hid (∀ Y, Elems Y Y.heap.size (.slice A l.length c) (ints l) → Calls Try.prog 13 #[.slice A l.length c] Y fun e w' => e = .returned (.tuple #[.int .i64 0, .bool false]) ∧ Below Y.heap.size Y w') := hid_ (fun Y h => by
    have h2 := rencode_any l _ Y h hr hbi
    rw [hs] at h2
    exact h2)
  clear hr hx hs
  have KEN : Hid (∀ Y, Elems Y Y.heap.size (.slice A l.length c) (ints l) → Calls Try.prog 8 #[.slice A l.length c] Y fun e w' => e = .returned (.tuple #[.int .i64 0, .int .i64 4]) ∧ Y = w') := hid_ (fun Y h => (encode_any l _ Y h hl hbi).mono fun e w' h => by rw [HEN.out] at h; exact ⟨h.1, h.2.symm⟩)
  have KRC : Hid (∀ Y, Elems Y Y.heap.size (.slice A l.length c) (ints l) → Calls Try.prog 12 #[.slice A l.length c] Y fun e w' => e = .returned (.bool true) ∧ Y = w') := hid_ (fun Y h => (contents_any l _ Y h hl).mono fun e w' h => by rw [HCO.out] at h; exact ⟨h.1, h.2.symm⟩)
  have HL := hid_ hl
  have hlen : (l.length : Int) ≤ 100 := by omega
  clear hE hbi hl
  go_enter Try.func3, Try.ntmps3
  go_upto_region 5 with (first | (go_at_call 8; (with_reducible refine (KEN.out _ HE.out).mono ?_); rintro e _ ⟨rfl, rfl⟩) | (go_at_call 9; (with_reducible refine (KDE.out _).mono ?_); rintro e w1 ⟨A1, c1, rfl, hE1, hb1⟩))
  replace HE := hid_ (HE.out.to hb1)
  have HE1 := hid_ hE1
  clear hE1
  obtain ⟨W, rfl⟩ : ∃ X : World, X = w1 := ⟨_, rfl⟩
  go_cut [46] (fun s wx => s = .bool true ∧ W = wx)
  case first => as_aux_lemma =>
    by_cases n1 : N < 1
    · go_wp2_with fail
      go_meet
      exact ⟨rfl, rfl⟩
    · by_cases n2 : 1152921504606846976 < N
      · go_wp2_with fail
        go_meet
        exact ⟨rfl, rfl⟩
      · by_cases n3 : M < 1
        · go_wp2_with fail
          go_meet
          exact ⟨rfl, rfl⟩
        · have n4 : 6 < M := by omega
          go_wp2_with fail
          go_meet
          exact ⟨rfl, rfl⟩
  case rest => as_aux_lemma =>
    obtain ⟨rfl, rfl⟩ := hcut
    have hz0 : ¬ (0 : Int) < 0 := by omega
    go_upto_region 11 with fail
    have hpos : 0 < l.length := (cont_len HCO.out).1
    obtain ⟨bb, oo, hA, hbl, hcc⟩ := HE.out.at_ hpos
    subst hA
    have HCC := hid_ hcc
    clear hcc
    go_upto_region 13 with (go_at_call 12; (with_reducible refine (KRC.out _ HE.out).mono ?_); rintro e _ ⟨rfl, rfl⟩)
    go_wp2_with fail
    go_loopw [13] (fun a wr => ∃ k : Nat, a = .int .i64 (k : Int) ∧ k ≤ l.length ∧ Hid (∀ j, j < k → ∀ x, l[j]? = some x → x ≤ 60) ∧ W = wr) (fun a _ => l.length - (intOf a).toNat)
    case atStart => exact ⟨0, rfl, Nat.zero_le _, hid_ (fun j hj => by omega), rfl⟩
    case round =>
      obtain ⟨k, rfl, hk, HT, rfl⟩ := hrel
      by_cases hlt : k < l.length
      · obtain ⟨x, hx⟩ : ∃ x, l[k]? = some x := ⟨_, List.getElem?_eq_getElem hlt⟩
        have i0 := HCC.out k _ (ints_at hx)
        have HX := hid_ hx
        clear hx
        have h60 : ¬ 60 < x := by have := HXX.out x (List.mem_of_getElem? HX.out); omega
        go_wp2_with fail
        go_round
        case rel => exact ⟨k + 1, by go_num, by omega, hid_ (fun j hj y hy => HXX.out y (List.mem_of_getElem? hy)), (by first | rfl | trivial)⟩
        case measure => simp [intOf]; omega
      · have hkn : k = l.length := by omega
        subst hkn
        go_wp2_with (first | (go_at_call 13; (with_reducible refine (KRE.out _ HE.out).mono ?_); rintro e w5 ⟨rfl, hb5⟩) | (go_at_call 7; (with_reducible refine (awake_any _).mono ?_); rintro e w99 ⟨rfl, hb99⟩))
        go_ret
        exact ⟨rfl, bnext hb1 (bnext hb5 hb99)⟩

set_option maxRecDepth 100000 in
set_option maxHeartbeats 8000000 in
theorem codes_bad_yes (l : List Int) (N M : Int) (A : Option Addr) (c : Nat) (w : World) (hE : Elems w w.heap.size (.slice A l.length c) (ints l)) (hl : l.length ≤ 17592186044416) (hbi : ∀ x ∈ l, x ≤ 9223372036854775807) (h100 : l.length ≤ 100) (hd : N < 1 ∨ 1152921504606846976 < N ∨ M < 1 ∨ 6 < M) (n : Nat) (hr : contB l = true) (hx : ∀ x ∈ l, x ≤ 60) (hs : encS 0 (natL l) 1 = some n) :
    Calls Try.prog 3 #[.slice A l.length c, .int .i64 N, .int .i64 M] w fun e w' => e = .returned (.bool true) ∧ Below w.heap.size w w' := by
  have HE := hid_ hE
  have HBI := hid_ hbi
  have KDE : Hid (∀ Y, Calls Try.prog 9 #[.int .i64 N, .int .i64 M] Y (SlRan [] (.int .i64 2) Y)) := hid_ (fun Y => (decode_any N M Y).mono fun e w' h => by rw [show decC N M = ([], 2) by rw [decC, if_pos hd]] at h; exact h.sl)
  have HEN : Hid (encC l = ((n : Int), 0)) := hid_ (by rw [encC, if_pos hr, hs])
  have HCO := hid_ hr
  have HXX := hid_ hx
  have KRE : Hid (∀ Y, Elems Y Y.heap.size (.slice A l.length c) (ints l) → Calls Try.prog 13 #[.slice A l.length c] Y fun e w' => e = .returned (.tuple #[.int .i64 (n : Int), .bool true]) ∧ Below Y.heap.size Y w') := hid_ (fun Y h => by
    have h2 := rencode_any l _ Y h hr hbi
    rw [hs] at h2
    exact h2)
  have KD2 : Hid (∀ Y, Calls Try.prog 9 #[.int .i64 (n : Int), .int .i64 (l.length : Int)] Y (SlRan l (.int .i64 0) Y)) := hid_ (fun Y => (decode_any n l.length Y).mono fun e w' h => by rw [decC_back hr hs] at h; exact h.sl)
  clear hr hx hs
  have KEN : Hid (∀ Y, Elems Y Y.heap.size (.slice A l.length c) (ints l) → Calls Try.prog 8 #[.slice A l.length c] Y fun e w' => e = .returned (.tuple #[.int .i64 (n : Int), .int .i64 0]) ∧ Y = w') := hid_ (fun Y h => (encode_any l _ Y h hl hbi).mono fun e w' h => by rw [HEN.out] at h; exact ⟨h.1, h.2.symm⟩)
  have KRC : Hid (∀ Y, Elems Y Y.heap.size (.slice A l.length c) (ints l) → Calls Try.prog 12 #[.slice A l.length c] Y fun e w' => e = .returned (.bool true) ∧ Y = w') := hid_ (fun Y h => (contents_any l _ Y h hl).mono fun e w' h => by rw [HCO.out] at h; exact ⟨h.1, h.2.symm⟩)
  have HL := hid_ hl
  have hlen : (l.length : Int) ≤ 100 := by omega
  clear hE hbi hl
  go_enter Try.func3, Try.ntmps3
  go_upto_region 5 with (first | (go_at_call 8; (with_reducible refine (KEN.out _ HE.out).mono ?_); rintro e _ ⟨rfl, rfl⟩) | (go_at_call 9; (with_reducible refine (KDE.out _).mono ?_); rintro e w1 ⟨A1, c1, rfl, hE1, hb1⟩))
  replace HE := hid_ (HE.out.to hb1)
  have HE1 := hid_ hE1
  clear hE1
  obtain ⟨W, rfl⟩ : ∃ X : World, X = w1 := ⟨_, rfl⟩
  go_cut [46] (fun s wx => s = .bool true ∧ W = wx)
  case first => as_aux_lemma =>
    by_cases n1 : N < 1
    · go_wp2_with fail
      go_meet
      exact ⟨rfl, rfl⟩
    · by_cases n2 : 1152921504606846976 < N
      · go_wp2_with fail
        go_meet
        exact ⟨rfl, rfl⟩
      · by_cases n3 : M < 1
        · go_wp2_with fail
          go_meet
          exact ⟨rfl, rfl⟩
        · have n4 : 6 < M := by omega
          go_wp2_with fail
          go_meet
          exact ⟨rfl, rfl⟩
  case rest => as_aux_lemma =>
    obtain ⟨rfl, rfl⟩ := hcut
    have hz0 : ¬ (0 : Int) < 0 := by omega
    go_upto_region 11 with fail
    have hpos : 0 < l.length := (cont_len HCO.out).1
    obtain ⟨bb, oo, hA, hbl, hcc⟩ := HE.out.at_ hpos
    subst hA
    have HCC := hid_ hcc
    clear hcc
    go_upto_region 13 with (go_at_call 12; (with_reducible refine (KRC.out _ HE.out).mono ?_); rintro e _ ⟨rfl, rfl⟩)
    go_wp2_with fail
    go_loopw [13] (fun a wr => ∃ k : Nat, a = .int .i64 (k : Int) ∧ k ≤ l.length ∧ Hid (∀ j, j < k → ∀ x, l[j]? = some x → x ≤ 60) ∧ W = wr) (fun a _ => l.length - (intOf a).toNat)
    case atStart => exact ⟨0, rfl, Nat.zero_le _, hid_ (fun j hj => by omega), rfl⟩
    case round =>
      obtain ⟨k, rfl, hk, HT, rfl⟩ := hrel
      by_cases hlt : k < l.length
      · obtain ⟨x, hx⟩ : ∃ x, l[k]? = some x := ⟨_, List.getElem?_eq_getElem hlt⟩
        have i0 := HCC.out k _ (ints_at hx)
        have HX := hid_ hx
        clear hx
        have h60 : ¬ 60 < x := by have := HXX.out x (List.mem_of_getElem? HX.out); omega
        go_wp2_with fail
        go_round
        case rel => exact ⟨k + 1, by go_num, by omega, hid_ (fun j hj y hy => HXX.out y (List.mem_of_getElem? hy)), (by first | rfl | trivial)⟩
        case measure => simp [intOf]; omega
      · have hkn : k = l.length := by omega
        subst hkn
        have KS2 : Hid (∀ Y A2 c2, Elems Y Y.heap.size (.slice A2 l.length c2) (ints l) → Elems Y Y.heap.size (.slice (some ⟨bb, oo, none⟩) l.length c) (ints l) → Calls Try.prog 11 #[.slice A2 l.length c2, .slice (some ⟨bb, oo, none⟩) l.length c] Y fun e w' => e = .returned (.bool true) ∧ Below Y.heap.size Y w') := hid_ (fun Y A2 c2 h1 h2 => by
          have h := same_any l l _ _ Y h1 h2 HL.out HL.out
          rw [decide_eq_true rfl] at h
          exact h)
        go_wp2_with (first | (go_at_call 13; (with_reducible refine (KRE.out _ HE.out).mono ?_); rintro e w5 ⟨rfl, hb5⟩; have HE5 := hid_ (HE.out.to hb5)) | (go_at_call 9; (with_reducible refine (KD2.out _).mono ?_); rintro e w6 ⟨A6, c6, rfl, hE6, hb6⟩; have HE6 := hid_ hE6; clear hE6; have HE7 := hid_ (HE5.out.to hb6)) | (go_at_call 11; (with_reducible refine (KS2.out _ _ _ HE6.out HE7.out).mono ?_); rintro e w7 ⟨rfl, hb7⟩) | (go_at_call 7; (with_reducible refine (awake_any _).mono ?_); rintro e w99 ⟨rfl, hb99⟩))
        go_ret
        exact ⟨rfl, bnext hb1 (bnext hb5 (bnext hb6 (bnext hb7 hb99)))⟩

set_option maxRecDepth 100000 in
set_option maxHeartbeats 8000000 in
theorem codes_none_con (l : List Int) (N M : Int) (A : Option Addr) (c : Nat) (w : World) (hE : Elems w w.heap.size (.slice A l.length c) (ints l)) (hl : l.length ≤ 17592186044416) (hbi : ∀ x ∈ l, x ≤ 9223372036854775807) (h100 : l.length ≤ 100) (hd : 1 ≤ N ∧ N ≤ 1152921504606846976 ∧ 1 ≤ M ∧ M ≤ 6) (hk : ¬ (decS 0 M.toNat N.toNat).2 = 1) (hr : contB l = false) :
    Calls Try.prog 3 #[.slice A l.length c, .int .i64 N, .int .i64 M] w fun e w' => e = .returned (.bool true) ∧ Below w.heap.size w w' := by
  have HE := hid_ hE
  have HBI := hid_ hbi
  have KDE : Hid (∀ Y, Calls Try.prog 9 #[.int .i64 N, .int .i64 M] Y (SlRan [] (.int .i64 6) Y)) := hid_ (fun Y => (decode_any N M Y).mono fun e w' h => by rw [show decC N M = ([], 6) by rw [decC, if_neg (by omega), if_neg hk]] at h; exact h.sl)
  obtain ⟨dl, hdl⟩ : ∃ dl, dl = (decS 0 M.toNat N.toNat).1.map (fun x : Nat => (x : Int)) := ⟨_, rfl⟩
  have KRD : Hid (∀ Y, Calls Try.prog 10 #[.int .i64 N, .int .i64 M] Y (SlRan dl (.bool false) Y)) := hid_ (fun Y => by
    have h := rdecode_any N.toNat M.toNat Y (by omega) (by omega) (by omega) (by omega)
    rw [Int.toNat_of_nonneg (by omega), Int.toNat_of_nonneg (by omega), decide_eq_false hk, ← hdl] at h
    exact h.mono fun e w' h => h.sl)
  clear hdl hk
  have HEN : Hid (encC l = (0, 2)) := hid_ (by rw [encC, if_neg (by rw [hr]; simp)])
  have HCO := hid_ hr
  clear hr
  have KEN : Hid (∀ Y, Elems Y Y.heap.size (.slice A l.length c) (ints l) → Calls Try.prog 8 #[.slice A l.length c] Y fun e w' => e = .returned (.tuple #[.int .i64 0, .int .i64 2]) ∧ Y = w') := hid_ (fun Y h => (encode_any l _ Y h hl hbi).mono fun e w' h => by rw [HEN.out] at h; exact ⟨h.1, h.2.symm⟩)
  have KRC : Hid (∀ Y, Elems Y Y.heap.size (.slice A l.length c) (ints l) → Calls Try.prog 12 #[.slice A l.length c] Y fun e w' => e = .returned (.bool false) ∧ Y = w') := hid_ (fun Y h => (contents_any l _ Y h hl).mono fun e w' h => by rw [HCO.out] at h; exact ⟨h.1, h.2.symm⟩)
  have HL := hid_ hl
  have hlen : (l.length : Int) ≤ 100 := by omega
  clear hE hbi hl
  go_enter Try.func3, Try.ntmps3
  go_upto_region 5 with (first | (go_at_call 8; (with_reducible refine (KEN.out _ HE.out).mono ?_); rintro e _ ⟨rfl, rfl⟩) | (go_at_call 9; (with_reducible refine (KDE.out _).mono ?_); rintro e w1 ⟨A1, c1, rfl, hE1, hb1⟩))
  replace HE := hid_ (HE.out.to hb1)
  have HE1 := hid_ hE1
  clear hE1
  obtain ⟨W, rfl⟩ : ∃ X : World, X = w1 := ⟨_, rfl⟩
  go_cut [46] (fun s wx => s = .bool false ∧ W = wx)
  case first => as_aux_lemma =>
    have n1 : ¬ N < 1 := by omega
    have n2 : ¬ 1152921504606846976 < N := by omega
    have n3 : ¬ M < 1 := by omega
    have n4 : ¬ 6 < M := by omega
    go_wp2_with fail
    go_meet
    exact ⟨rfl, rfl⟩
  case rest => as_aux_lemma =>
    obtain ⟨rfl, rfl⟩ := hcut
    have hz0 : ¬ (0 : Int) < 0 := by omega
    go_upto_region 11 with (go_at_call 10; (with_reducible refine (KRD.out _).mono ?_); rintro e w2 ⟨A2, c2, rfl, hE2, hb2⟩; clear hE2)
    replace HE := hid_ (HE.out.to hb2)
    replace hb1 := bnext hb1 hb2
    clear hb2
    obtain ⟨W, rfl⟩ : ∃ X : World, X = w2 := ⟨_, rfl⟩
    go_wp2_with (first | (go_at_call 12; (with_reducible refine (KRC.out _ HE.out).mono ?_); rintro e _ ⟨rfl, rfl⟩) | (go_at_call 7; (with_reducible refine (awake_any _).mono ?_); rintro e w99 ⟨rfl, hb99⟩))
    go_ret
    exact ⟨rfl, bnext hb1 hb99⟩

set_option maxRecDepth 100000 in
set_option maxHeartbeats 8000000 in
theorem codes_none_big (l : List Int) (N M : Int) (A : Option Addr) (c : Nat) (w : World) (hE : Elems w w.heap.size (.slice A l.length c) (ints l)) (hl : l.length ≤ 17592186044416) (hbi : ∀ x ∈ l, x ≤ 9223372036854775807) (h100 : l.length ≤ 100) (hd : 1 ≤ N ∧ N ≤ 1152921504606846976 ∧ 1 ≤ M ∧ M ≤ 6) (hk : ¬ (decS 0 M.toNat N.toNat).2 = 1) (hr : contB l = true) (hx : ∃ x ∈ l, 60 < x) :
    Calls Try.prog 3 #[.slice A l.length c, .int .i64 N, .int .i64 M] w fun e w' => e = .returned (.bool true) ∧ Below w.heap.size w w' := by
  have HE := hid_ hE
  have HBI := hid_ hbi
  have KDE : Hid (∀ Y, Calls Try.prog 9 #[.int .i64 N, .int .i64 M] Y (SlRan [] (.int .i64 6) Y)) := hid_ (fun Y => (decode_any N M Y).mono fun e w' h => by rw [show decC N M = ([], 6) by rw [decC, if_neg (by omega), if_neg hk]] at h; exact h.sl)
  obtain ⟨dl, hdl⟩ : ∃ dl, dl = (decS 0 M.toNat N.toNat).1.map (fun x : Nat => (x : Int)) := ⟨_, rfl⟩
  have KRD : Hid (∀ Y, Calls Try.prog 10 #[.int .i64 N, .int .i64 M] Y (SlRan dl (.bool false) Y)) := hid_ (fun Y => by
    have h := rdecode_any N.toNat M.toNat Y (by omega) (by omega) (by omega) (by omega)
    rw [Int.toNat_of_nonneg (by omega), Int.toNat_of_nonneg (by omega), decide_eq_false hk, ← hdl] at h
    exact h.mono fun e w' h => h.sl)
  clear hdl hk
  have HEN : Hid (encC l = (0, 4)) := hid_ (by
    have h : encS 0 (natL l) 1 = none := encS_big _ 0 1 (by rw [natL, List.length_map]; have := (cont_len hr).2; omega) (by omega) (by omega) (by
      obtain ⟨x, hx1, hx2⟩ := hx
      exact ⟨x.toNat, List.mem_map.2 ⟨x, hx1, rfl⟩, by omega⟩)
    rw [encC, if_pos hr, h])
  have HCO := hid_ hr
  have HXX := hid_ hx
  clear hr hx
  have KEN : Hid (∀ Y, Elems Y Y.heap.size (.slice A l.length c) (ints l) → Calls Try.prog 8 #[.slice A l.length c] Y fun e w' => e = .returned (.tuple #[.int .i64 0, .int .i64 4]) ∧ Y = w') := hid_ (fun Y h => (encode_any l _ Y h hl hbi).mono fun e w' h => by rw [HEN.out] at h; exact ⟨h.1, h.2.symm⟩)
  have KRC : Hid (∀ Y, Elems Y Y.heap.size (.slice A l.length c) (ints l) → Calls Try.prog 12 #[.slice A l.length c] Y fun e w' => e = .returned (.bool true) ∧ Y = w') := hid_ (fun Y h => (contents_any l _ Y h hl).mono fun e w' h => by rw [HCO.out] at h; exact ⟨h.1, h.2.symm⟩)
  have HL := hid_ hl
  have hlen : (l.length : Int) ≤ 100 := by omega
  clear hE hbi hl
  go_enter Try.func3, Try.ntmps3
  go_upto_region 5 with (first | (go_at_call 8; (with_reducible refine (KEN.out _ HE.out).mono ?_); rintro e _ ⟨rfl, rfl⟩) | (go_at_call 9; (with_reducible refine (KDE.out _).mono ?_); rintro e w1 ⟨A1, c1, rfl, hE1, hb1⟩))
  replace HE := hid_ (HE.out.to hb1)
  have HE1 := hid_ hE1
  clear hE1
  obtain ⟨W, rfl⟩ : ∃ X : World, X = w1 := ⟨_, rfl⟩
  go_cut [46] (fun s wx => s = .bool false ∧ W = wx)
  case first => as_aux_lemma =>
    have n1 : ¬ N < 1 := by omega
    have n2 : ¬ 1152921504606846976 < N := by omega
    have n3 : ¬ M < 1 := by omega
    have n4 : ¬ 6 < M := by omega
    go_wp2_with fail
    go_meet
    exact ⟨rfl, rfl⟩
  case rest => as_aux_lemma =>
    obtain ⟨rfl, rfl⟩ := hcut
    have hz0 : ¬ (0 : Int) < 0 := by omega
    go_upto_region 11 with (go_at_call 10; (with_reducible refine (KRD.out _).mono ?_); rintro e w2 ⟨A2, c2, rfl, hE2, hb2⟩; clear hE2)
    replace HE := hid_ (HE.out.to hb2)
    replace hb1 := bnext hb1 hb2
    clear hb2
    obtain ⟨W, rfl⟩ : ∃ X : World, X = w2 := ⟨_, rfl⟩
    have hpos : 0 < l.length := (cont_len HCO.out).1
    obtain ⟨bb, oo, hA, hbl, hcc⟩ := HE.out.at_ hpos
    subst hA
    have HCC := hid_ hcc
    clear hcc
    go_upto_region 13 with (go_at_call 12; (with_reducible refine (KRC.out _ HE.out).mono ?_); rintro e _ ⟨rfl, rfl⟩)
    go_wp2_with fail
    go_loopw [13] (fun a wr => ∃ k : Nat, a = .int .i64 (k : Int) ∧ k ≤ l.length ∧ Hid (∀ j, j < k → ∀ x, l[j]? = some x → x ≤ 60) ∧ W = wr) (fun a _ => l.length - (intOf a).toNat)
    case atStart => exact ⟨0, rfl, Nat.zero_le _, hid_ (fun j hj => by omega), rfl⟩
    case round =>
      obtain ⟨k, rfl, hk, HT, rfl⟩ := hrel
      by_cases hlt : k < l.length
      · obtain ⟨x, hx⟩ : ∃ x, l[k]? = some x := ⟨_, List.getElem?_eq_getElem hlt⟩
        have i0 := HCC.out k _ (ints_at hx)
        have HX := hid_ hx
        clear hx
        by_cases h60 : 60 < x
        · go_wp2_with (go_at_call 7; (with_reducible refine (awake_any _).mono ?_); rintro e w99 ⟨rfl, hb99⟩)
          go_ret
          exact ⟨rfl, bnext hb1 hb99⟩
        · go_wp2_with fail
          go_round
          case rel => exact ⟨k + 1, by go_num, by omega, hid_ (fun j hj y hy => by
            rcases Nat.lt_or_ge j k with h | h
            · exact HT.out j h y hy
            · obtain rfl : j = k := by omega
              rw [HX.out] at hy
              obtain rfl := Option.some.inj hy
              omega), (by first | rfl | trivial)⟩
          case measure => simp [intOf]; omega
      · exfalso
        obtain ⟨x, hx1, hx2⟩ := HXX.out
        obtain ⟨j, hj⟩ := List.mem_iff_getElem?.1 hx1
        have hjl := (List.getElem?_eq_some_iff.1 hj).1
        have := HT.out j (by omega) x hj
        omega

set_option maxRecDepth 100000 in
set_option maxHeartbeats 8000000 in
theorem codes_none_no (l : List Int) (N M : Int) (A : Option Addr) (c : Nat) (w : World) (hE : Elems w w.heap.size (.slice A l.length c) (ints l)) (hl : l.length ≤ 17592186044416) (hbi : ∀ x ∈ l, x ≤ 9223372036854775807) (h100 : l.length ≤ 100) (hd : 1 ≤ N ∧ N ≤ 1152921504606846976 ∧ 1 ≤ M ∧ M ≤ 6) (hk : ¬ (decS 0 M.toNat N.toNat).2 = 1) (hr : contB l = true) (hx : ∀ x ∈ l, x ≤ 60) (hs : encS 0 (natL l) 1 = none) :
    Calls Try.prog 3 #[.slice A l.length c, .int .i64 N, .int .i64 M] w fun e w' => e = .returned (.bool true) ∧ Below w.heap.size w w' := by
  have HE := hid_ hE
  have HBI := hid_ hbi
  have KDE : Hid (∀ Y, Calls Try.prog 9 #[.int .i64 N, .int .i64 M] Y (SlRan [] (.int .i64 6) Y)) := hid_ (fun Y => (decode_any N M Y).mono fun e w' h => by rw [show decC N M = ([], 6) by rw [decC, if_neg (by omega), if_neg hk]] at h; exact h.sl)
  obtain ⟨dl, hdl⟩ : ∃ dl, dl = (decS 0 M.toNat N.toNat).1.map (fun x : Nat => (x : Int)) := ⟨_, rfl⟩
  have KRD : Hid (∀ Y, Calls Try.prog 10 #[.int .i64 N, .int .i64 M] Y (SlRan dl (.bool false) Y)) := hid_ (fun Y => by
    have h := rdecode_any N.toNat M.toNat Y (by omega) (by omega) (by omega) (by omega)
    rw [Int.toNat_of_nonneg (by omega), Int.toNat_of_nonneg (by omega), decide_eq_false hk, ← hdl] at h
    exact h.mono fun e w' h => h.sl)
  clear hdl hk
  have HEN : Hid (encC l = (0, 4)) := hid_ (by rw [encC, if_pos hr, hs])
  have HCO := hid_ hr
  have HXX := hid_ hx
  have KRE : Hid (∀ Y, Elems Y Y.heap.size (.slice A l.length c) (ints l) → Calls Try.prog 13 #[.slice A l.length c] Y fun e w' => e = .returned (.tuple #[.int .i64 0, .bool false]) ∧ Below Y.heap.size Y w') := hid_ (fun Y h => by
    have h2 := rencode_any l _ Y h hr hbi
    rw [hs] at h2
    exact h2)
  clear hr hx hs
  have KEN : Hid (∀ Y, Elems Y Y.heap.size (.slice A l.length c) (ints l) → Calls Try.prog 8 #[.slice A l.length c] Y fun e w' => e = .returned (.tuple #[.int .i64 0, .int .i64 4]) ∧ Y = w') := hid_ (fun Y h => (encode_any l _ Y h hl hbi).mono fun e w' h => by rw [HEN.out] at h; exact ⟨h.1, h.2.symm⟩)
  have KRC : Hid (∀ Y, Elems Y Y.heap.size (.slice A l.length c) (ints l) → Calls Try.prog 12 #[.slice A l.length c] Y fun e w' => e = .returned (.bool true) ∧ Y = w') := hid_ (fun Y h => (contents_any l _ Y h hl).mono fun e w' h => by rw [HCO.out] at h; exact ⟨h.1, h.2.symm⟩)
  have HL := hid_ hl
  have hlen : (l.length : Int) ≤ 100 := by omega
  clear hE hbi hl
  go_enter Try.func3, Try.ntmps3
  go_upto_region 5 with (first | (go_at_call 8; (with_reducible refine (KEN.out _ HE.out).mono ?_); rintro e _ ⟨rfl, rfl⟩) | (go_at_call 9; (with_reducible refine (KDE.out _).mono ?_); rintro e w1 ⟨A1, c1, rfl, hE1, hb1⟩))
  replace HE := hid_ (HE.out.to hb1)
  have HE1 := hid_ hE1
  clear hE1
  obtain ⟨W, rfl⟩ : ∃ X : World, X = w1 := ⟨_, rfl⟩
  go_cut [46] (fun s wx => s = .bool false ∧ W = wx)
  case first => as_aux_lemma =>
    have n1 : ¬ N < 1 := by omega
    have n2 : ¬ 1152921504606846976 < N := by omega
    have n3 : ¬ M < 1 := by omega
    have n4 : ¬ 6 < M := by omega
    go_wp2_with fail
    go_meet
    exact ⟨rfl, rfl⟩
  case rest => as_aux_lemma =>
    obtain ⟨rfl, rfl⟩ := hcut
    have hz0 : ¬ (0 : Int) < 0 := by omega
    go_upto_region 11 with (go_at_call 10; (with_reducible refine (KRD.out _).mono ?_); rintro e w2 ⟨A2, c2, rfl, hE2, hb2⟩; clear hE2)
    replace HE := hid_ (HE.out.to hb2)
    replace hb1 := bnext hb1 hb2
    clear hb2
    obtain ⟨W, rfl⟩ : ∃ X : World, X = w2 := ⟨_, rfl⟩
    have hpos : 0 < l.length := (cont_len HCO.out).1
    obtain ⟨bb, oo, hA, hbl, hcc⟩ := HE.out.at_ hpos
    subst hA
    have HCC := hid_ hcc
    clear hcc
    go_upto_region 13 with (go_at_call 12; (with_reducible refine (KRC.out _ HE.out).mono ?_); rintro e _ ⟨rfl, rfl⟩)
    go_wp2_with fail
    go_loopw [13] (fun a wr => ∃ k : Nat, a = .int .i64 (k : Int) ∧ k ≤ l.length ∧ Hid (∀ j, j < k → ∀ x, l[j]? = some x → x ≤ 60) ∧ W = wr) (fun a _ => l.length - (intOf a).toNat)
    case atStart => exact ⟨0, rfl, Nat.zero_le _, hid_ (fun j hj => by omega), rfl⟩
    case round =>
      obtain ⟨k, rfl, hk, HT, rfl⟩ := hrel
      by_cases hlt : k < l.length
      · obtain ⟨x, hx⟩ : ∃ x, l[k]? = some x := ⟨_, List.getElem?_eq_getElem hlt⟩
        have i0 := HCC.out k _ (ints_at hx)
        have HX := hid_ hx
        clear hx
        have h60 : ¬ 60 < x := by have := HXX.out x (List.mem_of_getElem? HX.out); omega
        go_wp2_with fail
        go_round
        case rel => exact ⟨k + 1, by go_num, by omega, hid_ (fun j hj y hy => HXX.out y (List.mem_of_getElem? hy)), (by first | rfl | trivial)⟩
        case measure => simp [intOf]; omega
      · have hkn : k = l.length := by omega
        subst hkn
        go_wp2_with (first | (go_at_call 13; (with_reducible refine (KRE.out _ HE.out).mono ?_); rintro e w5 ⟨rfl, hb5⟩) | (go_at_call 7; (with_reducible refine (awake_any _).mono ?_); rintro e w99 ⟨rfl, hb99⟩))
        go_ret
        exact ⟨rfl, bnext hb1 (bnext hb5 hb99)⟩

set_option maxRecDepth 100000 in
set_option maxHeartbeats 8000000 in
theorem codes_none_yes (l : List Int) (N M : Int) (A : Option Addr) (c : Nat) (w : World) (hE : Elems w w.heap.size (.slice A l.length c) (ints l)) (hl : l.length ≤ 17592186044416) (hbi : ∀ x ∈ l, x ≤ 9223372036854775807) (h100 : l.length ≤ 100) (hd : 1 ≤ N ∧ N ≤ 1152921504606846976 ∧ 1 ≤ M ∧ M ≤ 6) (hk : ¬ (decS 0 M.toNat N.toNat).2 = 1) (n : Nat) (hr : contB l = true) (hx : ∀ x ∈ l, x ≤ 60) (hs : encS 0 (natL l) 1 = some n) :
    Calls Try.prog 3 #[.slice A l.length c, .int .i64 N, .int .i64 M] w fun e w' => e = .returned (.bool true) ∧ Below w.heap.size w w' := by
  have HE := hid_ hE
  have HBI := hid_ hbi
  have KDE : Hid (∀ Y, Calls Try.prog 9 #[.int .i64 N, .int .i64 M] Y (SlRan [] (.int .i64 6) Y)) := hid_ (fun Y => (decode_any N M Y).mono fun e w' h => by rw [show decC N M = ([], 6) by rw [decC, if_neg (by omega), if_neg hk]] at h; exact h.sl)
  obtain ⟨dl, hdl⟩ : ∃ dl, dl = (decS 0 M.toNat N.toNat).1.map (fun x : Nat => (x : Int)) := ⟨_, rfl⟩
  have KRD : Hid (∀ Y, Calls Try.prog 10 #[.int .i64 N, .int .i64 M] Y (SlRan dl (.bool false) Y)) := hid_ (fun Y => by
    have h := rdecode_any N.toNat M.toNat Y (by omega) (by omega) (by omega) (by omega)
    rw [Int.toNat_of_nonneg (by omega), Int.toNat_of_nonneg (by omega), decide_eq_false hk, ← hdl] at h
    exact h.mono fun e w' h => h.sl)
  clear hdl hk
  have HEN : Hid (encC l = ((n : Int), 0)) := hid_ (by rw [encC, if_pos hr, hs])
  have HCO := hid_ hr
  have HXX := hid_ hx
  have KRE : Hid (∀ Y, Elems Y Y.heap.size (.slice A l.length c) (ints l) → Calls Try.prog 13 #[.slice A l.length c] Y fun e w' => e = .returned (.tuple #[.int .i64 (n : Int), .bool true]) ∧ Below Y.heap.size Y w') := hid_ (fun Y h => by
    have h2 := rencode_any l _ Y h hr hbi
    rw [hs] at h2
    exact h2)
  have KD2 : Hid (∀ Y, Calls Try.prog 9 #[.int .i64 (n : Int), .int .i64 (l.length : Int)] Y (SlRan l (.int .i64 0) Y)) := hid_ (fun Y => (decode_any n l.length Y).mono fun e w' h => by rw [decC_back hr hs] at h; exact h.sl)
  clear hr hx hs
  have KEN : Hid (∀ Y, Elems Y Y.heap.size (.slice A l.length c) (ints l) → Calls Try.prog 8 #[.slice A l.length c] Y fun e w' => e = .returned (.tuple #[.int .i64 (n : Int), .int .i64 0]) ∧ Y = w') := hid_ (fun Y h => (encode_any l _ Y h hl hbi).mono fun e w' h => by rw [HEN.out] at h; exact ⟨h.1, h.2.symm⟩)
  have KRC : Hid (∀ Y, Elems Y Y.heap.size (.slice A l.length c) (ints l) → Calls Try.prog 12 #[.slice A l.length c] Y fun e w' => e = .returned (.bool true) ∧ Y = w') := hid_ (fun Y h => (contents_any l _ Y h hl).mono fun e w' h => by rw [HCO.out] at h; exact ⟨h.1, h.2.symm⟩)
  have HL := hid_ hl
  have hlen : (l.length : Int) ≤ 100 := by omega
  clear hE hbi hl
  go_enter Try.func3, Try.ntmps3
  go_upto_region 5 with (first | (go_at_call 8; (with_reducible refine (KEN.out _ HE.out).mono ?_); rintro e _ ⟨rfl, rfl⟩) | (go_at_call 9; (with_reducible refine (KDE.out _).mono ?_); rintro e w1 ⟨A1, c1, rfl, hE1, hb1⟩))
  replace HE := hid_ (HE.out.to hb1)
  have HE1 := hid_ hE1
  clear hE1
  obtain ⟨W, rfl⟩ : ∃ X : World, X = w1 := ⟨_, rfl⟩
  go_cut [46] (fun s wx => s = .bool false ∧ W = wx)
  case first => as_aux_lemma =>
    have n1 : ¬ N < 1 := by omega
    have n2 : ¬ 1152921504606846976 < N := by omega
    have n3 : ¬ M < 1 := by omega
    have n4 : ¬ 6 < M := by omega
    go_wp2_with fail
    go_meet
    exact ⟨rfl, rfl⟩
  case rest => as_aux_lemma =>
    obtain ⟨rfl, rfl⟩ := hcut
    have hz0 : ¬ (0 : Int) < 0 := by omega
    go_upto_region 11 with (go_at_call 10; (with_reducible refine (KRD.out _).mono ?_); rintro e w2 ⟨A2, c2, rfl, hE2, hb2⟩; clear hE2)
    replace HE := hid_ (HE.out.to hb2)
    replace hb1 := bnext hb1 hb2
    clear hb2
    obtain ⟨W, rfl⟩ : ∃ X : World, X = w2 := ⟨_, rfl⟩
    have hpos : 0 < l.length := (cont_len HCO.out).1
    obtain ⟨bb, oo, hA, hbl, hcc⟩ := HE.out.at_ hpos
    subst hA
    have HCC := hid_ hcc
    clear hcc
    go_upto_region 13 with (go_at_call 12; (with_reducible refine (KRC.out _ HE.out).mono ?_); rintro e _ ⟨rfl, rfl⟩)
    go_wp2_with fail
    go_loopw [13] (fun a wr => ∃ k : Nat, a = .int .i64 (k : Int) ∧ k ≤ l.length ∧ Hid (∀ j, j < k → ∀ x, l[j]? = some x → x ≤ 60) ∧ W = wr) (fun a _ => l.length - (intOf a).toNat)
    case atStart => exact ⟨0, rfl, Nat.zero_le _, hid_ (fun j hj => by omega), rfl⟩
    case round =>
      obtain ⟨k, rfl, hk, HT, rfl⟩ := hrel
      by_cases hlt : k < l.length
      · obtain ⟨x, hx⟩ : ∃ x, l[k]? = some x := ⟨_, List.getElem?_eq_getElem hlt⟩
        have i0 := HCC.out k _ (ints_at hx)
        have HX := hid_ hx
        clear hx
        have h60 : ¬ 60 < x := by have := HXX.out x (List.mem_of_getElem? HX.out); omega
        go_wp2_with fail
        go_round
        case rel => exact ⟨k + 1, by go_num, by omega, hid_ (fun j hj y hy => HXX.out y (List.mem_of_getElem? hy)), (by first | rfl | trivial)⟩
        case measure => simp [intOf]; omega
      · have hkn : k = l.length := by omega
        subst hkn
        have KS2 : Hid (∀ Y A2 c2, Elems Y Y.heap.size (.slice A2 l.length c2) (ints l) → Elems Y Y.heap.size (.slice (some ⟨bb, oo, none⟩) l.length c) (ints l) → Calls Try.prog 11 #[.slice A2 l.length c2, .slice (some ⟨bb, oo, none⟩) l.length c] Y fun e w' => e = .returned (.bool true) ∧ Below Y.heap.size Y w') := hid_ (fun Y A2 c2 h1 h2 => by
          have h := same_any l l _ _ Y h1 h2 HL.out HL.out
          rw [decide_eq_true rfl] at h
          exact h)
        go_wp2_with (first | (go_at_call 13; (with_reducible refine (KRE.out _ HE.out).mono ?_); rintro e w5 ⟨rfl, hb5⟩; have HE5 := hid_ (HE.out.to hb5)) | (go_at_call 9; (with_reducible refine (KD2.out _).mono ?_); rintro e w6 ⟨A6, c6, rfl, hE6, hb6⟩; have HE6 := hid_ hE6; clear hE6; have HE7 := hid_ (HE5.out.to hb6)) | (go_at_call 11; (with_reducible refine (KS2.out _ _ _ HE6.out HE7.out).mono ?_); rintro e w7 ⟨rfl, hb7⟩) | (go_at_call 7; (with_reducible refine (awake_any _).mono ?_); rintro e w99 ⟨rfl, hb99⟩))
        go_ret
        exact ⟨rfl, bnext hb1 (bnext hb5 (bnext hb6 (bnext hb7 hb99)))⟩

set_option maxRecDepth 100000 in
set_option maxHeartbeats 8000000 in
theorem codes_some_con (l : List Int) (N M : Int) (A : Option Addr) (c : Nat) (w : World) (hE : Elems w w.heap.size (.slice A l.length c) (ints l)) (hl : l.length ≤ 17592186044416) (hbi : ∀ x ∈ l, x ≤ 9223372036854775807) (h100 : l.length ≤ 100) (hd : 1 ≤ N ∧ N ≤ 1152921504606846976 ∧ 1 ≤ M ∧ M ≤ 6) (hk : (decS 0 M.toNat N.toNat).2 = 1) (hr : contB l = false) :
    Calls Try.prog 3 #[.slice A l.length c, .int .i64 N, .int .i64 M] w fun e w' => e = .returned (.bool true) ∧ Below w.heap.size w w' := by
  have HE := hid_ hE
  have HBI := hid_ hbi
  obtain ⟨dl, hdl⟩ : ∃ dl, dl = (decS 0 M.toNat N.toNat).1.map (fun x : Nat => (x : Int)) := ⟨_, rfl⟩
  have KDE : Hid (∀ Y, Calls Try.prog 9 #[.int .i64 N, .int .i64 M] Y (SlRan dl (.int .i64 0) Y)) := hid_ (fun Y => (decode_any N M Y).mono fun e w' h => by rw [show decC N M = (dl, 0) by rw [decC, if_neg (by omega), if_pos hk, hdl]] at h; exact h.sl)
  have KRD : Hid (∀ Y, Calls Try.prog 10 #[.int .i64 N, .int .i64 M] Y (SlRan dl (.bool true) Y)) := hid_ (fun Y => by
    have h := rdecode_any N.toNat M.toNat Y (by omega) (by omega) (by omega) (by omega)
    rw [Int.toNat_of_nonneg (by omega), Int.toNat_of_nonneg (by omega), decide_eq_true hk, ← hdl] at h
    exact h.mono fun e w' h => h.sl)
  have hdl2 : dl.length ≤ 17592186044416 := by
    have : ∀ k i n, (decS i k n).1.length = k := by
      intro k
      induction k with
      | zero => intro i n; rfl
      | succ k ih => intro i n; simp [decS, ih]
    rw [hdl, List.length_map, this]
    omega
  have HDL := hid_ hdl2
  clear hdl hk hdl2
  have HEN : Hid (encC l = (0, 2)) := hid_ (by rw [encC, if_neg (by rw [hr]; simp)])
  have HCO := hid_ hr
  clear hr
  have KEN : Hid (∀ Y, Elems Y Y.heap.size (.slice A l.length c) (ints l) → Calls Try.prog 8 #[.slice A l.length c] Y fun e w' => e = .returned (.tuple #[.int .i64 0, .int .i64 2]) ∧ Y = w') := hid_ (fun Y h => (encode_any l _ Y h hl hbi).mono fun e w' h => by rw [HEN.out] at h; exact ⟨h.1, h.2.symm⟩)
  have KRC : Hid (∀ Y, Elems Y Y.heap.size (.slice A l.length c) (ints l) → Calls Try.prog 12 #[.slice A l.length c] Y fun e w' => e = .returned (.bool false) ∧ Y = w') := hid_ (fun Y h => (contents_any l _ Y h hl).mono fun e w' h => by rw [HCO.out] at h; exact ⟨h.1, h.2.symm⟩)
  have HL := hid_ hl
  have hlen : (l.length : Int) ≤ 100 := by omega
  clear hE hbi hl
  go_enter Try.func3, Try.ntmps3
  go_upto_region 5 with (first | (go_at_call 8; (with_reducible refine (KEN.out _ HE.out).mono ?_); rintro e _ ⟨rfl, rfl⟩) | (go_at_call 9; (with_reducible refine (KDE.out _).mono ?_); rintro e w1 ⟨A1, c1, rfl, hE1, hb1⟩))
  replace HE := hid_ (HE.out.to hb1)
  have HE1 := hid_ hE1
  clear hE1
  obtain ⟨W, rfl⟩ : ∃ X : World, X = w1 := ⟨_, rfl⟩
  go_cut [46] (fun s wx => s = .bool false ∧ W = wx)
  case first => as_aux_lemma =>
    have n1 : ¬ N < 1 := by omega
    have n2 : ¬ 1152921504606846976 < N := by omega
    have n3 : ¬ M < 1 := by omega
    have n4 : ¬ 6 < M := by omega
    go_wp2_with fail
    go_meet
    exact ⟨rfl, rfl⟩
  case rest => as_aux_lemma =>
    obtain ⟨rfl, rfl⟩ := hcut
    have hz0 : ¬ (0 : Int) < 0 := by omega
    have KSA : Hid (∀ Y A2 c2, Elems Y Y.heap.size (.slice A1 dl.length c1) (ints dl) → Elems Y Y.heap.size (.slice A2 dl.length c2) (ints dl) → Calls Try.prog 11 #[.slice A1 dl.length c1, .slice A2 dl.length c2] Y fun e w' => e = .returned (.bool true) ∧ Below Y.heap.size Y w') := hid_ (fun Y A2 c2 h1 h2 => by
      have h := same_any dl dl _ _ Y h1 h2 HDL.out HDL.out
      rw [decide_eq_true rfl] at h
      exact h)
    go_upto_region 11 with (first | (go_at_call 10; (with_reducible refine (KRD.out _).mono ?_); rintro e w2 ⟨A2, c2, rfl, hE2, hb2⟩; have HE2 := hid_ hE2; replace HE1 := hid_ (HE1.out.to hb2); clear hE2) | (go_at_call 11; (with_reducible refine (KSA.out _ _ _ HE1.out HE2.out).mono ?_); rintro e w3 ⟨rfl, hb3⟩))
    replace HE := hid_ ((HE.out.to hb2).to hb3)
    replace hb1 := bnext hb1 (bnext hb2 hb3)
    clear hb2 hb3 HE1 HE2 KSA
    obtain ⟨W, rfl⟩ : ∃ X : World, X = w3 := ⟨_, rfl⟩
    go_wp2_with (first | (go_at_call 12; (with_reducible refine (KRC.out _ HE.out).mono ?_); rintro e _ ⟨rfl, rfl⟩) | (go_at_call 7; (with_reducible refine (awake_any _).mono ?_); rintro e w99 ⟨rfl, hb99⟩))
    go_ret
    exact ⟨rfl, bnext hb1 hb99⟩

set_option maxRecDepth 100000 in
set_option maxHeartbeats 8000000 in
theorem codes_some_big (l : List Int) (N M : Int) (A : Option Addr) (c : Nat) (w : World) (hE : Elems w w.heap.size (.slice A l.length c) (ints l)) (hl : l.length ≤ 17592186044416) (hbi : ∀ x ∈ l, x ≤ 9223372036854775807) (h100 : l.length ≤ 100) (hd : 1 ≤ N ∧ N ≤ 1152921504606846976 ∧ 1 ≤ M ∧ M ≤ 6) (hk : (decS 0 M.toNat N.toNat).2 = 1) (hr : contB l = true) (hx : ∃ x ∈ l, 60 < x) :
    Calls Try.prog 3 #[.slice A l.length c, .int .i64 N, .int .i64 M] w fun e w' => e = .returned (.bool true) ∧ Below w.heap.size w w' := by
  have HE := hid_ hE
  have HBI := hid_ hbi
  obtain ⟨dl, hdl⟩ : ∃ dl, dl = (decS 0 M.toNat N.toNat).1.map (fun x : Nat => (x : Int)) := ⟨_, rfl⟩
  have KDE : Hid (∀ Y, Calls Try.prog 9 #[.int .i64 N, .int .i64 M] Y (SlRan dl (.int .i64 0) Y)) := hid_ (fun Y => (decode_any N M Y).mono fun e w' h => by rw [show decC N M = (dl, 0) by rw [decC, if_neg (by omega), if_pos hk, hdl]] at h; exact h.sl)
  have KRD : Hid (∀ Y, Calls Try.prog 10 #[.int .i64 N, .int .i64 M] Y (SlRan dl (.bool true) Y)) := hid_ (fun Y => by
    have h := rdecode_any N.toNat M.toNat Y (by omega) (by omega) (by omega) (by omega)
    rw [Int.toNat_of_nonneg (by omega), Int.toNat_of_nonneg (by omega), decide_eq_true hk, ← hdl] at h
    exact h.mono fun e w' h => h.sl)
  have hdl2 : dl.length ≤ 17592186044416 := by
    have : ∀ k i n, (decS i k n).1.length = k := by
      intro k
      induction k with
      | zero => intro i n; rfl
      | succ k ih => intro i n; simp [decS, ih]
    rw [hdl, List.length_map, this]
    omega
  have HDL := hid_ hdl2
  clear hdl hk hdl2
  have HEN : Hid (encC l = (0, 4)) := hid_ (by
    have h : encS 0 (natL l) 1 = none := encS_big _ 0 1 (by rw [natL, List.length_map]; have := (cont_len hr).2; omega) (by omega) (by omega) (by
      obtain ⟨x, hx1, hx2⟩ := hx
      exact ⟨x.toNat, List.mem_map.2 ⟨x, hx1, rfl⟩, by omega⟩)
    rw [encC, if_pos hr, h])
  have HCO := hid_ hr
  have HXX := hid_ hx
  clear hr hx
  have KEN : Hid (∀ Y, Elems Y Y.heap.size (.slice A l.length c) (ints l) → Calls Try.prog 8 #[.slice A l.length c] Y fun e w' => e = .returned (.tuple #[.int .i64 0, .int .i64 4]) ∧ Y = w') := hid_ (fun Y h => (encode_any l _ Y h hl hbi).mono fun e w' h => by rw [HEN.out] at h; exact ⟨h.1, h.2.symm⟩)
  have KRC : Hid (∀ Y, Elems Y Y.heap.size (.slice A l.length c) (ints l) → Calls Try.prog 12 #[.slice A l.length c] Y fun e w' => e = .returned (.bool true) ∧ Y = w') := hid_ (fun Y h => (contents_any l _ Y h hl).mono fun e w' h => by rw [HCO.out] at h; exact ⟨h.1, h.2.symm⟩)
  have HL := hid_ hl
  have hlen : (l.length : Int) ≤ 100 := by omega
  clear hE hbi hl
  go_enter Try.func3, Try.ntmps3
  go_upto_region 5 with (first | (go_at_call 8; (with_reducible refine (KEN.out _ HE.out).mono ?_); rintro e _ ⟨rfl, rfl⟩) | (go_at_call 9; (with_reducible refine (KDE.out _).mono ?_); rintro e w1 ⟨A1, c1, rfl, hE1, hb1⟩))
  replace HE := hid_ (HE.out.to hb1)
  have HE1 := hid_ hE1
  clear hE1
  obtain ⟨W, rfl⟩ : ∃ X : World, X = w1 := ⟨_, rfl⟩
  go_cut [46] (fun s wx => s = .bool false ∧ W = wx)
  case first => as_aux_lemma =>
    have n1 : ¬ N < 1 := by omega
    have n2 : ¬ 1152921504606846976 < N := by omega
    have n3 : ¬ M < 1 := by omega
    have n4 : ¬ 6 < M := by omega
    go_wp2_with fail
    go_meet
    exact ⟨rfl, rfl⟩
  case rest => as_aux_lemma =>
    obtain ⟨rfl, rfl⟩ := hcut
    have hz0 : ¬ (0 : Int) < 0 := by omega
    have KSA : Hid (∀ Y A2 c2, Elems Y Y.heap.size (.slice A1 dl.length c1) (ints dl) → Elems Y Y.heap.size (.slice A2 dl.length c2) (ints dl) → Calls Try.prog 11 #[.slice A1 dl.length c1, .slice A2 dl.length c2] Y fun e w' => e = .returned (.bool true) ∧ Below Y.heap.size Y w') := hid_ (fun Y A2 c2 h1 h2 => by
      have h := same_any dl dl _ _ Y h1 h2 HDL.out HDL.out
      rw [decide_eq_true rfl] at h
      exact h)
    go_upto_region 11 with (first | (go_at_call 10; (with_reducible refine (KRD.out _).mono ?_); rintro e w2 ⟨A2, c2, rfl, hE2, hb2⟩; have HE2 := hid_ hE2; replace HE1 := hid_ (HE1.out.to hb2); clear hE2) | (go_at_call 11; (with_reducible refine (KSA.out _ _ _ HE1.out HE2.out).mono ?_); rintro e w3 ⟨rfl, hb3⟩))
    replace HE := hid_ ((HE.out.to hb2).to hb3)
    replace hb1 := bnext hb1 (bnext hb2 hb3)
    clear hb2 hb3 HE1 HE2 KSA
    obtain ⟨W, rfl⟩ : ∃ X : World, X = w3 := ⟨_, rfl⟩
    have hpos : 0 < l.length := (cont_len HCO.out).1
    obtain ⟨bb, oo, hA, hbl, hcc⟩ := HE.out.at_ hpos
    subst hA
    have HCC := hid_ hcc
    clear hcc
    go_upto_region 13 with (go_at_call 12; (with_reducible refine (KRC.out _ HE.out).mono ?_); rintro e _ ⟨rfl, rfl⟩)
    go_wp2_with fail
    go_loopw [13] (fun a wr => ∃ k : Nat, a = .int .i64 (k : Int) ∧ k ≤ l.length ∧ Hid (∀ j, j < k → ∀ x, l[j]? = some x → x ≤ 60) ∧ W = wr) (fun a _ => l.length - (intOf a).toNat)
    case atStart => exact ⟨0, rfl, Nat.zero_le _, hid_ (fun j hj => by omega), rfl⟩
    case round =>
      obtain ⟨k, rfl, hk, HT, rfl⟩ := hrel
      by_cases hlt : k < l.length
      · obtain ⟨x, hx⟩ : ∃ x, l[k]? = some x := ⟨_, List.getElem?_eq_getElem hlt⟩
        have i0 := HCC.out k _ (ints_at hx)
        have HX := hid_ hx
        clear hx
        by_cases h60 : 60 < x
        · go_wp2_with (go_at_call 7; (with_reducible refine (awake_any _).mono ?_); rintro e w99 ⟨rfl, hb99⟩)
          go_ret
          exact ⟨rfl, bnext hb1 hb99⟩
        · go_wp2_with fail
          go_round
          case rel => exact ⟨k + 1, by go_num, by omega, hid_ (fun j hj y hy => by
            rcases Nat.lt_or_ge j k with h | h
            · exact HT.out j h y hy
            · obtain rfl : j = k := by omega
              rw [HX.out] at hy
              obtain rfl := Option.some.inj hy
              omega), (by first | rfl | trivial)⟩
          case measure => simp [intOf]; omega
      · exfalso
        obtain ⟨x, hx1, hx2⟩ := HXX.out
        obtain ⟨j, hj⟩ := List.mem_iff_getElem?.1 hx1
        have hjl := (List.getElem?_eq_some_iff.1 hj).1
        have := HT.out j (by omega) x hj
        omega

set_option maxRecDepth 100000 in
set_option maxHeartbeats 8000000 in
theorem codes_some_no (l : List Int) (N M : Int) (A : Option Addr) (c : Nat) (w : World) (hE : Elems w w.heap.size (.slice A l.length c) (ints l)) (hl : l.length ≤ 17592186044416) (hbi : ∀ x ∈ l, x ≤ 9223372036854775807) (h100 : l.length ≤ 100) (hd : 1 ≤ N ∧ N ≤ 1152921504606846976 ∧ 1 ≤ M ∧ M ≤ 6) (hk : (decS 0 M.toNat N.toNat).2 = 1) (hr : contB l = true) (hx : ∀ x ∈ l, x ≤ 60) (hs : encS 0 (natL l) 1 = none) :
    Calls Try.prog 3 #[.slice A l.length c, .int .i64 N, .int .i64 M] w fun e w' => e = .returned (.bool true) ∧ Below w.heap.size w w' := by
  have HE := hid_ hE
  have HBI := hid_ hbi
  obtain ⟨dl, hdl⟩ : ∃ dl, dl = (decS 0 M.toNat N.toNat).1.map (fun x : Nat => (x : Int)) := ⟨_, rfl⟩
  have KDE : Hid (∀ Y, Calls Try.prog 9 #[.int .i64 N, .int .i64 M] Y (SlRan dl (.int .i64 0) Y)) := hid_ (fun Y => (decode_any N M Y).mono fun e w' h => by rw [show decC N M = (dl, 0) by rw [decC, if_neg (by omega), if_pos hk, hdl]] at h; exact h.sl)
  have KRD : Hid (∀ Y, Calls Try.prog 10 #[.int .i64 N, .int .i64 M] Y (SlRan dl (.bool true) Y)) := hid_ (fun Y => by
    have h := rdecode_any N.toNat M.toNat Y (by omega) (by omega) (by omega) (by omega)
    rw [Int.toNat_of_nonneg (by omega), Int.toNat_of_nonneg (by omega), decide_eq_true hk, ← hdl] at h
    exact h.mono fun e w' h => h.sl)
  have hdl2 : dl.length ≤ 17592186044416 := by
    have : ∀ k i n, (decS i k n).1.length = k := by
      intro k
      induction k with
      | zero => intro i n; rfl
      | succ k ih => intro i n; simp [decS, ih]
    rw [hdl, List.length_map, this]
    omega
  have HDL := hid_ hdl2
  clear hdl hk hdl2
  have HEN : Hid (encC l = (0, 4)) := hid_ (by rw [encC, if_pos hr, hs])
  have HCO := hid_ hr
  have HXX := hid_ hx
  have KRE : Hid (∀ Y, Elems Y Y.heap.size (.slice A l.length c) (ints l) → Calls Try.prog 13 #[.slice A l.length c] Y fun e w' => e = .returned (.tuple #[.int .i64 0, .bool false]) ∧ Below Y.heap.size Y w') := hid_ (fun Y h => by
    have h2 := rencode_any l _ Y h hr hbi
    rw [hs] at h2
    exact h2)
  clear hr hx hs
  have KEN : Hid (∀ Y, Elems Y Y.heap.size (.slice A l.length c) (ints l) → Calls Try.prog 8 #[.slice A l.length c] Y fun e w' => e = .returned (.tuple #[.int .i64 0, .int .i64 4]) ∧ Y = w') := hid_ (fun Y h => (encode_any l _ Y h hl hbi).mono fun e w' h => by rw [HEN.out] at h; exact ⟨h.1, h.2.symm⟩)
  have KRC : Hid (∀ Y, Elems Y Y.heap.size (.slice A l.length c) (ints l) → Calls Try.prog 12 #[.slice A l.length c] Y fun e w' => e = .returned (.bool true) ∧ Y = w') := hid_ (fun Y h => (contents_any l _ Y h hl).mono fun e w' h => by rw [HCO.out] at h; exact ⟨h.1, h.2.symm⟩)
  have HL := hid_ hl
  have hlen : (l.length : Int) ≤ 100 := by omega
  clear hE hbi hl
  go_enter Try.func3, Try.ntmps3
  go_upto_region 5 with (first | (go_at_call 8; (with_reducible refine (KEN.out _ HE.out).mono ?_); rintro e _ ⟨rfl, rfl⟩) | (go_at_call 9; (with_reducible refine (KDE.out _).mono ?_); rintro e w1 ⟨A1, c1, rfl, hE1, hb1⟩))
  replace HE := hid_ (HE.out.to hb1)
  have HE1 := hid_ hE1
  clear hE1
  obtain ⟨W, rfl⟩ : ∃ X : World, X = w1 := ⟨_, rfl⟩
  go_cut [46] (fun s wx => s = .bool false ∧ W = wx)
  case first => as_aux_lemma =>
    have n1 : ¬ N < 1 := by omega
    have n2 : ¬ 1152921504606846976 < N := by omega
    have n3 : ¬ M < 1 := by omega
    have n4 : ¬ 6 < M := by omega
    go_wp2_with fail
    go_meet
    exact ⟨rfl, rfl⟩
  case rest => as_aux_lemma =>
    obtain ⟨rfl, rfl⟩ := hcut
    have hz0 : ¬ (0 : Int) < 0 := by omega
    have KSA : Hid (∀ Y A2 c2, Elems Y Y.heap.size (.slice A1 dl.length c1) (ints dl) → Elems Y Y.heap.size (.slice A2 dl.length c2) (ints dl) → Calls Try.prog 11 #[.slice A1 dl.length c1, .slice A2 dl.length c2] Y fun e w' => e = .returned (.bool true) ∧ Below Y.heap.size Y w') := hid_ (fun Y A2 c2 h1 h2 => by
      have h := same_any dl dl _ _ Y h1 h2 HDL.out HDL.out
      rw [decide_eq_true rfl] at h
      exact h)
    go_upto_region 11 with (first | (go_at_call 10; (with_reducible refine (KRD.out _).mono ?_); rintro e w2 ⟨A2, c2, rfl, hE2, hb2⟩; have HE2 := hid_ hE2; replace HE1 := hid_ (HE1.out.to hb2); clear hE2) | (go_at_call 11; (with_reducible refine (KSA.out _ _ _ HE1.out HE2.out).mono ?_); rintro e w3 ⟨rfl, hb3⟩))
    replace HE := hid_ ((HE.out.to hb2).to hb3)
    replace hb1 := bnext hb1 (bnext hb2 hb3)
    clear hb2 hb3 HE1 HE2 KSA
    obtain ⟨W, rfl⟩ : ∃ X : World, X = w3 := ⟨_, rfl⟩
    have hpos : 0 < l.length := (cont_len HCO.out).1
    obtain ⟨bb, oo, hA, hbl, hcc⟩ := HE.out.at_ hpos
    subst hA
    have HCC := hid_ hcc
    clear hcc
    go_upto_region 13 with (go_at_call 12; (with_reducible refine (KRC.out _ HE.out).mono ?_); rintro e _ ⟨rfl, rfl⟩)
    go_wp2_with fail
    go_loopw [13] (fun a wr => ∃ k : Nat, a = .int .i64 (k : Int) ∧ k ≤ l.length ∧ Hid (∀ j, j < k → ∀ x, l[j]? = some x → x ≤ 60) ∧ W = wr) (fun a _ => l.length - (intOf a).toNat)
    case atStart => exact ⟨0, rfl, Nat.zero_le _, hid_ (fun j hj => by omega), rfl⟩
    case round =>
      obtain ⟨k, rfl, hk, HT, rfl⟩ := hrel
      by_cases hlt : k < l.length
      · obtain ⟨x, hx⟩ : ∃ x, l[k]? = some x := ⟨_, List.getElem?_eq_getElem hlt⟩
        have i0 := HCC.out k _ (ints_at hx)
        have HX := hid_ hx
        clear hx
        have h60 : ¬ 60 < x := by have := HXX.out x (List.mem_of_getElem? HX.out); omega
        go_wp2_with fail
        go_round
        case rel => exact ⟨k + 1, by go_num, by omega, hid_ (fun j hj y hy => HXX.out y (List.mem_of_getElem? hy)), (by first | rfl | trivial)⟩
        case measure => simp [intOf]; omega
      · have hkn : k = l.length := by omega
        subst hkn
        go_wp2_with (first | (go_at_call 13; (with_reducible refine (KRE.out _ HE.out).mono ?_); rintro e w5 ⟨rfl, hb5⟩) | (go_at_call 7; (with_reducible refine (awake_any _).mono ?_); rintro e w99 ⟨rfl, hb99⟩))
        go_ret
        exact ⟨rfl, bnext hb1 (bnext hb5 hb99)⟩

set_option maxRecDepth 100000 in
set_option maxHeartbeats 8000000 in
theorem codes_some_yes (l : List Int) (N M : Int) (A : Option Addr) (c : Nat) (w : World) (hE : Elems w w.heap.size (.slice A l.length c) (ints l)) (hl : l.length ≤ 17592186044416) (hbi : ∀ x ∈ l, x ≤ 9223372036854775807) (h100 : l.length ≤ 100) (hd : 1 ≤ N ∧ N ≤ 1152921504606846976 ∧ 1 ≤ M ∧ M ≤ 6) (hk : (decS 0 M.toNat N.toNat).2 = 1) (n : Nat) (hr : contB l = true) (hx : ∀ x ∈ l, x ≤ 60) (hs : encS 0 (natL l) 1 = some n) :
    Calls Try.prog 3 #[.slice A l.length c, .int .i64 N, .int .i64 M] w fun e w' => e = .returned (.bool true) ∧ Below w.heap.size w w' := by
  have HE := hid_ hE
  have HBI := hid_ hbi
  obtain ⟨dl, hdl⟩ : ∃ dl, dl = (decS 0 M.toNat N.toNat).1.map (fun x : Nat => (x : Int)) := ⟨_, rfl⟩
  have KDE : Hid (∀ Y, Calls Try.prog 9 #[.int .i64 N, .int .i64 M] Y (SlRan dl (.int .i64 0) Y)) := hid_ (fun Y => (decode_any N M Y).mono fun e w' h => by rw [show decC N M = (dl, 0) by rw [decC, if_neg (by omega), if_pos hk, hdl]] at h; exact h.sl)
  have KRD : Hid (∀ Y, Calls Try.prog 10 #[.int .i64 N, .int .i64 M] Y (SlRan dl (.bool true) Y)) := hid_ (fun Y => by
    have h := rdecode_any N.toNat M.toNat Y (by omega) (by omega) (by omega) (by omega)
    rw [Int.toNat_of_nonneg (by omega), Int.toNat_of_nonneg (by omega), decide_eq_true hk, ← hdl] at h
    exact h.mono fun e w' h => h.sl)
  have hdl2 : dl.length ≤ 17592186044416 := by
    have : ∀ k i n, (decS i k n).1.length = k := by
      intro k
      induction k with
      | zero => intro i n; rfl
      | succ k ih => intro i n; simp [decS, ih]
    rw [hdl, List.length_map, this]
    omega
  have HDL := hid_ hdl2
  clear hdl hk hdl2
  have HEN : Hid (encC l = ((n : Int), 0)) := hid_ (by rw [encC, if_pos hr, hs])
  have HCO := hid_ hr
  have HXX := hid_ hx
  have KRE : Hid (∀ Y, Elems Y Y.heap.size (.slice A l.length c) (ints l) → Calls Try.prog 13 #[.slice A l.length c] Y fun e w' => e = .returned (.tuple #[.int .i64 (n : Int), .bool true]) ∧ Below Y.heap.size Y w') := hid_ (fun Y h => by
    have h2 := rencode_any l _ Y h hr hbi
    rw [hs] at h2
    exact h2)
  have KD2 : Hid (∀ Y, Calls Try.prog 9 #[.int .i64 (n : Int), .int .i64 (l.length : Int)] Y (SlRan l (.int .i64 0) Y)) := hid_ (fun Y => (decode_any n l.length Y).mono fun e w' h => by rw [decC_back hr hs] at h; exact h.sl)
  clear hr hx hs
  have KEN : Hid (∀ Y, Elems Y Y.heap.size (.slice A l.length c) (ints l) → Calls Try.prog 8 #[.slice A l.length c] Y fun e w' => e = .returned (.tuple #[.int .i64 (n : Int), .int .i64 0]) ∧ Y = w') := hid_ (fun Y h => (encode_any l _ Y h hl hbi).mono fun e w' h => by rw [HEN.out] at h; exact ⟨h.1, h.2.symm⟩)
  have KRC : Hid (∀ Y, Elems Y Y.heap.size (.slice A l.length c) (ints l) → Calls Try.prog 12 #[.slice A l.length c] Y fun e w' => e = .returned (.bool true) ∧ Y = w') := hid_ (fun Y h => (contents_any l _ Y h hl).mono fun e w' h => by rw [HCO.out] at h; exact ⟨h.1, h.2.symm⟩)
  have HL := hid_ hl
  have hlen : (l.length : Int) ≤ 100 := by omega
  clear hE hbi hl
  go_enter Try.func3, Try.ntmps3
  go_upto_region 5 with (first | (go_at_call 8; (with_reducible refine (KEN.out _ HE.out).mono ?_); rintro e _ ⟨rfl, rfl⟩) | (go_at_call 9; (with_reducible refine (KDE.out _).mono ?_); rintro e w1 ⟨A1, c1, rfl, hE1, hb1⟩))
  replace HE := hid_ (HE.out.to hb1)
  have HE1 := hid_ hE1
  clear hE1
  obtain ⟨W, rfl⟩ : ∃ X : World, X = w1 := ⟨_, rfl⟩
  go_cut [46] (fun s wx => s = .bool false ∧ W = wx)
  case first => as_aux_lemma =>
    have n1 : ¬ N < 1 := by omega
    have n2 : ¬ 1152921504606846976 < N := by omega
    have n3 : ¬ M < 1 := by omega
    have n4 : ¬ 6 < M := by omega
    go_wp2_with fail
    go_meet
    exact ⟨rfl, rfl⟩
  case rest => as_aux_lemma =>
    obtain ⟨rfl, rfl⟩ := hcut
    have hz0 : ¬ (0 : Int) < 0 := by omega
    have KSA : Hid (∀ Y A2 c2, Elems Y Y.heap.size (.slice A1 dl.length c1) (ints dl) → Elems Y Y.heap.size (.slice A2 dl.length c2) (ints dl) → Calls Try.prog 11 #[.slice A1 dl.length c1, .slice A2 dl.length c2] Y fun e w' => e = .returned (.bool true) ∧ Below Y.heap.size Y w') := hid_ (fun Y A2 c2 h1 h2 => by
      have h := same_any dl dl _ _ Y h1 h2 HDL.out HDL.out
      rw [decide_eq_true rfl] at h
      exact h)
    go_upto_region 11 with (first | (go_at_call 10; (with_reducible refine (KRD.out _).mono ?_); rintro e w2 ⟨A2, c2, rfl, hE2, hb2⟩; have HE2 := hid_ hE2; replace HE1 := hid_ (HE1.out.to hb2); clear hE2) | (go_at_call 11; (with_reducible refine (KSA.out _ _ _ HE1.out HE2.out).mono ?_); rintro e w3 ⟨rfl, hb3⟩))
    replace HE := hid_ ((HE.out.to hb2).to hb3)
    replace hb1 := bnext hb1 (bnext hb2 hb3)
    clear hb2 hb3 HE1 HE2 KSA
    obtain ⟨W, rfl⟩ : ∃ X : World, X = w3 := ⟨_, rfl⟩
    have hpos : 0 < l.length := (cont_len HCO.out).1
    obtain ⟨bb, oo, hA, hbl, hcc⟩ := HE.out.at_ hpos
    subst hA
    have HCC := hid_ hcc
    clear hcc
    go_upto_region 13 with (go_at_call 12; (with_reducible refine (KRC.out _ HE.out).mono ?_); rintro e _ ⟨rfl, rfl⟩)
    go_wp2_with fail
    go_loopw [13] (fun a wr => ∃ k : Nat, a = .int .i64 (k : Int) ∧ k ≤ l.length ∧ Hid (∀ j, j < k → ∀ x, l[j]? = some x → x ≤ 60) ∧ W = wr) (fun a _ => l.length - (intOf a).toNat)
    case atStart => exact ⟨0, rfl, Nat.zero_le _, hid_ (fun j hj => by omega), rfl⟩
    case round =>
      obtain ⟨k, rfl, hk, HT, rfl⟩ := hrel
      by_cases hlt : k < l.length
      · obtain ⟨x, hx⟩ : ∃ x, l[k]? = some x := ⟨_, List.getElem?_eq_getElem hlt⟩
        have i0 := HCC.out k _ (ints_at hx)
        have HX := hid_ hx
        clear hx
        have h60 : ¬ 60 < x := by have := HXX.out x (List.mem_of_getElem? HX.out); omega
        go_wp2_with fail
        go_round
        case rel => exact ⟨k + 1, by go_num, by omega, hid_ (fun j hj y hy => HXX.out y (List.mem_of_getElem? hy)), (by first | rfl | trivial)⟩
        case measure => simp [intOf]; omega
      · have hkn : k = l.length := by omega
        subst hkn
        have KS2 : Hid (∀ Y A2 c2, Elems Y Y.heap.size (.slice A2 l.length c2) (ints l) → Elems Y Y.heap.size (.slice (some ⟨bb, oo, none⟩) l.length c) (ints l) → Calls Try.prog 11 #[.slice A2 l.length c2, .slice (some ⟨bb, oo, none⟩) l.length c] Y fun e w' => e = .returned (.bool true) ∧ Below Y.heap.size Y w') := hid_ (fun Y A2 c2 h1 h2 => by
          have h := same_any l l _ _ Y h1 h2 HL.out HL.out
          rw [decide_eq_true rfl] at h
          exact h)
        go_wp2_with (first | (go_at_call 13; (with_reducible refine (KRE.out _ HE.out).mono ?_); rintro e w5 ⟨rfl, hb5⟩; have HE5 := hid_ (HE.out.to hb5)) | (go_at_call 9; (with_reducible refine (KD2.out _).mono ?_); rintro e w6 ⟨A6, c6, rfl, hE6, hb6⟩; have HE6 := hid_ hE6; clear hE6; have HE7 := hid_ (HE5.out.to hb6)) | (go_at_call 11; (with_reducible refine (KS2.out _ _ _ HE6.out HE7.out).mono ?_); rintro e w7 ⟨rfl, hb7⟩) | (go_at_call 7; (with_reducible refine (awake_any _).mono ?_); rintro e w99 ⟨rfl, hb99⟩))
        go_ret
        exact ⟨rfl, bnext hb1 (bnext hb5 (bnext hb6 (bnext hb7 hb99)))⟩
end Go.Proofs.Ytckabinmmficlaa.Pp

/- Contracts: isWord, letters, Valid, Fits of package tag and of its specification. -/
import Derived.Test.YtpnjffdjoacejaaKb
namespace Go.Proofs.Ytpnjffdjoacejaa
open Go.RowKit

/-- A tag system in memory. -/
structure TagIn (w : World) (B : Nat) (v2 v3 : Value) (t : TagS) : Prop where
  rules : Rows2 w B v2 t.rules
  stops : Elems w B v3 (bools t.stops)
  lim : t.rules.length ≤ 1000000 ∧ t.stops.length ≤ 1000000 ∧ ∀ r ∈ t.rules, r.length ≤ 1000000
theorem TagIn.to {w w' : World} {v2 v3 : Value} {t : TagS} (h : TagIn w w.heap.size v2 v3 t) (hb : Below w.heap.size w w') : TagIn w' w'.heap.size v2 v3 t :=
  ⟨h.rules.to hb, h.stops.to hb, h.lim⟩
theorem wordB_end {b : Int} {l : List Int} {k : Nat} (h : wordB b (l.take k) = true) (hk : ¬ k < l.length) : wordB b l = true := by
  rw [List.take_of_length_le (by omega)] at h
  exact h

set_option maxHeartbeats 1000000 in
theorem isWord_any (l : List Int) (b m : Int) (v : Value) (w : World) (h : Elems w w.heap.size v (ints l)) (hl : l.length ≤ 1000000) :
    Calls Try.prog 45 #[v, .int .i64 b, .int .i64 m] w fun e w' => e = .returned (.bool (decide ((l.length : Int) ≤ m) && wordB b l)) ∧ w = w' := by
  obtain ⟨A, c, rfl⟩ := h.form
  rw [ints_len] at h ⊢
  by_cases hm : m < l.length
  · rw [decide_eq_false (by omega), Bool.false_and]
    clear h
    go_enter Try.func45, Try.ntmps45
    go_wp2_with fail
    go_ret
    exact ⟨rfl, rfl⟩
  · rw [decide_eq_true (by omega), Bool.true_and]
    have HH := hid_ h; clear h
    go_enter Try.func45, Try.ntmps45
    go_wp2_with fail
    go_loop [15] (fun s => ∃ k : Nat, s = .int .i64 ((k : Nat) : Int) ∧ k ≤ l.length ∧ Hid (wordB b (l.take k) = true)) (fun s => l.length - (intOf s).toNat)
    case atStart => exact ⟨0, rfl, Nat.zero_le _, hid_ rfl⟩
    case round =>
      obtain ⟨k, rfl, hk, HT⟩ := hrel
      by_cases hlt : k < l.length
      · obtain ⟨b0, off, rfl, hb, hc⟩ := HH.out.at_ (by omega)
        obtain ⟨x, hx⟩ : ∃ x, l[k]? = some x := ⟨_, List.getElem?_eq_getElem hlt⟩
        have i0 := hc k _ (ints_at hx)
        have HX := hid_ hx
        clear hx hc
        by_cases hx0 : x < 0
        · go_wp2_with fail
          go_ret
          exact ⟨ret_bool (all_not HX.out (by simp; omega)).symm, rfl⟩
        · by_cases hxb : b ≤ x
          · go_wp2_with fail
            go_ret
            exact ⟨ret_bool (all_not HX.out (by simp; omega)).symm, rfl⟩
          · go_wp2_with fail
            go_round
            case rel => exact ⟨k + 1, by go_num, by omega, hid_ (all_step HX.out HT.out (by simp; omega))⟩
            case measure => simp [intOf]; omega
      · go_wp2_with fail
        go_ret
        exact ⟨ret_bool (wordB_end HT.out hlt).symm, rfl⟩

set_option maxHeartbeats 1000000 in
theorem letters_any (l : List Int) (b : Int) (v : Value) (w : World) (h : Elems w w.heap.size v (ints l)) (hl : l.length ≤ 1000000) :
    Calls Try.prog 46 #[v, .int .i64 b] w fun e w' => e = .returned (.bool (wordB b l)) ∧ w = w' := by
  obtain ⟨A, c, rfl⟩ := h.form
  rw [ints_len] at h ⊢
  have HH := hid_ h; clear h
  go_enter Try.func46, Try.ntmps46
  go_wp2_with fail
  go_loop [5] (fun s => ∃ k : Nat, s = .int .i64 ((k : Nat) : Int) ∧ k ≤ l.length ∧ Hid (wordB b (l.take k) = true)) (fun s => l.length - (intOf s).toNat)
  case atStart => exact ⟨0, rfl, Nat.zero_le _, hid_ rfl⟩
  case round =>
    obtain ⟨k, rfl, hk, HT⟩ := hrel
    by_cases hlt : k < l.length
    · obtain ⟨b0, off, rfl, hb, hc⟩ := HH.out.at_ (by omega)
      obtain ⟨x, hx⟩ : ∃ x, l[k]? = some x := ⟨_, List.getElem?_eq_getElem hlt⟩
      have i0 := hc k _ (ints_at hx)
      have HX := hid_ hx
      have t0 : 0 ≤ ((k : Nat) : Int) := by omega
      clear hx hc
      by_cases hx0 : x < 0
      · have hd0 : decide (x < 0) = true := decide_eq_true hx0
        go_wp2_with fail
        go_ret
        exact ⟨ret_bool (all_not HX.out (by simp; omega)).symm, rfl⟩
      · have hd0 : decide (x < 0) = false := decide_eq_false hx0
        by_cases hxb : b ≤ x
        · have hd1 : decide (b ≤ x) = true := decide_eq_true hxb
          go_wp2_with fail
          go_ret
          exact ⟨ret_bool (all_not HX.out (by simp; omega)).symm, rfl⟩
        · have hd1 : decide (b ≤ x) = false := decide_eq_false hxb
          go_wp2_with fail
          go_round
          case rel => exact ⟨k + 1, by go_num, by omega, hid_ (all_step HX.out HT.out (by simp; omega))⟩
          case measure => simp [intOf]; omega
    · go_wp2_with fail
      go_ret
      exact ⟨ret_bool (wordB_end HT.out hlt).symm, rfl⟩
end Go.Proofs.Ytpnjffdjoacejaa

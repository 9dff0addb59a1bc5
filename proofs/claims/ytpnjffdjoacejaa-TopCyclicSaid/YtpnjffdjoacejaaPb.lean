/- Contracts: decoded, Letters of package tag. -/
import Derived.Test.YtpnjffdjoacejaaPa
namespace Go.Proofs.Ytpnjffdjoacejaa
open Go.RowKit

/-- What decoded has counted. -/
def SeenRel (s : Seen) (a : Int) (m : Nat) : Prop := match s with
  | .zero => m = 0
  | .one i => m = 1 ∧ a = i
  | .bad => 2 ≤ m
theorem SeenRel.one_ {s : Seen} {a : Int} {m k : Nat} (h : SeenRel s a m) : SeenRel (s.next k 1) k (m + 1) := by
  cases s with
  | zero => rw [next_first]; simp [SeenRel] at h ⊢; omega
  | one i => rw [next_second]; simp [SeenRel] at h ⊢; omega
  | bad => rw [seen_bad_next]; simp [SeenRel] at h ⊢; omega
theorem SeenRel.end_ {l : List Int} {a : Int} {m : Nat} (h : SeenRel (seenK l l.length) a m) : (decL l).isSome = decide (m = 1) ∧ ∀ i, decL l = some i → a = i := by
  unfold decL
  cases hs : seenK l l.length with
  | zero => rw [hs] at h; simp [SeenRel] at h; simp [h]
  | one i => rw [hs] at h; simp [SeenRel] at h; simp [h]
  | bad => rw [hs] at h; simp [SeenRel] at h; simp; omega

set_option maxHeartbeats 1000000 in
theorem decoded_any (l : List Int) (v : Value) (w : World) (h : Elems w w.heap.size v (ints l)) (hl : l.length ≤ 1000000) :
    Calls Try.prog 63 #[v] w fun e w' => (∃ x : Int, e = .returned (.tuple #[.int .i64 x, .bool (decL l).isSome]) ∧ ∀ i, decL l = some i → x = i) ∧ w = w' := by
  obtain ⟨A, c, rfl⟩ := h.form
  rw [ints_len] at h ⊢
  have HH := hid_ h; clear h
  go_enter Try.func63, Try.ntmps63
  go_wp2_with fail
  go_loop [4, 5, 10] (fun s4 s5 s => ∃ (k m : Nat) (a : Int), s = .int .i64 ((k : Nat) : Int) ∧ s4 = .int .i64 a ∧ s5 = .int .i64 ((m : Nat) : Int) ∧ k ≤ l.length ∧ m ≤ k ∧ Hid (SeenRel (seenK l k) a m)) (fun _ _ s => l.length - (intOf s).toNat)
  case atStart => exact ⟨0, 0, 0, rfl, rfl, rfl, Nat.zero_le _, Nat.le_refl _, hid_ rfl⟩
  case round =>
    obtain ⟨k, m, a, rfl, rfl, rfl, hk, hm, HR⟩ := hrel
    by_cases hlt : k < l.length
    · obtain ⟨b0, off, rfl, hb, hc⟩ := HH.out.at_ (by omega)
      obtain ⟨x, hx⟩ : ∃ x, l[k]? = some x := ⟨_, List.getElem?_eq_getElem hlt⟩
      have i0 := hc k _ (ints_at hx)
      have HX := hid_ hx
      have hm2 : (m : Int) ≤ 1000000 := by omega
      clear hx hc
      by_cases hx0 : x < 0
      · go_wp2_with fail
        go_ret2
        have hd := dec_bad (l := l) (k := k + 1) (by rw [seen_step HX.out, next_other _ _ (by omega) (by omega)]) (by omega)
        rw [hd]
        exact ⟨⟨0, rfl, fun i h => by cases h⟩, rfl⟩
      · by_cases hx1 : 1 < x
        · go_wp2_with fail
          go_ret2
          have hd := dec_bad (l := l) (k := k + 1) (by rw [seen_step HX.out, next_other _ _ (by omega) (by omega)]) (by omega)
          rw [hd]
          exact ⟨⟨0, rfl, fun i h => by cases h⟩, rfl⟩
        · have h01 : x = 0 ∨ x = 1 := by omega
          rcases h01 with rfl | rfl
          · go_wp2_with fail
            go_round
            case rel => exact ⟨k + 1, m, a, by go_num, rfl, rfl, by omega, by omega, hid_ (by rw [seen_step HX.out, next_zero]; exact HR.out)⟩
            case measure => simp [intOf]; omega
          · go_wp2_with fail
            go_round
            case rel => exact ⟨k + 1, m + 1, k, by go_num, rfl, by go_num, by omega, by omega, hid_ (by rw [seen_step HX.out]; exact HR.out.one_)⟩
            case measure => simp [intOf]; omega
    · have hke : k = l.length := by omega
      have HE : Hid ((decL l).isSome = decide (m = 1) ∧ ∀ i, decL l = some i → a = i) := hid_ (by have := HR.out; rw [hke] at this; exact this.end_)
      clear hke HR
      by_cases hm1 : m = 1
      · subst hm1
        go_wp2_with fail
        go_ret2
        rw [HE.out.1]
        exact ⟨⟨a, rfl, HE.out.2⟩, rfl⟩
      · have hm2 : ((m : Int) == 1) = false := by rw [beq_eq_false_iff_ne]; omega
        have hm3 : (m == 1) = false := by rw [beq_eq_false_iff_ne]; exact hm1
        have HM := hid_ hm1
        go_wp2_with fail
        go_ret2
        rw [HE.out.1, decide_eq_false HM.out]
        exact ⟨⟨a, rfl, HE.out.2⟩, rfl⟩
end Go.Proofs.Ytpnjffdjoacejaa

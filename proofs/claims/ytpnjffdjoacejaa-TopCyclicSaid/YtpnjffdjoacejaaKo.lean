/- Contracts: wide, three of the law package. -/
import Derived.Test.YtpnjffdjoacejaaKn
namespace Go.Proofs.Ytpnjffdjoacejaa
open Go.RowKit

def sumL (rows : List (List Int)) : Nat := (rows.map List.length).sum
theorem sumL_step {rows : List (List Int)} {k : Nat} {r : List Int} (h : rows[k]? = some r) : sumL (rows.take (k + 1)) = sumL (rows.take k) + r.length := by
  rw [List.take_add_one, h]
  simp [sumL]
theorem sumL_bound {rows : List (List Int)} {M : Nat} (h : ∀ r ∈ rows, r.length ≤ M) (k : Nat) : sumL (rows.take k) ≤ k * M := by
  induction k with
  | zero => simp [sumL]
  | succ k ih =>
    cases hr : rows[k]? with
    | none => rw [List.take_add_one, hr]; simp; exact Nat.le_trans ih (Nat.mul_le_mul_right _ (by omega))
    | some r =>
      rw [sumL_step hr, Nat.add_mul, Nat.one_mul]
      have := h r (List.mem_of_getElem? hr)
      omega
theorem sumL_mem {rows : List (List Int)} {r : List Int} (h : r ∈ rows) : r.length ≤ sumL rows := by
  induction rows with
  | nil => cases h
  | cons x xs ih =>
    rw [sumL, List.map_cons, List.sum_cons]
    rcases List.mem_cons.1 h with rfl | h
    · omega
    · have := ih h
      rw [sumL] at this
      omega
def wideN (t : TagS) (q : List Int) : Nat := q.length + t.stops.length + sumL (t.rules.take 701)
def wideB (t : TagS) (q : List Int) : Bool := decide (20000 < wideN t q) || decide (700 < t.rules.length)
theorem wideB_no {t : TagS} {q : List Int} (h : wideB t q = false) : q.length ≤ 20000 ∧ t.stops.length ≤ 20000 ∧ t.rules.length ≤ 700 ∧ ∀ r ∈ t.rules, r.length ≤ 20000 := by
  simp only [wideB, Bool.or_eq_false_iff] at h
  have h1 : ¬ 20000 < wideN t q := of_decide_eq_false h.1
  have h2 : ¬ 700 < t.rules.length := of_decide_eq_false h.2
  unfold wideN at h1
  rw [List.take_of_length_le (by omega)] at h1
  refine ⟨by omega, by omega, by omega, fun r hr => ?_⟩
  have := sumL_mem hr
  omega

/-- Lengths of things that can be read. -/
structure TagBig (w : World) (B : Nat) (v2 v3 : Value) (t : TagS) : Prop where
  rules : Rows2 w B v2 t.rules
  stops : Elems w B v3 (bools t.stops)
  lim : t.rules.length ≤ 17592186044416 ∧ t.stops.length ≤ 140737488351232 ∧ ∀ r ∈ t.rules, r.length ≤ 17592186044416

set_option maxRecDepth 100000 in
set_option maxHeartbeats 2000000 in
theorem wide_any (t : TagS) (q : List Int) (v2 v3 v : Value) (w : World) (ht : TagBig w w.heap.size v2 v3 t) (hq : Elems w w.heap.size v (ints q)) (hl : q.length ≤ 17592186044416) :
    Calls Try.prog 10 #[.agg #[.int .i64 t.del, v2, v3], v] w fun e w' => e = .returned (.bool (wideB t q)) ∧ Below w.heap.size w w' := by
  obtain ⟨del, rules, stops⟩ := t
  obtain ⟨hr, hs, hl1, hl2, hl3⟩ := ht
  simp only at hr hs hl1 hl2 hl3 ⊢
  obtain ⟨A2, c2, rfl⟩ := hr.form
  obtain ⟨A3, c3, rfl⟩ := hs.form
  obtain ⟨A, c, rfl⟩ := hq.form
  rw [bools_len]
  rw [ints_len]
  have HR := hid_ hr
  have HL3 := hid_ hl3
  have HSB := hid_ (sumL_bound hl3)
  clear hr hs hq hl3
  go_enter Try.func10, Try.ntmps10
  go_wp2_with fail
  go_loopw [5, 6] (fun s5 s6 wr => ∃ k : Nat, s6 = .int .i64 ((k : Nat) : Int) ∧ k ≤ rules.length ∧ k ≤ 701 ∧ s5 = .int .i64 ((q.length + stops.length + sumL (rules.take k) : Nat) : Int) ∧ wr = w.alloc (.cells #[.int .i64 del, .slice A2 rules.length c2, .slice A3 stops.length c3] 25)) (fun _ s _ => rules.length - (intOf s).toNat)
  case atStart => exact ⟨0, rfl, Nat.zero_le _, Nat.zero_le _, by simp [sumL], rfl⟩
  case round =>
    obtain ⟨k, rfl, hk, hk7, rfl, rfl⟩ := hrel
    have hsb := HSB.out k
    have hsb2 : sumL (rules.take k) ≤ 701 * 17592186044416 := Nat.le_trans hsb (Nat.mul_le_mul_right _ hk7)
    clear hsb
    by_cases hlt : k < rules.length ∧ k ≤ 700
    · obtain ⟨hlt, h7⟩ := hlt
      obtain ⟨b2, o2, rfl, hb2⟩ := HR.out.addr (by omega)
      obtain ⟨r, hrk⟩ : ∃ r, rules[k]? = some r := ⟨_, List.getElem?_eq_getElem hlt⟩
      obtain ⟨Ar, dr, hcr, _⟩ := HR.out.row hrk
      have hrl := HL3.out r (List.mem_of_getElem? hrk)
      have HST := hid_ (sumL_step hrk)
      have t0 : 0 ≤ ((k : Nat) : Int) := by omega
      have t7 : ((k : Nat) : Int) ≤ 700 := by omega
      generalize sumL (rules.take k) = S at hsb2 HST ⊢
      clear hrk
      go_wp2_with fail
      go_roundw
      case rel => exact ⟨k + 1, by go_num, by omega, by omega, by rw [HST.out]; go_num, trivial⟩
      case measure => simp [intOf]; omega
    · have hkk : sumL (rules.take 701) = sumL (rules.take k) := by
        by_cases h : k < rules.length
        · rw [show k = 701 by omega]
        · rw [List.take_of_length_le (by omega), List.take_of_length_le (by omega)]
      have HKK := hid_ hkk
      generalize hS : sumL (rules.take k) = S at hsb2 HKK ⊢
      clear hS hkk
      have hN : wideB ⟨del, rules, stops⟩ q = (decide (20000 < q.length + stops.length + S) || decide (700 < rules.length)) := by
        rw [wideB, wideN, HKK.out]
      have HN := hid_ hN
      clear hN
      by_cases hbig : 20000 < q.length + stops.length + S
      · have hb1 : (20000 : Int) < (q.length : Int) + (stops.length : Int) + (S : Int) := by omega
        by_cases h1 : k < rules.length
        · have h7 : ¬ ((k : Nat) : Int) ≤ 700 := by omega
          go_wp2_with fail
          go_ret
          exact ⟨ret_bool (by rw [HN.out]; simp; omega), below1 w _⟩
        · go_wp2_with fail
          go_ret
          exact ⟨ret_bool (by rw [HN.out]; simp; omega), below1 w _⟩
      · have hb1 : ¬ (20000 : Int) < (q.length : Int) + (stops.length : Int) + (S : Int) := by omega
        by_cases h1 : k < rules.length
        · have h7 : ¬ ((k : Nat) : Int) ≤ 700 := by omega
          have hr7 : (700 : Int) < rules.length := by omega
          go_wp2_with fail
          go_ret
          exact ⟨ret_bool (by rw [HN.out]; simp; omega), below1 w _⟩
        · by_cases hr7 : (700 : Int) < rules.length
          · go_wp2_with fail
            go_ret
            exact ⟨ret_bool (by rw [HN.out]; simp; omega), below1 w _⟩
          · go_wp2_with fail
            go_ret
            exact ⟨ret_bool (by rw [HN.out]; simp; omega), below1 w _⟩
end Go.Proofs.Ytpnjffdjoacejaa

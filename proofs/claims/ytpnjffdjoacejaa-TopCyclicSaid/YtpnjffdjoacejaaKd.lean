/- Contracts: Valid and Fits of package tag. -/
import Derived.Test.YtpnjffdjoacejaaKc
namespace Go.Proofs.Ytpnjffdjoacejaa
open Go.RowKit

theorem Rows2.form {w : World} {B : Nat} {v : Value} {rows : List (List Int)} (h : Rows2 w B v rows) : ∃ A c, v = .slice A rows.length c := by
  obtain ⟨vs, h1, h2, _⟩ := h
  obtain ⟨A, c, rfl⟩ := h1.form
  exact ⟨A, c, by rw [h2]⟩
theorem bools_len {bs : List Bool} : (bools bs).length = bs.length := by simp [bools]
theorem validT_mk {t : TagS} (h1 : 1 ≤ t.del) (h2 : t.del ≤ 4) (h3 : 1 ≤ t.rules.length) (h4 : t.rules.length ≤ 600) (h5 : t.stops.length = t.rules.length) : validT t = t.rules.all (ruleB t.rules.length) := by
  rw [validT, decide_eq_true (⟨h1, h2⟩ : 1 ≤ t.del ∧ t.del ≤ 4), decide_eq_true (⟨h3, h4⟩ : 1 ≤ t.rules.length ∧ t.rules.length ≤ 600), decide_eq_true h5]
  simp
theorem validT_no {t : TagS} (h : ¬ (1 ≤ t.del ∧ t.del ≤ 4 ∧ 1 ≤ t.rules.length ∧ t.rules.length ≤ 600 ∧ t.stops.length = t.rules.length)) : validT t = false := by
  cases hv : validT t with
  | false => rfl
  | true =>
    obtain ⟨h1, h2, h3, h4, h5, _⟩ := validT_parts hv
    exact absurd ⟨h1, h2, h3, h4, h5⟩ h
/-- One box of three cells, behind a call. -/
theorem box3 {w w1 : World} {t : TypeId} {a b c : Value} (hb : Below (w.alloc (.cells #[a, b, c] t)).heap.size (w.alloc (.cells #[a, b, c] t)) w1) :
    w1.cell? ⟨w.heap.size, 0, none⟩ = some a ∧ w1.cell? ⟨w.heap.size, 1, none⟩ = some b ∧ w1.cell? ⟨w.heap.size, 2, none⟩ = some c ∧ w.heap.size < w1.heap.size ∧ Below w.heap.size w w1 := by
  have b1 : Blk w1 w.heap.size t #[a, b, c] := (Blk.new w t #[a, b, c]).below hb (by simp)
  exact ⟨b1.cell 0, b1.cell 1, b1.cell 2, b1.lt, (below1 w _).trans (hb.mono (by simp))⟩

set_option maxHeartbeats 2000000 in
theorem valid_any (t : TagS) (v2 v3 : Value) (w : World) (h : TagIn w w.heap.size v2 v3 t) :
    Calls Try.prog 12 #[.agg #[.int .i64 t.del, v2, v3]] w fun e w' => e = .returned (.bool (validT t)) ∧ Below w.heap.size w w' := by
  obtain ⟨del, rules, stops⟩ := t
  obtain ⟨hr, hs, hl1, hl2, hl3⟩ := h
  simp only at hr hs hl1 hl2 hl3 ⊢
  obtain ⟨A2, c2, rfl⟩ := hr.form
  obtain ⟨A3, c3, rfl⟩ := hs.form
  rw [bools_len] at hs ⊢
  by_cases hok : 1 ≤ del ∧ del ≤ 4 ∧ 1 ≤ rules.length ∧ rules.length ≤ 600 ∧ stops.length = rules.length
  · rw [validT_mk hok.1 hok.2.1 hok.2.2.1 hok.2.2.2.1 hok.2.2.2.2]
    simp only
    obtain ⟨k1, k2, k3, k4, k5⟩ := hok
    rw [k5] at hs ⊢
    have t1 : ¬ del < 1 := by omega
    have t2 : ¬ 4 < del := by omega
    have t3 : ¬ (rules.length : Int) < 1 := by omega
    have t4 : ¬ (600 : Int) < rules.length := by omega
    have HR := hid_ hr; clear hr
    have HL3 := hid_ hl3; clear hl3
    clear hs k5
    obtain ⟨b0, off, rfl, hb⟩ := HR.out.addr k3
    go_enter Try.func12, Try.ntmps12
    go_wp2_with fail
    go_loopw [35] (fun s wr => ∃ k : Nat, s = .int .i64 ((k : Nat) : Int) ∧ k ≤ rules.length ∧ Hid ((rules.take k).all (ruleB rules.length) = true) ∧ wr = w.alloc (.cells #[.int .i64 del, .slice (some ⟨b0, off, none⟩) rules.length c2, .slice A3 rules.length c3] 25)) (fun s _ => rules.length - (intOf s).toNat)
    case atStart => exact ⟨0, rfl, Nat.zero_le _, hid_ rfl, rfl⟩
    case round =>
      obtain ⟨k, rfl, hk, HT, rfl⟩ := hrel
      by_cases hlt : k < rules.length
      · obtain ⟨r, hrk⟩ : ∃ r, rules[k]? = some r := ⟨_, List.getElem?_eq_getElem hlt⟩
        obtain ⟨A, d, hc, hE⟩ := HR.out.row hrk
        have hrl := HL3.out r (List.mem_of_getElem? hrk)
        have HE := hid_ hE
        have HK := hid_ hrk
        have hc' := keepa (.cells #[.int .i64 del, .slice (some ⟨b0, off, none⟩) rules.length c2, .slice A3 rules.length c3] 25) hc
        clear hE hrk
        cases hB : decide ((r.length : Int) ≤ 200) && wordB rules.length r
        · go_wp2_with fail
          refine (isWord_any r rules.length 200 _ _ (HE.out.to (below1 w _)) hrl).mono ?_
          rw [hB]
          have HB := hid_ hB
          clear hB
          rintro e w1 ⟨rfl, rfl⟩
          go_wp2_with fail
          go_ret
          exact ⟨ret_bool (all_not HK.out HB.out).symm, below1 w _⟩
        · go_wp2_with fail
          refine (isWord_any r rules.length 200 _ _ (HE.out.to (below1 w _)) hrl).mono ?_
          rw [hB]
          have HB := hid_ hB
          clear hB
          rintro e w1 ⟨rfl, rfl⟩
          go_wp2_with fail
          go_roundw
          case rel => exact ⟨k + 1, by go_num, by omega, hid_ (all_step HK.out HT.out HB.out), trivial⟩
          case measure => simp [intOf]; omega
      · go_wp2_with fail
        go_ret
        have := HT.out
        rw [List.take_of_length_le (by omega)] at this
        exact ⟨ret_bool this.symm, below1 w _⟩
  · rw [validT_no (t := ⟨del, rules, stops⟩) hok]
    clear hr hs hl3
    by_cases h1 : del < 1
    · go_enter Try.func12, Try.ntmps12
      go_wp2_with fail
      go_ret
      exact ⟨rfl, below1 w _⟩
    · by_cases h2 : 4 < del
      · go_enter Try.func12, Try.ntmps12
        go_wp2_with fail
        go_ret
        exact ⟨rfl, below1 w _⟩
      · by_cases h3 : rules.length < 1
        · have h3' : rules.length = 0 := by omega
          rw [h3']
          clear hok h3 h3'
          go_enter Try.func12, Try.ntmps12
          go_wp2_with fail
          go_ret
          exact ⟨rfl, below1 w _⟩
        · by_cases h4 : 600 < rules.length
          · have h4' : (600 : Int) < rules.length := by omega
            clear hok
            go_enter Try.func12, Try.ntmps12
            go_wp2_with fail
            go_ret
            exact ⟨rfl, below1 w _⟩
          · have h5 : ¬ stops.length = rules.length := fun e => hok ⟨by omega, by omega, by omega, by omega, e⟩
            have h6 : ((stops.length : Int) != (rules.length : Int)) = true := by simp; omega
            have h7 : ¬ (rules.length : Int) < 1 := by omega
            have h8 : ¬ (600 : Int) < rules.length := by omega
            clear hok
            go_enter Try.func12, Try.ntmps12
            go_wp2_with fail
            go_ret
            exact ⟨rfl, below1 w _⟩
end Go.Proofs.Ytpnjffdjoacejaa

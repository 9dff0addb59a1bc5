/- The contract of awake of the law package. -/
import Derived.Test.YtpnjffdjoacejaaKp
namespace Go.Proofs.Ytpnjffdjoacejaa
open Go.RowKit

theorem three_run : runTS threeT [0, 0, 0] 4 = ⟨[0, 0, 0, 0, 0], 4, 0⟩ := by rfl
theorem three_valid : validT threeT = true := by rfl
theorem three_len : (cycL threeT).length = 6 := by rfl
theorem three_row : (cycL threeT)[0]? = some [0, 1, 0, 0, 0, 1] := by rfl

set_option maxRecDepth 100000 in
set_option maxHeartbeats 2000000 in
theorem awake_any (w : World) : Calls Try.prog 11 #[] w fun e w' => e = .returned (.bool true) ∧ Below w.heap.size w w' := by
  go_enter Try.func11, Try.ntmps11
  go_wp2_with fail
  refine (three_any w).mono ?_
  rintro e w1 ⟨v2, v3, rfl, ht, hb1⟩
  have HT := hid_ ht
  clear ht
  go_wp2_with fail
  refine (run_any threeT [0, 0, 0] 4 v2 v3 _ _ (HT.out.to (below1 w1 _)) (blk_elems (Blk.new w1 _ _) rfl) (by decide)).mono ?_
  rw [three_run]
  rintro e w2 ⟨v, rfl, hE, hb2⟩
  have HE := hid_ hE
  have hw2 : Below w.heap.size w w2 := bnext (hb1.alloc hb1.size _) (hb2.mono (Nat.le_refl _))
  clear hE hb2
  go_wp2_with fail
  refine (three_any w2).mono ?_
  rintro e w3 ⟨u2, u3, rfl, ht3, hb3⟩
  have HT3 := hid_ ht3
  clear ht3
  go_wp2_with fail
  refine (toCyclic_any threeT u2 u3 w3 HT3.out).mono ?_
  rintro e w4 ⟨hb4, hc⟩
  rw [if_pos three_valid] at hc
  obtain ⟨vc, rfl, hrows⟩ := hc
  obtain ⟨A, c, rfl⟩ := hrows.form
  rw [three_len] at hrows ⊢
  have HRW := hid_ hrows
  obtain ⟨b, off, rfl, hb⟩ := HRW.out.addr (by omega)
  obtain ⟨Ar, dr, hcr, hEr⟩ := HRW.out.row three_row
  simp only [Nat.add_zero] at hcr
  have HER := hid_ hEr
  clear hEr
  have hw4 : Below w.heap.size w w4 := bnext (bnext hw2 hb3) hb4
  have HE4 := hid_ ((HE.out.to hb3).to hb4)
  clear hrows
  go_wp2_with fail
  have hq5 : Elems ((w4.alloc (.cells #[.slice (some ⟨b, off, none⟩) 6 c] 43)).alloc (.cells #[.int .i64 0, .int .i64 0, .int .i64 0, .int .i64 0, .int .i64 0] 3)) ((w4.alloc (.cells #[.slice (some ⟨b, off, none⟩) 6 c] 43)).alloc (.cells #[.int .i64 0, .int .i64 0, .int .i64 0, .int .i64 0, .int .i64 0] 3)).heap.size (.slice (some ⟨w4.heap.size + 1, 0, none⟩) 5 5) (ints [0, 0, 0, 0, 0]) := by
    have h := Blk.new (w4.alloc (.cells #[.slice (some ⟨b, off, none⟩) 6 c] 43)) 3 #[.int .i64 0, .int .i64 0, .int .i64 0, .int .i64 0, .int .i64 0]
    rw [show (w4.alloc (.cells #[.slice (some ⟨b, off, none⟩) 6 c] 43)).heap.size = w4.heap.size + 1 by simp] at h
    exact blk_elems h rfl
  refine (same_any [0, 0, 0, 0, 0] [0, 0, 0, 0, 0] v _ ((w4.alloc (.cells #[.slice (some ⟨b, off, none⟩) 6 c] 43)).alloc (.cells #[.int .i64 0, .int .i64 0, .int .i64 0, .int .i64 0, .int .i64 0] 3)) (HE4.out.to (below2 w4 _ _)) hq5 (by decide)).mono ?_
  rw [show decide (([0, 0, 0, 0, 0] : List Int) = [0, 0, 0, 0, 0]) = true by rfl]
  rintro e w5 ⟨rfl, n1, rfl⟩
  have hlen6 : ([0, 1, 0, 0, 0, 1] : List Int).length = 6 := rfl
  rw [hlen6] at hcr HER
  have hq6 : Elems ((((w4.alloc (.cells #[.slice (some ⟨b, off, none⟩) 6 c] 43)).alloc (.cells #[.int .i64 0, .int .i64 0, .int .i64 0, .int .i64 0, .int .i64 0] 3)).drewN n1).alloc (.cells #[.int .i64 0, .int .i64 1, .int .i64 0, .int .i64 0, .int .i64 0, .int .i64 1] 3)) ((((w4.alloc (.cells #[.slice (some ⟨b, off, none⟩) 6 c] 43)).alloc (.cells #[.int .i64 0, .int .i64 0, .int .i64 0, .int .i64 0, .int .i64 0] 3)).drewN n1).alloc (.cells #[.int .i64 0, .int .i64 1, .int .i64 0, .int .i64 0, .int .i64 0, .int .i64 1] 3)).heap.size (.slice (some ⟨w4.heap.size + 1 + 1, 0, none⟩) 6 6) (ints [0, 1, 0, 0, 0, 1]) := by
    have h := Blk.new (((w4.alloc (.cells #[.slice (some ⟨b, off, none⟩) 6 c] 43)).alloc (.cells #[.int .i64 0, .int .i64 0, .int .i64 0, .int .i64 0, .int .i64 0] 3)).drewN n1) 3 #[.int .i64 0, .int .i64 1, .int .i64 0, .int .i64 0, .int .i64 0, .int .i64 1]
    rw [show (((w4.alloc (.cells #[.slice (some ⟨b, off, none⟩) 6 c] 43)).alloc (.cells #[.int .i64 0, .int .i64 0, .int .i64 0, .int .i64 0, .int .i64 0] 3)).drewN n1).heap.size = w4.heap.size + 1 + 1 by show ((w4.alloc (.cells #[.slice (some ⟨b, off, none⟩) 6 c] 43)).alloc (.cells #[.int .i64 0, .int .i64 0, .int .i64 0, .int .i64 0, .int .i64 0] 3)).heap.size = _; simp] at h
    exact blk_elems h rfl
  have hb6 : Below w4.heap.size w4 ((((w4.alloc (.cells #[.slice (some ⟨b, off, none⟩) 6 c] 43)).alloc (.cells #[.int .i64 0, .int .i64 0, .int .i64 0, .int .i64 0, .int .i64 0] 3)).drewN n1).alloc (.cells #[.int .i64 0, .int .i64 1, .int .i64 0, .int .i64 0, .int .i64 0, .int .i64 1] 3)) := (below_drewN (below2 w4 (.cells #[.slice (some ⟨b, off, none⟩) 6 c] 43) (.cells #[.int .i64 0, .int .i64 0, .int .i64 0, .int .i64 0, .int .i64 0] 3)) n1).alloc (by show w4.heap.size ≤ ((w4.alloc (.cells #[.slice (some ⟨b, off, none⟩) 6 c] 43)).alloc (.cells #[.int .i64 0, .int .i64 0, .int .i64 0, .int .i64 0, .int .i64 0] 3)).heap.size; simp; omega) _
  have HQ6 := hid_ hq6
  have HB6 := hid_ hb6
  clear hlen6 hq5 hq6 hb6
  go_wp2_with fail
  refine (same_any [0, 1, 0, 0, 0, 1] [0, 1, 0, 0, 0, 1] _ _ ((((w4.alloc (.cells #[.slice (some ⟨b, off, none⟩) 6 c] 43)).alloc (.cells #[.int .i64 0, .int .i64 0, .int .i64 0, .int .i64 0, .int .i64 0] 3)).drewN n1).alloc (.cells #[.int .i64 0, .int .i64 1, .int .i64 0, .int .i64 0, .int .i64 0, .int .i64 1] 3)) (HER.out.to HB6.out) HQ6.out (by decide)).mono ?_
  rw [show decide (([0, 1, 0, 0, 0, 1] : List Int) = [0, 1, 0, 0, 0, 1]) = true by rfl]
  rintro e w6 ⟨rfl, n2, rfl⟩
  go_wp2_with fail
  go_ret
  exact ⟨rfl, below_drewN (bnext hw4 HB6.out) _⟩
end Go.Proofs.Ytpnjffdjoacejaa

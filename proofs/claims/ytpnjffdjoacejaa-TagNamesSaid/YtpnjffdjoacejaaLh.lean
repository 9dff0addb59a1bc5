/- The law TagNames: its early ways. -/
import Derived.Test.YtpnjffdjoacejaaLc
namespace Go.Proofs.Ytpnjffdjoacejaa
open Go.RowKit

theorem Try.infoB : (Try.prog.info? 4).map (fun i => (i.zero, i.size, i.bytes)) = some (some (.bool false), 1, 1) := by kernel_rfl
theorem bools_one {rs : List Bool} : ∀ u ∈ bools rs, u.oneCell' = true := by
  intro u hu
  simp [bools] at hu
  obtain h | h := hu <;> (obtain ⟨_, rfl⟩ := h; rfl)
theorem bools_set {xs : List Bool} {k : Nat} {x : Bool} : (bools xs).set k (.bool x) = bools (xs.set k x) := by simp [bools]
theorem metL_zero (n : Nat) (tos : List Int) : (madeCells (Value.bool false).cells (n * 1)).toList = bools (metL n tos 0) := by
  rw [Nat.mul_one]
  refine (toList_madeCells_one _ _).trans ?_
  simp [bools, metL]

section
variable (t : TagS) (q tos : List Int) (n : Int) (v2 v3 v v4 : Value) (w : World)

set_option maxRecDepth 1000000 in
set_option maxHeartbeats 4000000 in
theorem names_wide (hB : TagBig w w.heap.size v2 v3 t) (hq : Elems w w.heap.size v (ints q)) (hl : q.length ≤ 17592186044416) (hw : wideB t q = true) :
    Calls Try.prog 7 #[.agg #[.int .i64 t.del, v2, v3], v, v4, .int .u8 n] w (Yes w) := by
  have HB := hid_ hB
  have HQ := hid_ hq
  have HW := hid_ hw
  clear hB hq hw
  go_enter Try.func7, Try.ntmps7
  go_wp2_with fail
  refine (wide_any t q v2 v3 v _ (HB.out.to (below1 w _)) (HQ.out.to (below1 w _)) hl).mono ?_
  rw [HW.out]
  rintro e w1 ⟨rfl, hb1⟩
  go_wp2_with fail
  refine (awake_any _).mono ?_
  rintro e w2 ⟨rfl, hb2⟩
  go_wp2_with fail
  go_ret
  exact ⟨rfl, bnext (bnext (below1 w _) hb1) hb2⟩

set_option maxRecDepth 1000000 in
set_option maxHeartbeats 4000000 in
theorem names_bad (hB : TagBig w w.heap.size v2 v3 t) (hq : Elems w w.heap.size v (ints q)) (hl : q.length ≤ 17592186044416) (hw : wideB t q = false) (hf : fitsT t q = false) :
    Calls Try.prog 7 #[.agg #[.int .i64 t.del, v2, v3], v, v4, .int .u8 n] w (Yes w) := by
  have HB := hid_ hB
  have HT := hid_ (hB.in_ hw)
  have hl2 : q.length ≤ 1000000 := by have := (wideB_no hw).1; omega
  have HQ := hid_ hq
  have HW := hid_ hw
  have HF := hid_ hf
  clear hB hq hw hf
  go_enter Try.func7, Try.ntmps7
  go_wp2_with fail
  refine (wide_any t q v2 v3 v _ (HB.out.to (below1 w _)) (HQ.out.to (below1 w _)) hl).mono ?_
  rw [HW.out]
  rintro e w1 ⟨rfl, hb1⟩
  obtain ⟨p0, p1, p2, hz, hw1⟩ := box3 hb1
  clear hb1
  go_wp2_with fail
  refine (rfits_any t q v2 v3 v _ (HT.out.to hw1) (HQ.out.to hw1) hl2).mono ?_
  rw [HF.out]
  rintro e w2 ⟨rfl, hb2⟩
  go_wp2_with fail
  refine (awake_any _).mono ?_
  rintro e w3 ⟨rfl, hb3⟩
  go_wp2_with fail
  go_ret
  exact ⟨rfl, bnext (bnext hw1 hb2) hb3⟩

set_option maxRecDepth 1000000 in
set_option maxHeartbeats 4000000 in
theorem names_len (hB : TagBig w w.heap.size v2 v3 t) (hq : Elems w w.heap.size v (ints q)) (h4 : Elems w w.heap.size v4 (ints tos)) (hl : q.length ≤ 17592186044416) (hw : wideB t q = false) (hf : fitsT t q = true) (hn : tos.length ≠ t.rules.length) :
    Calls Try.prog 7 #[.agg #[.int .i64 t.del, v2, v3], v, v4, .int .u8 n] w (Yes w) := by
  have HB := hid_ hB
  have HT := hid_ (hB.in_ hw)
  have hl2 : q.length ≤ 1000000 := by have := (wideB_no hw).1; omega
  have HQ := hid_ hq
  have HW := hid_ hw
  have HF := hid_ hf
  obtain ⟨A2, c2, rfl⟩ := hB.rules.form
  obtain ⟨A4, c4, rfl⟩ := h4.form
  rw [ints_len]
  have hne : ((tos.length : Int) != (t.rules.length : Int)) = true := by simp; omega
  clear hB hq hw hf h4 hn
  go_enter Try.func7, Try.ntmps7
  go_wp2_with fail
  refine (wide_any t q _ v3 v _ (HB.out.to (below1 w _)) (HQ.out.to (below1 w _)) hl).mono ?_
  rw [HW.out]
  rintro e w1 ⟨rfl, hb1⟩
  obtain ⟨p0, p1, p2, hz, hw1⟩ := box3 hb1
  clear hb1
  go_wp2_with fail
  refine (rfits_any t q _ v3 v _ (HT.out.to hw1) (HQ.out.to hw1) hl2).mono ?_
  rw [HF.out]
  rintro e w2 ⟨rfl, hb2⟩
  replace p1 := keepc hb2 p1
  go_wp2_with fail
  refine (awake_any _).mono ?_
  rintro e w3 ⟨rfl, hb3⟩
  go_wp2_with fail
  go_ret
  exact ⟨rfl, bnext (bnext hw1 hb2) hb3⟩
end

end Go.Proofs.Ytpnjffdjoacejaa

/- Contracts: Roll for all arguments; Turn; SameWheel. -/
import Derived.Test.YtpnjffdjoacejaaMg
namespace Go.Proofs.Ytpnjffdjoacejaa
open Go.RowKit

theorem roll_any (ws : List (List Int)) (a : Int) (q : List Int) (N : Int) (v v2 : Value) (w : World) (ht : CycIn w w.heap.size v ws) (hq : Elems w w.heap.size v2 (ints q)) (hl : q.length ≤ 1000000) :
    Calls Try.prog 29 #[.agg #[v], .agg #[.int .i64 a, v2], .int .i64 N] w (WRan w (rollS ws a q N)) := by
  cases hf : fitsC ws a q
  · have := roll_bad ws a q N v v2 w ht hq hl hf
    rw [rollS, if_pos hf]
    exact this
  · by_cases hN : N < 0 ∨ 1000000 < N
    · have := roll_arg ws a q N v v2 w ht hq hl hf (by omega)
      rw [rollS, if_neg (by rw [hf]; simp), if_pos hN]
      exact this
    · rw [rollS, if_neg (by rw [hf]; simp), if_neg hN]
      obtain ⟨an, rfl⟩ := Int.eq_ofNat_of_zero_le (fitsC_parts hf).2.1
      obtain ⟨n, rfl⟩ := Int.eq_ofNat_of_zero_le (show 0 ≤ N by omega)
      rw [Int.toNat_natCast, Int.toNat_natCast]
      exact roll_go ws an n q v v2 w ht hq hl hf (by omega)

theorem Elems.set_to {w : World} {v u : Value} {cs : List Value} {p : Addr} (h : Elems w w.heap.size v cs) (hne : v.ownBlock ≠ some p.block) : Elems (w.setCell p u) (w.setCell p u).heap.size v cs := by
  have hsz : (w.setCell p u).heap.size = w.heap.size := by simp [World.setCell]
  rw [hsz]
  exact h.set_ hne
/-- What Turn returns. -/
def turnS (ws : List (List Int)) (a : Int) (q : List Int) : WRes := if fitsC ws a q = false then ⟨0, [], 0, 1⟩ else if q = [] then ⟨0, [], 0, 5⟩ else rollS ws a q 1
def URan (w : World) (R : WRes) (e : Ending) (w' : World) : Prop :=
  ∃ v, e = .returned (.tuple #[.agg #[.int .i64 R.pos, v], .int .i64 R.err]) ∧ Elems w' w'.heap.size v (ints R.q) ∧ (∀ b, v.ownBlock = some b → w.heap.size ≤ b) ∧ Below w.heap.size w w'

set_option maxRecDepth 100000 in
set_option maxHeartbeats 2000000 in
theorem turn_any (ws : List (List Int)) (a : Int) (q : List Int) (v v2 : Value) (w : World) (ht : CycIn w w.heap.size v ws) (hq : Elems w w.heap.size v2 (ints q)) (hl : q.length ≤ 1000000) :
    Calls Try.prog 28 #[.agg #[v], .agg #[.int .i64 a, v2]] w (URan w (turnS ws a q)) := by
  have HT := hid_ ht
  obtain ⟨A2, c2, rfl⟩ := hq.form
  rw [ints_len] at hq ⊢
  have HQ := hid_ hq
  cases hf : fitsC ws a q
  · rw [turnS, if_pos hf]
    have HF := hid_ hf
    clear ht hq hf
    go_enter Try.func28, Try.ntmps28
    go_wp2_with fail
    refine (fcyc_any ws a q v _ _ (HT.out.to (below3 w _ _ _)) (HQ.out.to (below3 w _ _ _)) hl).mono ?_
    rw [HF.out]
    rintro e w1 ⟨rfl, hb1⟩
    obtain ⟨B0, B1, B2, hw1⟩ := boxes hb1
    have p0 := B0.cell 0
    have p1 := B1.cell 0
    have p2 := B1.cell 1
    have r0 := B2.cell 0
    have r1 := B2.cell 1
    have s0 := B2.free 0
    have s1 := B2.free 1
    have z2 := B2.lt
    simp at p0 p1 p2 r0 r1
    have BX2 := (B2.set_ 0 (.int .i64 0)).set_ 1 (.slice none 0 0)
    have e0 := BX2.cell 0
    have e1 := BX2.cell 1
    simp at e0 e1
    clear hb1 B0 B1
    go_wp2_with fail
    refine bodyPost_ret (v := .tuple #[.agg #[.int .i64 0, .slice none 0 0], .int .i64 1]) (by simp [results, Try.results28, go_sem, e0, e1]) rfl ?_
    exact ⟨_, rfl, Elems.nil _ _, (fun b h => by simp [Value.ownBlock] at h), (hw1.setCell (by simp; omega) _).setCell (by simp; omega) _⟩
  · rw [turnS, if_neg (by rw [hf]; simp)]
    have HF := hid_ hf
    by_cases hz : q = []
    · rw [if_pos hz]
      have hlz : q.length = 0 := by rw [hz]; rfl
      rw [hlz] at HQ ⊢
      clear ht hq hf hz hlz
      go_enter Try.func28, Try.ntmps28
      go_wp2_with fail
      refine (fcyc_any ws a q v _ _ (HT.out.to (below3 w _ _ _)) (HQ.out.to (below3 w _ _ _)) hl).mono ?_
      rw [HF.out]
      rintro e w1 ⟨rfl, hb1⟩
      obtain ⟨B0, B1, B2, hw1⟩ := boxes hb1
      have p0 := B0.cell 0
      have p1 := B1.cell 0
      have p2 := B1.cell 1
      have r0 := B2.cell 0
      have r1 := B2.cell 1
      have s0 := B2.free 0
      have s1 := B2.free 1
      have z2 := B2.lt
      simp at p0 p1 p2 r0 r1
      have BX2 := (B2.set_ 0 (.int .i64 0)).set_ 1 (.slice none 0 0)
      have e0 := BX2.cell 0
      have e1 := BX2.cell 1
      simp at e0 e1
      clear hb1 B0 B1
      go_wp2_with fail
      refine bodyPost_ret (v := .tuple #[.agg #[.int .i64 0, .slice none 0 0], .int .i64 5]) (by simp [results, Try.results28, go_sem, e0, e1]) rfl ?_
      exact ⟨_, rfl, Elems.nil _ _, (fun b h => by simp [Value.ownBlock] at h), (hw1.setCell (by simp; omega) _).setCell (by simp; omega) _⟩
    · rw [if_neg hz]
      have hlp : (0 : Int) < q.length := by have := List.length_pos_iff.2 hz; omega
      have hlz : ((q.length : Int) == 0) = false := by simp; exact hz
      obtain ⟨R, hR⟩ : ∃ R, R = rollS ws a q 1 := ⟨_, rfl⟩
      rw [← hR]
      have HR := hid_ hR
      clear ht hq hf hz hR
      go_enter Try.func28, Try.ntmps28
      go_wp2_with fail
      refine (fcyc_any ws a q v _ _ (HT.out.to (below3 w _ _ _)) (HQ.out.to (below3 w _ _ _)) hl).mono ?_
      rw [HF.out]
      rintro e w1 ⟨rfl, hb1⟩
      obtain ⟨B0, B1, B2, hw1⟩ := boxes hb1
      have p0 := B0.cell 0
      have p1 := B1.cell 0
      have p2 := B1.cell 1
      have HB2 := hid_ B2
      simp at p0 p1 p2
      clear hb1 B0 B1 B2
      go_wp2_with fail
      refine (roll_any ws a q 1 v _ w1 (HT.out.to hw1) (HQ.out.to hw1) hl).mono ?_
      rw [← HR.out]
      rintro e w2 ⟨vr, rfl, hEr, hfr, hb2⟩
      obtain ⟨Ar, cr, rfl⟩ := hEr.form
      have HEr := hid_ hEr
      have HFR := hid_ hfr
      rw [ints_len] at HEr HFR ⊢
      clear hfr
      have B2 := HB2.out.to hb2
      have r0 := B2.cell 0
      have r1 := B2.cell 1
      have s0 := B2.free 0
      have s1 := B2.free 1
      have z2 := B2.lt
      simp at r0 r1
      have hw2 := bnext hw1 hb2
      have BX2 := ((B2.set_ 0 (.int .i64 R.pos)).set_ 1 (.slice Ar R.q.length cr)).alloc (.cells #[.int .i64 R.pos, .slice Ar R.q.length cr] 45)
      have e0 := BX2.cell 0
      have e1 := BX2.cell 1
      simp at e0 e1
      clear hEr B2 BX2
      go_wp2_with fail
      refine bodyPost_ret (v := .tuple #[.agg #[.int .i64 R.pos, .slice Ar R.q.length cr], .int .i64 R.err]) (by simp [results, Try.results28, go_sem, e0, e1]) rfl ?_
      have hz1 : w.heap.size + 1 + 1 < w1.heap.size := HB2.out.lt
      have hne : ∀ i : Nat, (Value.slice Ar R.q.length cr).ownBlock ≠ some (⟨w.heap.size + 1 + 1, i, none⟩ : Addr).block := fun i e => by
        have := HFR.out _ e
        simp at this
        omega
      exact ⟨_, rfl, (((HEr.out.set_to (hne 0)).set_to (hne 1)).to (below1 _ _)), (fun b h => by have := HFR.out b h; omega), ((hw2.setCell (by simp; omega) _).setCell (by simp; omega) _).alloc (by simp only [World.setCell, Array.size_modify]; exact hw2.size) _⟩

set_option maxRecDepth 100000 in
set_option maxHeartbeats 1000000 in
theorem samewheel_any (a b : Int) (xs ys : List Int) (v1 v2 : Value) (w : World) (h1 : Elems w w.heap.size v1 (ints xs)) (h2 : Elems w w.heap.size v2 (ints ys)) (hl : xs.length ≤ 1000000) :
    Calls Try.prog 30 #[.agg #[.int .i64 a, v1], .agg #[.int .i64 b, v2]] w fun e w' => e = .returned (.bool (decide (a = b) && decide (xs = ys))) ∧ Below w.heap.size w w' := by
  have H1 := hid_ h1
  have H2 := hid_ h2
  clear h1 h2
  by_cases hab : a = b
  · subst hab
    rw [decide_eq_true (rfl : a = a), Bool.true_and]
    have hbb : (a == a) = true := by simp
    go_enter Try.func30, Try.ntmps30
    go_wp2_with fail
    refine (same_any xs ys v1 v2 _ (H1.out.to (below2 w _ _)) (H2.out.to (below2 w _ _)) hl).mono ?_
    rintro e w1 ⟨rfl, n, rfl⟩
    go_wp2_with fail
    go_ret
    exact ⟨rfl, below_drewN (below2 w _ _) n⟩
  · rw [decide_eq_false hab, Bool.false_and]
    have hbb : (a == b) = false := by simpa using hab
    go_enter Try.func30, Try.ntmps30
    go_wp2_with fail
    go_ret
    exact ⟨rfl, below2 w _ _⟩
end Go.Proofs.Ytpnjffdjoacejaa

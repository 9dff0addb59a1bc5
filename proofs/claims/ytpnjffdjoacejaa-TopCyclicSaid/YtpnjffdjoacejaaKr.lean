/- The contract of Step of package tag; size. -/
import Derived.Test.YtpnjffdjoacejaaKq
namespace Go.Proofs.Ytpnjffdjoacejaa
open Go.RowKit

def sizeI (b : Bool) : Int := if b = true then 0 else 4
theorem size_any (b : Bool) (w : World) : Calls Try.prog 20 #[.bool b] w fun e w' => e = .returned (.int .i64 (sizeI b)) ∧ w = w' := by
  cases b
  all_goals
    go_enter Try.func20, Try.ntmps20
    go_wp2_with fail
    go_ret
    exact ⟨rfl, rfl⟩

/-- What Step returns. -/
def stepTS (t : TagS) (q : List Int) : TRes := if fitsT t q = false then ⟨[], 0, 1⟩ else if stoppedT t q = true then ⟨[], 0, 5⟩ else runTS t q 1
def SRan (w : World) (r : TRes) (e : Ending) (w' : World) : Prop :=
  ∃ v, e = .returned (.tuple #[v, .int .i64 r.err]) ∧ Elems w' w'.heap.size v (ints r.q) ∧ Below w.heap.size w w'

set_option maxRecDepth 100000 in
set_option maxHeartbeats 1000000 in
theorem step_bad (t : TagS) (q : List Int) (v2 v3 v : Value) (w : World) (ht : TagIn w w.heap.size v2 v3 t) (hq : Elems w w.heap.size v (ints q)) (hl : q.length ≤ 1000000) (hf : fitsT t q = false) :
    Calls Try.prog 16 #[.agg #[.int .i64 t.del, v2, v3], v] w (SRan w ⟨[], 0, 1⟩) := by
  have HT := hid_ ht
  have HQ := hid_ hq
  have HF := hid_ hf
  clear ht hq hf
  go_enter Try.func16, Try.ntmps16
  go_wp2_with fail
  refine (fits_any t q v2 v3 v _ (HT.out.to (below1 w _)) (HQ.out.to (below1 w _)) hl).mono ?_
  rw [HF.out]
  rintro e w1 ⟨rfl, hb1⟩
  obtain ⟨p0, p1, p2, hz, hw1⟩ := box3 hb1
  go_wp2_with fail
  go_ret2
  exact ⟨_, rfl, Elems.nil _ _, hw1⟩

theorem keep3 {w w' : World} {a1 a2 a3 : Addr} {v1 v2 v3 : Value} (hb : Below w.heap.size w w') (h : w.cell? a1 = some v1 ∧ w.cell? a2 = some v2 ∧ w.cell? a3 = some v3) : w'.cell? a1 = some v1 ∧ w'.cell? a2 = some v2 ∧ w'.cell? a3 = some v3 :=
  ⟨keepc hb h.1, keepc hb h.2.1, keepc hb h.2.2⟩

set_option maxRecDepth 100000 in
set_option maxHeartbeats 2000000 in
theorem step_go (t : TagS) (q : List Int) (v2 v3 v : Value) (w : World) (ht : TagIn w w.heap.size v2 v3 t) (hq : Elems w w.heap.size v (ints q)) (hl : q.length ≤ 1000000) (hf : fitsT t q = true) :
    Calls Try.prog 16 #[.agg #[.int .i64 t.del, v2, v3], v] w (SRan w (if stoppedT t q = true then ⟨[], 0, 5⟩ else runTS t q 1)) := by
  have HT := hid_ ht
  have HQ := hid_ hq
  have HF := hid_ hf
  clear ht hq hf
  cases hs : stoppedT t q
  all_goals
    have HS := hid_ hs
    clear hs
    go_enter Try.func16, Try.ntmps16
    go_wp2_with fail
    refine (fits_any t q v2 v3 v _ (HT.out.to (below1 w _)) (HQ.out.to (below1 w _)) hl).mono ?_
    rw [HF.out]
    rintro e W ⟨rfl, hb1⟩
    obtain ⟨p0, p1, p2, hz, hw1⟩ := box3 hb1
    clear hb1
    go_wp2_with fail
    go_region_held3 (fun w' => w'.cell? ⟨w.heap.size, 0, none⟩ = some (.int .i64 t.del) ∧ w'.cell? ⟨w.heap.size, 1, none⟩ = some v2 ∧ w'.cell? ⟨w.heap.size, 2, none⟩ = some v3)
      (first | assumption | exact ⟨p0, p1, p2⟩ | exact keep3 hbq (by assumption) | exact keep3 hbs (by assumption))
      (first
        | (go_at_call 48; refine (newQueue_any q v W.drew (HQ.out.to hw1.drew) hl).mono ?_; rintro e wq ⟨go, rfl, hqa, hbq⟩)
        | (go_at_call 47; refine (stopped_any t q v2 v3 W.drew.heap.size go wq (HT.out.to (bnext hw1 hbq.drewl)) hqa HF.out).mono ?_; rw [HS.out]; rintro e ws ⟨rfl, hbs⟩))
  · have hws := bnext (bnext hw1 hbq.drewl) hbs
    go_wp2_with fail
    refine (run_any t q 1 v2 v3 v ws (HT.out.to hws) (HQ.out.to hws) hl).mono ?_
    rintro e we ⟨ve, rfl, hE, hbe⟩
    have HE := hid_ hE
    clear hE
    go_wp2_with fail
    go_ret2
    exact ⟨_, rfl, HE.out, bnext hws hbe⟩
  · have hws := bnext (bnext hw1 hbq.drewl) hbs
    go_wp2_with fail
    go_ret2
    exact ⟨_, rfl, Elems.nil _ _, hws⟩

theorem step_any (t : TagS) (q : List Int) (v2 v3 v : Value) (w : World) (ht : TagIn w w.heap.size v2 v3 t) (hq : Elems w w.heap.size v (ints q)) (hl : q.length ≤ 1000000) :
    Calls Try.prog 16 #[.agg #[.int .i64 t.del, v2, v3], v] w (SRan w (stepTS t q)) := by
  cases hf : fitsT t q
  · rw [stepTS, if_pos hf]
    exact step_bad t q v2 v3 v w ht hq hl hf
  · rw [stepTS, if_neg (by rw [hf]; simp)]
    exact step_go t q v2 v3 v w ht hq hl hf
end Go.Proofs.Ytpnjffdjoacejaa

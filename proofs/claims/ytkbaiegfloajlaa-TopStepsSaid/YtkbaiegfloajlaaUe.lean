/- Contracts: same of package standstilltop; the law TopSteps: its early ways. -/
import Derived.Test.YtkbaiegfloajlaaUb
import Derived.Test.YtkbaiegfloajlaaTn
namespace Go.Proofs.Ytkbaiegfloajlaa.Tp
open Go.RowKit

set_option maxRecDepth 100000 in
set_option maxHeartbeats 2000000 in
theorem same_eq (c : CfgS) (v u : Value) (w : World) (hv : Elems w w.heap.size v (ints c.cells)) (hu : Elems w w.heap.size u (ints c.cells)) (hl : c.cells.length ≤ 1000000) :
    Calls Try.prog 9 #[.agg #[.int .i64 c.st, .int .i64 c.pos, .int .i64 c.frm, v], .agg #[.int .i64 c.st, .int .i64 c.pos, .int .i64 c.frm, u]] w fun e w' => e = .returned (.bool true) ∧ Below w.heap.size w w' := by
  obtain ⟨A1, c1, rfl⟩ := hv.form
  obtain ⟨A2, c2, rfl⟩ := hu.form
  have HV := hid_ hv
  have HU := hid_ hu
  have t1 : (c.st == c.st) = true := by simp
  have t2 : (c.pos == c.pos) = true := by simp
  have t3 : (c.frm == c.frm) = true := by simp
  clear hv hu
  go_enter Try.func9, Try.ntmps9
  go_wp2_with fail
  refine (sameInts_any c.cells c.cells _ _ _ (HV.out.to (below2 w _ _)) (HU.out.to (below2 w _ _)) hl).mono ?_
  rw [decide_eq_true (show c.cells = c.cells from rfl)]
  rintro e w1 ⟨rfl, n1, rfl⟩
  go_wp2_with fail
  go_ret
  exact ⟨rfl, below_drewN (below2 w _ _) n1⟩

def YesT (w : World) (e : Ending) (w' : World) : Prop := e = .returned (.bool true) ∧ Below w.heap.size w w'
section
variable (m : MachS) (n : Int) (v : Value) (w : World)
set_option maxRecDepth 100000 in
set_option maxHeartbeats 2000000 in
theorem steps_e0 (hm : MachIn w w.heap.size v m) (hv : validM m = false) : Calls Try.prog 3 #[.agg #[.int .i64 m.states, .int .i64 m.symbols, v], .int .i64 n] w (YesT w) := by
  have HM := hid_ hm
  have HV := hid_ hv
  obtain ⟨A, c, rfl⟩ := hm.rules.form
  clear hm hv
  go_enter Try.func3, Try.ntmps3
  go_wp2_with fail
  refine (tvalid_any m _ _ (HM.out.to (below1 w _))).mono ?_
  rw [HV.out]
  rintro e w1 ⟨rfl, hb1⟩
  go_wp2_with fail
  refine (lives_any _).mono ?_
  rintro e w2 ⟨rfl, hb2⟩
  go_wp2_with fail
  go_ret
  exact ⟨rfl, bnext (bnext (below1 w _) hb1) hb2⟩
set_option maxRecDepth 100000 in
set_option maxHeartbeats 2000000 in
theorem steps_e1 (hm : MachIn w w.heap.size v m) (hv : validM m = true) (hn : n < 0 ∨ (0 ≤ n ∧ 100000 < n)) : Calls Try.prog 3 #[.agg #[.int .i64 m.states, .int .i64 m.symbols, v], .int .i64 n] w (YesT w) := by
  have HM := hid_ hm
  have HV := hid_ hv
  obtain ⟨A, c, rfl⟩ := hm.rules.form
  clear hm hv
  rcases hn with h1 | ⟨h1, h2⟩
  all_goals
    go_enter Try.func3, Try.ntmps3
    go_wp2_with fail
    refine (tvalid_any m _ _ (HM.out.to (below1 w _))).mono ?_
    rw [HV.out]
    rintro e w1 ⟨rfl, hb1⟩
    go_wp2_with fail
    refine (lives_any _).mono ?_
    rintro e w2 ⟨rfl, hb2⟩
    go_wp2_with fail
    go_ret
    exact ⟨rfl, bnext (bnext (below1 w _) hb1) hb2⟩
end
end Go.Proofs.Ytkbaiegfloajlaa.Tp

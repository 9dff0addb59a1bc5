/- The law TapeParts, way by way. -/
import Derived.Test.YtkbaiegfloajlaaDoorVh
import Derived.Test.YtkbaiegfloajlaaDoorVi
namespace Go.Proofs.YtkbaiegfloajlaaDoor.Tp
open Go.RowKit

section
variable (m : MachS) (c : CfgS) (N K : Nat) (v u : Value) (w : World) (mx : Int)

set_option maxRecDepth 100000 in
set_option maxHeartbeats 4000000 in
theorem parts_e0 (hm : MachIn w w.heap.size v m) (hE : Elems w w.heap.size u (ints c.cells)) (hl : c.cells.length ≤ 17592186044416) (hmx : w.cell? ⟨0, 0, none⟩ = some (.int .i64 mx)) (hw : wideT m c = true) :
    Calls Tryd.prog 6 #[.agg #[.int .i64 m.states, .int .i64 m.symbols, v], .agg #[.int .i64 c.st, .int .i64 c.pos, .int .i64 c.frm, u], .int .u16 (N : Int), .int .u16 (K : Int)] w (YesL w) := by
  obtain ⟨A1, c1, rfl⟩ := hm.rules.form
  obtain ⟨A2, c2, rfl⟩ := hE.form
  rw [ints_len] at hE ⊢
  have hbW := below2 w (.cells #[.int .i64 m.states, .int .i64 m.symbols, .slice A1 m.rules.length c1] 24) (.cells #[.int .i64 c.st, .int .i64 c.pos, .int .i64 c.frm, .slice A2 c.cells.length c2] 27)
  have HM := hid_ (hm.to hbW)
  have HE := hid_ (hE.to hbW)
  have HMX := hid_ hmx
  have HW := hid_ hw
  clear hm hE hmx hw
  go_enter Tryd.func6, Tryd.ntmps6
  go_wp2_with fail
  refine (wide_any m c _ _ _ HM.out HE.out hl).mono ?_
  rw [HW.out]
  rintro e w1 ⟨rfl, hb1⟩
  have hw1 := bnext hbW hb1
  go_wp2_with fail
  refine (awake_any mx _ (keepc hw1 HMX.out)).mono ?_
  rintro e w9 ⟨rfl, hb9⟩
  go_wp2_with fail
  go_ret
  exact ⟨rfl, bnext hw1 hb9⟩
set_option maxRecDepth 100000 in
set_option maxHeartbeats 4000000 in
theorem parts_e1 (hm : MachIn w w.heap.size v m) (hE : Elems w w.heap.size u (ints c.cells)) (hl : c.cells.length ≤ 17592186044416) (hmx : w.cell? ⟨0, 0, none⟩ = some (.int .i64 mx)) (hw : wideT m c = false) (hN : N ≤ 65535) (hK : K ≤ 65535) (hNK : 1000 < N + K) :
    Calls Tryd.prog 6 #[.agg #[.int .i64 m.states, .int .i64 m.symbols, v], .agg #[.int .i64 c.st, .int .i64 c.pos, .int .i64 c.frm, u], .int .u16 (N : Int), .int .u16 (K : Int)] w (YesL w) := by
  obtain ⟨A1, c1, rfl⟩ := hm.rules.form
  obtain ⟨A2, c2, rfl⟩ := hE.form
  rw [ints_len] at hE ⊢
  have hbW := below2 w (.cells #[.int .i64 m.states, .int .i64 m.symbols, .slice A1 m.rules.length c1] 24) (.cells #[.int .i64 c.st, .int .i64 c.pos, .int .i64 c.frm, .slice A2 c.cells.length c2] 27)
  have HM := hid_ (hm.to hbW)
  have HE := hid_ (hE.to hbW)
  have HMX := hid_ hmx
  have HW := hid_ hw
  clear hm hE hmx hw
  have u1 : IntKind.i64.wrap (N : Int) = (N : Int) := IntWalk.i64_in _ (by omega)
  have u2 : IntKind.i64.wrap (K : Int) = (K : Int) := IntWalk.i64_in _ (by omega)
  have u3 : IntKind.i64.wrap ((N : Int) + (K : Int)) = ((N + K : Nat) : Int) := by rw [IntWalk.i64_in _ (by omega)]; omega
  obtain ⟨T, hT⟩ : ∃ T, T = N + K := ⟨_, rfl⟩
  rw [← hT] at u3
  have t1 : (1000 : Int) < (T : Int) := by omega
  have t2 : 1000 < T := by omega
  clear hT
  go_enter Tryd.func6, Tryd.ntmps6
  go_wp2_with fail
  refine (wide_any m c _ _ _ HM.out HE.out hl).mono ?_
  rw [HW.out]
  rintro e w1 ⟨rfl, hb1⟩
  have hw1 := bnext hbW hb1
  go_wp2_with fail
  refine (awake_any mx _ (keepc hw1 HMX.out)).mono ?_
  rintro e w9 ⟨rfl, hb9⟩
  go_wp2_with fail
  go_ret
  exact ⟨rfl, bnext hw1 hb9⟩
set_option maxRecDepth 100000 in
set_option maxHeartbeats 4000000 in
theorem parts_fail (hm : MachIn w w.heap.size v m) (hE : Elems w w.heap.size u (ints c.cells)) (hl : c.cells.length ≤ 17592186044416) (hmx : w.cell? ⟨0, 0, none⟩ = some (.int .i64 mx)) (hw : wideT m c = false) (hNK : N + K ≤ 1000) (x : Int) (hx : x ≠ 0) (hr1 : runS m c (N + K : Nat) = ⟨noC, 0, x⟩) (hr2 : runS m c N = ⟨noC, 0, x⟩) :
    Calls Tryd.prog 6 #[.agg #[.int .i64 m.states, .int .i64 m.symbols, v], .agg #[.int .i64 c.st, .int .i64 c.pos, .int .i64 c.frm, u], .int .u16 (N : Int), .int .u16 (K : Int)] w (YesL w) := by
  obtain ⟨A1, c1, rfl⟩ := hm.rules.form
  obtain ⟨A2, c2, rfl⟩ := hE.form
  rw [ints_len] at hE ⊢
  have hbW := below2 w (.cells #[.int .i64 m.states, .int .i64 m.symbols, .slice A1 m.rules.length c1] 24) (.cells #[.int .i64 c.st, .int .i64 c.pos, .int .i64 c.frm, .slice A2 c.cells.length c2] 27)
  have HM := hid_ (hm.to hbW)
  have HE := hid_ (hE.to hbW)
  have HMX := hid_ hmx
  have HW := hid_ hw
  clear hm hE hmx hw
  have u1 : IntKind.i64.wrap (N : Int) = (N : Int) := IntWalk.i64_in _ (by omega)
  have u2 : IntKind.i64.wrap (K : Int) = (K : Int) := IntWalk.i64_in _ (by omega)
  have u3 : IntKind.i64.wrap ((N : Int) + (K : Int)) = ((N + K : Nat) : Int) := by rw [IntWalk.i64_in _ (by omega)]; omega
  obtain ⟨T, hT⟩ : ∃ T, T = N + K := ⟨_, rfl⟩
  rw [← hT] at u3
  rw [← hT] at hr1
  have HR1 := hid_ hr1
  have HR2 := hid_ hr2
  have t1 : ¬ (1000 : Int) < (T : Int) := by omega
  have t2 : ¬ 1000 < T := by omega
  have t3 : (x != 0) = true := by simpa using hx
  have t4 : (x == x) = true := by simp
  clear hT hr1 hr2 hx
  go_enter Tryd.func6, Tryd.ntmps6
  go_wp2_with fail
  refine (wide_any m c _ _ _ HM.out HE.out hl).mono ?_
  rw [HW.out]
  rintro e w1 ⟨rfl, hb1⟩
  have B1 := ((Blk.new w 24 #[.int .i64 m.states, .int .i64 m.symbols, .slice A1 m.rules.length c1]).alloc (.cells #[.int .i64 c.st, .int .i64 c.pos, .int .i64 c.frm, .slice A2 c.cells.length c2] 27)).to hb1
  have B2 := (Blk.new (w.alloc (.cells #[.int .i64 m.states, .int .i64 m.symbols, .slice A1 m.rules.length c1] 24)) 27 #[.int .i64 c.st, .int .i64 c.pos, .int .i64 c.frm, .slice A2 c.cells.length c2]).to hb1
  rw [show (w.alloc (.cells #[.int .i64 m.states, .int .i64 m.symbols, .slice A1 m.rules.length c1] 24)).heap.size = w.heap.size + 1 by simp] at B2
  have hw1 := bnext hbW hb1
  have HM1 := hid_ (HM.out.to hb1)
  have HE1 := hid_ (HE.out.to hb1)
  clear hb1 HM HE hbW
  have p0 := B1.cell 0
  have p1 := B1.cell 1
  have p2 := B1.cell 2
  have q0 := B2.cell 0
  have q1 := B2.cell 1
  have q2 := B2.cell 2
  have q3 := B2.cell 3
  simp at p0 p1 p2 q0 q1 q2 q3
  go_upto_region 4 with (go_at_call 16; (with_reducible refine (runL HR1.out _ _ w1 HM1.out HE1.out hl).mono ?_); rintro e w2 ⟨Aa, ca, rfl, hEa, hb2⟩)
  have B1b := (B1.to hb2).alloc (.cells #[.int .i64 noC.st, .int .i64 noC.pos, .int .i64 noC.frm, .slice Aa noC.cells.length ca] 27)
  have B2b := (B2.to hb2).alloc (.cells #[.int .i64 noC.st, .int .i64 noC.pos, .int .i64 noC.frm, .slice Aa noC.cells.length ca] 27)
  have A1b := Blk.new w2 27 #[.int .i64 noC.st, .int .i64 noC.pos, .int .i64 noC.frm, .slice Aa noC.cells.length ca]
  have HM2 := hid_ ((HM1.out.to hb2).to (below1 w2 (.cells #[.int .i64 noC.st, .int .i64 noC.pos, .int .i64 noC.frm, .slice Aa noC.cells.length ca] 27)))
  have HE2 := hid_ ((HE1.out.to hb2).to (below1 w2 (.cells #[.int .i64 noC.st, .int .i64 noC.pos, .int .i64 noC.frm, .slice Aa noC.cells.length ca] 27)))
  have HA2 := hid_ (hEa.to (below1 w2 (.cells #[.int .i64 noC.st, .int .i64 noC.pos, .int .i64 noC.frm, .slice Aa noC.cells.length ca] 27)))
  have hw2 := bnext hw1 (hb2.alloc hb2.size (.cells #[.int .i64 noC.st, .int .i64 noC.pos, .int .i64 noC.frm, .slice Aa noC.cells.length ca] 27))
  clear hEa hb2 B1 B2 p0 p1 p2 q0 q1 q2 q3 HM1 HE1 hw1
  generalize w2.alloc (.cells #[.int .i64 noC.st, .int .i64 noC.pos, .int .i64 noC.frm, .slice Aa noC.cells.length ca] 27) = W2 at *
  have p0 := B1b.cell 0
  have p1 := B1b.cell 1
  have p2 := B1b.cell 2
  have q0 := B2b.cell 0
  have q1 := B2b.cell 1
  have q2 := B2b.cell 2
  have q3 := B2b.cell 3
  simp at p0 p1 p2 q0 q1 q2 q3
  go_upto_region 5 with (go_at_call 16; (with_reducible refine (runL HR2.out _ _ W2 HM2.out HE2.out hl).mono ?_); rintro e w3 ⟨Ab, cb, rfl, hEb, hb3⟩)
  have hw3 := bnext hw2 (hb3.alloc hb3.size (.cells #[.int .i64 noC.st, .int .i64 noC.pos, .int .i64 noC.frm, .slice Ab noC.cells.length cb] 27))
  clear p0 p1 p2 q0 q1 q2 q3 hEb hb3
  generalize w3.alloc (.cells #[.int .i64 noC.st, .int .i64 noC.pos, .int .i64 noC.frm, .slice Ab noC.cells.length cb] 27) = W3 at *
  go_wp2_with fail
  refine (awake_any mx _ (keepc hw3 HMX.out)).mono ?_
  rintro e w9 ⟨rfl, hb9⟩
  go_wp2_with fail
  go_ret
  exact ⟨rfl, bnext hw3 hb9⟩
set_option maxRecDepth 100000 in
set_option maxHeartbeats 4000000 in
theorem parts_go4 (hm : MachIn w w.heap.size v m) (hE : Elems w w.heap.size u (ints c.cells)) (hl : c.cells.length ≤ 17592186044416) (hmx : w.cell? ⟨0, 0, none⟩ = some (.int .i64 mx)) (hw : wideT m c = false) (hNK : N + K ≤ 1000) (d q : CfgS) (j i l : Nat) (hr1 : runS m c (N + K : Nat) = ⟨q, (i : Nat), 4⟩) (hr2 : runS m c N = ⟨d, (j : Nat), 0⟩) (hr3 : runS m d K = ⟨q, (l : Nat), 4⟩) (hdl : d.cells.length ≤ 100000) (hql : q.cells.length ≤ 100000) :
    Calls Tryd.prog 6 #[.agg #[.int .i64 m.states, .int .i64 m.symbols, v], .agg #[.int .i64 c.st, .int .i64 c.pos, .int .i64 c.frm, u], .int .u16 (N : Int), .int .u16 (K : Int)] w (YesL w) := by
  obtain ⟨A1, c1, rfl⟩ := hm.rules.form
  obtain ⟨A2, c2, rfl⟩ := hE.form
  rw [ints_len] at hE ⊢
  have hbW := below2 w (.cells #[.int .i64 m.states, .int .i64 m.symbols, .slice A1 m.rules.length c1] 24) (.cells #[.int .i64 c.st, .int .i64 c.pos, .int .i64 c.frm, .slice A2 c.cells.length c2] 27)
  have HM := hid_ (hm.to hbW)
  have HE := hid_ (hE.to hbW)
  have HMX := hid_ hmx
  have HW := hid_ hw
  clear hm hE hmx hw
  have u1 : IntKind.i64.wrap (N : Int) = (N : Int) := IntWalk.i64_in _ (by omega)
  have u2 : IntKind.i64.wrap (K : Int) = (K : Int) := IntWalk.i64_in _ (by omega)
  have u3 : IntKind.i64.wrap ((N : Int) + (K : Int)) = ((N + K : Nat) : Int) := by rw [IntWalk.i64_in _ (by omega)]; omega
  obtain ⟨T, hT⟩ : ∃ T, T = N + K := ⟨_, rfl⟩
  rw [← hT] at u3
  rw [← hT] at hr1
  have HR1 := hid_ hr1
  have HR2 := hid_ hr2
  have HR3 := hid_ hr3
  have t1 : ¬ (1000 : Int) < (T : Int) := by omega
  have t2 : ¬ 1000 < T := by omega
  clear hT hr1 hr2 hr3
  go_enter Tryd.func6, Tryd.ntmps6
  go_wp2_with fail
  refine (wide_any m c _ _ _ HM.out HE.out hl).mono ?_
  rw [HW.out]
  rintro e w1 ⟨rfl, hb1⟩
  have B1 := ((Blk.new w 24 #[.int .i64 m.states, .int .i64 m.symbols, .slice A1 m.rules.length c1]).alloc (.cells #[.int .i64 c.st, .int .i64 c.pos, .int .i64 c.frm, .slice A2 c.cells.length c2] 27)).to hb1
  have B2 := (Blk.new (w.alloc (.cells #[.int .i64 m.states, .int .i64 m.symbols, .slice A1 m.rules.length c1] 24)) 27 #[.int .i64 c.st, .int .i64 c.pos, .int .i64 c.frm, .slice A2 c.cells.length c2]).to hb1
  rw [show (w.alloc (.cells #[.int .i64 m.states, .int .i64 m.symbols, .slice A1 m.rules.length c1] 24)).heap.size = w.heap.size + 1 by simp] at B2
  have hw1 := bnext hbW hb1
  have HM1 := hid_ (HM.out.to hb1)
  have HE1 := hid_ (HE.out.to hb1)
  clear hb1 HM HE hbW
  have p0 := B1.cell 0
  have p1 := B1.cell 1
  have p2 := B1.cell 2
  have q0 := B2.cell 0
  have q1 := B2.cell 1
  have q2 := B2.cell 2
  have q3 := B2.cell 3
  simp at p0 p1 p2 q0 q1 q2 q3
  go_upto_region 4 with (go_at_call 16; (with_reducible refine (runL HR1.out _ _ w1 HM1.out HE1.out hl).mono ?_); rintro e w2 ⟨Aa, ca, rfl, hEa, hb2⟩)
  have B1b := (B1.to hb2).alloc (.cells #[.int .i64 q.st, .int .i64 q.pos, .int .i64 q.frm, .slice Aa q.cells.length ca] 27)
  have B2b := (B2.to hb2).alloc (.cells #[.int .i64 q.st, .int .i64 q.pos, .int .i64 q.frm, .slice Aa q.cells.length ca] 27)
  have A1b := Blk.new w2 27 #[.int .i64 q.st, .int .i64 q.pos, .int .i64 q.frm, .slice Aa q.cells.length ca]
  have HM2 := hid_ ((HM1.out.to hb2).to (below1 w2 (.cells #[.int .i64 q.st, .int .i64 q.pos, .int .i64 q.frm, .slice Aa q.cells.length ca] 27)))
  have HE2 := hid_ ((HE1.out.to hb2).to (below1 w2 (.cells #[.int .i64 q.st, .int .i64 q.pos, .int .i64 q.frm, .slice Aa q.cells.length ca] 27)))
  have HA2 := hid_ (hEa.to (below1 w2 (.cells #[.int .i64 q.st, .int .i64 q.pos, .int .i64 q.frm, .slice Aa q.cells.length ca] 27)))
  have hw2 := bnext hw1 (hb2.alloc hb2.size (.cells #[.int .i64 q.st, .int .i64 q.pos, .int .i64 q.frm, .slice Aa q.cells.length ca] 27))
  clear hEa hb2 B1 B2 p0 p1 p2 q0 q1 q2 q3 HM1 HE1 hw1
  generalize w2.alloc (.cells #[.int .i64 q.st, .int .i64 q.pos, .int .i64 q.frm, .slice Aa q.cells.length ca] 27) = W2 at *
  have p0 := B1b.cell 0
  have p1 := B1b.cell 1
  have p2 := B1b.cell 2
  have q0 := B2b.cell 0
  have q1 := B2b.cell 1
  have q2 := B2b.cell 2
  have q3 := B2b.cell 3
  simp at p0 p1 p2 q0 q1 q2 q3
  go_upto_region 5 with (go_at_call 16; (with_reducible refine (runL HR2.out _ _ W2 HM2.out HE2.out hl).mono ?_); rintro e w3 ⟨Ab, cb, rfl, hEb, hb3⟩)
  have A1c := (A1b.to hb3).alloc (.cells #[.int .i64 d.st, .int .i64 d.pos, .int .i64 d.frm, .slice Ab d.cells.length cb] 27)
  have B1c := (B1b.to hb3).alloc (.cells #[.int .i64 d.st, .int .i64 d.pos, .int .i64 d.frm, .slice Ab d.cells.length cb] 27)
  have D1c := Blk.new w3 27 #[.int .i64 d.st, .int .i64 d.pos, .int .i64 d.frm, .slice Ab d.cells.length cb]
  have HM3 := hid_ ((HM2.out.to hb3).to (below1 w3 (.cells #[.int .i64 d.st, .int .i64 d.pos, .int .i64 d.frm, .slice Ab d.cells.length cb] 27)))
  have HA3 := hid_ ((HA2.out.to hb3).to (below1 w3 (.cells #[.int .i64 d.st, .int .i64 d.pos, .int .i64 d.frm, .slice Ab d.cells.length cb] 27)))
  have HB3 := hid_ (hEb.to (below1 w3 (.cells #[.int .i64 d.st, .int .i64 d.pos, .int .i64 d.frm, .slice Ab d.cells.length cb] 27)))
  have hw3 := bnext hw2 (hb3.alloc hb3.size (.cells #[.int .i64 d.st, .int .i64 d.pos, .int .i64 d.frm, .slice Ab d.cells.length cb] 27))
  clear p0 p1 p2 q0 q1 q2 q3 hEb hb3 A1b B1b B2b HM2 HE2 HA2 hw2
  generalize w3.alloc (.cells #[.int .i64 d.st, .int .i64 d.pos, .int .i64 d.frm, .slice Ab d.cells.length cb] 27) = W3 at *
  have p0 := B1c.cell 0
  have p1 := B1c.cell 1
  have p2 := B1c.cell 2
  have q0 := D1c.cell 0
  have q1 := D1c.cell 1
  have q2 := D1c.cell 2
  have q3 := D1c.cell 3
  simp at p0 p1 p2 q0 q1 q2 q3
  go_upto_region 8 with (go_at_call 16; (with_reducible refine (runL HR3.out _ _ W3 HM3.out HB3.out (by omega)).mono ?_); rintro e w4 ⟨Ac, cc, rfl, hEc, hb4⟩)
  have A1d := (A1c.to hb4).alloc (.cells #[.int .i64 q.st, .int .i64 q.pos, .int .i64 q.frm, .slice Ac q.cells.length cc] 27)
  have C1d := Blk.new w4 27 #[.int .i64 q.st, .int .i64 q.pos, .int .i64 q.frm, .slice Ac q.cells.length cc]
  have HA4 := hid_ ((HA3.out.to hb4).to (below1 w4 (.cells #[.int .i64 q.st, .int .i64 q.pos, .int .i64 q.frm, .slice Ac q.cells.length cc] 27)))
  have HC4 := hid_ (hEc.to (below1 w4 (.cells #[.int .i64 q.st, .int .i64 q.pos, .int .i64 q.frm, .slice Ac q.cells.length cc] 27)))
  have hw4 := bnext hw3 (hb4.alloc hb4.size (.cells #[.int .i64 q.st, .int .i64 q.pos, .int .i64 q.frm, .slice Ac q.cells.length cc] 27))
  clear p0 p1 p2 q0 q1 q2 q3 hEc hb4 A1c B1c D1c HM3 HA3 HB3 hw3
  generalize w4.alloc (.cells #[.int .i64 q.st, .int .i64 q.pos, .int .i64 q.frm, .slice Ac q.cells.length cc] 27) = W4 at *
  have p0 := A1d.cell 0
  have p1 := A1d.cell 1
  have p2 := A1d.cell 2
  have p3 := A1d.cell 3
  have q0 := C1d.cell 0
  have q1 := C1d.cell 1
  have q2 := C1d.cell 2
  have q3 := C1d.cell 3
  simp at p0 p1 p2 p3 q0 q1 q2 q3
  go_wp2_with fail
  refine (rsame_any q q _ _ W4 HA4.out HC4.out (by omega)).mono ?_
  rw [sameC_iff.2 rfl]
  rintro e w5 ⟨rfl, hb5⟩
  have hw5 := bnext hw4 hb5
  clear p0 p1 p2 p3 q0 q1 q2 q3
  go_wp2_with fail
  refine (awake_any mx _ (keepc hw5 HMX.out)).mono ?_
  rintro e w9 ⟨rfl, hb9⟩
  go_wp2_with fail
  go_ret
  exact ⟨rfl, bnext hw5 hb9⟩
set_option maxRecDepth 100000 in
set_option maxHeartbeats 4000000 in
theorem parts_go0 (hm : MachIn w w.heap.size v m) (hE : Elems w w.heap.size u (ints c.cells)) (hl : c.cells.length ≤ 17592186044416) (hmx : w.cell? ⟨0, 0, none⟩ = some (.int .i64 mx)) (hw : wideT m c = false) (hNK : N + K ≤ 1000) (d q : CfgS) (j l : Nat) (hr1 : runS m c (N + K : Nat) = ⟨q, ((j + l : Nat) : Int), 0⟩) (hr2 : runS m c N = ⟨d, (j : Nat), 0⟩) (hr3 : runS m d K = ⟨q, (l : Nat), 0⟩) (hj : j ≤ 1000) (hl2 : l ≤ 1000) (hdl : d.cells.length ≤ 100000) (hql : q.cells.length ≤ 100000) :
    Calls Tryd.prog 6 #[.agg #[.int .i64 m.states, .int .i64 m.symbols, v], .agg #[.int .i64 c.st, .int .i64 c.pos, .int .i64 c.frm, u], .int .u16 (N : Int), .int .u16 (K : Int)] w (YesL w) := by
  obtain ⟨A1, c1, rfl⟩ := hm.rules.form
  obtain ⟨A2, c2, rfl⟩ := hE.form
  rw [ints_len] at hE ⊢
  have hbW := below2 w (.cells #[.int .i64 m.states, .int .i64 m.symbols, .slice A1 m.rules.length c1] 24) (.cells #[.int .i64 c.st, .int .i64 c.pos, .int .i64 c.frm, .slice A2 c.cells.length c2] 27)
  have HM := hid_ (hm.to hbW)
  have HE := hid_ (hE.to hbW)
  have HMX := hid_ hmx
  have HW := hid_ hw
  clear hm hE hmx hw
  have u1 : IntKind.i64.wrap (N : Int) = (N : Int) := IntWalk.i64_in _ (by omega)
  have u2 : IntKind.i64.wrap (K : Int) = (K : Int) := IntWalk.i64_in _ (by omega)
  have u3 : IntKind.i64.wrap ((N : Int) + (K : Int)) = ((N + K : Nat) : Int) := by rw [IntWalk.i64_in _ (by omega)]; omega
  obtain ⟨T, hT⟩ : ∃ T, T = N + K := ⟨_, rfl⟩
  rw [← hT] at u3
  rw [← hT] at hr1
  have HR1 := hid_ hr1
  have HR2 := hid_ hr2
  have HR3 := hid_ hr3
  have t1 : ¬ (1000 : Int) < (T : Int) := by omega
  have t2 : ¬ 1000 < T := by omega
  have u4 : IntKind.i64.wrap ((j : Int) + (l : Int)) = ((j + l : Nat) : Int) := by rw [IntWalk.i64_in _ (by omega)]; omega
  obtain ⟨S, hS⟩ : ∃ S, S = j + l := ⟨_, rfl⟩
  rw [← hS] at u4 HR1
  clear hT hr1 hr2 hr3 hS
  go_enter Tryd.func6, Tryd.ntmps6
  go_wp2_with fail
  refine (wide_any m c _ _ _ HM.out HE.out hl).mono ?_
  rw [HW.out]
  rintro e w1 ⟨rfl, hb1⟩
  have B1 := ((Blk.new w 24 #[.int .i64 m.states, .int .i64 m.symbols, .slice A1 m.rules.length c1]).alloc (.cells #[.int .i64 c.st, .int .i64 c.pos, .int .i64 c.frm, .slice A2 c.cells.length c2] 27)).to hb1
  have B2 := (Blk.new (w.alloc (.cells #[.int .i64 m.states, .int .i64 m.symbols, .slice A1 m.rules.length c1] 24)) 27 #[.int .i64 c.st, .int .i64 c.pos, .int .i64 c.frm, .slice A2 c.cells.length c2]).to hb1
  rw [show (w.alloc (.cells #[.int .i64 m.states, .int .i64 m.symbols, .slice A1 m.rules.length c1] 24)).heap.size = w.heap.size + 1 by simp] at B2
  have hw1 := bnext hbW hb1
  have HM1 := hid_ (HM.out.to hb1)
  have HE1 := hid_ (HE.out.to hb1)
  clear hb1 HM HE hbW
  have p0 := B1.cell 0
  have p1 := B1.cell 1
  have p2 := B1.cell 2
  have q0 := B2.cell 0
  have q1 := B2.cell 1
  have q2 := B2.cell 2
  have q3 := B2.cell 3
  simp at p0 p1 p2 q0 q1 q2 q3
  go_upto_region 4 with (go_at_call 16; (with_reducible refine (runL HR1.out _ _ w1 HM1.out HE1.out hl).mono ?_); rintro e w2 ⟨Aa, ca, rfl, hEa, hb2⟩)
  have B1b := (B1.to hb2).alloc (.cells #[.int .i64 q.st, .int .i64 q.pos, .int .i64 q.frm, .slice Aa q.cells.length ca] 27)
  have B2b := (B2.to hb2).alloc (.cells #[.int .i64 q.st, .int .i64 q.pos, .int .i64 q.frm, .slice Aa q.cells.length ca] 27)
  have A1b := Blk.new w2 27 #[.int .i64 q.st, .int .i64 q.pos, .int .i64 q.frm, .slice Aa q.cells.length ca]
  have HM2 := hid_ ((HM1.out.to hb2).to (below1 w2 (.cells #[.int .i64 q.st, .int .i64 q.pos, .int .i64 q.frm, .slice Aa q.cells.length ca] 27)))
  have HE2 := hid_ ((HE1.out.to hb2).to (below1 w2 (.cells #[.int .i64 q.st, .int .i64 q.pos, .int .i64 q.frm, .slice Aa q.cells.length ca] 27)))
  have HA2 := hid_ (hEa.to (below1 w2 (.cells #[.int .i64 q.st, .int .i64 q.pos, .int .i64 q.frm, .slice Aa q.cells.length ca] 27)))
  have hw2 := bnext hw1 (hb2.alloc hb2.size (.cells #[.int .i64 q.st, .int .i64 q.pos, .int .i64 q.frm, .slice Aa q.cells.length ca] 27))
  clear hEa hb2 B1 B2 p0 p1 p2 q0 q1 q2 q3 HM1 HE1 hw1
  generalize w2.alloc (.cells #[.int .i64 q.st, .int .i64 q.pos, .int .i64 q.frm, .slice Aa q.cells.length ca] 27) = W2 at *
  have p0 := B1b.cell 0
  have p1 := B1b.cell 1
  have p2 := B1b.cell 2
  have q0 := B2b.cell 0
  have q1 := B2b.cell 1
  have q2 := B2b.cell 2
  have q3 := B2b.cell 3
  simp at p0 p1 p2 q0 q1 q2 q3
  go_upto_region 5 with (go_at_call 16; (with_reducible refine (runL HR2.out _ _ W2 HM2.out HE2.out hl).mono ?_); rintro e w3 ⟨Ab, cb, rfl, hEb, hb3⟩)
  have A1c := (A1b.to hb3).alloc (.cells #[.int .i64 d.st, .int .i64 d.pos, .int .i64 d.frm, .slice Ab d.cells.length cb] 27)
  have B1c := (B1b.to hb3).alloc (.cells #[.int .i64 d.st, .int .i64 d.pos, .int .i64 d.frm, .slice Ab d.cells.length cb] 27)
  have D1c := Blk.new w3 27 #[.int .i64 d.st, .int .i64 d.pos, .int .i64 d.frm, .slice Ab d.cells.length cb]
  have HM3 := hid_ ((HM2.out.to hb3).to (below1 w3 (.cells #[.int .i64 d.st, .int .i64 d.pos, .int .i64 d.frm, .slice Ab d.cells.length cb] 27)))
  have HA3 := hid_ ((HA2.out.to hb3).to (below1 w3 (.cells #[.int .i64 d.st, .int .i64 d.pos, .int .i64 d.frm, .slice Ab d.cells.length cb] 27)))
  have HB3 := hid_ (hEb.to (below1 w3 (.cells #[.int .i64 d.st, .int .i64 d.pos, .int .i64 d.frm, .slice Ab d.cells.length cb] 27)))
  have hw3 := bnext hw2 (hb3.alloc hb3.size (.cells #[.int .i64 d.st, .int .i64 d.pos, .int .i64 d.frm, .slice Ab d.cells.length cb] 27))
  clear p0 p1 p2 q0 q1 q2 q3 hEb hb3 A1b B1b B2b HM2 HE2 HA2 hw2
  generalize w3.alloc (.cells #[.int .i64 d.st, .int .i64 d.pos, .int .i64 d.frm, .slice Ab d.cells.length cb] 27) = W3 at *
  have p0 := B1c.cell 0
  have p1 := B1c.cell 1
  have p2 := B1c.cell 2
  have q0 := D1c.cell 0
  have q1 := D1c.cell 1
  have q2 := D1c.cell 2
  have q3 := D1c.cell 3
  simp at p0 p1 p2 q0 q1 q2 q3
  go_upto_region 8 with (go_at_call 16; (with_reducible refine (runL HR3.out _ _ W3 HM3.out HB3.out (by omega)).mono ?_); rintro e w4 ⟨Ac, cc, rfl, hEc, hb4⟩)
  have A1d := (A1c.to hb4).alloc (.cells #[.int .i64 q.st, .int .i64 q.pos, .int .i64 q.frm, .slice Ac q.cells.length cc] 27)
  have C1d := Blk.new w4 27 #[.int .i64 q.st, .int .i64 q.pos, .int .i64 q.frm, .slice Ac q.cells.length cc]
  have HA4 := hid_ ((HA3.out.to hb4).to (below1 w4 (.cells #[.int .i64 q.st, .int .i64 q.pos, .int .i64 q.frm, .slice Ac q.cells.length cc] 27)))
  have HC4 := hid_ (hEc.to (below1 w4 (.cells #[.int .i64 q.st, .int .i64 q.pos, .int .i64 q.frm, .slice Ac q.cells.length cc] 27)))
  have hw4 := bnext hw3 (hb4.alloc hb4.size (.cells #[.int .i64 q.st, .int .i64 q.pos, .int .i64 q.frm, .slice Ac q.cells.length cc] 27))
  clear p0 p1 p2 q0 q1 q2 q3 hEc hb4 A1c B1c D1c HM3 HA3 HB3 hw3
  generalize w4.alloc (.cells #[.int .i64 q.st, .int .i64 q.pos, .int .i64 q.frm, .slice Ac q.cells.length cc] 27) = W4 at *
  have p0 := A1d.cell 0
  have p1 := A1d.cell 1
  have p2 := A1d.cell 2
  have p3 := A1d.cell 3
  have q0 := C1d.cell 0
  have q1 := C1d.cell 1
  have q2 := C1d.cell 2
  have q3 := C1d.cell 3
  simp at p0 p1 p2 p3 q0 q1 q2 q3
  go_wp2_with fail
  refine (rsame_any q q _ _ W4 HA4.out HC4.out (by omega)).mono ?_
  rw [sameC_iff.2 rfl]
  rintro e w5 ⟨rfl, hb5⟩
  have hw5 := bnext hw4 hb5
  clear p0 p1 p2 p3 q0 q1 q2 q3
  go_wp2_with fail
  refine (awake_any mx _ (keepc hw5 HMX.out)).mono ?_
  rintro e w9 ⟨rfl, hb9⟩
  go_wp2_with fail
  go_ret
  exact ⟨rfl, bnext hw5 hb9⟩
end
end Go.Proofs.YtkbaiegfloajlaaDoor.Tp

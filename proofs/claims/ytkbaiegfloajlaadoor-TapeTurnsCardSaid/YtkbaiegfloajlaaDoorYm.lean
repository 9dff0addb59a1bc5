/- The law TapeTurns. -/
import Derived.Test.YtkbaiegfloajlaaDoorYk
import Derived.Test.YtkbaiegfloajlaaDoorYh
import Derived.Test.YtkbaiegfloajlaaDoorYd
import Derived.Test.YtkbaiegfloajlaaDoorYl
import Derived.Test.YtkbaiegfloajlaaDoorYa
import Derived.Test.YtkbaiegfloajlaaDoorVh
import Derived.Test.YtkbaiegfloajlaaDoorWd
import Derived.Test.YtkbaiegfloajlaaDoorWb
namespace Go.Proofs.YtkbaiegfloajlaaDoor.Tp
open Go.RowKit

/-- A machine and an error. -/
def McT (r : MachS) (er : Int) (w : World) (e : Ending) (w' : World) : Prop :=
  ∃ (A : Option Addr) (d : Nat), e = .returned (.tuple #[.agg #[.int .i64 r.states, .int .i64 r.symbols, .slice A r.rules.length d], .int .i64 er]) ∧ MachIn w' w'.heap.size (.slice A r.rules.length d) r ∧ Below w.heap.size w w'
theorem mct_mk {q : MachS × Int} {r : MachS} {er : Int} {w w' : World} {e : Ending} (h : MachRan q w e w') (hq : r = q.1 ∧ er = q.2) : McT r er w e w' := by
  obtain ⟨rfl, rfl⟩ := hq
  obtain ⟨A, d, h1, h2, h3, _⟩ := h
  exact ⟨A, d, h1, h2, h3⟩

section
variable (m : MachS) (c : CfgS) (ss xs : List Int) (k : Int) (v u u1 u2 : Value) (w : World) (mx : Int)

set_option maxRecDepth 100000 in
set_option maxHeartbeats 8000000 in
theorem turns_e0 (hm : MachIn w w.heap.size v m) (hE : Elems w w.heap.size u (ints c.cells)) (hS : Elems w w.heap.size u1 (ints ss)) (hX : Elems w w.heap.size u2 (ints xs)) (hlc : c.cells.length ≤ 17592186044416) (hmx : w.cell? ⟨0, 0, none⟩ = some (.int .i64 mx)) (hHW : wideT m c = true)  :
    Calls Tryd.prog 5 #[.agg #[.int .i64 m.states, .int .i64 m.symbols, v], .agg #[.int .i64 c.st, .int .i64 c.pos, .int .i64 c.frm, u], u1, u2, .int .i64 k] w (YesL w) := by
  have HW := hid_ hHW
  clear hHW
  obtain ⟨A1, c1, rfl⟩ := hm.rules.form
  obtain ⟨A2, c2, rfl⟩ := hE.form
  obtain ⟨As, cs, rfl⟩ := hS.form
  obtain ⟨Ax, cx, rfl⟩ := hX.form
  rw [ints_len] at hE hS hX ⊢
  rw [ints_len, ints_len]
  have hbW : Below w.heap.size w ((w.alloc (.cells #[.int .i64 m.states, .int .i64 m.symbols, .slice A1 m.rules.length c1] 24)).alloc (.cells #[.int .i64 c.st, .int .i64 c.pos, .int .i64 c.frm, .slice A2 c.cells.length c2] 27)) := below2 w _ _
  have HM := hid_ (hm.to hbW)
  have HE := hid_ (hE.to hbW)
  have HSS := hid_ (hS.to hbW)
  have HXX := hid_ (hX.to hbW)
  have HMX := hid_ hmx
  have B1 := (Blk.new w 24 #[.int .i64 m.states, .int .i64 m.symbols, .slice A1 m.rules.length c1]).alloc (.cells #[.int .i64 c.st, .int .i64 c.pos, .int .i64 c.frm, .slice A2 c.cells.length c2] 27)
  have B2 := Blk.new (w.alloc (.cells #[.int .i64 m.states, .int .i64 m.symbols, .slice A1 m.rules.length c1] 24)) 27 #[.int .i64 c.st, .int .i64 c.pos, .int .i64 c.frm, .slice A2 c.cells.length c2]
  rw [show (w.alloc (.cells #[.int .i64 m.states, .int .i64 m.symbols, .slice A1 m.rules.length c1] 24)).heap.size = w.heap.size + 1 by simp] at B2
  have HB1 := hid_ B1
  have HB2 := hid_ B2
  clear hm hE hS hX hmx B1 B2
  go_enter Tryd.func5, Tryd.ntmps5
  go_upto_region 1 with fail
  generalize (w.alloc (.cells #[.int .i64 m.states, .int .i64 m.symbols, .slice A1 m.rules.length c1] 24)).alloc (.cells #[.int .i64 c.st, .int .i64 c.pos, .int .i64 c.frm, .slice A2 c.cells.length c2] 27) = W at *
  have p0 := HB1.out.cell 0
  have p1 := HB1.out.cell 1
  have p2 := HB1.out.cell 2
  simp at p0 p1 p2
  have q0 := HB2.out.cell 0
  have q1 := HB2.out.cell 1
  have q2 := HB2.out.cell 2
  have q3 := HB2.out.cell 3
  simp at q0 q1 q2 q3
  go_wp2_with fail
  refine (wide_any m c _ _ _ HM.out HE.out hlc).mono ?_
  rw [HW.out]
  rintro e w1 ⟨rfl, hb1⟩
  replace HM := hid_ (HM.out.to hb1)
  replace HE := hid_ (HE.out.to hb1)
  replace HSS := hid_ (HSS.out.to hb1)
  replace HXX := hid_ (HXX.out.to hb1)
  replace HB1 := hid_ (HB1.out.to hb1)
  replace HB2 := hid_ (HB2.out.to hb1)
  replace hbW := bnext hbW hb1
  clear hb1
  clear p0 p1 p2 q0 q1 q2 q3
  have p0 := HB1.out.cell 0
  have p1 := HB1.out.cell 1
  have p2 := HB1.out.cell 2
  simp at p0 p1 p2
  have q0 := HB2.out.cell 0
  have q1 := HB2.out.cell 1
  have q2 := HB2.out.cell 2
  have q3 := HB2.out.cell 3
  simp at q0 q1 q2 q3
  go_wp2_with fail
  refine (awake_any mx _ (keepc hbW HMX.out)).mono ?_
  rintro e w99 ⟨rfl, hb99⟩
  go_wp2_with fail
  go_ret
  exact ⟨rfl, bnext hbW hb99⟩

set_option maxRecDepth 100000 in
set_option maxHeartbeats 8000000 in
theorem turns_e1 (hm : MachIn w w.heap.size v m) (hE : Elems w w.heap.size u (ints c.cells)) (hS : Elems w w.heap.size u1 (ints ss)) (hX : Elems w w.heap.size u2 (ints xs)) (hlc : c.cells.length ≤ 17592186044416) (hmx : w.cell? ⟨0, 0, none⟩ = some (.int .i64 mx)) (hHW : wideT m c = false) (t1 : (100 : Int) < (ss.length : Int)) :
    Calls Tryd.prog 5 #[.agg #[.int .i64 m.states, .int .i64 m.symbols, v], .agg #[.int .i64 c.st, .int .i64 c.pos, .int .i64 c.frm, u], u1, u2, .int .i64 k] w (YesL w) := by
  have HW := hid_ hHW
  clear hHW
  obtain ⟨A1, c1, rfl⟩ := hm.rules.form
  obtain ⟨A2, c2, rfl⟩ := hE.form
  obtain ⟨As, cs, rfl⟩ := hS.form
  obtain ⟨Ax, cx, rfl⟩ := hX.form
  rw [ints_len] at hE hS hX ⊢
  rw [ints_len, ints_len]
  have hbW : Below w.heap.size w ((w.alloc (.cells #[.int .i64 m.states, .int .i64 m.symbols, .slice A1 m.rules.length c1] 24)).alloc (.cells #[.int .i64 c.st, .int .i64 c.pos, .int .i64 c.frm, .slice A2 c.cells.length c2] 27)) := below2 w _ _
  have HM := hid_ (hm.to hbW)
  have HE := hid_ (hE.to hbW)
  have HSS := hid_ (hS.to hbW)
  have HXX := hid_ (hX.to hbW)
  have HMX := hid_ hmx
  have B1 := (Blk.new w 24 #[.int .i64 m.states, .int .i64 m.symbols, .slice A1 m.rules.length c1]).alloc (.cells #[.int .i64 c.st, .int .i64 c.pos, .int .i64 c.frm, .slice A2 c.cells.length c2] 27)
  have B2 := Blk.new (w.alloc (.cells #[.int .i64 m.states, .int .i64 m.symbols, .slice A1 m.rules.length c1] 24)) 27 #[.int .i64 c.st, .int .i64 c.pos, .int .i64 c.frm, .slice A2 c.cells.length c2]
  rw [show (w.alloc (.cells #[.int .i64 m.states, .int .i64 m.symbols, .slice A1 m.rules.length c1] 24)).heap.size = w.heap.size + 1 by simp] at B2
  have HB1 := hid_ B1
  have HB2 := hid_ B2
  clear hm hE hS hX hmx B1 B2
  go_enter Tryd.func5, Tryd.ntmps5
  go_upto_region 1 with fail
  generalize (w.alloc (.cells #[.int .i64 m.states, .int .i64 m.symbols, .slice A1 m.rules.length c1] 24)).alloc (.cells #[.int .i64 c.st, .int .i64 c.pos, .int .i64 c.frm, .slice A2 c.cells.length c2] 27) = W at *
  have p0 := HB1.out.cell 0
  have p1 := HB1.out.cell 1
  have p2 := HB1.out.cell 2
  simp at p0 p1 p2
  have q0 := HB2.out.cell 0
  have q1 := HB2.out.cell 1
  have q2 := HB2.out.cell 2
  have q3 := HB2.out.cell 3
  simp at q0 q1 q2 q3
  go_wp2_with fail
  refine (wide_any m c _ _ _ HM.out HE.out hlc).mono ?_
  rw [HW.out]
  rintro e w2 ⟨rfl, hb2⟩
  replace HM := hid_ (HM.out.to hb2)
  replace HE := hid_ (HE.out.to hb2)
  replace HSS := hid_ (HSS.out.to hb2)
  replace HXX := hid_ (HXX.out.to hb2)
  replace HB1 := hid_ (HB1.out.to hb2)
  replace HB2 := hid_ (HB2.out.to hb2)
  replace hbW := bnext hbW hb2
  clear hb2
  clear p0 p1 p2 q0 q1 q2 q3
  have p0 := HB1.out.cell 0
  have p1 := HB1.out.cell 1
  have p2 := HB1.out.cell 2
  simp at p0 p1 p2
  have q0 := HB2.out.cell 0
  have q1 := HB2.out.cell 1
  have q2 := HB2.out.cell 2
  have q3 := HB2.out.cell 3
  simp at q0 q1 q2 q3
  go_wp2_with fail
  refine (awake_any mx _ (keepc hbW HMX.out)).mono ?_
  rintro e w99 ⟨rfl, hb99⟩
  go_wp2_with fail
  go_ret
  exact ⟨rfl, bnext hbW hb99⟩

set_option maxRecDepth 100000 in
set_option maxHeartbeats 8000000 in
theorem turns_e2 (hm : MachIn w w.heap.size v m) (hE : Elems w w.heap.size u (ints c.cells)) (hS : Elems w w.heap.size u1 (ints ss)) (hX : Elems w w.heap.size u2 (ints xs)) (hlc : c.cells.length ≤ 17592186044416) (hmx : w.cell? ⟨0, 0, none⟩ = some (.int .i64 mx)) (hHW : wideT m c = false) (t1 : ¬ (100 : Int) < (ss.length : Int)) (t2 : (100 : Int) < (xs.length : Int)) :
    Calls Tryd.prog 5 #[.agg #[.int .i64 m.states, .int .i64 m.symbols, v], .agg #[.int .i64 c.st, .int .i64 c.pos, .int .i64 c.frm, u], u1, u2, .int .i64 k] w (YesL w) := by
  have HW := hid_ hHW
  clear hHW
  obtain ⟨A1, c1, rfl⟩ := hm.rules.form
  obtain ⟨A2, c2, rfl⟩ := hE.form
  obtain ⟨As, cs, rfl⟩ := hS.form
  obtain ⟨Ax, cx, rfl⟩ := hX.form
  rw [ints_len] at hE hS hX ⊢
  rw [ints_len, ints_len]
  have hbW : Below w.heap.size w ((w.alloc (.cells #[.int .i64 m.states, .int .i64 m.symbols, .slice A1 m.rules.length c1] 24)).alloc (.cells #[.int .i64 c.st, .int .i64 c.pos, .int .i64 c.frm, .slice A2 c.cells.length c2] 27)) := below2 w _ _
  have HM := hid_ (hm.to hbW)
  have HE := hid_ (hE.to hbW)
  have HSS := hid_ (hS.to hbW)
  have HXX := hid_ (hX.to hbW)
  have HMX := hid_ hmx
  have B1 := (Blk.new w 24 #[.int .i64 m.states, .int .i64 m.symbols, .slice A1 m.rules.length c1]).alloc (.cells #[.int .i64 c.st, .int .i64 c.pos, .int .i64 c.frm, .slice A2 c.cells.length c2] 27)
  have B2 := Blk.new (w.alloc (.cells #[.int .i64 m.states, .int .i64 m.symbols, .slice A1 m.rules.length c1] 24)) 27 #[.int .i64 c.st, .int .i64 c.pos, .int .i64 c.frm, .slice A2 c.cells.length c2]
  rw [show (w.alloc (.cells #[.int .i64 m.states, .int .i64 m.symbols, .slice A1 m.rules.length c1] 24)).heap.size = w.heap.size + 1 by simp] at B2
  have HB1 := hid_ B1
  have HB2 := hid_ B2
  clear hm hE hS hX hmx B1 B2
  go_enter Tryd.func5, Tryd.ntmps5
  go_upto_region 1 with fail
  generalize (w.alloc (.cells #[.int .i64 m.states, .int .i64 m.symbols, .slice A1 m.rules.length c1] 24)).alloc (.cells #[.int .i64 c.st, .int .i64 c.pos, .int .i64 c.frm, .slice A2 c.cells.length c2] 27) = W at *
  have p0 := HB1.out.cell 0
  have p1 := HB1.out.cell 1
  have p2 := HB1.out.cell 2
  simp at p0 p1 p2
  have q0 := HB2.out.cell 0
  have q1 := HB2.out.cell 1
  have q2 := HB2.out.cell 2
  have q3 := HB2.out.cell 3
  simp at q0 q1 q2 q3
  go_wp2_with fail
  refine (wide_any m c _ _ _ HM.out HE.out hlc).mono ?_
  rw [HW.out]
  rintro e w3 ⟨rfl, hb3⟩
  replace HM := hid_ (HM.out.to hb3)
  replace HE := hid_ (HE.out.to hb3)
  replace HSS := hid_ (HSS.out.to hb3)
  replace HXX := hid_ (HXX.out.to hb3)
  replace HB1 := hid_ (HB1.out.to hb3)
  replace HB2 := hid_ (HB2.out.to hb3)
  replace hbW := bnext hbW hb3
  clear hb3
  clear p0 p1 p2 q0 q1 q2 q3
  have p0 := HB1.out.cell 0
  have p1 := HB1.out.cell 1
  have p2 := HB1.out.cell 2
  simp at p0 p1 p2
  have q0 := HB2.out.cell 0
  have q1 := HB2.out.cell 1
  have q2 := HB2.out.cell 2
  have q3 := HB2.out.cell 3
  simp at q0 q1 q2 q3
  go_wp2_with fail
  refine (awake_any mx _ (keepc hbW HMX.out)).mono ?_
  rintro e w99 ⟨rfl, hb99⟩
  go_wp2_with fail
  go_ret
  exact ⟨rfl, bnext hbW hb99⟩

set_option maxRecDepth 100000 in
set_option maxHeartbeats 8000000 in
theorem turns_main (hm : MachIn w w.heap.size v m) (hE : Elems w w.heap.size u (ints c.cells)) (hS : Elems w w.heap.size u1 (ints ss)) (hX : Elems w w.heap.size u2 (ints xs)) (hlc : c.cells.length ≤ 17592186044416) (hmx : w.cell? ⟨0, 0, none⟩ = some (.int .i64 mx)) (hHW : wideT m c = false) (t1 : ¬ (100 : Int) < (ss.length : Int)) (t2 : ¬ (100 : Int) < (xs.length : Int)) (hk : -9223372036854775808 ≤ k ∧ k ≤ 9223372036854775807) (hf : -9223372036854775808 ≤ c.frm ∧ c.frm ≤ 9223372036854775807) :
    Calls Tryd.prog 5 #[.agg #[.int .i64 m.states, .int .i64 m.symbols, v], .agg #[.int .i64 c.st, .int .i64 c.pos, .int .i64 c.frm, u], u1, u2, .int .i64 k] w (YesL w) := by
  have HW := hid_ hHW
  clear hHW
  obtain ⟨A1, c1, rfl⟩ := hm.rules.form
  obtain ⟨A2, c2, rfl⟩ := hE.form
  obtain ⟨As, cs, rfl⟩ := hS.form
  obtain ⟨Ax, cx, rfl⟩ := hX.form
  rw [ints_len] at hE hS hX ⊢
  rw [ints_len, ints_len]
  have hbW : Below w.heap.size w ((w.alloc (.cells #[.int .i64 m.states, .int .i64 m.symbols, .slice A1 m.rules.length c1] 24)).alloc (.cells #[.int .i64 c.st, .int .i64 c.pos, .int .i64 c.frm, .slice A2 c.cells.length c2] 27)) := below2 w _ _
  have HM := hid_ (hm.to hbW)
  have HE := hid_ (hE.to hbW)
  have HSS := hid_ (hS.to hbW)
  have HXX := hid_ (hX.to hbW)
  have HMX := hid_ hmx
  have B1 := (Blk.new w 24 #[.int .i64 m.states, .int .i64 m.symbols, .slice A1 m.rules.length c1]).alloc (.cells #[.int .i64 c.st, .int .i64 c.pos, .int .i64 c.frm, .slice A2 c.cells.length c2] 27)
  have B2 := Blk.new (w.alloc (.cells #[.int .i64 m.states, .int .i64 m.symbols, .slice A1 m.rules.length c1] 24)) 27 #[.int .i64 c.st, .int .i64 c.pos, .int .i64 c.frm, .slice A2 c.cells.length c2]
  rw [show (w.alloc (.cells #[.int .i64 m.states, .int .i64 m.symbols, .slice A1 m.rules.length c1] 24)).heap.size = w.heap.size + 1 by simp] at B2
  have HB1 := hid_ B1
  have HB2 := hid_ B2
  clear hm hE hS hX hmx B1 B2
  go_enter Tryd.func5, Tryd.ntmps5
  go_upto_region 1 with fail
  generalize (w.alloc (.cells #[.int .i64 m.states, .int .i64 m.symbols, .slice A1 m.rules.length c1] 24)).alloc (.cells #[.int .i64 c.st, .int .i64 c.pos, .int .i64 c.frm, .slice A2 c.cells.length c2] 27) = W at *
  have p0 := HB1.out.cell 0
  have p1 := HB1.out.cell 1
  have p2 := HB1.out.cell 2
  simp at p0 p1 p2
  have q0 := HB2.out.cell 0
  have q1 := HB2.out.cell 1
  have q2 := HB2.out.cell 2
  have q3 := HB2.out.cell 3
  simp at q0 q1 q2 q3
  go_wp2_with fail
  refine (wide_any m c _ _ _ HM.out HE.out hlc).mono ?_
  rw [HW.out]
  rintro e w4 ⟨rfl, hb4⟩
  replace HM := hid_ (HM.out.to hb4)
  replace HE := hid_ (HE.out.to hb4)
  replace HSS := hid_ (HSS.out.to hb4)
  replace HXX := hid_ (HXX.out.to hb4)
  replace HB1 := hid_ (HB1.out.to hb4)
  replace HB2 := hid_ (HB2.out.to hb4)
  replace hbW := bnext hbW hb4
  clear hb4
  clear p0 p1 p2 q0 q1 q2 q3
  have p0 := HB1.out.cell 0
  have p1 := HB1.out.cell 1
  have p2 := HB1.out.cell 2
  simp at p0 p1 p2
  have q0 := HB2.out.cell 0
  have q1 := HB2.out.cell 1
  have q2 := HB2.out.cell 2
  have q3 := HB2.out.cell 3
  simp at q0 q1 q2 q3
  go_upto_region 3 with fail
  obtain ⟨on, hon⟩ : ∃ n : Int, n = (onesL c.cells : Int) := ⟨_, rfl⟩
  obtain ⟨rd, hrd⟩ : ∃ n : Int, n = cellAt c.frm c.cells k := ⟨_, rfl⟩
  have KO1 : Hid (∀ Y, Elems Y Y.heap.size (.slice A2 c.cells.length c2) (ints c.cells) → Calls Tryd.prog 26 #[.agg #[.int .i64 c.st, .int .i64 c.pos, .int .i64 c.frm, .slice A2 c.cells.length c2]] Y fun e w' => e = .returned (.int .i64 on) ∧ Below Y.heap.size Y w') := hid_ (fun Y h => by rw [hon]; exact ones_any c _ Y h hlc)
  have KO2 : Hid (∀ Y, Elems Y Y.heap.size (.slice A2 c.cells.length c2) (ints c.cells) → Calls Tryd.prog 27 #[.agg #[.int .i64 c.st, .int .i64 c.pos, .int .i64 c.frm, .slice A2 c.cells.length c2]] Y fun e w' => e = .returned (.int .i64 on) ∧ Below Y.heap.size Y w') := hid_ (fun Y h => by rw [hon]; exact rones_any c _ Y h hlc)
  have KD1 : Hid (∀ Y, Elems Y Y.heap.size (.slice A2 c.cells.length c2) (ints c.cells) → Calls Tryd.prog 28 #[.agg #[.int .i64 c.st, .int .i64 c.pos, .int .i64 c.frm, .slice A2 c.cells.length c2], .int .i64 k] Y fun e w' => e = .returned (.int .i64 rd) ∧ Below Y.heap.size Y w') := hid_ (fun Y h => by rw [hrd]; exact read_any c k _ Y h hlc hk hf)
  have KD2 : Hid (∀ Y, Elems Y Y.heap.size (.slice A2 c.cells.length c2) (ints c.cells) → Calls Tryd.prog 29 #[.agg #[.int .i64 c.st, .int .i64 c.pos, .int .i64 c.frm, .slice A2 c.cells.length c2], .int .i64 k] Y fun e w' => e = .returned (.int .i64 rd) ∧ Below Y.heap.size Y w') := hid_ (fun Y h => by rw [hrd]; exact rread_any c k _ Y h hlc hk hf)
  clear hon hrd
  have tn : (on != on) = false := by simp
  have tr : (rd != rd) = false := by simp
  clear p0 p1 p2 q0 q1 q2 q3
  obtain ⟨W, rfl⟩ : ∃ X : World, X = w4 := ⟨_, rfl⟩
  have z0 := (HB2.out).cell 0
  have z1 := (HB2.out).cell 1
  have z2 := (HB2.out).cell 2
  have z3 := (HB2.out).cell 3
  simp at z0 z1 z2 z3
  go_cut [42] (fun s wx => s = .bool false ∧ Below W.heap.size W wx)
  case first => as_aux_lemma =>
    go_region_held3 (fun w' => w'.cell? ⟨w.heap.size + 1, 0, none⟩ = some (.int .i64 c.st) ∧ w'.cell? ⟨w.heap.size + 1, 1, none⟩ = some (.int .i64 c.pos) ∧ w'.cell? ⟨w.heap.size + 1, 2, none⟩ = some (.int .i64 c.frm) ∧ w'.cell? ⟨w.heap.size + 1, 3, none⟩ = some (.slice A2 c.cells.length c2) ∧ Below W.heap.size W w')
      (first | (with_reducible assumption) | (with_reducible exact (let hb := H4.out; ⟨keepc hb z0, keepc hb z1, keepc hb z2, keepc hb z3, hb⟩)) | (with_reducible exact (let hb := H3.out; ⟨keepc hb z0, keepc hb z1, keepc hb z2, keepc hb z3, hb⟩)) | (with_reducible exact (let hb := H2.out; ⟨keepc hb z0, keepc hb z1, keepc hb z2, keepc hb z3, hb⟩)) | (with_reducible exact (let hb := H1.out; ⟨keepc hb z0, keepc hb z1, keepc hb z2, keepc hb z3, hb⟩)) | (with_reducible exact (let hb := (Below.refl W.heap.size W).drew; ⟨keepc hb z0, keepc hb z1, keepc hb z2, keepc hb z3, hb⟩)) | (with_reducible exact (let hb := Below.refl W.heap.size W; ⟨keepc hb z0, keepc hb z1, keepc hb z2, keepc hb z3, hb⟩)) | fail)
      (first
        | (go_at_call 26; (with_reducible refine (KO1.out _ (HE.out.to ((And.right (And.right (And.right (And.right (by assumption)))))))).mono ?_); rintro e x1 ⟨rfl, hx⟩; have H1 : Hid (Below W.heap.size W x1) := hid_ (bnext ((And.right (And.right (And.right (And.right (by assumption)))))) hx); clear hx)
        | (go_at_call 27; (with_reducible refine (KO2.out _ (HE.out.to ((And.right (And.right (And.right (And.right (by assumption)))))))).mono ?_); rintro e x2 ⟨rfl, hx⟩; have H2 : Hid (Below W.heap.size W x2) := hid_ (bnext ((And.right (And.right (And.right (And.right (by assumption)))))) hx); clear hx)
        | (go_at_call 28; (with_reducible refine (KD1.out _ (HE.out.to ((And.right (And.right (And.right (And.right (by assumption)))))))).mono ?_); rintro e x3 ⟨rfl, hx⟩; have H3 : Hid (Below W.heap.size W x3) := hid_ (bnext ((And.right (And.right (And.right (And.right (by assumption)))))) hx); clear hx)
        | (go_at_call 29; (with_reducible refine (KD2.out _ (HE.out.to ((And.right (And.right (And.right (And.right (by assumption)))))))).mono ?_); rintro e x4 ⟨rfl, hx⟩; have H4 : Hid (Below W.heap.size W x4) := hid_ (bnext ((And.right (And.right (And.right (And.right (by assumption)))))) hx); clear hx))
    all_goals
      go_wp2_with fail
      go_meet
      first
        | exact ⟨rfl, H3.out⟩
        | exact ⟨rfl, H3.out.drew⟩
        | exact ⟨rfl, H4.out⟩
        | exact ⟨rfl, H4.out.drew⟩
  case rest => as_aux_lemma =>
    obtain ⟨rfl, hbc⟩ := hcut
    obtain ⟨V, rfl⟩ : ∃ X : World, X = wc := ⟨_, rfl⟩
    replace HM := hid_ (HM.out.to hbc)
    replace HE := hid_ (HE.out.to hbc)
    replace HSS := hid_ (HSS.out.to hbc)
    replace HXX := hid_ (HXX.out.to hbc)
    replace HB1 := hid_ (HB1.out.to hbc)
    replace HB2 := hid_ (HB2.out.to hbc)
    replace hbW := bnext hbW hbc
    clear hbc KO1 KO2 KD1 KD2 tn tr z0 z1 z2 z3
    obtain ⟨qm, em, hqm⟩ : ∃ q e, q = (mirrorC m).1 ∧ e = (mirrorC m).2 := ⟨_, _, rfl, rfl⟩
    obtain ⟨qn, en, hqn⟩ : ∃ q e, q = (renameC m ss xs).1 ∧ e = (renameC m ss xs).2 := ⟨_, _, rfl, rfl⟩
    have KM : Hid (∀ Y, MachIn Y Y.heap.size (.slice A1 m.rules.length c1) m → Calls Tryd.prog 30 #[.agg #[.int .i64 m.states, .int .i64 m.symbols, .slice A1 m.rules.length c1]] Y (McT qm em Y)) := hid_ (fun Y h1 => (mirror_any m _ Y h1).mono (fun e w' h => mct_mk h hqm))
    have KN : Hid (∀ Y, MachIn Y Y.heap.size (.slice A1 m.rules.length c1) m → Elems Y Y.heap.size (.slice As ss.length cs) (ints ss) → Elems Y Y.heap.size (.slice Ax xs.length cx) (ints xs) → Calls Tryd.prog 31 #[.agg #[.int .i64 m.states, .int .i64 m.symbols, .slice A1 m.rules.length c1], .slice As ss.length cs, .slice Ax xs.length cx] Y (McT qn en Y)) := hid_ (fun Y h1 h2 h3 => (rename_any m ss xs _ _ _ Y h1 h2 h3 (by omega) (by omega)).mono (fun e w' h => mct_mk h hqn))
    have HQM := hid_ hqm
    have HQN := hid_ hqn
    clear hqm hqn
    have p0 := (HB1.out).cell 0
    have p1 := (HB1.out).cell 1
    have p2 := (HB1.out).cell 2
    simp at p0 p1 p2
    go_upto_region 6 with (go_at_call 30; (with_reducible refine (KM.out V HM.out).mono ?_); rintro e w21 ⟨Am, cm, rfl, hMa, hb21⟩)
    have BA := hid_ (Blk.new w21 24 #[.int .i64 qm.states, .int .i64 qm.symbols, .slice Am qm.rules.length cm])
    have EA := hid_ (hMa.to (below1 w21 (.cells #[.int .i64 qm.states, .int .i64 qm.symbols, .slice Am qm.rules.length cm] 24)))
    have hbx := hb21.alloc hb21.size (.cells #[.int .i64 qm.states, .int .i64 qm.symbols, .slice Am qm.rules.length cm] 24)
    have hga : V.heap.size ≤ w21.heap.size := hb21.size
    have hbV := hbx
    clear hMa hb21 hbx KM
    clear p0 p1 p2
    generalize hVV : w21.alloc (.cells #[.int .i64 qm.states, .int .i64 qm.symbols, .slice Am qm.rules.length cm] 24) = Vga at *
    generalize w21.heap.size = ga at *
    clear hVV
    have p0 := ((HB1.out.to hbV)).cell 0
    have p1 := ((HB1.out.to hbV)).cell 1
    have p2 := ((HB1.out.to hbV)).cell 2
    simp at p0 p1 p2
    go_upto_region 7 with (go_at_call 31; (with_reducible refine (KN.out Vga (HM.out.to hbV) (HSS.out.to hbV) (HXX.out.to hbV)).mono ?_); rintro e w22 ⟨An, cn, rfl, hMn, hb22⟩)
    have BB := hid_ (Blk.new w22 24 #[.int .i64 qn.states, .int .i64 qn.symbols, .slice An qn.rules.length cn])
    have EB := hid_ (hMn.to (below1 w22 (.cells #[.int .i64 qn.states, .int .i64 qn.symbols, .slice An qn.rules.length cn] 24)))
    have hbx := hb22.alloc hb22.size (.cells #[.int .i64 qn.states, .int .i64 qn.symbols, .slice An qn.rules.length cn] 24)
    have hgb : ga < w22.heap.size := Nat.lt_of_lt_of_le BA.out.lt hb22.size
    replace BA := hid_ (BA.out.to hbx)
    replace EA := hid_ (EA.out.to hbx)
    have hbV := bnext hbV hbx
    clear hMn hb22 hbx KN
    clear p0 p1 p2
    generalize hVV : w22.alloc (.cells #[.int .i64 qn.states, .int .i64 qn.symbols, .slice An qn.rules.length cn] 24) = Vgb at *
    generalize w22.heap.size = gb at *
    clear hVV
    obtain ⟨vb, hvb⟩ : ∃ b, b = validM m := ⟨_, rfl⟩
    have KV : Hid (∀ Y, MachIn Y Y.heap.size (.slice A1 m.rules.length c1) m → Calls Tryd.prog 12 #[.agg #[.int .i64 m.states, .int .i64 m.symbols, .slice A1 m.rules.length c1]] Y fun e w' => e = .returned (.bool vb) ∧ Below Y.heap.size Y w') := hid_ (fun Y h => by rw [hvb]; exact rvalid_any m _ Y h)
    have HVB := hid_ hvb
    clear hvb
    have p0 := ((HB1.out.to hbV)).cell 0
    have p1 := ((HB1.out.to hbV)).cell 1
    have p2 := ((HB1.out.to hbV)).cell 2
    simp at p0 p1 p2
    go_upto_if 57 with (go_at_call 12; (with_reducible refine (KV.out _ (HM.out.to hbV)).mono ?_); rintro e w7 ⟨rfl, hb7⟩)
    replace BA := hid_ (BA.out.to hb7)
    replace EA := hid_ (EA.out.to hb7)
    replace BB := hid_ (BB.out.to hb7)
    replace EB := hid_ (EB.out.to hb7)
    have hbV := bnext hbV hb7
    clear hb7 KV
    clear p0 p1 p2
    obtain ⟨V7, rfl⟩ : ∃ X : World, X = w7 := ⟨_, rfl⟩
    go_cut [] (fun wx => Below V7.heap.size V7 wx)
    case first => as_aux_lemma =>
      cases vb with
      | false =>
        have hv : validM m = false := HVB.out.symm
        obtain ⟨hqm, hem⟩ : qm = noM ∧ em = 1 := by
          have h := HQM.out
          rw [mirrorC, if_pos hv] at h
          exact h
        obtain ⟨hqn, hen⟩ : qn = noM ∧ en = 1 := by
          have h := HQN.out
          rw [renameC, if_pos hv] at h
          exact h
        clear hv
        have KE1 : Hid (∀ Y, MachIn Y Y.heap.size (.slice Am qm.rules.length cm) qm → Calls Tryd.prog 24 #[.agg #[.int .i64 qm.states, .int .i64 qm.symbols, .slice Am qm.rules.length cm], .agg #[.int .i64 0, .int .i64 0, .slice none 0 0]] Y fun e w' => e = .returned (.bool true) ∧ Below Y.heap.size Y w') := hid_ (fun Y h => by have := rsameM_any qm noM _ _ Y h (noM_in Y); rw [sameM_iff.2 hqm] at this; exact this)
        have KE2 : Hid (∀ Y, MachIn Y Y.heap.size (.slice An qn.rules.length cn) qn → Calls Tryd.prog 24 #[.agg #[.int .i64 qn.states, .int .i64 qn.symbols, .slice An qn.rules.length cn], .agg #[.int .i64 0, .int .i64 0, .slice none 0 0]] Y fun e w' => e = .returned (.bool true) ∧ Below Y.heap.size Y w') := hid_ (fun Y h => by have := rsameM_any qn noM _ _ Y h (noM_in Y); rw [sameM_iff.2 hqn] at this; exact this)
        subst hem hen
        clear hqm hqn
        have r0 := (BA.out).cell 0
        have r1 := (BA.out).cell 1
        have r2 := (BA.out).cell 2
        simp at r0 r1 r2
        go_wp2_with (first
          | (go_at_call 24; (with_reducible refine (KE1.out V7 EA.out).mono ?_); rintro e x1 ⟨rfl, hx1⟩; have BB1 := BB.out.to hx1; have EB1 := hid_ (EB.out.to hx1); have s0 := BB1.cell 0; have s1 := BB1.cell 1; have s2 := BB1.cell 2; simp at s0 s1 s2)
          | (go_at_call 24; (with_reducible refine (KE2.out x1 EB1.out).mono ?_); rintro e x2 ⟨rfl, hx2⟩))
        go_meet
        exact bnext hx1 hx2
      | true =>
        have hv : validM m = true := HVB.out.symm
        obtain ⟨hqm, hem⟩ : qm = mirrorM m ∧ em = 0 := by
          have h := HQM.out
          rw [mirrorC, if_neg (by rw [hv]; simp)] at h
          exact h
        obtain ⟨okb, hok⟩ : ∃ b, b = okR m ss xs := ⟨_, rfl⟩
        have HR2 : Hid (if okb = true then qn = renameM m ss xs ∧ en = 0 else qn = noM ∧ en = 2) := hid_ (by
          have h := HQN.out
          rw [renameC, if_neg (by rw [hv]; simp), ← hok] at h
          cases okb <;> simpa using h)
        obtain ⟨p1, hb1⟩ : ∃ b, b = permB ss := ⟨_, rfl⟩
        obtain ⟨p2, hb2⟩ : ∃ b, b = permB xs := ⟨_, rfl⟩
        have HOV : Hid (okb = (p1 && p2 && decide ((ss.length : Int) = m.states) && decide ((xs.length : Int) = m.symbols))) := hid_ (by rw [hok, hb1, hb2]; exact okR_is hv)
        have HP1 : Hid (∀ Y, Elems Y Y.heap.size (.slice As ss.length cs) (ints ss) → Calls Tryd.prog 33 #[.slice As ss.length cs] Y fun e w' => e = .returned (.bool p1) ∧ Below Y.heap.size Y w') := hid_ (fun Y h => by rw [hb1]; exact permutes_any ss _ Y h (by omega))
        have HP2 : Hid (∀ Y, Elems Y Y.heap.size (.slice Ax xs.length cx) (ints xs) → Calls Tryd.prog 33 #[.slice Ax xs.length cx] Y fun e w' => e = .returned (.bool p2) ∧ Below Y.heap.size Y w') := hid_ (fun Y h => by rw [hb2]; exact permutes_any xs _ Y h (by omega))
        have HV := hid_ hv
        have HB12 := hid_ (And.intro hb1 hb2)
        clear hok hb1 hb2 hv
        have KRM : Hid (∀ Y, MachIn Y Y.heap.size (.slice A1 m.rules.length c1) m → Calls Tryd.prog 32 #[.agg #[.int .i64 m.states, .int .i64 m.symbols, .slice A1 m.rules.length c1]] Y fun e w' => ∃ Av cv, e = .returned (.agg #[.int .i64 m.states, .int .i64 m.symbols, .slice Av (mirrorM m).rules.length cv]) ∧ MachIn w' w'.heap.size (.slice Av (mirrorM m).rules.length cv) (mirrorM m) ∧ Below Y.heap.size Y w') := hid_ (fun Y h => rmirror_any m _ Y h HV.out)
        have KEQ : Hid (∀ Av cv Y, MachIn Y Y.heap.size (.slice Am qm.rules.length cm) qm → MachIn Y Y.heap.size (.slice Av (mirrorM m).rules.length cv) (mirrorM m) → Calls Tryd.prog 24 #[.agg #[.int .i64 qm.states, .int .i64 qm.symbols, .slice Am qm.rules.length cm], .agg #[.int .i64 m.states, .int .i64 m.symbols, .slice Av (mirrorM m).rules.length cv]] Y fun e w' => e = .returned (.bool true) ∧ Below Y.heap.size Y w') := hid_ (fun Av cv Y h h2 => by have := rsameM_any qm (mirrorM m) _ _ Y h h2; rw [sameM_iff.2 hqm] at this; exact this)
        subst hem
        clear hqm
        have b0 := (BA.out).cell 0
        have b1 := (BA.out).cell 1
        have b2 := (BA.out).cell 2
        have z0 := ((HB1.out.to hbV)).cell 0
        have z1 := ((HB1.out.to hbV)).cell 1
        have z2 := ((HB1.out.to hbV)).cell 2
        simp at b0 b1 b2 z0 z1 z2
        go_upto_region 10 with fail
        go_cut [84] (fun s wx => s = .bool false ∧ Below V7.heap.size V7 wx)
        case first => as_aux_lemma =>
          clear HR2 HOV HP1 HP2
          go_region_held3 (fun w' => w'.cell? ⟨ga, 0, none⟩ = some (.int .i64 qm.states) ∧ w'.cell? ⟨ga, 1, none⟩ = some (.int .i64 qm.symbols) ∧ w'.cell? ⟨ga, 2, none⟩ = some (.slice Am qm.rules.length cm) ∧ w'.cell? ⟨w.heap.size, 0, none⟩ = some (.int .i64 m.states) ∧ w'.cell? ⟨w.heap.size, 1, none⟩ = some (.int .i64 m.symbols) ∧ w'.cell? ⟨w.heap.size, 2, none⟩ = some (.slice A1 m.rules.length c1) ∧ Below V7.heap.size V7 w')
            (first | (with_reducible assumption) | (with_reducible exact (let hb := H4.out; ⟨keepc hb b0, keepc hb b1, keepc hb b2, keepc hb z0, keepc hb z1, keepc hb z2, hb⟩)) | (with_reducible exact (let hb := H3.out; ⟨keepc hb b0, keepc hb b1, keepc hb b2, keepc hb z0, keepc hb z1, keepc hb z2, hb⟩)) | (with_reducible exact (let hb := (Below.refl V7.heap.size V7).drew; ⟨keepc hb b0, keepc hb b1, keepc hb b2, keepc hb z0, keepc hb z1, keepc hb z2, hb⟩)) | (with_reducible exact (let hb := Below.refl V7.heap.size V7; ⟨keepc hb b0, keepc hb b1, keepc hb b2, keepc hb z0, keepc hb z1, keepc hb z2, hb⟩)) | fail)
            (first
              | (go_at_call 32; (with_reducible refine (KRM.out _ (HM.out.to (bnext hbV ((And.right (And.right (And.right (And.right (And.right (And.right (by assumption))))))))))).mono ?_); rintro e x1 ⟨Av, cv, rfl, hEv, hx1⟩; have H3 : Hid (Below V7.heap.size V7 x1) := hid_ (bnext ((And.right (And.right (And.right (And.right (And.right (And.right (by assumption)))))))) hx1); have HEV := hid_ hEv; clear hEv hx1)
              | (go_at_call 24; (with_reducible refine (KEQ.out _ _ _ (EA.out.to H3.out) HEV.out).mono ?_); rintro e x2 ⟨rfl, hx2⟩; have H4 : Hid (Below V7.heap.size V7 x2) := hid_ (bnext H3.out hx2); clear hx2))
          all_goals
            go_wp2_with fail
            go_meet
            first
              | exact ⟨rfl, H4.out⟩
              | exact ⟨rfl, H4.out.drew⟩
        case rest => as_aux_lemma =>
          obtain ⟨rfl, hbc⟩ := hcut
          obtain ⟨V8, rfl⟩ : ∃ X : World, X = wc := ⟨_, rfl⟩
          replace BB := hid_ (BB.out.to hbc)
          replace EB := hid_ (EB.out.to hbc)
          have hbV := bnext hbV hbc
          have hV78 := hbc
          clear hbc BA EA KRM KEQ z0 z1 z2
          have HS9 := hid_ (HSS.out.to hbV)
          have HX9 := hid_ (HXX.out.to hbV)
          have z0 := (HB1.out.to hbV).cell 0
          have z1 := (HB1.out.to hbV).cell 1
          simp at z0 z1
          go_upto_region 12 with fail
          go_cut [106] (fun s wx => s = .bool (!okb) ∧ Below V8.heap.size V8 wx)
          case first => as_aux_lemma =>
            clear HR2 HB12
            cases p1 with
            | false =>
              go_wp2_with (go_at_call 33; (with_reducible refine (HP1.out _ HS9.out).mono ?_); rintro e x1 ⟨rfl, hx1⟩)
              go_meet
              exact ⟨by rw [HOV.out]; rfl, hx1⟩
            | true =>
            cases p2 with
            | false =>
              go_wp2_with (first
                | (go_at_call 33; (with_reducible refine (HP1.out V8 HS9.out).mono ?_); rintro e x1 ⟨rfl, hx1⟩; have HX91 := hid_ (HX9.out.to hx1))
                | (go_at_call 33; (with_reducible refine (HP2.out _ HX91.out).mono ?_); rintro e x2 ⟨rfl, hx2⟩; have hxx := bnext hx1 hx2; have z0' := keepc hxx z0; have z1' := keepc hxx z1))
              go_meet
              exact ⟨by rw [HOV.out]; rfl, bnext hx1 hx2⟩
            | true =>
            by_cases h6 : (ss.length : Int) = m.states
            · by_cases h4 : (xs.length : Int) = m.symbols
              · have t6 : ((ss.length : Int) != m.states) = false := by simpa using h6
                have t4 : ((xs.length : Int) != m.symbols) = false := by simpa using h4
                have HD6 := hid_ (decide_eq_true h6)
                have HD4 := hid_ (decide_eq_true h4)
                clear h6 h4
                go_wp2_with (first
                | (go_at_call 33; (with_reducible refine (HP1.out V8 HS9.out).mono ?_); rintro e x1 ⟨rfl, hx1⟩; have HX91 := hid_ (HX9.out.to hx1))
                | (go_at_call 33; (with_reducible refine (HP2.out _ HX91.out).mono ?_); rintro e x2 ⟨rfl, hx2⟩; have hxx := bnext hx1 hx2; have z0' := keepc hxx z0; have z1' := keepc hxx z1))
                go_meet
                exact ⟨by rw [HOV.out, HD6.out, HD4.out]; rfl, bnext hx1 hx2⟩
              · have t6 : ((ss.length : Int) != m.states) = false := by simpa using h6
                have t4 : ((xs.length : Int) != m.symbols) = true := by simpa using h4
                have HD6 := hid_ (decide_eq_true h6)
                have HD4 := hid_ (decide_eq_false h4)
                clear h6 h4
                go_wp2_with (first
                | (go_at_call 33; (with_reducible refine (HP1.out V8 HS9.out).mono ?_); rintro e x1 ⟨rfl, hx1⟩; have HX91 := hid_ (HX9.out.to hx1))
                | (go_at_call 33; (with_reducible refine (HP2.out _ HX91.out).mono ?_); rintro e x2 ⟨rfl, hx2⟩; have hxx := bnext hx1 hx2; have z0' := keepc hxx z0; have z1' := keepc hxx z1))
                go_meet
                exact ⟨by rw [HOV.out, HD6.out, HD4.out]; rfl, bnext hx1 hx2⟩
            · have t6 : ((ss.length : Int) != m.states) = true := by simpa using h6
              have HD6 := hid_ (decide_eq_false h6)
              clear h6
              go_wp2_with (first
                | (go_at_call 33; (with_reducible refine (HP1.out V8 HS9.out).mono ?_); rintro e x1 ⟨rfl, hx1⟩; have HX91 := hid_ (HX9.out.to hx1))
                | (go_at_call 33; (with_reducible refine (HP2.out _ HX91.out).mono ?_); rintro e x2 ⟨rfl, hx2⟩; have hxx := bnext hx1 hx2; have z0' := keepc hxx z0; have z1' := keepc hxx z1))
              go_meet
              exact ⟨by rw [HOV.out, HD6.out]; rfl, bnext hx1 hx2⟩
          case rest => as_aux_lemma =>
            obtain ⟨rfl, hbc⟩ := hcut
            obtain ⟨V9, rfl⟩ : ∃ X : World, X = wc := ⟨_, rfl⟩
            replace BB := hid_ (BB.out.to hbc)
            replace EB := hid_ (EB.out.to hbc)
            have hbV := bnext hbV hbc
            have hV79 := bnext hV78 hbc
            clear hbc HS9 HX9 z0 z1 hV78
            cases okb with
            | true =>
              obtain ⟨hqn, hen⟩ : qn = renameM m ss xs ∧ en = 0 := by simpa using HR2.out
              obtain ⟨⟨⟨hp1, hp2⟩, hd6⟩, hd4⟩ : ((p1 = true ∧ p2 = true) ∧ (ss.length : Int) = m.states) ∧ (xs.length : Int) = m.symbols := by simpa using HOV.out.symm
              have HPP : Hid (permB ss = true ∧ permB xs = true ∧ (ss.length : Int) = m.states ∧ (xs.length : Int) = m.symbols) := hid_ ⟨by rw [← HB12.out.1]; exact hp1, by rw [← HB12.out.2]; exact hp2, hd6, hd4⟩
              clear HR2 hp1 hp2 hd6 hd4 HOV HB12 HP1 HP2
              have KRN : Hid (∀ Y, MachIn Y Y.heap.size (.slice A1 m.rules.length c1) m → Elems Y Y.heap.size (.slice As ss.length cs) (ints ss) → Elems Y Y.heap.size (.slice Ax xs.length cx) (ints xs) → Calls Tryd.prog 34 #[.agg #[.int .i64 m.states, .int .i64 m.symbols, .slice A1 m.rules.length c1], .slice As ss.length cs, .slice Ax xs.length cx] Y fun e w' => ∃ Av cv, e = .returned (.agg #[.int .i64 m.states, .int .i64 m.symbols, .slice Av (renameM m ss xs).rules.length cv]) ∧ MachIn w' w'.heap.size (.slice Av (renameM m ss xs).rules.length cv) (renameM m ss xs) ∧ Below Y.heap.size Y w') := hid_ (fun Y h1 h2 h3 => rrename_any m ss xs _ _ _ Y h1 h2 h3 HV.out HPP.out.1 HPP.out.2.1 HPP.out.2.2.1 HPP.out.2.2.2)
              have KEQ : Hid (∀ Av cv Y, MachIn Y Y.heap.size (.slice An qn.rules.length cn) qn → MachIn Y Y.heap.size (.slice Av (renameM m ss xs).rules.length cv) (renameM m ss xs) → Calls Tryd.prog 24 #[.agg #[.int .i64 qn.states, .int .i64 qn.symbols, .slice An qn.rules.length cn], .agg #[.int .i64 m.states, .int .i64 m.symbols, .slice Av (renameM m ss xs).rules.length cv]] Y fun e w' => e = .returned (.bool true) ∧ Below Y.heap.size Y w') := hid_ (fun Av cv Y h h2 => by have := rsameM_any qn (renameM m ss xs) _ _ Y h h2; rw [sameM_iff.2 hqn] at this; exact this)
              subst hen
              clear hqn
              have b0 := (BB.out).cell 0
              have b1 := (BB.out).cell 1
              have b2 := (BB.out).cell 2
              have z0 := ((HB1.out.to hbV)).cell 0
              have z1 := ((HB1.out.to hbV)).cell 1
              have z2 := ((HB1.out.to hbV)).cell 2
              simp at b0 b1 b2 z0 z1 z2
              go_upto_region 15 with fail
              go_region_held3 (fun w' => w'.cell? ⟨gb, 0, none⟩ = some (.int .i64 qn.states) ∧ w'.cell? ⟨gb, 1, none⟩ = some (.int .i64 qn.symbols) ∧ w'.cell? ⟨gb, 2, none⟩ = some (.slice An qn.rules.length cn) ∧ w'.cell? ⟨w.heap.size, 0, none⟩ = some (.int .i64 m.states) ∧ w'.cell? ⟨w.heap.size, 1, none⟩ = some (.int .i64 m.symbols) ∧ w'.cell? ⟨w.heap.size, 2, none⟩ = some (.slice A1 m.rules.length c1) ∧ Below V9.heap.size V9 w')
                (first | (with_reducible assumption) | (with_reducible exact (let hb := H4.out; ⟨keepc hb b0, keepc hb b1, keepc hb b2, keepc hb z0, keepc hb z1, keepc hb z2, hb⟩)) | (with_reducible exact (let hb := H3.out; ⟨keepc hb b0, keepc hb b1, keepc hb b2, keepc hb z0, keepc hb z1, keepc hb z2, hb⟩)) | (with_reducible exact (let hb := (Below.refl V9.heap.size V9).drew; ⟨keepc hb b0, keepc hb b1, keepc hb b2, keepc hb z0, keepc hb z1, keepc hb z2, hb⟩)) | (with_reducible exact (let hb := Below.refl V9.heap.size V9; ⟨keepc hb b0, keepc hb b1, keepc hb b2, keepc hb z0, keepc hb z1, keepc hb z2, hb⟩)) | fail)
                (first
                  | (go_at_call 34; (with_reducible refine (KRN.out _ (HM.out.to (bnext hbV ((And.right (And.right (And.right (And.right (And.right (And.right (by assumption)))))))))) (HSS.out.to (bnext hbV ((And.right (And.right (And.right (And.right (And.right (And.right (by assumption)))))))))) (HXX.out.to (bnext hbV ((And.right (And.right (And.right (And.right (And.right (And.right (by assumption))))))))))).mono ?_); rintro e x1 ⟨Av, cv, rfl, hEv, hx1⟩; have H3 : Hid (Below V9.heap.size V9 x1) := hid_ (bnext ((And.right (And.right (And.right (And.right (And.right (And.right (by assumption)))))))) hx1); have HEV := hid_ hEv; clear hEv hx1)
                  | (go_at_call 24; (with_reducible refine (KEQ.out _ _ _ (EB.out.to H3.out) HEV.out).mono ?_); rintro e x2 ⟨rfl, hx2⟩; have H4 : Hid (Below V9.heap.size V9 x2) := hid_ (bnext H3.out hx2); clear hx2))
              all_goals
                go_wp2_with fail
                go_meet
                first
                  | exact bnext hV79 H4.out
                  | exact (bnext hV79 H4.out).drew
            | false =>
              obtain ⟨hqn, hen⟩ : qn = noM ∧ en = 2 := by simpa using HR2.out
              clear HR2 HOV HB12 HP1 HP2
              have KE2 : Hid (∀ Y, MachIn Y Y.heap.size (.slice An qn.rules.length cn) qn → Calls Tryd.prog 24 #[.agg #[.int .i64 qn.states, .int .i64 qn.symbols, .slice An qn.rules.length cn], .agg #[.int .i64 0, .int .i64 0, .slice none 0 0]] Y fun e w' => e = .returned (.bool true) ∧ Below Y.heap.size Y w') := hid_ (fun Y h => by have := rsameM_any qn noM _ _ Y h (noM_in Y); rw [sameM_iff.2 hqn] at this; exact this)
              subst hen
              clear hqn
              have b0 := (BB.out).cell 0
              have b1 := (BB.out).cell 1
              have b2 := (BB.out).cell 2
              simp at b0 b1 b2
              go_wp2_with (go_at_call 24; (with_reducible refine (KE2.out _ EB.out).mono ?_); rintro e x2 ⟨rfl, hx2⟩)
              go_meet
              exact bnext hV79 hx2
    case rest => as_aux_lemma =>
      have hbc := hcut
      obtain ⟨VA, rfl⟩ : ∃ X : World, X = wc := ⟨_, rfl⟩
      have hbV := bnext hbV hbc
      clear hbc BA EA BB EB HQM HQN HVB
      have q0 := ((HB2.out.to hbV)).cell 0
      have q1 := ((HB2.out.to hbV)).cell 1
      have q2 := ((HB2.out.to hbV)).cell 2
      have q3 := ((HB2.out.to hbV)).cell 3
      simp at q0 q1 q2 q3
      go_wp2_with (first
        | (go_at_call 35; (with_reducible refine (turnsConfig_any c ss xs k _ _ _ _ (HE.out.to hbV) (HSS.out.to hbV) (HXX.out.to hbV) hlc (by omega) (by omega)).mono ?_); rintro e x1 ⟨rfl, hx1⟩; have HX2 := hid_ (bnext hbW (bnext hbV hx1)))
        | (go_at_call 10; (with_reducible refine (awake_any mx _ (keepc HX2.out HMX.out)).mono ?_); rintro e x2 ⟨rfl, hx2⟩))
      go_ret
      exact ⟨rfl, bnext HX2.out hx2⟩

end
end Go.Proofs.YtkbaiegfloajlaaDoor.Tp

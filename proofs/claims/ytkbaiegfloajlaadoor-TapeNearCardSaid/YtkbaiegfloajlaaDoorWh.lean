/- The law TapeNear, way by way. -/
import Derived.Test.YtkbaiegfloajlaaDoorVh
import Derived.Test.YtkbaiegfloajlaaDoorWc
import Derived.Test.YtkbaiegfloajlaaDoorWf
import Derived.Test.YtkbaiegfloajlaaDoorWg
namespace Go.Proofs.YtkbaiegfloajlaaDoor.Tp
open Go.RowKit

theorem fits_bounds {m : MachS} {c : CfgS} (h : fitsC m c = true) : c.cells.length ≤ 100000 ∧ (-1099511627776 ≤ c.pos ∧ c.pos ≤ 1099511627776) ∧ (-1099511627776 ≤ c.frm ∧ c.frm ≤ 1099511627776) := by
  rw [fitsC, Bool.and_eq_true] at h
  obtain ⟨_, _, h3, h4, h5, _, _⟩ := within_iff.1 h.2
  exact ⟨h5, inR_iff.1 h3, inR_iff.1 h4⟩

section
variable (m : MachS) (c d : CfgS) (N : Nat) (v u x : Value) (w : World) (mx : Int)

set_option maxRecDepth 100000 in
set_option maxHeartbeats 8000000 in
theorem near_e0 (hm : MachIn w w.heap.size v m) (hE : Elems w w.heap.size u (ints c.cells)) (hD : Elems w w.heap.size x (ints d.cells)) (hlc : c.cells.length ≤ 17592186044416) (_hld : d.cells.length ≤ 17592186044416) (hmx : w.cell? ⟨0, 0, none⟩ = some (.int .i64 mx)) (hHW1 : wideT m c = true)  :
    Calls Tryd.prog 8 #[.agg #[.int .i64 m.states, .int .i64 m.symbols, v], .agg #[.int .i64 c.st, .int .i64 c.pos, .int .i64 c.frm, u], .agg #[.int .i64 d.st, .int .i64 d.pos, .int .i64 d.frm, x], .int .u16 (N : Int)] w (YesL w) := by
  have HW1 := hid_ hHW1
  clear hHW1
  obtain ⟨A1, c1, rfl⟩ := hm.rules.form
  obtain ⟨A2, c2, rfl⟩ := hE.form
  obtain ⟨A3, c3, rfl⟩ := hD.form
  rw [ints_len] at hE hD ⊢
  rw [ints_len]
  have hbW : Below w.heap.size w (((w.alloc (.cells #[.int .i64 m.states, .int .i64 m.symbols, .slice A1 m.rules.length c1] 24)).alloc (.cells #[.int .i64 c.st, .int .i64 c.pos, .int .i64 c.frm, .slice A2 c.cells.length c2] 27)).alloc (.cells #[.int .i64 d.st, .int .i64 d.pos, .int .i64 d.frm, .slice A3 d.cells.length c3] 27)) := (below2 w _ _).alloc (by simp; omega) _
  have HM := hid_ (hm.to hbW)
  have HE := hid_ (hE.to hbW)
  have HD := hid_ (hD.to hbW)
  have HMX := hid_ hmx
  have B1 := ((Blk.new w 24 #[.int .i64 m.states, .int .i64 m.symbols, .slice A1 m.rules.length c1]).alloc (.cells #[.int .i64 c.st, .int .i64 c.pos, .int .i64 c.frm, .slice A2 c.cells.length c2] 27)).alloc (.cells #[.int .i64 d.st, .int .i64 d.pos, .int .i64 d.frm, .slice A3 d.cells.length c3] 27)
  have B2 := (Blk.new (w.alloc (.cells #[.int .i64 m.states, .int .i64 m.symbols, .slice A1 m.rules.length c1] 24)) 27 #[.int .i64 c.st, .int .i64 c.pos, .int .i64 c.frm, .slice A2 c.cells.length c2]).alloc (.cells #[.int .i64 d.st, .int .i64 d.pos, .int .i64 d.frm, .slice A3 d.cells.length c3] 27)
  rw [show (w.alloc (.cells #[.int .i64 m.states, .int .i64 m.symbols, .slice A1 m.rules.length c1] 24)).heap.size = w.heap.size + 1 by simp] at B2
  have B3 := Blk.new ((w.alloc (.cells #[.int .i64 m.states, .int .i64 m.symbols, .slice A1 m.rules.length c1] 24)).alloc (.cells #[.int .i64 c.st, .int .i64 c.pos, .int .i64 c.frm, .slice A2 c.cells.length c2] 27)) 27 #[.int .i64 d.st, .int .i64 d.pos, .int .i64 d.frm, .slice A3 d.cells.length c3]
  rw [show ((w.alloc (.cells #[.int .i64 m.states, .int .i64 m.symbols, .slice A1 m.rules.length c1] 24)).alloc (.cells #[.int .i64 c.st, .int .i64 c.pos, .int .i64 c.frm, .slice A2 c.cells.length c2] 27)).heap.size = w.heap.size + 1 + 1 by simp] at B3
  have HB1 := hid_ B1
  have HB2 := hid_ B2
  have HB3 := hid_ B3
  clear hm hE hD hmx B1 B2 B3
  go_enter Tryd.func8, Tryd.ntmps8
  go_upto_region 1 with fail
  generalize ((w.alloc (.cells #[.int .i64 m.states, .int .i64 m.symbols, .slice A1 m.rules.length c1] 24)).alloc (.cells #[.int .i64 c.st, .int .i64 c.pos, .int .i64 c.frm, .slice A2 c.cells.length c2] 27)).alloc (.cells #[.int .i64 d.st, .int .i64 d.pos, .int .i64 d.frm, .slice A3 d.cells.length c3] 27) = W at *
  have p0 := HB1.out.cell 0
  have p1 := HB1.out.cell 1
  have p2 := HB1.out.cell 2
  have q0 := HB2.out.cell 0
  have q1 := HB2.out.cell 1
  have q2 := HB2.out.cell 2
  have q3 := HB2.out.cell 3
  have r0 := HB3.out.cell 0
  have r1 := HB3.out.cell 1
  have r2 := HB3.out.cell 2
  have r3 := HB3.out.cell 3
  simp at p0 p1 p2 q0 q1 q2 q3 r0 r1 r2 r3
  go_wp2_with fail
  refine (wide_any m c _ _ _ HM.out HE.out hlc).mono ?_
  rw [HW1.out]
  rintro e w1 ⟨rfl, hb1⟩
  replace HM := hid_ (HM.out.to hb1)
  replace HE := hid_ (HE.out.to hb1)
  replace HD := hid_ (HD.out.to hb1)
  replace HB1 := hid_ (HB1.out.to hb1)
  replace HB2 := hid_ (HB2.out.to hb1)
  replace HB3 := hid_ (HB3.out.to hb1)
  replace hbW := bnext hbW hb1
  clear hb1
  clear p0 p1 p2 q0 q1 q2 q3 r0 r1 r2 r3
  have p0 := HB1.out.cell 0
  have p1 := HB1.out.cell 1
  have p2 := HB1.out.cell 2
  have q0 := HB2.out.cell 0
  have q1 := HB2.out.cell 1
  have q2 := HB2.out.cell 2
  have q3 := HB2.out.cell 3
  have r0 := HB3.out.cell 0
  have r1 := HB3.out.cell 1
  have r2 := HB3.out.cell 2
  have r3 := HB3.out.cell 3
  simp at p0 p1 p2 q0 q1 q2 q3 r0 r1 r2 r3
  go_wp2_with fail
  refine (awake_any mx _ (keepc hbW HMX.out)).mono ?_
  rintro e w99 ⟨rfl, hb99⟩
  go_wp2_with fail
  go_ret
  exact ⟨rfl, bnext hbW hb99⟩

set_option maxRecDepth 100000 in
set_option maxHeartbeats 8000000 in
theorem near_e1 (hm : MachIn w w.heap.size v m) (hE : Elems w w.heap.size u (ints c.cells)) (hD : Elems w w.heap.size x (ints d.cells)) (hlc : c.cells.length ≤ 17592186044416) (hld : d.cells.length ≤ 17592186044416) (hmx : w.cell? ⟨0, 0, none⟩ = some (.int .i64 mx)) (hHW1 : wideT m c = false) (hHW2 : wideT m d = true)  :
    Calls Tryd.prog 8 #[.agg #[.int .i64 m.states, .int .i64 m.symbols, v], .agg #[.int .i64 c.st, .int .i64 c.pos, .int .i64 c.frm, u], .agg #[.int .i64 d.st, .int .i64 d.pos, .int .i64 d.frm, x], .int .u16 (N : Int)] w (YesL w) := by
  have HW1 := hid_ hHW1
  have HW2 := hid_ hHW2
  clear hHW1 hHW2
  obtain ⟨A1, c1, rfl⟩ := hm.rules.form
  obtain ⟨A2, c2, rfl⟩ := hE.form
  obtain ⟨A3, c3, rfl⟩ := hD.form
  rw [ints_len] at hE hD ⊢
  rw [ints_len]
  have hbW : Below w.heap.size w (((w.alloc (.cells #[.int .i64 m.states, .int .i64 m.symbols, .slice A1 m.rules.length c1] 24)).alloc (.cells #[.int .i64 c.st, .int .i64 c.pos, .int .i64 c.frm, .slice A2 c.cells.length c2] 27)).alloc (.cells #[.int .i64 d.st, .int .i64 d.pos, .int .i64 d.frm, .slice A3 d.cells.length c3] 27)) := (below2 w _ _).alloc (by simp; omega) _
  have HM := hid_ (hm.to hbW)
  have HE := hid_ (hE.to hbW)
  have HD := hid_ (hD.to hbW)
  have HMX := hid_ hmx
  have B1 := ((Blk.new w 24 #[.int .i64 m.states, .int .i64 m.symbols, .slice A1 m.rules.length c1]).alloc (.cells #[.int .i64 c.st, .int .i64 c.pos, .int .i64 c.frm, .slice A2 c.cells.length c2] 27)).alloc (.cells #[.int .i64 d.st, .int .i64 d.pos, .int .i64 d.frm, .slice A3 d.cells.length c3] 27)
  have B2 := (Blk.new (w.alloc (.cells #[.int .i64 m.states, .int .i64 m.symbols, .slice A1 m.rules.length c1] 24)) 27 #[.int .i64 c.st, .int .i64 c.pos, .int .i64 c.frm, .slice A2 c.cells.length c2]).alloc (.cells #[.int .i64 d.st, .int .i64 d.pos, .int .i64 d.frm, .slice A3 d.cells.length c3] 27)
  rw [show (w.alloc (.cells #[.int .i64 m.states, .int .i64 m.symbols, .slice A1 m.rules.length c1] 24)).heap.size = w.heap.size + 1 by simp] at B2
  have B3 := Blk.new ((w.alloc (.cells #[.int .i64 m.states, .int .i64 m.symbols, .slice A1 m.rules.length c1] 24)).alloc (.cells #[.int .i64 c.st, .int .i64 c.pos, .int .i64 c.frm, .slice A2 c.cells.length c2] 27)) 27 #[.int .i64 d.st, .int .i64 d.pos, .int .i64 d.frm, .slice A3 d.cells.length c3]
  rw [show ((w.alloc (.cells #[.int .i64 m.states, .int .i64 m.symbols, .slice A1 m.rules.length c1] 24)).alloc (.cells #[.int .i64 c.st, .int .i64 c.pos, .int .i64 c.frm, .slice A2 c.cells.length c2] 27)).heap.size = w.heap.size + 1 + 1 by simp] at B3
  have HB1 := hid_ B1
  have HB2 := hid_ B2
  have HB3 := hid_ B3
  clear hm hE hD hmx B1 B2 B3
  go_enter Tryd.func8, Tryd.ntmps8
  go_upto_region 1 with fail
  generalize ((w.alloc (.cells #[.int .i64 m.states, .int .i64 m.symbols, .slice A1 m.rules.length c1] 24)).alloc (.cells #[.int .i64 c.st, .int .i64 c.pos, .int .i64 c.frm, .slice A2 c.cells.length c2] 27)).alloc (.cells #[.int .i64 d.st, .int .i64 d.pos, .int .i64 d.frm, .slice A3 d.cells.length c3] 27) = W at *
  have p0 := HB1.out.cell 0
  have p1 := HB1.out.cell 1
  have p2 := HB1.out.cell 2
  have q0 := HB2.out.cell 0
  have q1 := HB2.out.cell 1
  have q2 := HB2.out.cell 2
  have q3 := HB2.out.cell 3
  have r0 := HB3.out.cell 0
  have r1 := HB3.out.cell 1
  have r2 := HB3.out.cell 2
  have r3 := HB3.out.cell 3
  simp at p0 p1 p2 q0 q1 q2 q3 r0 r1 r2 r3
  go_wp2_with fail
  refine (wide_any m c _ _ _ HM.out HE.out hlc).mono ?_
  rw [HW1.out]
  rintro e w2 ⟨rfl, hb2⟩
  replace HM := hid_ (HM.out.to hb2)
  replace HE := hid_ (HE.out.to hb2)
  replace HD := hid_ (HD.out.to hb2)
  replace HB1 := hid_ (HB1.out.to hb2)
  replace HB2 := hid_ (HB2.out.to hb2)
  replace HB3 := hid_ (HB3.out.to hb2)
  replace hbW := bnext hbW hb2
  clear hb2
  clear p0 p1 p2 q0 q1 q2 q3 r0 r1 r2 r3
  have p0 := HB1.out.cell 0
  have p1 := HB1.out.cell 1
  have p2 := HB1.out.cell 2
  have q0 := HB2.out.cell 0
  have q1 := HB2.out.cell 1
  have q2 := HB2.out.cell 2
  have q3 := HB2.out.cell 3
  have r0 := HB3.out.cell 0
  have r1 := HB3.out.cell 1
  have r2 := HB3.out.cell 2
  have r3 := HB3.out.cell 3
  simp at p0 p1 p2 q0 q1 q2 q3 r0 r1 r2 r3
  go_wp2_with fail
  refine (wide_any m d _ _ _ HM.out HD.out hld).mono ?_
  rw [HW2.out]
  rintro e w3 ⟨rfl, hb3⟩
  replace HM := hid_ (HM.out.to hb3)
  replace HE := hid_ (HE.out.to hb3)
  replace HD := hid_ (HD.out.to hb3)
  replace HB1 := hid_ (HB1.out.to hb3)
  replace HB2 := hid_ (HB2.out.to hb3)
  replace HB3 := hid_ (HB3.out.to hb3)
  replace hbW := bnext hbW hb3
  clear hb3
  clear p0 p1 p2 q0 q1 q2 q3 r0 r1 r2 r3
  have p0 := HB1.out.cell 0
  have p1 := HB1.out.cell 1
  have p2 := HB1.out.cell 2
  have q0 := HB2.out.cell 0
  have q1 := HB2.out.cell 1
  have q2 := HB2.out.cell 2
  have q3 := HB2.out.cell 3
  have r0 := HB3.out.cell 0
  have r1 := HB3.out.cell 1
  have r2 := HB3.out.cell 2
  have r3 := HB3.out.cell 3
  simp at p0 p1 p2 q0 q1 q2 q3 r0 r1 r2 r3
  go_wp2_with fail
  refine (awake_any mx _ (keepc hbW HMX.out)).mono ?_
  rintro e w99 ⟨rfl, hb99⟩
  go_wp2_with fail
  go_ret
  exact ⟨rfl, bnext hbW hb99⟩

set_option maxRecDepth 100000 in
set_option maxHeartbeats 8000000 in
theorem near_e2 (hm : MachIn w w.heap.size v m) (hE : Elems w w.heap.size u (ints c.cells)) (hD : Elems w w.heap.size x (ints d.cells)) (hlc : c.cells.length ≤ 17592186044416) (hld : d.cells.length ≤ 17592186044416) (hmx : w.cell? ⟨0, 0, none⟩ = some (.int .i64 mx)) (hHW1 : wideT m c = false) (hHW2 : wideT m d = false) (hHF1 : fitsC m c = false)  :
    Calls Tryd.prog 8 #[.agg #[.int .i64 m.states, .int .i64 m.symbols, v], .agg #[.int .i64 c.st, .int .i64 c.pos, .int .i64 c.frm, u], .agg #[.int .i64 d.st, .int .i64 d.pos, .int .i64 d.frm, x], .int .u16 (N : Int)] w (YesL w) := by
  have HW1 := hid_ hHW1
  have HW2 := hid_ hHW2
  have HF1 := hid_ hHF1
  clear hHW1 hHW2 hHF1
  obtain ⟨A1, c1, rfl⟩ := hm.rules.form
  obtain ⟨A2, c2, rfl⟩ := hE.form
  obtain ⟨A3, c3, rfl⟩ := hD.form
  rw [ints_len] at hE hD ⊢
  rw [ints_len]
  have hbW : Below w.heap.size w (((w.alloc (.cells #[.int .i64 m.states, .int .i64 m.symbols, .slice A1 m.rules.length c1] 24)).alloc (.cells #[.int .i64 c.st, .int .i64 c.pos, .int .i64 c.frm, .slice A2 c.cells.length c2] 27)).alloc (.cells #[.int .i64 d.st, .int .i64 d.pos, .int .i64 d.frm, .slice A3 d.cells.length c3] 27)) := (below2 w _ _).alloc (by simp; omega) _
  have HM := hid_ (hm.to hbW)
  have HE := hid_ (hE.to hbW)
  have HD := hid_ (hD.to hbW)
  have HMX := hid_ hmx
  have B1 := ((Blk.new w 24 #[.int .i64 m.states, .int .i64 m.symbols, .slice A1 m.rules.length c1]).alloc (.cells #[.int .i64 c.st, .int .i64 c.pos, .int .i64 c.frm, .slice A2 c.cells.length c2] 27)).alloc (.cells #[.int .i64 d.st, .int .i64 d.pos, .int .i64 d.frm, .slice A3 d.cells.length c3] 27)
  have B2 := (Blk.new (w.alloc (.cells #[.int .i64 m.states, .int .i64 m.symbols, .slice A1 m.rules.length c1] 24)) 27 #[.int .i64 c.st, .int .i64 c.pos, .int .i64 c.frm, .slice A2 c.cells.length c2]).alloc (.cells #[.int .i64 d.st, .int .i64 d.pos, .int .i64 d.frm, .slice A3 d.cells.length c3] 27)
  rw [show (w.alloc (.cells #[.int .i64 m.states, .int .i64 m.symbols, .slice A1 m.rules.length c1] 24)).heap.size = w.heap.size + 1 by simp] at B2
  have B3 := Blk.new ((w.alloc (.cells #[.int .i64 m.states, .int .i64 m.symbols, .slice A1 m.rules.length c1] 24)).alloc (.cells #[.int .i64 c.st, .int .i64 c.pos, .int .i64 c.frm, .slice A2 c.cells.length c2] 27)) 27 #[.int .i64 d.st, .int .i64 d.pos, .int .i64 d.frm, .slice A3 d.cells.length c3]
  rw [show ((w.alloc (.cells #[.int .i64 m.states, .int .i64 m.symbols, .slice A1 m.rules.length c1] 24)).alloc (.cells #[.int .i64 c.st, .int .i64 c.pos, .int .i64 c.frm, .slice A2 c.cells.length c2] 27)).heap.size = w.heap.size + 1 + 1 by simp] at B3
  have HB1 := hid_ B1
  have HB2 := hid_ B2
  have HB3 := hid_ B3
  clear hm hE hD hmx B1 B2 B3
  go_enter Tryd.func8, Tryd.ntmps8
  go_upto_region 1 with fail
  generalize ((w.alloc (.cells #[.int .i64 m.states, .int .i64 m.symbols, .slice A1 m.rules.length c1] 24)).alloc (.cells #[.int .i64 c.st, .int .i64 c.pos, .int .i64 c.frm, .slice A2 c.cells.length c2] 27)).alloc (.cells #[.int .i64 d.st, .int .i64 d.pos, .int .i64 d.frm, .slice A3 d.cells.length c3] 27) = W at *
  have p0 := HB1.out.cell 0
  have p1 := HB1.out.cell 1
  have p2 := HB1.out.cell 2
  have q0 := HB2.out.cell 0
  have q1 := HB2.out.cell 1
  have q2 := HB2.out.cell 2
  have q3 := HB2.out.cell 3
  have r0 := HB3.out.cell 0
  have r1 := HB3.out.cell 1
  have r2 := HB3.out.cell 2
  have r3 := HB3.out.cell 3
  simp at p0 p1 p2 q0 q1 q2 q3 r0 r1 r2 r3
  go_wp2_with fail
  refine (wide_any m c _ _ _ HM.out HE.out hlc).mono ?_
  rw [HW1.out]
  rintro e w4 ⟨rfl, hb4⟩
  replace HM := hid_ (HM.out.to hb4)
  replace HE := hid_ (HE.out.to hb4)
  replace HD := hid_ (HD.out.to hb4)
  replace HB1 := hid_ (HB1.out.to hb4)
  replace HB2 := hid_ (HB2.out.to hb4)
  replace HB3 := hid_ (HB3.out.to hb4)
  replace hbW := bnext hbW hb4
  clear hb4
  clear p0 p1 p2 q0 q1 q2 q3 r0 r1 r2 r3
  have p0 := HB1.out.cell 0
  have p1 := HB1.out.cell 1
  have p2 := HB1.out.cell 2
  have q0 := HB2.out.cell 0
  have q1 := HB2.out.cell 1
  have q2 := HB2.out.cell 2
  have q3 := HB2.out.cell 3
  have r0 := HB3.out.cell 0
  have r1 := HB3.out.cell 1
  have r2 := HB3.out.cell 2
  have r3 := HB3.out.cell 3
  simp at p0 p1 p2 q0 q1 q2 q3 r0 r1 r2 r3
  go_wp2_with fail
  refine (wide_any m d _ _ _ HM.out HD.out hld).mono ?_
  rw [HW2.out]
  rintro e w5 ⟨rfl, hb5⟩
  replace HM := hid_ (HM.out.to hb5)
  replace HE := hid_ (HE.out.to hb5)
  replace HD := hid_ (HD.out.to hb5)
  replace HB1 := hid_ (HB1.out.to hb5)
  replace HB2 := hid_ (HB2.out.to hb5)
  replace HB3 := hid_ (HB3.out.to hb5)
  replace hbW := bnext hbW hb5
  clear hb5
  clear p0 p1 p2 q0 q1 q2 q3 r0 r1 r2 r3
  have p0 := HB1.out.cell 0
  have p1 := HB1.out.cell 1
  have p2 := HB1.out.cell 2
  have q0 := HB2.out.cell 0
  have q1 := HB2.out.cell 1
  have q2 := HB2.out.cell 2
  have q3 := HB2.out.cell 3
  have r0 := HB3.out.cell 0
  have r1 := HB3.out.cell 1
  have r2 := HB3.out.cell 2
  have r3 := HB3.out.cell 3
  simp at p0 p1 p2 q0 q1 q2 q3 r0 r1 r2 r3
  go_wp2_with fail
  refine (rfits_any m c _ _ _ HM.out HE.out hlc).mono ?_
  rw [HF1.out]
  rintro e w6 ⟨rfl, hb6⟩
  replace HM := hid_ (HM.out.to hb6)
  replace HE := hid_ (HE.out.to hb6)
  replace HD := hid_ (HD.out.to hb6)
  replace HB1 := hid_ (HB1.out.to hb6)
  replace HB2 := hid_ (HB2.out.to hb6)
  replace HB3 := hid_ (HB3.out.to hb6)
  replace hbW := bnext hbW hb6
  clear hb6
  clear p0 p1 p2 q0 q1 q2 q3 r0 r1 r2 r3
  have p0 := HB1.out.cell 0
  have p1 := HB1.out.cell 1
  have p2 := HB1.out.cell 2
  have q0 := HB2.out.cell 0
  have q1 := HB2.out.cell 1
  have q2 := HB2.out.cell 2
  have q3 := HB2.out.cell 3
  have r0 := HB3.out.cell 0
  have r1 := HB3.out.cell 1
  have r2 := HB3.out.cell 2
  have r3 := HB3.out.cell 3
  simp at p0 p1 p2 q0 q1 q2 q3 r0 r1 r2 r3
  go_wp2_with fail
  refine (awake_any mx _ (keepc hbW HMX.out)).mono ?_
  rintro e w99 ⟨rfl, hb99⟩
  go_wp2_with fail
  go_ret
  exact ⟨rfl, bnext hbW hb99⟩

set_option maxRecDepth 100000 in
set_option maxHeartbeats 8000000 in
theorem near_e3 (hm : MachIn w w.heap.size v m) (hE : Elems w w.heap.size u (ints c.cells)) (hD : Elems w w.heap.size x (ints d.cells)) (hlc : c.cells.length ≤ 17592186044416) (hld : d.cells.length ≤ 17592186044416) (hmx : w.cell? ⟨0, 0, none⟩ = some (.int .i64 mx)) (hHW1 : wideT m c = false) (hHW2 : wideT m d = false) (hHF1 : fitsC m c = true) (hHF2 : fitsC m d = false)  :
    Calls Tryd.prog 8 #[.agg #[.int .i64 m.states, .int .i64 m.symbols, v], .agg #[.int .i64 c.st, .int .i64 c.pos, .int .i64 c.frm, u], .agg #[.int .i64 d.st, .int .i64 d.pos, .int .i64 d.frm, x], .int .u16 (N : Int)] w (YesL w) := by
  have HW1 := hid_ hHW1
  have HW2 := hid_ hHW2
  have HF1 := hid_ hHF1
  have HF2 := hid_ hHF2
  clear hHW1 hHW2 hHF1 hHF2
  obtain ⟨A1, c1, rfl⟩ := hm.rules.form
  obtain ⟨A2, c2, rfl⟩ := hE.form
  obtain ⟨A3, c3, rfl⟩ := hD.form
  rw [ints_len] at hE hD ⊢
  rw [ints_len]
  have hbW : Below w.heap.size w (((w.alloc (.cells #[.int .i64 m.states, .int .i64 m.symbols, .slice A1 m.rules.length c1] 24)).alloc (.cells #[.int .i64 c.st, .int .i64 c.pos, .int .i64 c.frm, .slice A2 c.cells.length c2] 27)).alloc (.cells #[.int .i64 d.st, .int .i64 d.pos, .int .i64 d.frm, .slice A3 d.cells.length c3] 27)) := (below2 w _ _).alloc (by simp; omega) _
  have HM := hid_ (hm.to hbW)
  have HE := hid_ (hE.to hbW)
  have HD := hid_ (hD.to hbW)
  have HMX := hid_ hmx
  have B1 := ((Blk.new w 24 #[.int .i64 m.states, .int .i64 m.symbols, .slice A1 m.rules.length c1]).alloc (.cells #[.int .i64 c.st, .int .i64 c.pos, .int .i64 c.frm, .slice A2 c.cells.length c2] 27)).alloc (.cells #[.int .i64 d.st, .int .i64 d.pos, .int .i64 d.frm, .slice A3 d.cells.length c3] 27)
  have B2 := (Blk.new (w.alloc (.cells #[.int .i64 m.states, .int .i64 m.symbols, .slice A1 m.rules.length c1] 24)) 27 #[.int .i64 c.st, .int .i64 c.pos, .int .i64 c.frm, .slice A2 c.cells.length c2]).alloc (.cells #[.int .i64 d.st, .int .i64 d.pos, .int .i64 d.frm, .slice A3 d.cells.length c3] 27)
  rw [show (w.alloc (.cells #[.int .i64 m.states, .int .i64 m.symbols, .slice A1 m.rules.length c1] 24)).heap.size = w.heap.size + 1 by simp] at B2
  have B3 := Blk.new ((w.alloc (.cells #[.int .i64 m.states, .int .i64 m.symbols, .slice A1 m.rules.length c1] 24)).alloc (.cells #[.int .i64 c.st, .int .i64 c.pos, .int .i64 c.frm, .slice A2 c.cells.length c2] 27)) 27 #[.int .i64 d.st, .int .i64 d.pos, .int .i64 d.frm, .slice A3 d.cells.length c3]
  rw [show ((w.alloc (.cells #[.int .i64 m.states, .int .i64 m.symbols, .slice A1 m.rules.length c1] 24)).alloc (.cells #[.int .i64 c.st, .int .i64 c.pos, .int .i64 c.frm, .slice A2 c.cells.length c2] 27)).heap.size = w.heap.size + 1 + 1 by simp] at B3
  have HB1 := hid_ B1
  have HB2 := hid_ B2
  have HB3 := hid_ B3
  clear hm hE hD hmx B1 B2 B3
  go_enter Tryd.func8, Tryd.ntmps8
  go_upto_region 1 with fail
  generalize ((w.alloc (.cells #[.int .i64 m.states, .int .i64 m.symbols, .slice A1 m.rules.length c1] 24)).alloc (.cells #[.int .i64 c.st, .int .i64 c.pos, .int .i64 c.frm, .slice A2 c.cells.length c2] 27)).alloc (.cells #[.int .i64 d.st, .int .i64 d.pos, .int .i64 d.frm, .slice A3 d.cells.length c3] 27) = W at *
  have p0 := HB1.out.cell 0
  have p1 := HB1.out.cell 1
  have p2 := HB1.out.cell 2
  have q0 := HB2.out.cell 0
  have q1 := HB2.out.cell 1
  have q2 := HB2.out.cell 2
  have q3 := HB2.out.cell 3
  have r0 := HB3.out.cell 0
  have r1 := HB3.out.cell 1
  have r2 := HB3.out.cell 2
  have r3 := HB3.out.cell 3
  simp at p0 p1 p2 q0 q1 q2 q3 r0 r1 r2 r3
  go_wp2_with fail
  refine (wide_any m c _ _ _ HM.out HE.out hlc).mono ?_
  rw [HW1.out]
  rintro e w7 ⟨rfl, hb7⟩
  replace HM := hid_ (HM.out.to hb7)
  replace HE := hid_ (HE.out.to hb7)
  replace HD := hid_ (HD.out.to hb7)
  replace HB1 := hid_ (HB1.out.to hb7)
  replace HB2 := hid_ (HB2.out.to hb7)
  replace HB3 := hid_ (HB3.out.to hb7)
  replace hbW := bnext hbW hb7
  clear hb7
  clear p0 p1 p2 q0 q1 q2 q3 r0 r1 r2 r3
  have p0 := HB1.out.cell 0
  have p1 := HB1.out.cell 1
  have p2 := HB1.out.cell 2
  have q0 := HB2.out.cell 0
  have q1 := HB2.out.cell 1
  have q2 := HB2.out.cell 2
  have q3 := HB2.out.cell 3
  have r0 := HB3.out.cell 0
  have r1 := HB3.out.cell 1
  have r2 := HB3.out.cell 2
  have r3 := HB3.out.cell 3
  simp at p0 p1 p2 q0 q1 q2 q3 r0 r1 r2 r3
  go_wp2_with fail
  refine (wide_any m d _ _ _ HM.out HD.out hld).mono ?_
  rw [HW2.out]
  rintro e w8 ⟨rfl, hb8⟩
  replace HM := hid_ (HM.out.to hb8)
  replace HE := hid_ (HE.out.to hb8)
  replace HD := hid_ (HD.out.to hb8)
  replace HB1 := hid_ (HB1.out.to hb8)
  replace HB2 := hid_ (HB2.out.to hb8)
  replace HB3 := hid_ (HB3.out.to hb8)
  replace hbW := bnext hbW hb8
  clear hb8
  clear p0 p1 p2 q0 q1 q2 q3 r0 r1 r2 r3
  have p0 := HB1.out.cell 0
  have p1 := HB1.out.cell 1
  have p2 := HB1.out.cell 2
  have q0 := HB2.out.cell 0
  have q1 := HB2.out.cell 1
  have q2 := HB2.out.cell 2
  have q3 := HB2.out.cell 3
  have r0 := HB3.out.cell 0
  have r1 := HB3.out.cell 1
  have r2 := HB3.out.cell 2
  have r3 := HB3.out.cell 3
  simp at p0 p1 p2 q0 q1 q2 q3 r0 r1 r2 r3
  go_wp2_with fail
  refine (rfits_any m c _ _ _ HM.out HE.out hlc).mono ?_
  rw [HF1.out]
  rintro e w9 ⟨rfl, hb9⟩
  replace HM := hid_ (HM.out.to hb9)
  replace HE := hid_ (HE.out.to hb9)
  replace HD := hid_ (HD.out.to hb9)
  replace HB1 := hid_ (HB1.out.to hb9)
  replace HB2 := hid_ (HB2.out.to hb9)
  replace HB3 := hid_ (HB3.out.to hb9)
  replace hbW := bnext hbW hb9
  clear hb9
  clear p0 p1 p2 q0 q1 q2 q3 r0 r1 r2 r3
  have p0 := HB1.out.cell 0
  have p1 := HB1.out.cell 1
  have p2 := HB1.out.cell 2
  have q0 := HB2.out.cell 0
  have q1 := HB2.out.cell 1
  have q2 := HB2.out.cell 2
  have q3 := HB2.out.cell 3
  have r0 := HB3.out.cell 0
  have r1 := HB3.out.cell 1
  have r2 := HB3.out.cell 2
  have r3 := HB3.out.cell 3
  simp at p0 p1 p2 q0 q1 q2 q3 r0 r1 r2 r3
  go_wp2_with fail
  refine (rfits_any m d _ _ _ HM.out HD.out hld).mono ?_
  rw [HF2.out]
  rintro e w10 ⟨rfl, hb10⟩
  replace HM := hid_ (HM.out.to hb10)
  replace HE := hid_ (HE.out.to hb10)
  replace HD := hid_ (HD.out.to hb10)
  replace HB1 := hid_ (HB1.out.to hb10)
  replace HB2 := hid_ (HB2.out.to hb10)
  replace HB3 := hid_ (HB3.out.to hb10)
  replace hbW := bnext hbW hb10
  clear hb10
  clear p0 p1 p2 q0 q1 q2 q3 r0 r1 r2 r3
  have p0 := HB1.out.cell 0
  have p1 := HB1.out.cell 1
  have p2 := HB1.out.cell 2
  have q0 := HB2.out.cell 0
  have q1 := HB2.out.cell 1
  have q2 := HB2.out.cell 2
  have q3 := HB2.out.cell 3
  have r0 := HB3.out.cell 0
  have r1 := HB3.out.cell 1
  have r2 := HB3.out.cell 2
  have r3 := HB3.out.cell 3
  simp at p0 p1 p2 q0 q1 q2 q3 r0 r1 r2 r3
  go_wp2_with fail
  refine (awake_any mx _ (keepc hbW HMX.out)).mono ?_
  rintro e w99 ⟨rfl, hb99⟩
  go_wp2_with fail
  go_ret
  exact ⟨rfl, bnext hbW hb99⟩

set_option maxRecDepth 100000 in
set_option maxHeartbeats 8000000 in
theorem near_e4 (hm : MachIn w w.heap.size v m) (hE : Elems w w.heap.size u (ints c.cells)) (hD : Elems w w.heap.size x (ints d.cells)) (hlc : c.cells.length ≤ 17592186044416) (hld : d.cells.length ≤ 17592186044416) (hmx : w.cell? ⟨0, 0, none⟩ = some (.int .i64 mx)) (hHW1 : wideT m c = false) (hHW2 : wideT m d = false) (hHF1 : fitsC m c = true) (hHF2 : fitsC m d = true) (hHG1 : farC c = false)  :
    Calls Tryd.prog 8 #[.agg #[.int .i64 m.states, .int .i64 m.symbols, v], .agg #[.int .i64 c.st, .int .i64 c.pos, .int .i64 c.frm, u], .agg #[.int .i64 d.st, .int .i64 d.pos, .int .i64 d.frm, x], .int .u16 (N : Int)] w (YesL w) := by
  have HW1 := hid_ hHW1
  have HW2 := hid_ hHW2
  have HF1 := hid_ hHF1
  have HF2 := hid_ hHF2
  have HG1 := hid_ hHG1
  have HI1 := hid_ (fits_bounds hHF1)
  clear hHW1 hHW2 hHF1 hHF2 hHG1
  obtain ⟨A1, c1, rfl⟩ := hm.rules.form
  obtain ⟨A2, c2, rfl⟩ := hE.form
  obtain ⟨A3, c3, rfl⟩ := hD.form
  rw [ints_len] at hE hD ⊢
  rw [ints_len]
  have hbW : Below w.heap.size w (((w.alloc (.cells #[.int .i64 m.states, .int .i64 m.symbols, .slice A1 m.rules.length c1] 24)).alloc (.cells #[.int .i64 c.st, .int .i64 c.pos, .int .i64 c.frm, .slice A2 c.cells.length c2] 27)).alloc (.cells #[.int .i64 d.st, .int .i64 d.pos, .int .i64 d.frm, .slice A3 d.cells.length c3] 27)) := (below2 w _ _).alloc (by simp; omega) _
  have HM := hid_ (hm.to hbW)
  have HE := hid_ (hE.to hbW)
  have HD := hid_ (hD.to hbW)
  have HMX := hid_ hmx
  have B1 := ((Blk.new w 24 #[.int .i64 m.states, .int .i64 m.symbols, .slice A1 m.rules.length c1]).alloc (.cells #[.int .i64 c.st, .int .i64 c.pos, .int .i64 c.frm, .slice A2 c.cells.length c2] 27)).alloc (.cells #[.int .i64 d.st, .int .i64 d.pos, .int .i64 d.frm, .slice A3 d.cells.length c3] 27)
  have B2 := (Blk.new (w.alloc (.cells #[.int .i64 m.states, .int .i64 m.symbols, .slice A1 m.rules.length c1] 24)) 27 #[.int .i64 c.st, .int .i64 c.pos, .int .i64 c.frm, .slice A2 c.cells.length c2]).alloc (.cells #[.int .i64 d.st, .int .i64 d.pos, .int .i64 d.frm, .slice A3 d.cells.length c3] 27)
  rw [show (w.alloc (.cells #[.int .i64 m.states, .int .i64 m.symbols, .slice A1 m.rules.length c1] 24)).heap.size = w.heap.size + 1 by simp] at B2
  have B3 := Blk.new ((w.alloc (.cells #[.int .i64 m.states, .int .i64 m.symbols, .slice A1 m.rules.length c1] 24)).alloc (.cells #[.int .i64 c.st, .int .i64 c.pos, .int .i64 c.frm, .slice A2 c.cells.length c2] 27)) 27 #[.int .i64 d.st, .int .i64 d.pos, .int .i64 d.frm, .slice A3 d.cells.length c3]
  rw [show ((w.alloc (.cells #[.int .i64 m.states, .int .i64 m.symbols, .slice A1 m.rules.length c1] 24)).alloc (.cells #[.int .i64 c.st, .int .i64 c.pos, .int .i64 c.frm, .slice A2 c.cells.length c2] 27)).heap.size = w.heap.size + 1 + 1 by simp] at B3
  have HB1 := hid_ B1
  have HB2 := hid_ B2
  have HB3 := hid_ B3
  clear hm hE hD hmx B1 B2 B3
  go_enter Tryd.func8, Tryd.ntmps8
  go_upto_region 1 with fail
  generalize ((w.alloc (.cells #[.int .i64 m.states, .int .i64 m.symbols, .slice A1 m.rules.length c1] 24)).alloc (.cells #[.int .i64 c.st, .int .i64 c.pos, .int .i64 c.frm, .slice A2 c.cells.length c2] 27)).alloc (.cells #[.int .i64 d.st, .int .i64 d.pos, .int .i64 d.frm, .slice A3 d.cells.length c3] 27) = W at *
  have p0 := HB1.out.cell 0
  have p1 := HB1.out.cell 1
  have p2 := HB1.out.cell 2
  have q0 := HB2.out.cell 0
  have q1 := HB2.out.cell 1
  have q2 := HB2.out.cell 2
  have q3 := HB2.out.cell 3
  have r0 := HB3.out.cell 0
  have r1 := HB3.out.cell 1
  have r2 := HB3.out.cell 2
  have r3 := HB3.out.cell 3
  simp at p0 p1 p2 q0 q1 q2 q3 r0 r1 r2 r3
  go_wp2_with fail
  refine (wide_any m c _ _ _ HM.out HE.out hlc).mono ?_
  rw [HW1.out]
  rintro e w11 ⟨rfl, hb11⟩
  replace HM := hid_ (HM.out.to hb11)
  replace HE := hid_ (HE.out.to hb11)
  replace HD := hid_ (HD.out.to hb11)
  replace HB1 := hid_ (HB1.out.to hb11)
  replace HB2 := hid_ (HB2.out.to hb11)
  replace HB3 := hid_ (HB3.out.to hb11)
  replace hbW := bnext hbW hb11
  clear hb11
  clear p0 p1 p2 q0 q1 q2 q3 r0 r1 r2 r3
  have p0 := HB1.out.cell 0
  have p1 := HB1.out.cell 1
  have p2 := HB1.out.cell 2
  have q0 := HB2.out.cell 0
  have q1 := HB2.out.cell 1
  have q2 := HB2.out.cell 2
  have q3 := HB2.out.cell 3
  have r0 := HB3.out.cell 0
  have r1 := HB3.out.cell 1
  have r2 := HB3.out.cell 2
  have r3 := HB3.out.cell 3
  simp at p0 p1 p2 q0 q1 q2 q3 r0 r1 r2 r3
  go_wp2_with fail
  refine (wide_any m d _ _ _ HM.out HD.out hld).mono ?_
  rw [HW2.out]
  rintro e w12 ⟨rfl, hb12⟩
  replace HM := hid_ (HM.out.to hb12)
  replace HE := hid_ (HE.out.to hb12)
  replace HD := hid_ (HD.out.to hb12)
  replace HB1 := hid_ (HB1.out.to hb12)
  replace HB2 := hid_ (HB2.out.to hb12)
  replace HB3 := hid_ (HB3.out.to hb12)
  replace hbW := bnext hbW hb12
  clear hb12
  clear p0 p1 p2 q0 q1 q2 q3 r0 r1 r2 r3
  have p0 := HB1.out.cell 0
  have p1 := HB1.out.cell 1
  have p2 := HB1.out.cell 2
  have q0 := HB2.out.cell 0
  have q1 := HB2.out.cell 1
  have q2 := HB2.out.cell 2
  have q3 := HB2.out.cell 3
  have r0 := HB3.out.cell 0
  have r1 := HB3.out.cell 1
  have r2 := HB3.out.cell 2
  have r3 := HB3.out.cell 3
  simp at p0 p1 p2 q0 q1 q2 q3 r0 r1 r2 r3
  go_wp2_with fail
  refine (rfits_any m c _ _ _ HM.out HE.out hlc).mono ?_
  rw [HF1.out]
  rintro e w13 ⟨rfl, hb13⟩
  replace HM := hid_ (HM.out.to hb13)
  replace HE := hid_ (HE.out.to hb13)
  replace HD := hid_ (HD.out.to hb13)
  replace HB1 := hid_ (HB1.out.to hb13)
  replace HB2 := hid_ (HB2.out.to hb13)
  replace HB3 := hid_ (HB3.out.to hb13)
  replace hbW := bnext hbW hb13
  clear hb13
  clear p0 p1 p2 q0 q1 q2 q3 r0 r1 r2 r3
  have p0 := HB1.out.cell 0
  have p1 := HB1.out.cell 1
  have p2 := HB1.out.cell 2
  have q0 := HB2.out.cell 0
  have q1 := HB2.out.cell 1
  have q2 := HB2.out.cell 2
  have q3 := HB2.out.cell 3
  have r0 := HB3.out.cell 0
  have r1 := HB3.out.cell 1
  have r2 := HB3.out.cell 2
  have r3 := HB3.out.cell 3
  simp at p0 p1 p2 q0 q1 q2 q3 r0 r1 r2 r3
  go_wp2_with fail
  refine (rfits_any m d _ _ _ HM.out HD.out hld).mono ?_
  rw [HF2.out]
  rintro e w14 ⟨rfl, hb14⟩
  replace HM := hid_ (HM.out.to hb14)
  replace HE := hid_ (HE.out.to hb14)
  replace HD := hid_ (HD.out.to hb14)
  replace HB1 := hid_ (HB1.out.to hb14)
  replace HB2 := hid_ (HB2.out.to hb14)
  replace HB3 := hid_ (HB3.out.to hb14)
  replace hbW := bnext hbW hb14
  clear hb14
  clear p0 p1 p2 q0 q1 q2 q3 r0 r1 r2 r3
  have p0 := HB1.out.cell 0
  have p1 := HB1.out.cell 1
  have p2 := HB1.out.cell 2
  have q0 := HB2.out.cell 0
  have q1 := HB2.out.cell 1
  have q2 := HB2.out.cell 2
  have q3 := HB2.out.cell 3
  have r0 := HB3.out.cell 0
  have r1 := HB3.out.cell 1
  have r2 := HB3.out.cell 2
  have r3 := HB3.out.cell 3
  simp at p0 p1 p2 q0 q1 q2 q3 r0 r1 r2 r3
  go_wp2_with fail
  refine (far_any c _ _ HE.out HI1.out.1 HI1.out.2.1 HI1.out.2.2).mono ?_
  rw [HG1.out]
  rintro e w15 ⟨rfl, hb15⟩
  replace HM := hid_ (HM.out.to hb15)
  replace HE := hid_ (HE.out.to hb15)
  replace HD := hid_ (HD.out.to hb15)
  replace HB1 := hid_ (HB1.out.to hb15)
  replace HB2 := hid_ (HB2.out.to hb15)
  replace HB3 := hid_ (HB3.out.to hb15)
  replace hbW := bnext hbW hb15
  clear hb15
  clear p0 p1 p2 q0 q1 q2 q3 r0 r1 r2 r3
  have p0 := HB1.out.cell 0
  have p1 := HB1.out.cell 1
  have p2 := HB1.out.cell 2
  have q0 := HB2.out.cell 0
  have q1 := HB2.out.cell 1
  have q2 := HB2.out.cell 2
  have q3 := HB2.out.cell 3
  have r0 := HB3.out.cell 0
  have r1 := HB3.out.cell 1
  have r2 := HB3.out.cell 2
  have r3 := HB3.out.cell 3
  simp at p0 p1 p2 q0 q1 q2 q3 r0 r1 r2 r3
  go_wp2_with fail
  refine (awake_any mx _ (keepc hbW HMX.out)).mono ?_
  rintro e w99 ⟨rfl, hb99⟩
  go_wp2_with fail
  go_ret
  exact ⟨rfl, bnext hbW hb99⟩

set_option maxRecDepth 100000 in
set_option maxHeartbeats 8000000 in
theorem near_e5 (hm : MachIn w w.heap.size v m) (hE : Elems w w.heap.size u (ints c.cells)) (hD : Elems w w.heap.size x (ints d.cells)) (hlc : c.cells.length ≤ 17592186044416) (hld : d.cells.length ≤ 17592186044416) (hmx : w.cell? ⟨0, 0, none⟩ = some (.int .i64 mx)) (hHW1 : wideT m c = false) (hHW2 : wideT m d = false) (hHF1 : fitsC m c = true) (hHF2 : fitsC m d = true) (hHG1 : farC c = true) (hHG2 : farC d = false)  :
    Calls Tryd.prog 8 #[.agg #[.int .i64 m.states, .int .i64 m.symbols, v], .agg #[.int .i64 c.st, .int .i64 c.pos, .int .i64 c.frm, u], .agg #[.int .i64 d.st, .int .i64 d.pos, .int .i64 d.frm, x], .int .u16 (N : Int)] w (YesL w) := by
  have HW1 := hid_ hHW1
  have HW2 := hid_ hHW2
  have HF1 := hid_ hHF1
  have HF2 := hid_ hHF2
  have HG1 := hid_ hHG1
  have HG2 := hid_ hHG2
  have HI1 := hid_ (fits_bounds hHF1)
  have HI2 := hid_ (fits_bounds hHF2)
  clear hHW1 hHW2 hHF1 hHF2 hHG1 hHG2
  obtain ⟨A1, c1, rfl⟩ := hm.rules.form
  obtain ⟨A2, c2, rfl⟩ := hE.form
  obtain ⟨A3, c3, rfl⟩ := hD.form
  rw [ints_len] at hE hD ⊢
  rw [ints_len]
  have hbW : Below w.heap.size w (((w.alloc (.cells #[.int .i64 m.states, .int .i64 m.symbols, .slice A1 m.rules.length c1] 24)).alloc (.cells #[.int .i64 c.st, .int .i64 c.pos, .int .i64 c.frm, .slice A2 c.cells.length c2] 27)).alloc (.cells #[.int .i64 d.st, .int .i64 d.pos, .int .i64 d.frm, .slice A3 d.cells.length c3] 27)) := (below2 w _ _).alloc (by simp; omega) _
  have HM := hid_ (hm.to hbW)
  have HE := hid_ (hE.to hbW)
  have HD := hid_ (hD.to hbW)
  have HMX := hid_ hmx
  have B1 := ((Blk.new w 24 #[.int .i64 m.states, .int .i64 m.symbols, .slice A1 m.rules.length c1]).alloc (.cells #[.int .i64 c.st, .int .i64 c.pos, .int .i64 c.frm, .slice A2 c.cells.length c2] 27)).alloc (.cells #[.int .i64 d.st, .int .i64 d.pos, .int .i64 d.frm, .slice A3 d.cells.length c3] 27)
  have B2 := (Blk.new (w.alloc (.cells #[.int .i64 m.states, .int .i64 m.symbols, .slice A1 m.rules.length c1] 24)) 27 #[.int .i64 c.st, .int .i64 c.pos, .int .i64 c.frm, .slice A2 c.cells.length c2]).alloc (.cells #[.int .i64 d.st, .int .i64 d.pos, .int .i64 d.frm, .slice A3 d.cells.length c3] 27)
  rw [show (w.alloc (.cells #[.int .i64 m.states, .int .i64 m.symbols, .slice A1 m.rules.length c1] 24)).heap.size = w.heap.size + 1 by simp] at B2
  have B3 := Blk.new ((w.alloc (.cells #[.int .i64 m.states, .int .i64 m.symbols, .slice A1 m.rules.length c1] 24)).alloc (.cells #[.int .i64 c.st, .int .i64 c.pos, .int .i64 c.frm, .slice A2 c.cells.length c2] 27)) 27 #[.int .i64 d.st, .int .i64 d.pos, .int .i64 d.frm, .slice A3 d.cells.length c3]
  rw [show ((w.alloc (.cells #[.int .i64 m.states, .int .i64 m.symbols, .slice A1 m.rules.length c1] 24)).alloc (.cells #[.int .i64 c.st, .int .i64 c.pos, .int .i64 c.frm, .slice A2 c.cells.length c2] 27)).heap.size = w.heap.size + 1 + 1 by simp] at B3
  have HB1 := hid_ B1
  have HB2 := hid_ B2
  have HB3 := hid_ B3
  clear hm hE hD hmx B1 B2 B3
  go_enter Tryd.func8, Tryd.ntmps8
  go_upto_region 1 with fail
  generalize ((w.alloc (.cells #[.int .i64 m.states, .int .i64 m.symbols, .slice A1 m.rules.length c1] 24)).alloc (.cells #[.int .i64 c.st, .int .i64 c.pos, .int .i64 c.frm, .slice A2 c.cells.length c2] 27)).alloc (.cells #[.int .i64 d.st, .int .i64 d.pos, .int .i64 d.frm, .slice A3 d.cells.length c3] 27) = W at *
  have p0 := HB1.out.cell 0
  have p1 := HB1.out.cell 1
  have p2 := HB1.out.cell 2
  have q0 := HB2.out.cell 0
  have q1 := HB2.out.cell 1
  have q2 := HB2.out.cell 2
  have q3 := HB2.out.cell 3
  have r0 := HB3.out.cell 0
  have r1 := HB3.out.cell 1
  have r2 := HB3.out.cell 2
  have r3 := HB3.out.cell 3
  simp at p0 p1 p2 q0 q1 q2 q3 r0 r1 r2 r3
  go_wp2_with fail
  refine (wide_any m c _ _ _ HM.out HE.out hlc).mono ?_
  rw [HW1.out]
  rintro e w16 ⟨rfl, hb16⟩
  replace HM := hid_ (HM.out.to hb16)
  replace HE := hid_ (HE.out.to hb16)
  replace HD := hid_ (HD.out.to hb16)
  replace HB1 := hid_ (HB1.out.to hb16)
  replace HB2 := hid_ (HB2.out.to hb16)
  replace HB3 := hid_ (HB3.out.to hb16)
  replace hbW := bnext hbW hb16
  clear hb16
  clear p0 p1 p2 q0 q1 q2 q3 r0 r1 r2 r3
  have p0 := HB1.out.cell 0
  have p1 := HB1.out.cell 1
  have p2 := HB1.out.cell 2
  have q0 := HB2.out.cell 0
  have q1 := HB2.out.cell 1
  have q2 := HB2.out.cell 2
  have q3 := HB2.out.cell 3
  have r0 := HB3.out.cell 0
  have r1 := HB3.out.cell 1
  have r2 := HB3.out.cell 2
  have r3 := HB3.out.cell 3
  simp at p0 p1 p2 q0 q1 q2 q3 r0 r1 r2 r3
  go_wp2_with fail
  refine (wide_any m d _ _ _ HM.out HD.out hld).mono ?_
  rw [HW2.out]
  rintro e w17 ⟨rfl, hb17⟩
  replace HM := hid_ (HM.out.to hb17)
  replace HE := hid_ (HE.out.to hb17)
  replace HD := hid_ (HD.out.to hb17)
  replace HB1 := hid_ (HB1.out.to hb17)
  replace HB2 := hid_ (HB2.out.to hb17)
  replace HB3 := hid_ (HB3.out.to hb17)
  replace hbW := bnext hbW hb17
  clear hb17
  clear p0 p1 p2 q0 q1 q2 q3 r0 r1 r2 r3
  have p0 := HB1.out.cell 0
  have p1 := HB1.out.cell 1
  have p2 := HB1.out.cell 2
  have q0 := HB2.out.cell 0
  have q1 := HB2.out.cell 1
  have q2 := HB2.out.cell 2
  have q3 := HB2.out.cell 3
  have r0 := HB3.out.cell 0
  have r1 := HB3.out.cell 1
  have r2 := HB3.out.cell 2
  have r3 := HB3.out.cell 3
  simp at p0 p1 p2 q0 q1 q2 q3 r0 r1 r2 r3
  go_wp2_with fail
  refine (rfits_any m c _ _ _ HM.out HE.out hlc).mono ?_
  rw [HF1.out]
  rintro e w18 ⟨rfl, hb18⟩
  replace HM := hid_ (HM.out.to hb18)
  replace HE := hid_ (HE.out.to hb18)
  replace HD := hid_ (HD.out.to hb18)
  replace HB1 := hid_ (HB1.out.to hb18)
  replace HB2 := hid_ (HB2.out.to hb18)
  replace HB3 := hid_ (HB3.out.to hb18)
  replace hbW := bnext hbW hb18
  clear hb18
  clear p0 p1 p2 q0 q1 q2 q3 r0 r1 r2 r3
  have p0 := HB1.out.cell 0
  have p1 := HB1.out.cell 1
  have p2 := HB1.out.cell 2
  have q0 := HB2.out.cell 0
  have q1 := HB2.out.cell 1
  have q2 := HB2.out.cell 2
  have q3 := HB2.out.cell 3
  have r0 := HB3.out.cell 0
  have r1 := HB3.out.cell 1
  have r2 := HB3.out.cell 2
  have r3 := HB3.out.cell 3
  simp at p0 p1 p2 q0 q1 q2 q3 r0 r1 r2 r3
  go_wp2_with fail
  refine (rfits_any m d _ _ _ HM.out HD.out hld).mono ?_
  rw [HF2.out]
  rintro e w19 ⟨rfl, hb19⟩
  replace HM := hid_ (HM.out.to hb19)
  replace HE := hid_ (HE.out.to hb19)
  replace HD := hid_ (HD.out.to hb19)
  replace HB1 := hid_ (HB1.out.to hb19)
  replace HB2 := hid_ (HB2.out.to hb19)
  replace HB3 := hid_ (HB3.out.to hb19)
  replace hbW := bnext hbW hb19
  clear hb19
  clear p0 p1 p2 q0 q1 q2 q3 r0 r1 r2 r3
  have p0 := HB1.out.cell 0
  have p1 := HB1.out.cell 1
  have p2 := HB1.out.cell 2
  have q0 := HB2.out.cell 0
  have q1 := HB2.out.cell 1
  have q2 := HB2.out.cell 2
  have q3 := HB2.out.cell 3
  have r0 := HB3.out.cell 0
  have r1 := HB3.out.cell 1
  have r2 := HB3.out.cell 2
  have r3 := HB3.out.cell 3
  simp at p0 p1 p2 q0 q1 q2 q3 r0 r1 r2 r3
  go_wp2_with fail
  refine (far_any c _ _ HE.out HI1.out.1 HI1.out.2.1 HI1.out.2.2).mono ?_
  rw [HG1.out]
  rintro e w20 ⟨rfl, hb20⟩
  replace HM := hid_ (HM.out.to hb20)
  replace HE := hid_ (HE.out.to hb20)
  replace HD := hid_ (HD.out.to hb20)
  replace HB1 := hid_ (HB1.out.to hb20)
  replace HB2 := hid_ (HB2.out.to hb20)
  replace HB3 := hid_ (HB3.out.to hb20)
  replace hbW := bnext hbW hb20
  clear hb20
  clear p0 p1 p2 q0 q1 q2 q3 r0 r1 r2 r3
  have p0 := HB1.out.cell 0
  have p1 := HB1.out.cell 1
  have p2 := HB1.out.cell 2
  have q0 := HB2.out.cell 0
  have q1 := HB2.out.cell 1
  have q2 := HB2.out.cell 2
  have q3 := HB2.out.cell 3
  have r0 := HB3.out.cell 0
  have r1 := HB3.out.cell 1
  have r2 := HB3.out.cell 2
  have r3 := HB3.out.cell 3
  simp at p0 p1 p2 q0 q1 q2 q3 r0 r1 r2 r3
  go_wp2_with fail
  refine (far_any d _ _ HD.out HI2.out.1 HI2.out.2.1 HI2.out.2.2).mono ?_
  rw [HG2.out]
  rintro e w21 ⟨rfl, hb21⟩
  replace HM := hid_ (HM.out.to hb21)
  replace HE := hid_ (HE.out.to hb21)
  replace HD := hid_ (HD.out.to hb21)
  replace HB1 := hid_ (HB1.out.to hb21)
  replace HB2 := hid_ (HB2.out.to hb21)
  replace HB3 := hid_ (HB3.out.to hb21)
  replace hbW := bnext hbW hb21
  clear hb21
  clear p0 p1 p2 q0 q1 q2 q3 r0 r1 r2 r3
  have p0 := HB1.out.cell 0
  have p1 := HB1.out.cell 1
  have p2 := HB1.out.cell 2
  have q0 := HB2.out.cell 0
  have q1 := HB2.out.cell 1
  have q2 := HB2.out.cell 2
  have q3 := HB2.out.cell 3
  have r0 := HB3.out.cell 0
  have r1 := HB3.out.cell 1
  have r2 := HB3.out.cell 2
  have r3 := HB3.out.cell 3
  simp at p0 p1 p2 q0 q1 q2 q3 r0 r1 r2 r3
  go_wp2_with fail
  refine (awake_any mx _ (keepc hbW HMX.out)).mono ?_
  rintro e w99 ⟨rfl, hb99⟩
  go_wp2_with fail
  go_ret
  exact ⟨rfl, bnext hbW hb99⟩

set_option maxRecDepth 100000 in
set_option maxHeartbeats 8000000 in
theorem near_e6 (hm : MachIn w w.heap.size v m) (hE : Elems w w.heap.size u (ints c.cells)) (hD : Elems w w.heap.size x (ints d.cells)) (hlc : c.cells.length ≤ 17592186044416) (hld : d.cells.length ≤ 17592186044416) (hmx : w.cell? ⟨0, 0, none⟩ = some (.int .i64 mx)) (hHW1 : wideT m c = false) (hHW2 : wideT m d = false) (hHF1 : fitsC m c = true) (hHF2 : fitsC m d = true) (hHG1 : farC c = true) (hHG2 : farC d = true) (hne : d.pos ≠ c.pos) :
    Calls Tryd.prog 8 #[.agg #[.int .i64 m.states, .int .i64 m.symbols, v], .agg #[.int .i64 c.st, .int .i64 c.pos, .int .i64 c.frm, u], .agg #[.int .i64 d.st, .int .i64 d.pos, .int .i64 d.frm, x], .int .u16 (N : Int)] w (YesL w) := by
  have HW1 := hid_ hHW1
  have HW2 := hid_ hHW2
  have HF1 := hid_ hHF1
  have HF2 := hid_ hHF2
  have HG1 := hid_ hHG1
  have HG2 := hid_ hHG2
  have HI1 := hid_ (fits_bounds hHF1)
  have HI2 := hid_ (fits_bounds hHF2)
  clear hHW1 hHW2 hHF1 hHF2 hHG1 hHG2
  obtain ⟨A1, c1, rfl⟩ := hm.rules.form
  obtain ⟨A2, c2, rfl⟩ := hE.form
  obtain ⟨A3, c3, rfl⟩ := hD.form
  rw [ints_len] at hE hD ⊢
  rw [ints_len]
  have hbW : Below w.heap.size w (((w.alloc (.cells #[.int .i64 m.states, .int .i64 m.symbols, .slice A1 m.rules.length c1] 24)).alloc (.cells #[.int .i64 c.st, .int .i64 c.pos, .int .i64 c.frm, .slice A2 c.cells.length c2] 27)).alloc (.cells #[.int .i64 d.st, .int .i64 d.pos, .int .i64 d.frm, .slice A3 d.cells.length c3] 27)) := (below2 w _ _).alloc (by simp; omega) _
  have HM := hid_ (hm.to hbW)
  have HE := hid_ (hE.to hbW)
  have HD := hid_ (hD.to hbW)
  have HMX := hid_ hmx
  have B1 := ((Blk.new w 24 #[.int .i64 m.states, .int .i64 m.symbols, .slice A1 m.rules.length c1]).alloc (.cells #[.int .i64 c.st, .int .i64 c.pos, .int .i64 c.frm, .slice A2 c.cells.length c2] 27)).alloc (.cells #[.int .i64 d.st, .int .i64 d.pos, .int .i64 d.frm, .slice A3 d.cells.length c3] 27)
  have B2 := (Blk.new (w.alloc (.cells #[.int .i64 m.states, .int .i64 m.symbols, .slice A1 m.rules.length c1] 24)) 27 #[.int .i64 c.st, .int .i64 c.pos, .int .i64 c.frm, .slice A2 c.cells.length c2]).alloc (.cells #[.int .i64 d.st, .int .i64 d.pos, .int .i64 d.frm, .slice A3 d.cells.length c3] 27)
  rw [show (w.alloc (.cells #[.int .i64 m.states, .int .i64 m.symbols, .slice A1 m.rules.length c1] 24)).heap.size = w.heap.size + 1 by simp] at B2
  have B3 := Blk.new ((w.alloc (.cells #[.int .i64 m.states, .int .i64 m.symbols, .slice A1 m.rules.length c1] 24)).alloc (.cells #[.int .i64 c.st, .int .i64 c.pos, .int .i64 c.frm, .slice A2 c.cells.length c2] 27)) 27 #[.int .i64 d.st, .int .i64 d.pos, .int .i64 d.frm, .slice A3 d.cells.length c3]
  rw [show ((w.alloc (.cells #[.int .i64 m.states, .int .i64 m.symbols, .slice A1 m.rules.length c1] 24)).alloc (.cells #[.int .i64 c.st, .int .i64 c.pos, .int .i64 c.frm, .slice A2 c.cells.length c2] 27)).heap.size = w.heap.size + 1 + 1 by simp] at B3
  have HB1 := hid_ B1
  have HB2 := hid_ B2
  have HB3 := hid_ B3
  clear hm hE hD hmx B1 B2 B3
  have t1 : (d.pos != c.pos) = true := by simpa using hne
  clear hne
  go_enter Tryd.func8, Tryd.ntmps8
  go_upto_region 1 with fail
  generalize ((w.alloc (.cells #[.int .i64 m.states, .int .i64 m.symbols, .slice A1 m.rules.length c1] 24)).alloc (.cells #[.int .i64 c.st, .int .i64 c.pos, .int .i64 c.frm, .slice A2 c.cells.length c2] 27)).alloc (.cells #[.int .i64 d.st, .int .i64 d.pos, .int .i64 d.frm, .slice A3 d.cells.length c3] 27) = W at *
  have p0 := HB1.out.cell 0
  have p1 := HB1.out.cell 1
  have p2 := HB1.out.cell 2
  have q0 := HB2.out.cell 0
  have q1 := HB2.out.cell 1
  have q2 := HB2.out.cell 2
  have q3 := HB2.out.cell 3
  have r0 := HB3.out.cell 0
  have r1 := HB3.out.cell 1
  have r2 := HB3.out.cell 2
  have r3 := HB3.out.cell 3
  simp at p0 p1 p2 q0 q1 q2 q3 r0 r1 r2 r3
  go_wp2_with fail
  refine (wide_any m c _ _ _ HM.out HE.out hlc).mono ?_
  rw [HW1.out]
  rintro e w22 ⟨rfl, hb22⟩
  replace HM := hid_ (HM.out.to hb22)
  replace HE := hid_ (HE.out.to hb22)
  replace HD := hid_ (HD.out.to hb22)
  replace HB1 := hid_ (HB1.out.to hb22)
  replace HB2 := hid_ (HB2.out.to hb22)
  replace HB3 := hid_ (HB3.out.to hb22)
  replace hbW := bnext hbW hb22
  clear hb22
  clear p0 p1 p2 q0 q1 q2 q3 r0 r1 r2 r3
  have p0 := HB1.out.cell 0
  have p1 := HB1.out.cell 1
  have p2 := HB1.out.cell 2
  have q0 := HB2.out.cell 0
  have q1 := HB2.out.cell 1
  have q2 := HB2.out.cell 2
  have q3 := HB2.out.cell 3
  have r0 := HB3.out.cell 0
  have r1 := HB3.out.cell 1
  have r2 := HB3.out.cell 2
  have r3 := HB3.out.cell 3
  simp at p0 p1 p2 q0 q1 q2 q3 r0 r1 r2 r3
  go_wp2_with fail
  refine (wide_any m d _ _ _ HM.out HD.out hld).mono ?_
  rw [HW2.out]
  rintro e w23 ⟨rfl, hb23⟩
  replace HM := hid_ (HM.out.to hb23)
  replace HE := hid_ (HE.out.to hb23)
  replace HD := hid_ (HD.out.to hb23)
  replace HB1 := hid_ (HB1.out.to hb23)
  replace HB2 := hid_ (HB2.out.to hb23)
  replace HB3 := hid_ (HB3.out.to hb23)
  replace hbW := bnext hbW hb23
  clear hb23
  clear p0 p1 p2 q0 q1 q2 q3 r0 r1 r2 r3
  have p0 := HB1.out.cell 0
  have p1 := HB1.out.cell 1
  have p2 := HB1.out.cell 2
  have q0 := HB2.out.cell 0
  have q1 := HB2.out.cell 1
  have q2 := HB2.out.cell 2
  have q3 := HB2.out.cell 3
  have r0 := HB3.out.cell 0
  have r1 := HB3.out.cell 1
  have r2 := HB3.out.cell 2
  have r3 := HB3.out.cell 3
  simp at p0 p1 p2 q0 q1 q2 q3 r0 r1 r2 r3
  go_wp2_with fail
  refine (rfits_any m c _ _ _ HM.out HE.out hlc).mono ?_
  rw [HF1.out]
  rintro e w24 ⟨rfl, hb24⟩
  replace HM := hid_ (HM.out.to hb24)
  replace HE := hid_ (HE.out.to hb24)
  replace HD := hid_ (HD.out.to hb24)
  replace HB1 := hid_ (HB1.out.to hb24)
  replace HB2 := hid_ (HB2.out.to hb24)
  replace HB3 := hid_ (HB3.out.to hb24)
  replace hbW := bnext hbW hb24
  clear hb24
  clear p0 p1 p2 q0 q1 q2 q3 r0 r1 r2 r3
  have p0 := HB1.out.cell 0
  have p1 := HB1.out.cell 1
  have p2 := HB1.out.cell 2
  have q0 := HB2.out.cell 0
  have q1 := HB2.out.cell 1
  have q2 := HB2.out.cell 2
  have q3 := HB2.out.cell 3
  have r0 := HB3.out.cell 0
  have r1 := HB3.out.cell 1
  have r2 := HB3.out.cell 2
  have r3 := HB3.out.cell 3
  simp at p0 p1 p2 q0 q1 q2 q3 r0 r1 r2 r3
  go_wp2_with fail
  refine (rfits_any m d _ _ _ HM.out HD.out hld).mono ?_
  rw [HF2.out]
  rintro e w25 ⟨rfl, hb25⟩
  replace HM := hid_ (HM.out.to hb25)
  replace HE := hid_ (HE.out.to hb25)
  replace HD := hid_ (HD.out.to hb25)
  replace HB1 := hid_ (HB1.out.to hb25)
  replace HB2 := hid_ (HB2.out.to hb25)
  replace HB3 := hid_ (HB3.out.to hb25)
  replace hbW := bnext hbW hb25
  clear hb25
  clear p0 p1 p2 q0 q1 q2 q3 r0 r1 r2 r3
  have p0 := HB1.out.cell 0
  have p1 := HB1.out.cell 1
  have p2 := HB1.out.cell 2
  have q0 := HB2.out.cell 0
  have q1 := HB2.out.cell 1
  have q2 := HB2.out.cell 2
  have q3 := HB2.out.cell 3
  have r0 := HB3.out.cell 0
  have r1 := HB3.out.cell 1
  have r2 := HB3.out.cell 2
  have r3 := HB3.out.cell 3
  simp at p0 p1 p2 q0 q1 q2 q3 r0 r1 r2 r3
  go_wp2_with fail
  refine (far_any c _ _ HE.out HI1.out.1 HI1.out.2.1 HI1.out.2.2).mono ?_
  rw [HG1.out]
  rintro e w26 ⟨rfl, hb26⟩
  replace HM := hid_ (HM.out.to hb26)
  replace HE := hid_ (HE.out.to hb26)
  replace HD := hid_ (HD.out.to hb26)
  replace HB1 := hid_ (HB1.out.to hb26)
  replace HB2 := hid_ (HB2.out.to hb26)
  replace HB3 := hid_ (HB3.out.to hb26)
  replace hbW := bnext hbW hb26
  clear hb26
  clear p0 p1 p2 q0 q1 q2 q3 r0 r1 r2 r3
  have p0 := HB1.out.cell 0
  have p1 := HB1.out.cell 1
  have p2 := HB1.out.cell 2
  have q0 := HB2.out.cell 0
  have q1 := HB2.out.cell 1
  have q2 := HB2.out.cell 2
  have q3 := HB2.out.cell 3
  have r0 := HB3.out.cell 0
  have r1 := HB3.out.cell 1
  have r2 := HB3.out.cell 2
  have r3 := HB3.out.cell 3
  simp at p0 p1 p2 q0 q1 q2 q3 r0 r1 r2 r3
  go_wp2_with fail
  refine (far_any d _ _ HD.out HI2.out.1 HI2.out.2.1 HI2.out.2.2).mono ?_
  rw [HG2.out]
  rintro e w27 ⟨rfl, hb27⟩
  replace HM := hid_ (HM.out.to hb27)
  replace HE := hid_ (HE.out.to hb27)
  replace HD := hid_ (HD.out.to hb27)
  replace HB1 := hid_ (HB1.out.to hb27)
  replace HB2 := hid_ (HB2.out.to hb27)
  replace HB3 := hid_ (HB3.out.to hb27)
  replace hbW := bnext hbW hb27
  clear hb27
  clear p0 p1 p2 q0 q1 q2 q3 r0 r1 r2 r3
  have p0 := HB1.out.cell 0
  have p1 := HB1.out.cell 1
  have p2 := HB1.out.cell 2
  have q0 := HB2.out.cell 0
  have q1 := HB2.out.cell 1
  have q2 := HB2.out.cell 2
  have q3 := HB2.out.cell 3
  have r0 := HB3.out.cell 0
  have r1 := HB3.out.cell 1
  have r2 := HB3.out.cell 2
  have r3 := HB3.out.cell 3
  simp at p0 p1 p2 q0 q1 q2 q3 r0 r1 r2 r3
  go_wp2_with fail
  refine (awake_any mx _ (keepc hbW HMX.out)).mono ?_
  rintro e w99 ⟨rfl, hb99⟩
  go_wp2_with fail
  go_ret
  exact ⟨rfl, bnext hbW hb99⟩

set_option maxRecDepth 100000 in
set_option maxHeartbeats 8000000 in
theorem near_e7 (hm : MachIn w w.heap.size v m) (hE : Elems w w.heap.size u (ints c.cells)) (hD : Elems w w.heap.size x (ints d.cells)) (hlc : c.cells.length ≤ 17592186044416) (hld : d.cells.length ≤ 17592186044416) (hmx : w.cell? ⟨0, 0, none⟩ = some (.int .i64 mx)) (hHW1 : wideT m c = false) (hHW2 : wideT m d = false) (hHF1 : fitsC m c = true) (hHF2 : fitsC m d = true) (hHG1 : farC c = true) (hHG2 : farC d = true) (hep : d.pos = c.pos) (hne : d.st ≠ c.st) :
    Calls Tryd.prog 8 #[.agg #[.int .i64 m.states, .int .i64 m.symbols, v], .agg #[.int .i64 c.st, .int .i64 c.pos, .int .i64 c.frm, u], .agg #[.int .i64 d.st, .int .i64 d.pos, .int .i64 d.frm, x], .int .u16 (N : Int)] w (YesL w) := by
  have HW1 := hid_ hHW1
  have HW2 := hid_ hHW2
  have HF1 := hid_ hHF1
  have HF2 := hid_ hHF2
  have HG1 := hid_ hHG1
  have HG2 := hid_ hHG2
  have HI1 := hid_ (fits_bounds hHF1)
  have HI2 := hid_ (fits_bounds hHF2)
  clear hHW1 hHW2 hHF1 hHF2 hHG1 hHG2
  obtain ⟨A1, c1, rfl⟩ := hm.rules.form
  obtain ⟨A2, c2, rfl⟩ := hE.form
  obtain ⟨A3, c3, rfl⟩ := hD.form
  rw [ints_len] at hE hD ⊢
  rw [ints_len]
  have hbW : Below w.heap.size w (((w.alloc (.cells #[.int .i64 m.states, .int .i64 m.symbols, .slice A1 m.rules.length c1] 24)).alloc (.cells #[.int .i64 c.st, .int .i64 c.pos, .int .i64 c.frm, .slice A2 c.cells.length c2] 27)).alloc (.cells #[.int .i64 d.st, .int .i64 d.pos, .int .i64 d.frm, .slice A3 d.cells.length c3] 27)) := (below2 w _ _).alloc (by simp; omega) _
  have HM := hid_ (hm.to hbW)
  have HE := hid_ (hE.to hbW)
  have HD := hid_ (hD.to hbW)
  have HMX := hid_ hmx
  have B1 := ((Blk.new w 24 #[.int .i64 m.states, .int .i64 m.symbols, .slice A1 m.rules.length c1]).alloc (.cells #[.int .i64 c.st, .int .i64 c.pos, .int .i64 c.frm, .slice A2 c.cells.length c2] 27)).alloc (.cells #[.int .i64 d.st, .int .i64 d.pos, .int .i64 d.frm, .slice A3 d.cells.length c3] 27)
  have B2 := (Blk.new (w.alloc (.cells #[.int .i64 m.states, .int .i64 m.symbols, .slice A1 m.rules.length c1] 24)) 27 #[.int .i64 c.st, .int .i64 c.pos, .int .i64 c.frm, .slice A2 c.cells.length c2]).alloc (.cells #[.int .i64 d.st, .int .i64 d.pos, .int .i64 d.frm, .slice A3 d.cells.length c3] 27)
  rw [show (w.alloc (.cells #[.int .i64 m.states, .int .i64 m.symbols, .slice A1 m.rules.length c1] 24)).heap.size = w.heap.size + 1 by simp] at B2
  have B3 := Blk.new ((w.alloc (.cells #[.int .i64 m.states, .int .i64 m.symbols, .slice A1 m.rules.length c1] 24)).alloc (.cells #[.int .i64 c.st, .int .i64 c.pos, .int .i64 c.frm, .slice A2 c.cells.length c2] 27)) 27 #[.int .i64 d.st, .int .i64 d.pos, .int .i64 d.frm, .slice A3 d.cells.length c3]
  rw [show ((w.alloc (.cells #[.int .i64 m.states, .int .i64 m.symbols, .slice A1 m.rules.length c1] 24)).alloc (.cells #[.int .i64 c.st, .int .i64 c.pos, .int .i64 c.frm, .slice A2 c.cells.length c2] 27)).heap.size = w.heap.size + 1 + 1 by simp] at B3
  have HB1 := hid_ B1
  have HB2 := hid_ B2
  have HB3 := hid_ B3
  clear hm hE hD hmx B1 B2 B3
  have t1 : (d.pos != c.pos) = false := by simpa using hep
  have t2 : (d.st != c.st) = true := by simpa using hne
  clear hne hep
  go_enter Tryd.func8, Tryd.ntmps8
  go_upto_region 1 with fail
  generalize ((w.alloc (.cells #[.int .i64 m.states, .int .i64 m.symbols, .slice A1 m.rules.length c1] 24)).alloc (.cells #[.int .i64 c.st, .int .i64 c.pos, .int .i64 c.frm, .slice A2 c.cells.length c2] 27)).alloc (.cells #[.int .i64 d.st, .int .i64 d.pos, .int .i64 d.frm, .slice A3 d.cells.length c3] 27) = W at *
  have p0 := HB1.out.cell 0
  have p1 := HB1.out.cell 1
  have p2 := HB1.out.cell 2
  have q0 := HB2.out.cell 0
  have q1 := HB2.out.cell 1
  have q2 := HB2.out.cell 2
  have q3 := HB2.out.cell 3
  have r0 := HB3.out.cell 0
  have r1 := HB3.out.cell 1
  have r2 := HB3.out.cell 2
  have r3 := HB3.out.cell 3
  simp at p0 p1 p2 q0 q1 q2 q3 r0 r1 r2 r3
  go_wp2_with fail
  refine (wide_any m c _ _ _ HM.out HE.out hlc).mono ?_
  rw [HW1.out]
  rintro e w28 ⟨rfl, hb28⟩
  replace HM := hid_ (HM.out.to hb28)
  replace HE := hid_ (HE.out.to hb28)
  replace HD := hid_ (HD.out.to hb28)
  replace HB1 := hid_ (HB1.out.to hb28)
  replace HB2 := hid_ (HB2.out.to hb28)
  replace HB3 := hid_ (HB3.out.to hb28)
  replace hbW := bnext hbW hb28
  clear hb28
  clear p0 p1 p2 q0 q1 q2 q3 r0 r1 r2 r3
  have p0 := HB1.out.cell 0
  have p1 := HB1.out.cell 1
  have p2 := HB1.out.cell 2
  have q0 := HB2.out.cell 0
  have q1 := HB2.out.cell 1
  have q2 := HB2.out.cell 2
  have q3 := HB2.out.cell 3
  have r0 := HB3.out.cell 0
  have r1 := HB3.out.cell 1
  have r2 := HB3.out.cell 2
  have r3 := HB3.out.cell 3
  simp at p0 p1 p2 q0 q1 q2 q3 r0 r1 r2 r3
  go_wp2_with fail
  refine (wide_any m d _ _ _ HM.out HD.out hld).mono ?_
  rw [HW2.out]
  rintro e w29 ⟨rfl, hb29⟩
  replace HM := hid_ (HM.out.to hb29)
  replace HE := hid_ (HE.out.to hb29)
  replace HD := hid_ (HD.out.to hb29)
  replace HB1 := hid_ (HB1.out.to hb29)
  replace HB2 := hid_ (HB2.out.to hb29)
  replace HB3 := hid_ (HB3.out.to hb29)
  replace hbW := bnext hbW hb29
  clear hb29
  clear p0 p1 p2 q0 q1 q2 q3 r0 r1 r2 r3
  have p0 := HB1.out.cell 0
  have p1 := HB1.out.cell 1
  have p2 := HB1.out.cell 2
  have q0 := HB2.out.cell 0
  have q1 := HB2.out.cell 1
  have q2 := HB2.out.cell 2
  have q3 := HB2.out.cell 3
  have r0 := HB3.out.cell 0
  have r1 := HB3.out.cell 1
  have r2 := HB3.out.cell 2
  have r3 := HB3.out.cell 3
  simp at p0 p1 p2 q0 q1 q2 q3 r0 r1 r2 r3
  go_wp2_with fail
  refine (rfits_any m c _ _ _ HM.out HE.out hlc).mono ?_
  rw [HF1.out]
  rintro e w30 ⟨rfl, hb30⟩
  replace HM := hid_ (HM.out.to hb30)
  replace HE := hid_ (HE.out.to hb30)
  replace HD := hid_ (HD.out.to hb30)
  replace HB1 := hid_ (HB1.out.to hb30)
  replace HB2 := hid_ (HB2.out.to hb30)
  replace HB3 := hid_ (HB3.out.to hb30)
  replace hbW := bnext hbW hb30
  clear hb30
  clear p0 p1 p2 q0 q1 q2 q3 r0 r1 r2 r3
  have p0 := HB1.out.cell 0
  have p1 := HB1.out.cell 1
  have p2 := HB1.out.cell 2
  have q0 := HB2.out.cell 0
  have q1 := HB2.out.cell 1
  have q2 := HB2.out.cell 2
  have q3 := HB2.out.cell 3
  have r0 := HB3.out.cell 0
  have r1 := HB3.out.cell 1
  have r2 := HB3.out.cell 2
  have r3 := HB3.out.cell 3
  simp at p0 p1 p2 q0 q1 q2 q3 r0 r1 r2 r3
  go_wp2_with fail
  refine (rfits_any m d _ _ _ HM.out HD.out hld).mono ?_
  rw [HF2.out]
  rintro e w31 ⟨rfl, hb31⟩
  replace HM := hid_ (HM.out.to hb31)
  replace HE := hid_ (HE.out.to hb31)
  replace HD := hid_ (HD.out.to hb31)
  replace HB1 := hid_ (HB1.out.to hb31)
  replace HB2 := hid_ (HB2.out.to hb31)
  replace HB3 := hid_ (HB3.out.to hb31)
  replace hbW := bnext hbW hb31
  clear hb31
  clear p0 p1 p2 q0 q1 q2 q3 r0 r1 r2 r3
  have p0 := HB1.out.cell 0
  have p1 := HB1.out.cell 1
  have p2 := HB1.out.cell 2
  have q0 := HB2.out.cell 0
  have q1 := HB2.out.cell 1
  have q2 := HB2.out.cell 2
  have q3 := HB2.out.cell 3
  have r0 := HB3.out.cell 0
  have r1 := HB3.out.cell 1
  have r2 := HB3.out.cell 2
  have r3 := HB3.out.cell 3
  simp at p0 p1 p2 q0 q1 q2 q3 r0 r1 r2 r3
  go_wp2_with fail
  refine (far_any c _ _ HE.out HI1.out.1 HI1.out.2.1 HI1.out.2.2).mono ?_
  rw [HG1.out]
  rintro e w32 ⟨rfl, hb32⟩
  replace HM := hid_ (HM.out.to hb32)
  replace HE := hid_ (HE.out.to hb32)
  replace HD := hid_ (HD.out.to hb32)
  replace HB1 := hid_ (HB1.out.to hb32)
  replace HB2 := hid_ (HB2.out.to hb32)
  replace HB3 := hid_ (HB3.out.to hb32)
  replace hbW := bnext hbW hb32
  clear hb32
  clear p0 p1 p2 q0 q1 q2 q3 r0 r1 r2 r3
  have p0 := HB1.out.cell 0
  have p1 := HB1.out.cell 1
  have p2 := HB1.out.cell 2
  have q0 := HB2.out.cell 0
  have q1 := HB2.out.cell 1
  have q2 := HB2.out.cell 2
  have q3 := HB2.out.cell 3
  have r0 := HB3.out.cell 0
  have r1 := HB3.out.cell 1
  have r2 := HB3.out.cell 2
  have r3 := HB3.out.cell 3
  simp at p0 p1 p2 q0 q1 q2 q3 r0 r1 r2 r3
  go_wp2_with fail
  refine (far_any d _ _ HD.out HI2.out.1 HI2.out.2.1 HI2.out.2.2).mono ?_
  rw [HG2.out]
  rintro e w33 ⟨rfl, hb33⟩
  replace HM := hid_ (HM.out.to hb33)
  replace HE := hid_ (HE.out.to hb33)
  replace HD := hid_ (HD.out.to hb33)
  replace HB1 := hid_ (HB1.out.to hb33)
  replace HB2 := hid_ (HB2.out.to hb33)
  replace HB3 := hid_ (HB3.out.to hb33)
  replace hbW := bnext hbW hb33
  clear hb33
  clear p0 p1 p2 q0 q1 q2 q3 r0 r1 r2 r3
  have p0 := HB1.out.cell 0
  have p1 := HB1.out.cell 1
  have p2 := HB1.out.cell 2
  have q0 := HB2.out.cell 0
  have q1 := HB2.out.cell 1
  have q2 := HB2.out.cell 2
  have q3 := HB2.out.cell 3
  have r0 := HB3.out.cell 0
  have r1 := HB3.out.cell 1
  have r2 := HB3.out.cell 2
  have r3 := HB3.out.cell 3
  simp at p0 p1 p2 q0 q1 q2 q3 r0 r1 r2 r3
  go_wp2_with fail
  refine (awake_any mx _ (keepc hbW HMX.out)).mono ?_
  rintro e w99 ⟨rfl, hb99⟩
  go_wp2_with fail
  go_ret
  exact ⟨rfl, bnext hbW hb99⟩

end
end Go.Proofs.YtkbaiegfloajlaaDoor.Tp

/- Contracts: Step of package tape. -/
import Derived.Test.YtkbaiegfloajlaaDoorTn
namespace Go.Proofs.YtkbaiegfloajlaaDoor.Tp
open Go.RowKit

structure SRes where
  c : CfgS
  err : Int
/-- What Step returns. -/
def stepS (m : MachS) (c : CfgS) : SRes := if fitsC m c = false then ⟨noC, 1⟩ else if c.st = -1 then ⟨noC, 5⟩ else
  match stepC m c with
  | none => ⟨noC, 4⟩
  | some d => ⟨d, 0⟩
def StepRan (w : World) (r : SRes) (e : Ending) (w' : World) : Prop :=
  ∃ v, e = .returned (.tuple #[.agg #[.int .i64 r.c.st, .int .i64 r.c.pos, .int .i64 r.c.frm, v], .int .i64 r.err]) ∧ Elems w' w'.heap.size v (ints r.c.cells) ∧ Below w.heap.size w w'

section
variable (m : MachS) (c : CfgS) (v u : Value) (w : World)

set_option maxRecDepth 100000 in
set_option maxHeartbeats 4000000 in
theorem stepT_bad (hv : MachIn w w.heap.size v m) (hE : Elems w w.heap.size u (ints c.cells)) (hl : c.cells.length ≤ 17592186044416) (hf : fitsC m c = false) :
    Calls Tryd.prog 15 #[.agg #[.int .i64 m.states, .int .i64 m.symbols, v], .agg #[.int .i64 c.st, .int .i64 c.pos, .int .i64 c.frm, u]] w (StepRan w (stepS m c)) := by
  obtain ⟨A1, c1, rfl⟩ := hv.rules.form
  obtain ⟨A2, c2, rfl⟩ := hE.form
  rw [ints_len] at hE ⊢
  have HM := hid_ hv
  have HE := hid_ hE
  obtain ⟨R, hR⟩ : ∃ R, R = stepS m c := ⟨_, rfl⟩
  rw [← hR]
  have HR : Hid (R = ⟨noC, 1⟩) := hid_ (by rw [hR, stepS, if_pos hf])
  have HF := hid_ hf
  clear hf hv hE hR
  go_enter Tryd.func15, Tryd.ntmps15
  go_upto_region 1 with fail
  have hW : Below w.heap.size w (((w.alloc (.cells #[.int .i64 m.states, .int .i64 m.symbols, .slice A1 m.rules.length c1] 24)).alloc (.cells #[.int .i64 c.st, .int .i64 c.pos, .int .i64 c.frm, .slice A2 c.cells.length c2] 27)).alloc (.cells #[.int .i64 0, .int .i64 0, .int .i64 0, .slice none 0 0] 27)) := (below2 w _ _).alloc (by simp; omega) _
  have B0 : Blk (((w.alloc (.cells #[.int .i64 m.states, .int .i64 m.symbols, .slice A1 m.rules.length c1] 24)).alloc (.cells #[.int .i64 c.st, .int .i64 c.pos, .int .i64 c.frm, .slice A2 c.cells.length c2] 27)).alloc (.cells #[.int .i64 0, .int .i64 0, .int .i64 0, .slice none 0 0] 27)) w.heap.size 24 #[.int .i64 m.states, .int .i64 m.symbols, .slice A1 m.rules.length c1] := ((Blk.new w _ _).alloc _).alloc _
  have B1 : Blk (((w.alloc (.cells #[.int .i64 m.states, .int .i64 m.symbols, .slice A1 m.rules.length c1] 24)).alloc (.cells #[.int .i64 c.st, .int .i64 c.pos, .int .i64 c.frm, .slice A2 c.cells.length c2] 27)).alloc (.cells #[.int .i64 0, .int .i64 0, .int .i64 0, .slice none 0 0] 27)) (w.heap.size + 1) 27 #[.int .i64 c.st, .int .i64 c.pos, .int .i64 c.frm, .slice A2 c.cells.length c2] := by
    have := (Blk.new (w.alloc (.cells #[.int .i64 m.states, .int .i64 m.symbols, .slice A1 m.rules.length c1] 24)) 27 #[.int .i64 c.st, .int .i64 c.pos, .int .i64 c.frm, .slice A2 c.cells.length c2]).alloc (.cells #[.int .i64 0, .int .i64 0, .int .i64 0, .slice none 0 0] 27)
    simpa using this
  have B2 : Blk (((w.alloc (.cells #[.int .i64 m.states, .int .i64 m.symbols, .slice A1 m.rules.length c1] 24)).alloc (.cells #[.int .i64 c.st, .int .i64 c.pos, .int .i64 c.frm, .slice A2 c.cells.length c2] 27)).alloc (.cells #[.int .i64 0, .int .i64 0, .int .i64 0, .slice none 0 0] 27)) (w.heap.size + 1 + 1) 27 #[.int .i64 0, .int .i64 0, .int .i64 0, .slice none 0 0] := by
    have := Blk.new ((w.alloc (.cells #[.int .i64 m.states, .int .i64 m.symbols, .slice A1 m.rules.length c1] 24)).alloc (.cells #[.int .i64 c.st, .int .i64 c.pos, .int .i64 c.frm, .slice A2 c.cells.length c2] 27)) 27 #[.int .i64 0, .int .i64 0, .int .i64 0, .slice none 0 0]
    simpa using this
  generalize (((w.alloc (.cells #[.int .i64 m.states, .int .i64 m.symbols, .slice A1 m.rules.length c1] 24)).alloc (.cells #[.int .i64 c.st, .int .i64 c.pos, .int .i64 c.frm, .slice A2 c.cells.length c2] 27)).alloc (.cells #[.int .i64 0, .int .i64 0, .int .i64 0, .slice none 0 0] 27)) = W at *
  have p0 := B0.cell 0
  have p1 := B0.cell 1
  have p2 := B0.cell 2
  have q0 := B1.cell 0
  have q1 := B1.cell 1
  have q2 := B1.cell 2
  have q3 := B1.cell 3
  simp at p0 p1 p2 q0 q1 q2 q3
  have HB0 := hid_ B0
  have HB1 := hid_ B1
  have HB2 := hid_ B2
  have z2 := B2.lt
  clear B0 B1 B2
  go_wp2_with fail
  refine (fitsM_any m c _ _ W (HM.out.to hW) (HE.out.to hW) hl).mono ?_
  rw [HF.out]
  rintro e w1 ⟨rfl, hb1⟩
  have hw1 := bnext hW hb1
  replace HB0 := hid_ (HB0.out.to hb1)
  replace HB1 := hid_ (HB1.out.to hb1)
  replace HB2 := hid_ (HB2.out.to hb1)
  clear p0 p1 p2 q0 q1 q2 q3 z2
  have s0 := HB2.out.cell 0
  have s1 := HB2.out.cell 1
  have s2 := HB2.out.cell 2
  have s3 := HB2.out.cell 3
  have f0 := HB2.out.free 0
  have f1 := HB2.out.free 1
  have f2 := HB2.out.free 2
  have f3 := HB2.out.free 3
  simp at s0 s1 s2 s3
  go_wp2_with fail
  have E0 := (((HB2.out.set_ 0 (.int .i64 0)).set_ 1 (.int .i64 0)).set_ 2 (.int .i64 0)).set_ 3 (.slice none 0 0)
  have e0 := E0.cell 0
  have e1 := E0.cell 1
  have e2 := E0.cell 2
  have e3 := E0.cell 3
  simp at e0 e1 e2 e3
  refine bodyPost_ret (v := .tuple #[.agg #[.int .i64 0, .int .i64 0, .int .i64 0, .slice none 0 0], .int .i64 1]) (by simp [results, Tryd.results15, go_sem, e0, e1, e2, e3]) rfl ?_
  rw [HR.out]
  exact ⟨_, rfl, Elems.nil _ _, below_set (below_set (below_set (below_set hw1 (by omega) 0 _) (by omega) 1 _) (by omega) 2 _) (by omega) 3 _⟩

set_option maxRecDepth 100000 in
set_option maxHeartbeats 4000000 in
theorem stepT_stop (hv : MachIn w w.heap.size v m) (hE : Elems w w.heap.size u (ints c.cells)) (hl : c.cells.length ≤ 17592186044416) (hf : fitsC m c = true) (hs : c.st = -1) :
    Calls Tryd.prog 15 #[.agg #[.int .i64 m.states, .int .i64 m.symbols, v], .agg #[.int .i64 c.st, .int .i64 c.pos, .int .i64 c.frm, u]] w (StepRan w (stepS m c)) := by
  obtain ⟨A1, c1, rfl⟩ := hv.rules.form
  obtain ⟨A2, c2, rfl⟩ := hE.form
  rw [ints_len] at hE ⊢
  have HM := hid_ hv
  have HE := hid_ hE
  obtain ⟨R, hR⟩ : ∃ R, R = stepS m c := ⟨_, rfl⟩
  rw [← hR]
  have HR : Hid (R = ⟨noC, 5⟩) := hid_ (by rw [hR, stepS, if_neg (by rw [hf]; simp), if_pos hs])
  have HF := hid_ hf
  have HS := hid_ hs
  have t1 : (c.st == -1) = true := by simpa using hs
  clear hf hv hE hR hs
  go_enter Tryd.func15, Tryd.ntmps15
  go_upto_region 1 with fail
  have hW : Below w.heap.size w (((w.alloc (.cells #[.int .i64 m.states, .int .i64 m.symbols, .slice A1 m.rules.length c1] 24)).alloc (.cells #[.int .i64 c.st, .int .i64 c.pos, .int .i64 c.frm, .slice A2 c.cells.length c2] 27)).alloc (.cells #[.int .i64 0, .int .i64 0, .int .i64 0, .slice none 0 0] 27)) := (below2 w _ _).alloc (by simp; omega) _
  have B0 : Blk (((w.alloc (.cells #[.int .i64 m.states, .int .i64 m.symbols, .slice A1 m.rules.length c1] 24)).alloc (.cells #[.int .i64 c.st, .int .i64 c.pos, .int .i64 c.frm, .slice A2 c.cells.length c2] 27)).alloc (.cells #[.int .i64 0, .int .i64 0, .int .i64 0, .slice none 0 0] 27)) w.heap.size 24 #[.int .i64 m.states, .int .i64 m.symbols, .slice A1 m.rules.length c1] := ((Blk.new w _ _).alloc _).alloc _
  have B1 : Blk (((w.alloc (.cells #[.int .i64 m.states, .int .i64 m.symbols, .slice A1 m.rules.length c1] 24)).alloc (.cells #[.int .i64 c.st, .int .i64 c.pos, .int .i64 c.frm, .slice A2 c.cells.length c2] 27)).alloc (.cells #[.int .i64 0, .int .i64 0, .int .i64 0, .slice none 0 0] 27)) (w.heap.size + 1) 27 #[.int .i64 c.st, .int .i64 c.pos, .int .i64 c.frm, .slice A2 c.cells.length c2] := by
    have := (Blk.new (w.alloc (.cells #[.int .i64 m.states, .int .i64 m.symbols, .slice A1 m.rules.length c1] 24)) 27 #[.int .i64 c.st, .int .i64 c.pos, .int .i64 c.frm, .slice A2 c.cells.length c2]).alloc (.cells #[.int .i64 0, .int .i64 0, .int .i64 0, .slice none 0 0] 27)
    simpa using this
  have B2 : Blk (((w.alloc (.cells #[.int .i64 m.states, .int .i64 m.symbols, .slice A1 m.rules.length c1] 24)).alloc (.cells #[.int .i64 c.st, .int .i64 c.pos, .int .i64 c.frm, .slice A2 c.cells.length c2] 27)).alloc (.cells #[.int .i64 0, .int .i64 0, .int .i64 0, .slice none 0 0] 27)) (w.heap.size + 1 + 1) 27 #[.int .i64 0, .int .i64 0, .int .i64 0, .slice none 0 0] := by
    have := Blk.new ((w.alloc (.cells #[.int .i64 m.states, .int .i64 m.symbols, .slice A1 m.rules.length c1] 24)).alloc (.cells #[.int .i64 c.st, .int .i64 c.pos, .int .i64 c.frm, .slice A2 c.cells.length c2] 27)) 27 #[.int .i64 0, .int .i64 0, .int .i64 0, .slice none 0 0]
    simpa using this
  generalize (((w.alloc (.cells #[.int .i64 m.states, .int .i64 m.symbols, .slice A1 m.rules.length c1] 24)).alloc (.cells #[.int .i64 c.st, .int .i64 c.pos, .int .i64 c.frm, .slice A2 c.cells.length c2] 27)).alloc (.cells #[.int .i64 0, .int .i64 0, .int .i64 0, .slice none 0 0] 27)) = W at *
  have p0 := B0.cell 0
  have p1 := B0.cell 1
  have p2 := B0.cell 2
  have q0 := B1.cell 0
  have q1 := B1.cell 1
  have q2 := B1.cell 2
  have q3 := B1.cell 3
  simp at p0 p1 p2 q0 q1 q2 q3
  have HB0 := hid_ B0
  have HB1 := hid_ B1
  have HB2 := hid_ B2
  have z2 := B2.lt
  clear B0 B1 B2
  go_wp2_with fail
  refine (fitsM_any m c _ _ W (HM.out.to hW) (HE.out.to hW) hl).mono ?_
  rw [HF.out]
  rintro e w1 ⟨rfl, hb1⟩
  have hw1 := bnext hW hb1
  replace HB0 := hid_ (HB0.out.to hb1)
  replace HB1 := hid_ (HB1.out.to hb1)
  replace HB2 := hid_ (HB2.out.to hb1)
  clear p0 p1 p2 q0 q1 q2 q3 z2
  have q0 := HB1.out.cell 0
  have q1 := HB1.out.cell 1
  have q2 := HB1.out.cell 2
  have q3 := HB1.out.cell 3
  simp at q0 q1 q2 q3
  have s0 := HB2.out.cell 0
  have s1 := HB2.out.cell 1
  have s2 := HB2.out.cell 2
  have s3 := HB2.out.cell 3
  have f0 := HB2.out.free 0
  have f1 := HB2.out.free 1
  have f2 := HB2.out.free 2
  have f3 := HB2.out.free 3
  simp at s0 s1 s2 s3
  go_wp2_with fail
  have E0 := (((HB2.out.set_ 0 (.int .i64 0)).set_ 1 (.int .i64 0)).set_ 2 (.int .i64 0)).set_ 3 (.slice none 0 0)
  have e0 := E0.cell 0
  have e1 := E0.cell 1
  have e2 := E0.cell 2
  have e3 := E0.cell 3
  simp at e0 e1 e2 e3
  refine bodyPost_ret (v := .tuple #[.agg #[.int .i64 0, .int .i64 0, .int .i64 0, .slice none 0 0], .int .i64 5]) (by simp [results, Tryd.results15, go_sem, e0, e1, e2, e3]) rfl ?_
  rw [HR.out]
  exact ⟨_, rfl, Elems.nil _ _, below_set (below_set (below_set (below_set hw1 (by omega) 0 _) (by omega) 1 _) (by omega) 2 _) (by omega) 3 _⟩

set_option maxRecDepth 100000 in
set_option maxHeartbeats 4000000 in
theorem stepT_go (hv : MachIn w w.heap.size v m) (hE : Elems w w.heap.size u (ints c.cells)) (hl : c.cells.length ≤ 17592186044416) (hf : fitsC m c = true) (hs : c.st ≠ -1) :
    Calls Tryd.prog 15 #[.agg #[.int .i64 m.states, .int .i64 m.symbols, v], .agg #[.int .i64 c.st, .int .i64 c.pos, .int .i64 c.frm, u]] w (StepRan w (stepS m c)) := by
  obtain ⟨A1, c1, rfl⟩ := hv.rules.form
  obtain ⟨A2, c2, rfl⟩ := hE.form
  rw [ints_len] at hE ⊢
  have HM := hid_ hv
  have HE := hid_ hE
  obtain ⟨R, hR⟩ : ∃ R, R = stepS m c := ⟨_, rfl⟩
  rw [← hR]
  have hRN : R = match stepC m c with
      | none => ⟨noC, 4⟩
      | some d => ⟨d, 0⟩ := by
    rw [hR, stepS, if_neg (by rw [hf]; simp), if_neg hs]
  have HRN := hid_ hRN
  have HF := hid_ hf
  have hvm : validM m = true := by rw [fitsC, Bool.and_eq_true] at hf; exact hf.1
  have hwc : withinC c m.states m.symbols = true := by rw [fitsC, Bool.and_eq_true] at hf; exact hf.2
  have HVM := hid_ hvm
  have HWC := hid_ hwc
  obtain ⟨_, _, wp, wf, wl, wn, _⟩ := within_iff.1 hwc
  have HWP := hid_ wp
  have HWF := hid_ wf
  have HWN := hid_ wn
  have HS := hid_ hs
  have t1 : (c.st == -1) = false := by simpa using hs
  clear hf hRN hvm hwc wp wf wn hs
  clear hv hE hR
  go_enter Tryd.func15, Tryd.ntmps15
  go_upto_region 1 with fail
  have hW : Below w.heap.size w (((w.alloc (.cells #[.int .i64 m.states, .int .i64 m.symbols, .slice A1 m.rules.length c1] 24)).alloc (.cells #[.int .i64 c.st, .int .i64 c.pos, .int .i64 c.frm, .slice A2 c.cells.length c2] 27)).alloc (.cells #[.int .i64 0, .int .i64 0, .int .i64 0, .slice none 0 0] 27)) := (below2 w _ _).alloc (by simp; omega) _
  have B0 : Blk (((w.alloc (.cells #[.int .i64 m.states, .int .i64 m.symbols, .slice A1 m.rules.length c1] 24)).alloc (.cells #[.int .i64 c.st, .int .i64 c.pos, .int .i64 c.frm, .slice A2 c.cells.length c2] 27)).alloc (.cells #[.int .i64 0, .int .i64 0, .int .i64 0, .slice none 0 0] 27)) w.heap.size 24 #[.int .i64 m.states, .int .i64 m.symbols, .slice A1 m.rules.length c1] := ((Blk.new w _ _).alloc _).alloc _
  have B1 : Blk (((w.alloc (.cells #[.int .i64 m.states, .int .i64 m.symbols, .slice A1 m.rules.length c1] 24)).alloc (.cells #[.int .i64 c.st, .int .i64 c.pos, .int .i64 c.frm, .slice A2 c.cells.length c2] 27)).alloc (.cells #[.int .i64 0, .int .i64 0, .int .i64 0, .slice none 0 0] 27)) (w.heap.size + 1) 27 #[.int .i64 c.st, .int .i64 c.pos, .int .i64 c.frm, .slice A2 c.cells.length c2] := by
    have := (Blk.new (w.alloc (.cells #[.int .i64 m.states, .int .i64 m.symbols, .slice A1 m.rules.length c1] 24)) 27 #[.int .i64 c.st, .int .i64 c.pos, .int .i64 c.frm, .slice A2 c.cells.length c2]).alloc (.cells #[.int .i64 0, .int .i64 0, .int .i64 0, .slice none 0 0] 27)
    simpa using this
  have B2 : Blk (((w.alloc (.cells #[.int .i64 m.states, .int .i64 m.symbols, .slice A1 m.rules.length c1] 24)).alloc (.cells #[.int .i64 c.st, .int .i64 c.pos, .int .i64 c.frm, .slice A2 c.cells.length c2] 27)).alloc (.cells #[.int .i64 0, .int .i64 0, .int .i64 0, .slice none 0 0] 27)) (w.heap.size + 1 + 1) 27 #[.int .i64 0, .int .i64 0, .int .i64 0, .slice none 0 0] := by
    have := Blk.new ((w.alloc (.cells #[.int .i64 m.states, .int .i64 m.symbols, .slice A1 m.rules.length c1] 24)).alloc (.cells #[.int .i64 c.st, .int .i64 c.pos, .int .i64 c.frm, .slice A2 c.cells.length c2] 27)) 27 #[.int .i64 0, .int .i64 0, .int .i64 0, .slice none 0 0]
    simpa using this
  generalize (((w.alloc (.cells #[.int .i64 m.states, .int .i64 m.symbols, .slice A1 m.rules.length c1] 24)).alloc (.cells #[.int .i64 c.st, .int .i64 c.pos, .int .i64 c.frm, .slice A2 c.cells.length c2] 27)).alloc (.cells #[.int .i64 0, .int .i64 0, .int .i64 0, .slice none 0 0] 27)) = W at *
  have p0 := B0.cell 0
  have p1 := B0.cell 1
  have p2 := B0.cell 2
  have q0 := B1.cell 0
  have q1 := B1.cell 1
  have q2 := B1.cell 2
  have q3 := B1.cell 3
  simp at p0 p1 p2 q0 q1 q2 q3
  have HB0 := hid_ B0
  have HB1 := hid_ B1
  have HB2 := hid_ B2
  have z2 := B2.lt
  clear B0 B1 B2
  go_wp2_with fail
  refine (fitsM_any m c _ _ W (HM.out.to hW) (HE.out.to hW) hl).mono ?_
  rw [HF.out]
  rintro e w1 ⟨rfl, hb1⟩
  have hw1 := bnext hW hb1
  replace HB0 := hid_ (HB0.out.to hb1)
  replace HB1 := hid_ (HB1.out.to hb1)
  replace HB2 := hid_ (HB2.out.to hb1)
  clear p0 p1 p2 q0 q1 q2 q3 z2
  have q0 := HB1.out.cell 0
  have q1 := HB1.out.cell 1
  have q2 := HB1.out.cell 2
  have q3 := HB1.out.cell 3
  simp at q0 q1 q2 q3
  go_wp2_with fail
  refine (newBand_any c _ w1 (HE.out.to hw1) wl HWF.out).mono ?_
  rintro e w2 ⟨go, rfl, hb, hb2⟩
  have HB := hid_ hb
  have z0 := HB0.out.lt
  have z2 := HB2.out.lt
  clear hb q0 q1 q2 q3
  obtain ⟨k1, k2⟩ := newB_ok HWN.out wl HWP.out HWF.out
  have hds := HS.out
  obtain ⟨wd1, wd2, _, _, _, _, wd7⟩ := within_iff.1 HWC.out
  obtain ⟨_, _, v3, _, _, _⟩ := validM_parts HVM.out
  have hcl := (symB_cells (b := c.frm) (by omega)).1 wd7
  have hsym : (newB c).sym = cellAt c.frm c.cells c.pos := by
    show cellAt (newB c).base (newB c).cells (newB c).pos = _
    rw [k2.cells, k2.pos]
  have hMr : MachIn w2 w1.heap.size (.slice A1 m.rules.length c1) m := ⟨(HM.out.to hw1).rules.below hb2 (Nat.le_refl _), HM.out.lim⟩
  have hst := step_any m (newB c) _ w1.heap.size go c.frm (c.frm + c.cells.length - 1) w2 hMr HVM.out HB.out k1 (by omega) hb2.size (by rw [k2.st]; omega) (by rw [hsym]; exact hcl c.pos)
  have hsame := step_same (m := m) k1 k2 (fun r hr => by
    obtain ⟨s, hse⟩ := Int.eq_ofNat_of_zero_le (show 0 ≤ c.st by omega)
    obtain ⟨x, hxe⟩ := Int.eq_ofNat_of_zero_le (hcl c.pos).1
    obtain ⟨_, r', _, _, h3, h4, _⟩ := rule_at HVM.out (s := s) (x := x) (by omega) (by have := (hcl c.pos).2; omega)
    rw [hse, hxe, h3] at hr
    subst hr
    have := (ruleB_yes.1 h4).2.2.2.2
    omega)
  have HB0r := hid_ (HB0.out.to hb2)
  have HB2r := hid_ (HB2.out.to hb2)
  have hwr := bnext hw1 hb2
  have p0 := HB0r.out.cell 0
  have p1 := HB0r.out.cell 1
  have p2 := HB0r.out.cell 2
  simp at p0 p1 p2
  rcases hsame with ⟨b', d', h1, h2, h3, L', H', h4, h5⟩ | ⟨h1, h2⟩
  · rw [h1] at hst
    have HST2 := hid_ hst
    have HD := hid_ h3
    have HO2 := hid_ h4
    have HRE : Hid (R = ⟨d', 0⟩) := hid_ (by rw [HRN.out, h2])
    clear hst h1 h2 h3 h4 hMr hsym hcl wd7 hds
    go_wp2_with fail
    refine HST2.out.mono ?_
    rintro e w3 ⟨rfl, hb3, hbel3, -⟩
    have HB3 := hid_ hb3
    have HB2s := hid_ (HB2r.out.below hbel3 (by omega))
    have hbr3 := hb2.trans hbel3
    have hwr3 := hwr.trans (hbel3.mono (by have := hw1.size; omega))
    have hgo := config_any b' w1.heap.size go L' H' w3 HB3.out HO2.out (by omega) hbr3.size
    rw [config_same HO2.out HD.out] at hgo
    have HGO := hid_ hgo
    clear hb3 hgo p0 p1 p2
    go_wp2_with fail
    refine HGO.out.mono ?_
    rintro e w4 ⟨v, rfl, hEl, hfr, hb4⟩
    have HB4 := hid_ (HB2s.out.below hb4 (by omega))
    have hw4 := hwr3.trans (hb4.mono (by have := hw1.size; omega))
    obtain ⟨A5, c5, rfl⟩ := hEl.form
    rw [ints_len] at hEl hfr ⊢
    have HEL := hid_ hEl
    have HFR := hid_ hfr
    have hz4 : w.heap.size + 1 + 1 < w3.heap.size := HB2s.out.lt
    have s0 := HB4.out.cell 0
    have s1 := HB4.out.cell 1
    have s2 := HB4.out.cell 2
    have s3 := HB4.out.cell 3
    have f0 := HB4.out.free 0
    have f1 := HB4.out.free 1
    have f2 := HB4.out.free 2
    have f3 := HB4.out.free 3
    simp at s0 s1 s2 s3
    clear hEl hfr
    go_wp2_with fail
    have E0 := (((HB4.out.set_ 0 (.int .i64 d'.st)).set_ 1 (.int .i64 d'.pos)).set_ 2 (.int .i64 d'.frm)).set_ 3 (.slice A5 d'.cells.length c5)
    have e0 := E0.cell 0
    have e1 := E0.cell 1
    have e2 := E0.cell 2
    have e3 := E0.cell 3
    simp at e0 e1 e2 e3
    refine bodyPost_ret (v := .tuple #[.agg #[.int .i64 d'.st, .int .i64 d'.pos, .int .i64 d'.frm, .slice A5 d'.cells.length c5], .int .i64 0]) (by simp [results, Tryd.results15, go_sem, e0, e1, e2, e3]) rfl ?_
    rw [HRE.out]
    exact ⟨_, rfl, elems_out (elems_out (elems_out (elems_out HEL.out (fr_ne HFR.out hz4)) (fr_ne HFR.out hz4)) (fr_ne HFR.out hz4)) (fr_ne HFR.out hz4), below_set (below_set (below_set (below_set hw4 (by omega) 0 _) (by omega) 1 _) (by omega) 2 _) (by omega) 3 _⟩
  · rw [h1] at hst
    have HST2 := hid_ hst
    have HR : Hid (R = ⟨noC, 4⟩) := hid_ (by rw [HRN.out, h2])
    clear hst h1 h2 hMr hsym hcl wd7 hds
    go_wp2_with fail
    refine HST2.out.mono ?_
    rintro e w3 ⟨rfl, hb3⟩
    have HB2w := hid_ (HB2r.out.below hb3 (by omega))
    have hw3 := hwr.trans (hb3.mono (by have := hw1.size; omega))
    clear p0 p1 p2
    have s0 := HB2w.out.cell 0
    have s1 := HB2w.out.cell 1
    have s2 := HB2w.out.cell 2
    have s3 := HB2w.out.cell 3
    have f0 := HB2w.out.free 0
    have f1 := HB2w.out.free 1
    have f2 := HB2w.out.free 2
    have f3 := HB2w.out.free 3
    simp at s0 s1 s2 s3
    go_wp2_with fail
    have E0 := (((HB2w.out.set_ 0 (.int .i64 0)).set_ 1 (.int .i64 0)).set_ 2 (.int .i64 0)).set_ 3 (.slice none 0 0)
    have e0 := E0.cell 0
    have e1 := E0.cell 1
    have e2 := E0.cell 2
    have e3 := E0.cell 3
    simp at e0 e1 e2 e3
    refine bodyPost_ret (v := .tuple #[.agg #[.int .i64 0, .int .i64 0, .int .i64 0, .slice none 0 0], .int .i64 4]) (by simp [results, Tryd.results15, go_sem, e0, e1, e2, e3]) rfl ?_
    rw [HR.out]
    exact ⟨_, rfl, Elems.nil _ _, below_set (below_set (below_set (below_set hw3 (by omega) 0 _) (by omega) 1 _) (by omega) 2 _) (by omega) 3 _⟩

theorem stepT_any (hv : MachIn w w.heap.size v m) (hE : Elems w w.heap.size u (ints c.cells)) (hl : c.cells.length ≤ 17592186044416) :
    Calls Tryd.prog 15 #[.agg #[.int .i64 m.states, .int .i64 m.symbols, v], .agg #[.int .i64 c.st, .int .i64 c.pos, .int .i64 c.frm, u]] w (StepRan w (stepS m c)) := by
  cases hf : fitsC m c with
  | false => exact stepT_bad m c v u w hv hE hl hf
  | true =>
    by_cases hs : c.st = -1
    · exact stepT_stop m c v u w hv hE hl hf hs
    · exact stepT_go m c v u w hv hE hl hf hs
end
end Go.Proofs.YtkbaiegfloajlaaDoor.Tp

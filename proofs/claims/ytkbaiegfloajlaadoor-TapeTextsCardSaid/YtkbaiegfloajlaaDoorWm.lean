/- Contracts: Run of the specification; errno. -/
import Derived.Test.YtkbaiegfloajlaaDoorWl
import Derived.Test.YtkbaiegfloajlaaDoorVi
namespace Go.Proofs.YtkbaiegfloajlaaDoor.Tp
open Go.RowKit

/-- What the specification's Run gives. -/
def rrunC (m : MachS) (n : Nat) (c : CfgS) : CfgS × Nat := (runC m n c).getD (⟨0, 0, 0, []⟩, 0)
def RRunRan (m : MachS) (c : CfgS) (n : Nat) (w : World) (e : Ending) (w' : World) : Prop :=
  ∃ (q : CfgS) (k : Nat) (A : Option Addr) (d : Nat), e = .returned (.tuple #[.agg #[.int .i64 q.st, .int .i64 q.pos, .int .i64 q.frm, .slice A q.cells.length d], .int .i64 (k : Int), .bool (runC m n c).isSome]) ∧ (q, k) = rrunC m n c ∧ Elems w' w'.heap.size (.slice A q.cells.length d) (ints q.cells) ∧ Below w.heap.size w w'
/-- No slice of the three boxes of a call. -/
def OffBox (w : World) (A : Option Addr) : Prop := ∀ n d b, (Value.slice A n d).ownBlock = some b → b < w.heap.size ∨ w.heap.size + 1 + 1 < b
theorem OffBox.ne {w : World} {A : Option Addr} (h : OffBox w A) {n d b : Nat} (h1 : w.heap.size ≤ b) (h2 : b ≤ w.heap.size + 1 + 1) : (Value.slice A n d).ownBlock ≠ some b := fun e => by
  rcases h n d b e with h | h <;> omega
theorem OffBox.of_fresh {w w' : World} {A : Option Addr} (h : Fresh w' A) (hs : w.heap.size + 1 + 1 < w'.heap.size) : OffBox w A := fun n d b e => by
  rcases h with rfl | ⟨g, k, rfl, hg⟩
  · simp [Value.ownBlock] at e
  · simp only [Value.ownBlock, Option.some.injEq] at e
    omega
theorem OffBox.of_old {w : World} {A : Option Addr} {n d : Nat} {cs : List Value} (h : Elems w w.heap.size (.slice A n d) cs) (hc : cs.length ≠ 0) : OffBox w A := fun n' d' b e => by
  rcases h with ⟨_, h⟩ | ⟨b', off, c, hv, hlt, _⟩
  · exact absurd (by rw [h]; rfl) hc
  · simp only [Value.slice.injEq] at hv
    obtain ⟨rfl, _⟩ := hv
    simp only [Value.ownBlock, Option.some.injEq] at e
    omega
theorem elems_off {w : World} {p : Addr} {u : Value} {A : Option Addr} {d : Nat} {L : List Int} (h : Elems w w.heap.size (.slice A L.length d) (ints L)) (hp : L = [] ∨ (Value.slice A L.length d).ownBlock ≠ some p.block) : Elems (w.setCell p u) (w.setCell p u).heap.size (.slice A L.length d) (ints L) := by
  rcases hp with rfl | hp
  · rcases h with h | ⟨b, off, c, hv, _, _⟩
    · exact .inl h
    · exact .inl ⟨.inr ⟨_, _, hv⟩, rfl⟩
  · exact elems_out h hp

/-- Step's answer, when it is known. -/
def RStepYes (_m : MachS) (_c q : CfgS) (w : World) (e : Ending) (w' : World) : Prop :=
  ∃ (A : Option Addr) (d : Nat), e = .returned (.tuple #[.agg #[.int .i64 q.st, .int .i64 q.pos, .int .i64 q.frm, .slice A q.cells.length d], .bool true]) ∧ Elems w' w'.heap.size (.slice A q.cells.length d) (ints q.cells) ∧ Below w.heap.size w w' ∧ Fresh w A
def RStepNo (_m : MachS) (_c : CfgS) (w : World) (e : Ending) (w' : World) : Prop :=
  ∃ (A : Option Addr) (d : Nat), e = .returned (.tuple #[.agg #[.int .i64 0, .int .i64 0, .int .i64 0, .slice A 0 d], .bool false]) ∧ Elems w' w'.heap.size (.slice A 0 d) [] ∧ Below w.heap.size w w' ∧ Fresh w A
theorem rstep_yes {m : MachS} {c q : CfgS} {w w' : World} {e : Ending} (h : stepC m c = some q) (hr : RStepRan m c w e w') : RStepYes m c q w e w' := by
  obtain ⟨q', A, d, rfl, hq, hE, hb, hf⟩ := hr
  rw [h] at hq
  subst hq
  exact ⟨A, d, by rw [h]; rfl, hE, hb, hf⟩
theorem rstep_no {m : MachS} {c : CfgS} {w w' : World} {e : Ending} (h : stepC m c = none) (hr : RStepRan m c w e w') : RStepNo m c w e w' := by
  obtain ⟨q', A, d, rfl, hq, hE, hb, hf⟩ := hr
  rw [h] at hq
  subst hq
  exact ⟨A, d, by rw [h]; rfl, hE, hb, hf⟩

set_option maxRecDepth 100000 in
set_option maxHeartbeats 8000000 in
theorem rrun_any (m : MachS) (c : CfgS) (N : Nat) (v u : Value) (w : World) (hm : MachIn w w.heap.size v m) (hE : Elems w w.heap.size u (ints c.cells)) (hf : fitsC m c = true) (hN : N ≤ 1000000) :
    Calls Tryd.prog 20 #[.agg #[.int .i64 m.states, .int .i64 m.symbols, v], .agg #[.int .i64 c.st, .int .i64 c.pos, .int .i64 c.frm, u], .int .i64 (N : Int)] w (RRunRan m c N w) := by
  have hv : validM m = true := by rw [fitsC, Bool.and_eq_true] at hf; exact hf.1
  have hw : withinC c m.states m.symbols = true := by rw [fitsC, Bool.and_eq_true] at hf; exact hf.2
  obtain ⟨A2, c2, rfl⟩ := hm.rules.form
  obtain ⟨A3, c3, rfl⟩ := hE.form
  rw [ints_len] at hE ⊢
  have hbW := (below2 w (.cells #[.int .i64 m.states, .int .i64 m.symbols, .slice A2 m.rules.length c2] 24) (.cells #[.int .i64 c.st, .int .i64 c.pos, .int .i64 c.frm, .slice A3 c.cells.length c3] 27)).alloc (by simp; omega) (.cells #[.int .i64 0, .int .i64 0, .int .i64 0, .slice none 0 0] 27)
  have HM := hid_ hm
  have HE := hid_ hE
  have B1 := ((Blk.new w 24 #[.int .i64 m.states, .int .i64 m.symbols, .slice A2 m.rules.length c2]).alloc (.cells #[.int .i64 c.st, .int .i64 c.pos, .int .i64 c.frm, .slice A3 c.cells.length c3] 27)).alloc (.cells #[.int .i64 0, .int .i64 0, .int .i64 0, .slice none 0 0] 27)
  have B2 := (Blk.new (w.alloc (.cells #[.int .i64 m.states, .int .i64 m.symbols, .slice A2 m.rules.length c2] 24)) 27 #[.int .i64 c.st, .int .i64 c.pos, .int .i64 c.frm, .slice A3 c.cells.length c3]).alloc (.cells #[.int .i64 0, .int .i64 0, .int .i64 0, .slice none 0 0] 27)
  rw [show (w.alloc (.cells #[.int .i64 m.states, .int .i64 m.symbols, .slice A2 m.rules.length c2] 24)).heap.size = w.heap.size + 1 by simp] at B2
  have B3 := Blk.new ((w.alloc (.cells #[.int .i64 m.states, .int .i64 m.symbols, .slice A2 m.rules.length c2] 24)).alloc (.cells #[.int .i64 c.st, .int .i64 c.pos, .int .i64 c.frm, .slice A3 c.cells.length c3] 27)) 27 #[.int .i64 0, .int .i64 0, .int .i64 0, .slice none 0 0]
  rw [show ((w.alloc (.cells #[.int .i64 m.states, .int .i64 m.symbols, .slice A2 m.rules.length c2] 24)).alloc (.cells #[.int .i64 c.st, .int .i64 c.pos, .int .i64 c.frm, .slice A3 c.cells.length c3] 27)).heap.size = w.heap.size + 1 + 1 by simp] at B3
  have HB1 := hid_ B1
  have HB2 := hid_ B2
  have HB3 := hid_ B3
  have HV := hid_ hv
  have HW := hid_ hw
  have HO : Hid (c.cells = [] ∨ OffBox w A3) := hid_ (by
    by_cases h : c.cells = []
    · exact .inl h
    · exact .inr (.of_old hE (by rw [ints_len]; simpa using h)))
  clear hm hE hf hv hw B1 B2 B3
  go_enter Tryd.func20, Tryd.ntmps20
  go_wp2_with fail
  generalize ((w.alloc (.cells #[.int .i64 m.states, .int .i64 m.symbols, .slice A2 m.rules.length c2] 24)).alloc (.cells #[.int .i64 c.st, .int .i64 c.pos, .int .i64 c.frm, .slice A3 c.cells.length c3] 27)).alloc (.cells #[.int .i64 0, .int .i64 0, .int .i64 0, .slice none 0 0] 27) = W at *
  go_loopw [9] (fun s wr => ∃ (j : Nat) (q : CfgS) (A : Option Addr) (d : Nat), s = .int .i64 (j : Int) ∧ j ≤ N ∧ Hid (runC m j c = some (q, j)) ∧ Hid (withinC q m.states m.symbols = true) ∧ Hid (Blk wr w.heap.size 24 #[.int .i64 m.states, .int .i64 m.symbols, .slice A2 m.rules.length c2]) ∧ Hid (Blk wr (w.heap.size + 1) 27 #[.int .i64 q.st, .int .i64 q.pos, .int .i64 q.frm, .slice A q.cells.length d]) ∧ Hid (Blk wr (w.heap.size + 1 + 1) 27 #[.int .i64 0, .int .i64 0, .int .i64 0, .slice none 0 0]) ∧ Hid (Elems wr wr.heap.size (.slice A q.cells.length d) (ints q.cells)) ∧ Hid (q.cells = [] ∨ OffBox w A) ∧ Below w.heap.size w wr) (fun s _ => (N - RowKit.intOf s).toNat)
  case atStart => exact ⟨0, c, A3, c3, rfl, Nat.zero_le _, hid_ rfl, HW, HB1, HB2, HB3, hid_ (HE.out.to hbW), HO, hbW⟩
  case round =>
    obtain ⟨j, q, A, d, rfl, hj, HR, HWq, HB1r, HB2r, HB3r, HEr, HOr, hbr⟩ := hrel
    have q0 := HB2r.out.cell 0
    have q1 := HB2r.out.cell 1
    have qq2 := HB2r.out.cell 2
    have q3 := HB2r.out.cell 3
    simp at q0 q1 qq2 q3
    by_cases hjN : j < N
    · have t1 : (j : Int) < (N : Int) := by omega
      by_cases hst : q.st = -1
      · have t2 : (q.st != -1) = false := by simpa using hst
        have HDN : Hid (runC m N c = some (q, j)) := hid_ (runC_stop HR.out hst hj)
        have hne : q.cells = [] ∨ (Value.slice A q.cells.length d).ownBlock ≠ some (w.heap.size + 1 + 1) := HOr.out.imp id (fun h => h.ne (by omega) (by omega))
        clear hst
        obtain ⟨X, rfl⟩ : ∃ X : World, X = wr := ⟨_, rfl⟩
        have s0 := HB3r.out.free 0
        have s1 := HB3r.out.free 1
        have s2 := HB3r.out.free 2
        have s3 := HB3r.out.free 3
        have r0 := HB3r.out.cell 0
        have r1 := HB3r.out.cell 1
        have r2 := HB3r.out.cell 2
        have r3 := HB3r.out.cell 3
        simp at r0 r1 r2 r3
        go_wp2_with fail
        have BZ := (((HB3r.out.set_ 0 (.int .i64 q.st)).set_ 1 (.int .i64 q.pos)).set_ 2 (.int .i64 q.frm)).set_ 3 (.slice A q.cells.length d)
        have e0 := BZ.cell 0
        have e1 := BZ.cell 1
        have e2 := BZ.cell 2
        have e3 := BZ.cell 3
        simp at e0 e1 e2 e3
        refine bodyPost_ret (v := .tuple #[.agg #[.int .i64 q.st, .int .i64 q.pos, .int .i64 q.frm, .slice A q.cells.length d], .int .i64 (j : Int), .bool true]) (by simp [results, Tryd.results20, go_sem, e0, e1, e2, e3]) rfl ?_
        have hEZ := elems_off (p := ⟨w.heap.size + 1 + 1, 3, none⟩) (u := .slice A q.cells.length d) (elems_off (p := ⟨w.heap.size + 1 + 1, 2, none⟩) (u := .int .i64 q.frm) (elems_off (p := ⟨w.heap.size + 1 + 1, 1, none⟩) (u := .int .i64 q.pos) (elems_off (p := ⟨w.heap.size + 1 + 1, 0, none⟩) (u := .int .i64 q.st) (HEr.out) hne) hne) hne) hne
        exact ⟨q, j, A, d, by rw [HDN.out]; rfl, by rw [rrunC, HDN.out]; rfl, hEZ, (((hbr.setCell (by simp; omega) _).setCell (by simp; omega) _).setCell (by simp; omega) _).setCell (by simp; omega) _⟩
      · have t2 : (q.st != -1) = true := by simpa using hst
        have HST := hid_ hst
        clear hst
        obtain ⟨X, rfl⟩ : ∃ X : World, X = wr := ⟨_, rfl⟩
        have HMr := hid_ (HM.out.to hbr)
        have p0 := HB1r.out.cell 0
        have p1 := HB1r.out.cell 1
        have p2 := HB1r.out.cell 2
        simp at p0 p1 p2
        have hX3 := HB3r.out.lt
        cases hso : stepC m q with
        | none =>
          have HN : Hid (runC m N c = none) := hid_ (runC_fail HR.out HST.out hso hjN)
          have HSTEP : Hid (∀ X, MachIn X X.heap.size (.slice A2 m.rules.length c2) m → Elems X X.heap.size (.slice A q.cells.length d) (ints q.cells) → Calls Tryd.prog 18 #[.agg #[.int .i64 m.states, .int .i64 m.symbols, .slice A2 m.rules.length c2], .agg #[.int .i64 q.st, .int .i64 q.pos, .int .i64 q.frm, .slice A q.cells.length d]] X (RStepNo m q X)) := hid_ (fun X h1 h2 => (rstep_any m q _ _ X h1 h2 (by rw [fitsC, HV.out, HWq.out]; rfl) HST.out).mono (fun e w' h => rstep_no hso h))
          clear hso
          go_upto_region 5 with (go_at_call 18; (with_reducible refine (HSTEP.out X HMr.out HEr.out).mono ?_); rintro e w3 ⟨A', d', rfl, hE3, hb3, hf3⟩; have k0 := (HB2r.out.to hb3).free 0; have k1 := (HB2r.out.to hb3).free 1; have k2 := (HB2r.out.to hb3).free 2; have k3 := (HB2r.out.to hb3).free 3; have l0 := (HB2r.out.to hb3).cell 0; have l1 := (HB2r.out.to hb3).cell 1; have l2 := (HB2r.out.to hb3).cell 2; have l3 := (HB2r.out.to hb3).cell 3; simp at l0 l1 l2 l3)
          have hY2 : Blk (((((w3.setCell ⟨w.heap.size + 1, 0, none⟩ (.int .i64 0)).setCell ⟨w.heap.size + 1, 1, none⟩ (.int .i64 0)).setCell ⟨w.heap.size + 1, 2, none⟩ (.int .i64 0)).setCell ⟨w.heap.size + 1, 3, none⟩ (.slice A' 0 d'))) (w.heap.size + 1) 27 #[.int .i64 0, .int .i64 0, .int .i64 0, .slice A' 0 d'] := ((((HB2r.out.to hb3).set_ 0 (.int .i64 0)).set_ 1 (.int .i64 0)).set_ 2 (.int .i64 0)).set_ 3 (.slice A' 0 d')
          have hY1 : Blk (((((w3.setCell ⟨w.heap.size + 1, 0, none⟩ (.int .i64 0)).setCell ⟨w.heap.size + 1, 1, none⟩ (.int .i64 0)).setCell ⟨w.heap.size + 1, 2, none⟩ (.int .i64 0)).setCell ⟨w.heap.size + 1, 3, none⟩ (.slice A' 0 d'))) w.heap.size 24 #[.int .i64 m.states, .int .i64 m.symbols, .slice A2 m.rules.length c2] := ((((HB1r.out.to hb3).far (p := ⟨w.heap.size + 1, 0, none⟩) (by simp) (.int .i64 0)).far (p := ⟨w.heap.size + 1, 1, none⟩) (by simp) (.int .i64 0)).far (p := ⟨w.heap.size + 1, 2, none⟩) (by simp) (.int .i64 0)).far (p := ⟨w.heap.size + 1, 3, none⟩) (by simp) (.slice A' 0 d')
          have hY3 : Blk (((((w3.setCell ⟨w.heap.size + 1, 0, none⟩ (.int .i64 0)).setCell ⟨w.heap.size + 1, 1, none⟩ (.int .i64 0)).setCell ⟨w.heap.size + 1, 2, none⟩ (.int .i64 0)).setCell ⟨w.heap.size + 1, 3, none⟩ (.slice A' 0 d'))) (w.heap.size + 1 + 1) 27 #[.int .i64 0, .int .i64 0, .int .i64 0, .slice none 0 0] := ((((HB3r.out.to hb3).far (p := ⟨w.heap.size + 1, 0, none⟩) (by simp) (.int .i64 0)).far (p := ⟨w.heap.size + 1, 1, none⟩) (by simp) (.int .i64 0)).far (p := ⟨w.heap.size + 1, 2, none⟩) (by simp) (.int .i64 0)).far (p := ⟨w.heap.size + 1, 3, none⟩) (by simp) (.slice A' 0 d')
          have hbY : Below w.heap.size w (((((w3.setCell ⟨w.heap.size + 1, 0, none⟩ (.int .i64 0)).setCell ⟨w.heap.size + 1, 1, none⟩ (.int .i64 0)).setCell ⟨w.heap.size + 1, 2, none⟩ (.int .i64 0)).setCell ⟨w.heap.size + 1, 3, none⟩ (.slice A' 0 d'))) := ((((bnext hbr hb3).setCell (by simp) _).setCell (by simp) _).setCell (by simp) _).setCell (by simp) _
          generalize ((((w3.setCell ⟨w.heap.size + 1, 0, none⟩ (.int .i64 0)).setCell ⟨w.heap.size + 1, 1, none⟩ (.int .i64 0)).setCell ⟨w.heap.size + 1, 2, none⟩ (.int .i64 0)).setCell ⟨w.heap.size + 1, 3, none⟩ (.slice A' 0 d')) = Y at *
          have HY1 := hid_ hY1
          have HY3 := hid_ hY3
          clear hY1 hY2 hY3 q0 q1 qq2 q3 p0 p1 p2 l0 l1 l2 l3 k0 k1 k2 k3 HB1r HB2r HB3r HEr HMr
          have s0 := HY3.out.free 0
          have s1 := HY3.out.free 1
          have s2 := HY3.out.free 2
          have s3 := HY3.out.free 3
          have r0 := HY3.out.cell 0
          have r1 := HY3.out.cell 1
          have r2 := HY3.out.cell 2
          have r3 := HY3.out.cell 3
          simp at r0 r1 r2 r3
          go_wp2_with fail
          have BZ := (((HY3.out.set_ 0 (.int .i64 0)).set_ 1 (.int .i64 0)).set_ 2 (.int .i64 0)).set_ 3 (.slice none 0 0)
          have e0 := BZ.cell 0
          have e1 := BZ.cell 1
          have e2 := BZ.cell 2
          have e3 := BZ.cell 3
          simp at e0 e1 e2 e3
          refine bodyPost_ret (v := .tuple #[.agg #[.int .i64 0, .int .i64 0, .int .i64 0, .slice none 0 0], .int .i64 0, .bool false]) (by simp [results, Tryd.results20, go_sem, e0, e1, e2, e3]) rfl ?_
          exact ⟨⟨0, 0, 0, []⟩, 0, none, 0, by rw [HN.out]; rfl, by rw [rrunC, HN.out]; rfl, Elems.nil _ _, (((hbY.setCell (by simp; omega) _).setCell (by simp; omega) _).setCell (by simp; omega) _).setCell (by simp; omega) _⟩
        | some q2 =>
          have HNX := hid_ (runC_next HR.out HST.out hso)
          have HWN := hid_ (step_within HV.out HWq.out HST.out hso)
          have HSTEP : Hid (∀ X, MachIn X X.heap.size (.slice A2 m.rules.length c2) m → Elems X X.heap.size (.slice A q.cells.length d) (ints q.cells) → Calls Tryd.prog 18 #[.agg #[.int .i64 m.states, .int .i64 m.symbols, .slice A2 m.rules.length c2], .agg #[.int .i64 q.st, .int .i64 q.pos, .int .i64 q.frm, .slice A q.cells.length d]] X (RStepYes m q q2 X)) := hid_ (fun X h1 h2 => (rstep_any m q _ _ X h1 h2 (by rw [fitsC, HV.out, HWq.out]; rfl) HST.out).mono (fun e w' h => rstep_yes hso h))
          clear hso
          go_upto_region 5 with (go_at_call 18; (with_reducible refine (HSTEP.out X HMr.out HEr.out).mono ?_); rintro e w3 ⟨A', d', rfl, hE3, hb3, hf3⟩; have k0 := (HB2r.out.to hb3).free 0; have k1 := (HB2r.out.to hb3).free 1; have k2 := (HB2r.out.to hb3).free 2; have k3 := (HB2r.out.to hb3).free 3; have l0 := (HB2r.out.to hb3).cell 0; have l1 := (HB2r.out.to hb3).cell 1; have l2 := (HB2r.out.to hb3).cell 2; have l3 := (HB2r.out.to hb3).cell 3; simp at l0 l1 l2 l3)
          have hof : OffBox w A' := .of_fresh hf3 (by have := hbr.size; omega)
          have hne : q2.cells = [] ∨ (Value.slice A' q2.cells.length d').ownBlock ≠ some (w.heap.size + 1) := .inr (hof.ne (by omega) (by omega))
          have hEZ := elems_off (p := ⟨w.heap.size + 1, 3, none⟩) (u := .slice A' q2.cells.length d') (elems_off (p := ⟨w.heap.size + 1, 2, none⟩) (u := .int .i64 q2.frm) (elems_off (p := ⟨w.heap.size + 1, 1, none⟩) (u := .int .i64 q2.pos) (elems_off (p := ⟨w.heap.size + 1, 0, none⟩) (u := .int .i64 q2.st) (hE3) hne) hne) hne) hne
          have HOF := hid_ hof
          clear hof hne hf3
          have hY2 : Blk (((((w3.setCell ⟨w.heap.size + 1, 0, none⟩ (.int .i64 q2.st)).setCell ⟨w.heap.size + 1, 1, none⟩ (.int .i64 q2.pos)).setCell ⟨w.heap.size + 1, 2, none⟩ (.int .i64 q2.frm)).setCell ⟨w.heap.size + 1, 3, none⟩ (.slice A' q2.cells.length d'))) (w.heap.size + 1) 27 #[.int .i64 q2.st, .int .i64 q2.pos, .int .i64 q2.frm, .slice A' q2.cells.length d'] := ((((HB2r.out.to hb3).set_ 0 (.int .i64 q2.st)).set_ 1 (.int .i64 q2.pos)).set_ 2 (.int .i64 q2.frm)).set_ 3 (.slice A' q2.cells.length d')
          have hY1 : Blk (((((w3.setCell ⟨w.heap.size + 1, 0, none⟩ (.int .i64 q2.st)).setCell ⟨w.heap.size + 1, 1, none⟩ (.int .i64 q2.pos)).setCell ⟨w.heap.size + 1, 2, none⟩ (.int .i64 q2.frm)).setCell ⟨w.heap.size + 1, 3, none⟩ (.slice A' q2.cells.length d'))) w.heap.size 24 #[.int .i64 m.states, .int .i64 m.symbols, .slice A2 m.rules.length c2] := ((((HB1r.out.to hb3).far (p := ⟨w.heap.size + 1, 0, none⟩) (by simp) (.int .i64 q2.st)).far (p := ⟨w.heap.size + 1, 1, none⟩) (by simp) (.int .i64 q2.pos)).far (p := ⟨w.heap.size + 1, 2, none⟩) (by simp) (.int .i64 q2.frm)).far (p := ⟨w.heap.size + 1, 3, none⟩) (by simp) (.slice A' q2.cells.length d')
          have hY3 : Blk (((((w3.setCell ⟨w.heap.size + 1, 0, none⟩ (.int .i64 q2.st)).setCell ⟨w.heap.size + 1, 1, none⟩ (.int .i64 q2.pos)).setCell ⟨w.heap.size + 1, 2, none⟩ (.int .i64 q2.frm)).setCell ⟨w.heap.size + 1, 3, none⟩ (.slice A' q2.cells.length d'))) (w.heap.size + 1 + 1) 27 #[.int .i64 0, .int .i64 0, .int .i64 0, .slice none 0 0] := ((((HB3r.out.to hb3).far (p := ⟨w.heap.size + 1, 0, none⟩) (by simp) (.int .i64 q2.st)).far (p := ⟨w.heap.size + 1, 1, none⟩) (by simp) (.int .i64 q2.pos)).far (p := ⟨w.heap.size + 1, 2, none⟩) (by simp) (.int .i64 q2.frm)).far (p := ⟨w.heap.size + 1, 3, none⟩) (by simp) (.slice A' q2.cells.length d')
          have hbY : Below w.heap.size w (((((w3.setCell ⟨w.heap.size + 1, 0, none⟩ (.int .i64 q2.st)).setCell ⟨w.heap.size + 1, 1, none⟩ (.int .i64 q2.pos)).setCell ⟨w.heap.size + 1, 2, none⟩ (.int .i64 q2.frm)).setCell ⟨w.heap.size + 1, 3, none⟩ (.slice A' q2.cells.length d'))) := ((((bnext hbr hb3).setCell (by simp) _).setCell (by simp) _).setCell (by simp) _).setCell (by simp) _
          generalize ((((w3.setCell ⟨w.heap.size + 1, 0, none⟩ (.int .i64 q2.st)).setCell ⟨w.heap.size + 1, 1, none⟩ (.int .i64 q2.pos)).setCell ⟨w.heap.size + 1, 2, none⟩ (.int .i64 q2.frm)).setCell ⟨w.heap.size + 1, 3, none⟩ (.slice A' q2.cells.length d')) = Y at *
          have HY1 := hid_ hY1
          have HY2 := hid_ hY2
          have HY3 := hid_ hY3
          clear hY1 hY2 hY3 q0 q1 qq2 q3 p0 p1 p2 l0 l1 l2 l3 k0 k1 k2 k3 HB1r HB2r HB3r HEr HMr
          have HEY := hid_ hEZ
          clear hEZ hE3
          have m1 : IntKind.i64.wrap ((j : Int) + 1) = ((j + 1 : Nat) : Int) := by rw [IntWalk.i64_in _ (by omega)]; omega
          go_wp2_with fail
          go_roundw
          case rel => exact ⟨j + 1, q2, A', d', rfl, by omega, HNX, HWN, HY1, HY2, HY3, HEY, hid_ (.inr HOF.out), hbY⟩
          case measure => simp [RowKit.intOf]; omega
    · have t1 : ¬ (j : Int) < (N : Int) := by omega
      have e : j = N := by omega
      have HDN : Hid (runC m N c = some (q, j)) := hid_ (by rw [← e]; exact HR.out)
      have hne : q.cells = [] ∨ (Value.slice A q.cells.length d).ownBlock ≠ some (w.heap.size + 1 + 1) := HOr.out.imp id (fun h => h.ne (by omega) (by omega))
      clear e
      obtain ⟨X, rfl⟩ : ∃ X : World, X = wr := ⟨_, rfl⟩
      have s0 := HB3r.out.free 0
      have s1 := HB3r.out.free 1
      have s2 := HB3r.out.free 2
      have s3 := HB3r.out.free 3
      have r0 := HB3r.out.cell 0
      have r1 := HB3r.out.cell 1
      have r2 := HB3r.out.cell 2
      have r3 := HB3r.out.cell 3
      simp at r0 r1 r2 r3
      go_wp2_with fail
      have BZ := (((HB3r.out.set_ 0 (.int .i64 q.st)).set_ 1 (.int .i64 q.pos)).set_ 2 (.int .i64 q.frm)).set_ 3 (.slice A q.cells.length d)
      have e0 := BZ.cell 0
      have e1 := BZ.cell 1
      have e2 := BZ.cell 2
      have e3 := BZ.cell 3
      simp at e0 e1 e2 e3
      refine bodyPost_ret (v := .tuple #[.agg #[.int .i64 q.st, .int .i64 q.pos, .int .i64 q.frm, .slice A q.cells.length d], .int .i64 (j : Int), .bool true]) (by simp [results, Tryd.results20, go_sem, e0, e1, e2, e3]) rfl ?_
      have hEZ := elems_off (p := ⟨w.heap.size + 1 + 1, 3, none⟩) (u := .slice A q.cells.length d) (elems_off (p := ⟨w.heap.size + 1 + 1, 2, none⟩) (u := .int .i64 q.frm) (elems_off (p := ⟨w.heap.size + 1 + 1, 1, none⟩) (u := .int .i64 q.pos) (elems_off (p := ⟨w.heap.size + 1 + 1, 0, none⟩) (u := .int .i64 q.st) (HEr.out) hne) hne) hne) hne
      exact ⟨q, j, A, d, by rw [HDN.out]; rfl, by rw [rrunC, HDN.out]; rfl, hEZ, (((hbr.setCell (by simp; omega) _).setCell (by simp; omega) _).setCell (by simp; omega) _).setCell (by simp; omega) _⟩
end Go.Proofs.YtkbaiegfloajlaaDoor.Tp

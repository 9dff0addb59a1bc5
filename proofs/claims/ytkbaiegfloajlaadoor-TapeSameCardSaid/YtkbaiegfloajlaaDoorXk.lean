/- The law TapeSame: runs, and the early ways. -/
import Derived.Test.YtkbaiegfloajlaaDoorXj
import Derived.Test.YtkbaiegfloajlaaDoorXm
import Derived.Test.YtkbaiegfloajlaaDoorVh
import Derived.Test.YtkbaiegfloajlaaDoorWc
import Derived.Test.YtkbaiegfloajlaaDoorWf
import Derived.Test.YtkbaiegfloajlaaDoorVg
namespace Go.Proofs.YtkbaiegfloajlaaDoor.Tp
open Go.RowKit

theorem fits_bounds {m : MachS} {c : CfgS} (h : fitsC m c = true) : c.cells.length ≤ 100000 ∧ (-1099511627776 ≤ c.pos ∧ c.pos ≤ 1099511627776) ∧ (-1099511627776 ≤ c.frm ∧ c.frm ≤ 1099511627776) := by
  rw [fitsC, Bool.and_eq_true] at h
  obtain ⟨_, _, h3, h4, h5, _, _⟩ := within_iff.1 h.2
  exact ⟨h5, inR_iff.1 h3, inR_iff.1 h4⟩

theorem runS_first (m : MachS) (c : CfgS) (n : Int) : ∀ x, (runS m c n).c.cells[0]? = some x → x ≠ 0 := by
  unfold runS
  cases hf : fitsC m c with
  | false => simp [noC]
  | true =>
    by_cases hs : n < 0 ∨ 1000000 < n
    · simp [hs, noC]
    · rw [if_neg (by simp), if_neg hs]
      cases h : runC m n.toNat c with
      | none => simp [noC]
      | some dj =>
        obtain ⟨d, j⟩ := dj
        rw [fitsC, Bool.and_eq_true] at hf
        intro x hx
        simp only at hx
        rcases (within_iff.1 (runC_within hf.1 hf.2 h)).2.2.2.2.2.1 with ⟨h0, _⟩ | ⟨_, h1, _⟩
        · rw [h0] at hx; cases hx
        · rw [List.getD_eq_getElem?_getD, hx] at h1
          exact h1
theorem elems_ne_box {w : World} {g n d : Nat} {T : TypeId} {A : Option Addr} {L : List Int} (hE : Elems w w.heap.size (.slice A n d) (ints L)) (hB : Blk w g T #[.int .i64 0, .int .i64 0, .int .i64 0, .slice none 0 0]) (hz : ∀ x, L[0]? = some x → x ≠ 0) : L = [] ∨ ∀ n d, (Value.slice A n d).ownBlock ≠ some g := by
  rcases hE with ⟨_, h⟩ | ⟨b, off, c, hv, hb, hc⟩
  · refine .inl ?_
    cases L with
    | nil => rfl
    | cons x l => simp [ints] at h
  · cases L with
    | nil => exact .inl rfl
    | cons x l =>
      refine .inr (fun n' d' e => ?_)
      simp only [Value.slice.injEq] at hv
      obtain ⟨rfl, _⟩ := hv
      simp only [Value.ownBlock, Option.some.injEq] at e
      subst e
      have h1 := hc 0 (.int .i64 x) (by simp [ints])
      rw [Nat.add_zero, hB.cell off] at h1
      have h2 := hz x rfl
      rcases (show off = 0 ∨ off = 1 ∨ off = 2 ∨ off = 3 ∨ 4 ≤ off by omega) with rfl | rfl | rfl | rfl | h
      · simp at h1; exact h2 h1.symm
      · simp at h1; exact h2 h1.symm
      · simp at h1; exact h2 h1.symm
      · simp at h1
      · rw [Array.getElem?_eq_none (by simp; omega)] at h1; cases h1

set_option maxRecDepth 100000 in
set_option maxHeartbeats 8000000 in
theorem runs3_any (m : MachS) (c : CfgS) (N : Nat) (v u : Value) (w : World) (hm : MachIn w w.heap.size v m) (hE : Elems w w.heap.size u (ints c.cells)) (hl : c.cells.length ≤ 17592186044416) (hN : N ≤ 65535) :
    Calls Tryd.prog 37 #[.agg #[.int .i64 m.states, .int .i64 m.symbols, v], .agg #[.int .i64 c.st, .int .i64 c.pos, .int .i64 c.frm, u], .int .u16 (N : Int)] w fun e w' => ∃ A d, e = .returned (.tuple #[.agg #[.int .i64 (runS m c ((N % 1001 : Nat) : Int)).c.st, .int .i64 (runS m c ((N % 1001 : Nat) : Int)).c.pos, .int .i64 (runS m c ((N % 1001 : Nat) : Int)).c.frm, .slice A (runS m c ((N % 1001 : Nat) : Int)).c.cells.length d], .int .i64 (runS m c ((N % 1001 : Nat) : Int)).k, .int .i64 (runS m c ((N % 1001 : Nat) : Int)).err]) ∧ Elems w' w'.heap.size (.slice A (runS m c ((N % 1001 : Nat) : Int)).c.cells.length d) (ints (runS m c ((N % 1001 : Nat) : Int)).c.cells) ∧ Below w.heap.size w w' ∧ ∀ k, (Value.slice A (runS m c ((N % 1001 : Nat) : Int)).c.cells.length d).ownBlock = some k → w.heap.size ≤ k := by
  obtain ⟨A1, c1, rfl⟩ := hm.rules.form
  obtain ⟨A2, c2, rfl⟩ := hE.form
  rw [ints_len] at hE ⊢
  have hbW := (below2 w (.cells #[.int .i64 m.states, .int .i64 m.symbols, .slice A1 m.rules.length c1] 24) (.cells #[.int .i64 c.st, .int .i64 c.pos, .int .i64 c.frm, .slice A2 c.cells.length c2] 27)).alloc (by simp; omega) (.cells #[.int .i64 0, .int .i64 0, .int .i64 0, .slice none 0 0] 27)
  have HM := hid_ (hm.to hbW)
  have HE := hid_ (hE.to hbW)
  have B1 := ((Blk.new w 24 #[.int .i64 m.states, .int .i64 m.symbols, .slice A1 m.rules.length c1]).alloc (.cells #[.int .i64 c.st, .int .i64 c.pos, .int .i64 c.frm, .slice A2 c.cells.length c2] 27)).alloc (.cells #[.int .i64 0, .int .i64 0, .int .i64 0, .slice none 0 0] 27)
  have B2 := (Blk.new (w.alloc (.cells #[.int .i64 m.states, .int .i64 m.symbols, .slice A1 m.rules.length c1] 24)) 27 #[.int .i64 c.st, .int .i64 c.pos, .int .i64 c.frm, .slice A2 c.cells.length c2]).alloc (.cells #[.int .i64 0, .int .i64 0, .int .i64 0, .slice none 0 0] 27)
  rw [show (w.alloc (.cells #[.int .i64 m.states, .int .i64 m.symbols, .slice A1 m.rules.length c1] 24)).heap.size = w.heap.size + 1 by simp] at B2
  have B3 := Blk.new ((w.alloc (.cells #[.int .i64 m.states, .int .i64 m.symbols, .slice A1 m.rules.length c1] 24)).alloc (.cells #[.int .i64 c.st, .int .i64 c.pos, .int .i64 c.frm, .slice A2 c.cells.length c2] 27)) 27 #[.int .i64 0, .int .i64 0, .int .i64 0, .slice none 0 0]
  rw [show ((w.alloc (.cells #[.int .i64 m.states, .int .i64 m.symbols, .slice A1 m.rules.length c1] 24)).alloc (.cells #[.int .i64 c.st, .int .i64 c.pos, .int .i64 c.frm, .slice A2 c.cells.length c2] 27)).heap.size = w.heap.size + 1 + 1 by simp] at B3
  have HB1 := hid_ B1
  have HB2 := hid_ B2
  have HB3 := hid_ B3
  have t3 : IntKind.i64.wrap (N : Int) = (N : Int) := IntWalk.i64_in _ (by omega)
  obtain ⟨k, hk⟩ : ∃ k, k = N % 1001 := ⟨_, rfl⟩
  rw [← hk]
  have t4 : (N : Int).tmod 1001 = (k : Int) := by rw [Int.tmod_eq_emod_of_nonneg (by omega)]; omega
  have t5 : IntKind.i64.wrap (k : Int) = (k : Int) := IntWalk.i64_in _ (by omega)
  obtain ⟨r, hr⟩ : ∃ r, r = runS m c (k : Int) := ⟨_, rfl⟩
  rw [← hr]
  have HRUN : Hid (∀ Y, MachIn Y Y.heap.size (.slice A1 m.rules.length c1) m → Elems Y Y.heap.size (.slice A2 c.cells.length c2) (ints c.cells) → Calls Tryd.prog 16 #[.agg #[.int .i64 m.states, .int .i64 m.symbols, .slice A1 m.rules.length c1], .agg #[.int .i64 c.st, .int .i64 c.pos, .int .i64 c.frm, .slice A2 c.cells.length c2], .int .i64 (k : Int)] Y fun e w' => ∃ A d, e = .returned (.tuple #[.agg #[.int .i64 r.c.st, .int .i64 r.c.pos, .int .i64 r.c.frm, .slice A r.c.cells.length d], .int .i64 r.k, .int .i64 r.err]) ∧ Elems w' w'.heap.size (.slice A r.c.cells.length d) (ints r.c.cells) ∧ Below Y.heap.size Y w' ∧ ∀ k, (Value.slice A r.c.cells.length d).ownBlock = some k → Y.heap.size ≤ k) := hid_ (fun Y h1 h2 => (run_any2 m c (k : Int) _ _ Y h1 h2 hl).mono (fun e w' h => by
    rw [← hr] at h
    obtain ⟨v, rfl, hE, hb, hfr⟩ := h
    obtain ⟨A, d, rfl⟩ := hE.form
    rw [ints_len] at hE hfr ⊢
    exact ⟨A, d, rfl, hE, hb, hfr⟩))
  have HZ : Hid (∀ x, r.c.cells[0]? = some x → x ≠ 0) := hid_ (by rw [hr]; exact runS_first m c _)
  clear hm hE B1 B2 B3 hr hk
  go_enter Tryd.func37, Tryd.ntmps37
  go_upto_region 1 with fail
  generalize ((w.alloc (.cells #[.int .i64 m.states, .int .i64 m.symbols, .slice A1 m.rules.length c1] 24)).alloc (.cells #[.int .i64 c.st, .int .i64 c.pos, .int .i64 c.frm, .slice A2 c.cells.length c2] 27)).alloc (.cells #[.int .i64 0, .int .i64 0, .int .i64 0, .slice none 0 0] 27) = W at *
  have p0 := HB1.out.cell 0
  have p1 := HB1.out.cell 1
  have p2 := HB1.out.cell 2
  simp at p0 p1 p2
  have q0 := HB2.out.cell 0
  have q1 := HB2.out.cell 1
  have q2 := HB2.out.cell 2
  have q3 := HB2.out.cell 3
  simp at q0 q1 q2 q3
  go_wp2_with (go_at_call 16; (with_reducible refine (HRUN.out W HM.out HE.out).mono ?_); rintro e w3 ⟨A, d, rfl, hE3, hb3, hfr3⟩; have HFR3 := hid_ hfr3; clear hfr3; have HX3 := hid_ (HB3.out.to hb3); have HE3 := hid_ hE3; have s0 := HX3.out.free 0; have s1 := HX3.out.free 1; have s2 := HX3.out.free 2; have s3 := HX3.out.free 3; have r0 := HX3.out.cell 0; have r1 := HX3.out.cell 1; have r2 := HX3.out.cell 2; have r3 := HX3.out.cell 3; simp at r0 r1 r2 r3)
  have hb4 := bnext hbW hb3
  have hne := (elems_ne_box HE3.out HX3.out HZ.out).imp id (fun h => h r.c.cells.length d)
  have BZ := ((((HX3.out).set_ 0 (.int .i64 r.c.st)).set_ 1 (.int .i64 r.c.pos)).set_ 2 (.int .i64 r.c.frm)).set_ 3 (.slice A r.c.cells.length d)
  have e0 := BZ.cell 0
  have e1 := BZ.cell 1
  have e2 := BZ.cell 2
  have e3 := BZ.cell 3
  simp at e0 e1 e2 e3
  refine bodyPost_ret (v := .tuple #[.agg #[.int .i64 r.c.st, .int .i64 r.c.pos, .int .i64 r.c.frm, .slice A r.c.cells.length d], .int .i64 r.k, .int .i64 r.err]) (by simp [results, Tryd.results37, go_sem, e0, e1, e2, e3]) rfl ?_
  have hEZ := elems_off (p := ⟨w.heap.size + 1 + 1, 3, none⟩) (u := .slice A r.c.cells.length d) (elems_off (p := ⟨w.heap.size + 1 + 1, 2, none⟩) (u := .int .i64 r.c.frm) (elems_off (p := ⟨w.heap.size + 1 + 1, 1, none⟩) (u := .int .i64 r.c.pos) (elems_off (p := ⟨w.heap.size + 1 + 1, 0, none⟩) (u := .int .i64 r.c.st) (HE3.out) hne) hne) hne) hne
  exact ⟨A, d, rfl, hEZ, ((((hb4).setCell (by simp <;> omega) _).setCell (by simp <;> omega) _).setCell (by simp <;> omega) _).setCell (by simp <;> omega) _, fun k9 hk9 => Nat.le_trans hbW.size (HFR3.out k9 hk9)⟩

section
variable (m : MachS) (c : CfgS) (N : Nat) (ss xs : List Int) (t : Int) (v u u1 u2 : Value) (w : World) (mx : Int)

set_option maxRecDepth 100000 in
set_option maxHeartbeats 8000000 in
theorem same_e0 (hm : MachIn w w.heap.size v m) (hE : Elems w w.heap.size u (ints c.cells)) (hS : Elems w w.heap.size u1 (ints ss)) (hX : Elems w w.heap.size u2 (ints xs)) (hlc : c.cells.length ≤ 17592186044416) (hmx : w.cell? ⟨0, 0, none⟩ = some (.int .i64 mx)) (hHW : wideT m c = true)  :
    Calls Tryd.prog 7 #[.agg #[.int .i64 m.states, .int .i64 m.symbols, v], .agg #[.int .i64 c.st, .int .i64 c.pos, .int .i64 c.frm, u], .int .u16 (N : Int), u1, u2, .int .i16 t] w (YesL w) := by
  have HW := hid_ hHW
  clear hHW
  obtain ⟨A1, c1, rfl⟩ := hm.rules.form
  obtain ⟨A2, c2, rfl⟩ := hE.form
  obtain ⟨As, cs, rfl⟩ := hS.form
  obtain ⟨Ax, cx, rfl⟩ := hX.form
  rw [ints_len] at hE hS hX ⊢
  rw [ints_len, ints_len]
  have hbW : Below w.heap.size w ((w.alloc (.cells #[.int .i64 m.states, .int .i64 m.symbols, .slice A1 m.rules.length c1] 24)).alloc (.cells #[.int .i64 c.st, .int .i64 c.pos, .int .i64 c.frm, .slice A2 c.cells.length c2] 27)) := below2 w _ _
  have HM := hid_ (hm.to hbW)
  have HE := hid_ (hE.to hbW)
  have HSS := hid_ (hS.to hbW)
  have HXX := hid_ (hX.to hbW)
  have HMX := hid_ hmx
  have B1 := (Blk.new w 24 #[.int .i64 m.states, .int .i64 m.symbols, .slice A1 m.rules.length c1]).alloc (.cells #[.int .i64 c.st, .int .i64 c.pos, .int .i64 c.frm, .slice A2 c.cells.length c2] 27)
  have B2 := Blk.new (w.alloc (.cells #[.int .i64 m.states, .int .i64 m.symbols, .slice A1 m.rules.length c1] 24)) 27 #[.int .i64 c.st, .int .i64 c.pos, .int .i64 c.frm, .slice A2 c.cells.length c2]
  rw [show (w.alloc (.cells #[.int .i64 m.states, .int .i64 m.symbols, .slice A1 m.rules.length c1] 24)).heap.size = w.heap.size + 1 by simp] at B2
  have HB1 := hid_ B1
  have HB2 := hid_ B2
  clear hm hE hS hX hmx B1 B2
  go_enter Tryd.func7, Tryd.ntmps7
  go_upto_region 1 with fail
  generalize (w.alloc (.cells #[.int .i64 m.states, .int .i64 m.symbols, .slice A1 m.rules.length c1] 24)).alloc (.cells #[.int .i64 c.st, .int .i64 c.pos, .int .i64 c.frm, .slice A2 c.cells.length c2] 27) = W at *
  have p0 := HB1.out.cell 0
  have p1 := HB1.out.cell 1
  have p2 := HB1.out.cell 2
  simp at p0 p1 p2
  have q0 := HB2.out.cell 0
  have q1 := HB2.out.cell 1
  have q2 := HB2.out.cell 2
  have q3 := HB2.out.cell 3
  simp at q0 q1 q2 q3
  go_wp2_with fail
  refine (wide_any m c _ _ _ HM.out HE.out hlc).mono ?_
  rw [HW.out]
  rintro e w1 ⟨rfl, hb1⟩
  replace HM := hid_ (HM.out.to hb1)
  replace HE := hid_ (HE.out.to hb1)
  replace HSS := hid_ (HSS.out.to hb1)
  replace HXX := hid_ (HXX.out.to hb1)
  replace HB1 := hid_ (HB1.out.to hb1)
  replace HB2 := hid_ (HB2.out.to hb1)
  replace hbW := bnext hbW hb1
  clear hb1
  clear p0 p1 p2 q0 q1 q2 q3
  have p0 := HB1.out.cell 0
  have p1 := HB1.out.cell 1
  have p2 := HB1.out.cell 2
  simp at p0 p1 p2
  have q0 := HB2.out.cell 0
  have q1 := HB2.out.cell 1
  have q2 := HB2.out.cell 2
  have q3 := HB2.out.cell 3
  simp at q0 q1 q2 q3
  go_wp2_with fail
  refine (awake_any mx _ (keepc hbW HMX.out)).mono ?_
  rintro e w99 ⟨rfl, hb99⟩
  go_wp2_with fail
  go_ret
  exact ⟨rfl, bnext hbW hb99⟩

set_option maxRecDepth 100000 in
set_option maxHeartbeats 8000000 in
theorem same_e1 (hm : MachIn w w.heap.size v m) (hE : Elems w w.heap.size u (ints c.cells)) (hS : Elems w w.heap.size u1 (ints ss)) (hX : Elems w w.heap.size u2 (ints xs)) (hlc : c.cells.length ≤ 17592186044416) (hmx : w.cell? ⟨0, 0, none⟩ = some (.int .i64 mx)) (hHW : wideT m c = false) (hHF : fitsC m c = false)  :
    Calls Tryd.prog 7 #[.agg #[.int .i64 m.states, .int .i64 m.symbols, v], .agg #[.int .i64 c.st, .int .i64 c.pos, .int .i64 c.frm, u], .int .u16 (N : Int), u1, u2, .int .i16 t] w (YesL w) := by
  have HW := hid_ hHW
  have HF := hid_ hHF
  clear hHW hHF
  obtain ⟨A1, c1, rfl⟩ := hm.rules.form
  obtain ⟨A2, c2, rfl⟩ := hE.form
  obtain ⟨As, cs, rfl⟩ := hS.form
  obtain ⟨Ax, cx, rfl⟩ := hX.form
  rw [ints_len] at hE hS hX ⊢
  rw [ints_len, ints_len]
  have hbW : Below w.heap.size w ((w.alloc (.cells #[.int .i64 m.states, .int .i64 m.symbols, .slice A1 m.rules.length c1] 24)).alloc (.cells #[.int .i64 c.st, .int .i64 c.pos, .int .i64 c.frm, .slice A2 c.cells.length c2] 27)) := below2 w _ _
  have HM := hid_ (hm.to hbW)
  have HE := hid_ (hE.to hbW)
  have HSS := hid_ (hS.to hbW)
  have HXX := hid_ (hX.to hbW)
  have HMX := hid_ hmx
  have B1 := (Blk.new w 24 #[.int .i64 m.states, .int .i64 m.symbols, .slice A1 m.rules.length c1]).alloc (.cells #[.int .i64 c.st, .int .i64 c.pos, .int .i64 c.frm, .slice A2 c.cells.length c2] 27)
  have B2 := Blk.new (w.alloc (.cells #[.int .i64 m.states, .int .i64 m.symbols, .slice A1 m.rules.length c1] 24)) 27 #[.int .i64 c.st, .int .i64 c.pos, .int .i64 c.frm, .slice A2 c.cells.length c2]
  rw [show (w.alloc (.cells #[.int .i64 m.states, .int .i64 m.symbols, .slice A1 m.rules.length c1] 24)).heap.size = w.heap.size + 1 by simp] at B2
  have HB1 := hid_ B1
  have HB2 := hid_ B2
  clear hm hE hS hX hmx B1 B2
  go_enter Tryd.func7, Tryd.ntmps7
  go_upto_region 1 with fail
  generalize (w.alloc (.cells #[.int .i64 m.states, .int .i64 m.symbols, .slice A1 m.rules.length c1] 24)).alloc (.cells #[.int .i64 c.st, .int .i64 c.pos, .int .i64 c.frm, .slice A2 c.cells.length c2] 27) = W at *
  have p0 := HB1.out.cell 0
  have p1 := HB1.out.cell 1
  have p2 := HB1.out.cell 2
  simp at p0 p1 p2
  have q0 := HB2.out.cell 0
  have q1 := HB2.out.cell 1
  have q2 := HB2.out.cell 2
  have q3 := HB2.out.cell 3
  simp at q0 q1 q2 q3
  go_wp2_with fail
  refine (wide_any m c _ _ _ HM.out HE.out hlc).mono ?_
  rw [HW.out]
  rintro e w2 ⟨rfl, hb2⟩
  replace HM := hid_ (HM.out.to hb2)
  replace HE := hid_ (HE.out.to hb2)
  replace HSS := hid_ (HSS.out.to hb2)
  replace HXX := hid_ (HXX.out.to hb2)
  replace HB1 := hid_ (HB1.out.to hb2)
  replace HB2 := hid_ (HB2.out.to hb2)
  replace hbW := bnext hbW hb2
  clear hb2
  clear p0 p1 p2 q0 q1 q2 q3
  have p0 := HB1.out.cell 0
  have p1 := HB1.out.cell 1
  have p2 := HB1.out.cell 2
  simp at p0 p1 p2
  have q0 := HB2.out.cell 0
  have q1 := HB2.out.cell 1
  have q2 := HB2.out.cell 2
  have q3 := HB2.out.cell 3
  simp at q0 q1 q2 q3
  go_wp2_with fail
  refine (rfits_any m c _ _ _ HM.out HE.out hlc).mono ?_
  rw [HF.out]
  rintro e w3 ⟨rfl, hb3⟩
  replace HM := hid_ (HM.out.to hb3)
  replace HE := hid_ (HE.out.to hb3)
  replace HSS := hid_ (HSS.out.to hb3)
  replace HXX := hid_ (HXX.out.to hb3)
  replace HB1 := hid_ (HB1.out.to hb3)
  replace HB2 := hid_ (HB2.out.to hb3)
  replace hbW := bnext hbW hb3
  clear hb3
  clear p0 p1 p2 q0 q1 q2 q3
  have p0 := HB1.out.cell 0
  have p1 := HB1.out.cell 1
  have p2 := HB1.out.cell 2
  simp at p0 p1 p2
  have q0 := HB2.out.cell 0
  have q1 := HB2.out.cell 1
  have q2 := HB2.out.cell 2
  have q3 := HB2.out.cell 3
  simp at q0 q1 q2 q3
  go_wp2_with fail
  refine (awake_any mx _ (keepc hbW HMX.out)).mono ?_
  rintro e w99 ⟨rfl, hb99⟩
  go_wp2_with fail
  go_ret
  exact ⟨rfl, bnext hbW hb99⟩

set_option maxRecDepth 100000 in
set_option maxHeartbeats 8000000 in
theorem same_e2 (hm : MachIn w w.heap.size v m) (hE : Elems w w.heap.size u (ints c.cells)) (hS : Elems w w.heap.size u1 (ints ss)) (hX : Elems w w.heap.size u2 (ints xs)) (hlc : c.cells.length ≤ 17592186044416) (hmx : w.cell? ⟨0, 0, none⟩ = some (.int .i64 mx)) (hHW : wideT m c = false) (hHF : fitsC m c = true) (hHG : farC c = false)  :
    Calls Tryd.prog 7 #[.agg #[.int .i64 m.states, .int .i64 m.symbols, v], .agg #[.int .i64 c.st, .int .i64 c.pos, .int .i64 c.frm, u], .int .u16 (N : Int), u1, u2, .int .i16 t] w (YesL w) := by
  have HW := hid_ hHW
  have HF := hid_ hHF
  have HG := hid_ hHG
  have HI := hid_ (fits_bounds hHF)
  clear hHW hHF hHG
  obtain ⟨A1, c1, rfl⟩ := hm.rules.form
  obtain ⟨A2, c2, rfl⟩ := hE.form
  obtain ⟨As, cs, rfl⟩ := hS.form
  obtain ⟨Ax, cx, rfl⟩ := hX.form
  rw [ints_len] at hE hS hX ⊢
  rw [ints_len, ints_len]
  have hbW : Below w.heap.size w ((w.alloc (.cells #[.int .i64 m.states, .int .i64 m.symbols, .slice A1 m.rules.length c1] 24)).alloc (.cells #[.int .i64 c.st, .int .i64 c.pos, .int .i64 c.frm, .slice A2 c.cells.length c2] 27)) := below2 w _ _
  have HM := hid_ (hm.to hbW)
  have HE := hid_ (hE.to hbW)
  have HSS := hid_ (hS.to hbW)
  have HXX := hid_ (hX.to hbW)
  have HMX := hid_ hmx
  have B1 := (Blk.new w 24 #[.int .i64 m.states, .int .i64 m.symbols, .slice A1 m.rules.length c1]).alloc (.cells #[.int .i64 c.st, .int .i64 c.pos, .int .i64 c.frm, .slice A2 c.cells.length c2] 27)
  have B2 := Blk.new (w.alloc (.cells #[.int .i64 m.states, .int .i64 m.symbols, .slice A1 m.rules.length c1] 24)) 27 #[.int .i64 c.st, .int .i64 c.pos, .int .i64 c.frm, .slice A2 c.cells.length c2]
  rw [show (w.alloc (.cells #[.int .i64 m.states, .int .i64 m.symbols, .slice A1 m.rules.length c1] 24)).heap.size = w.heap.size + 1 by simp] at B2
  have HB1 := hid_ B1
  have HB2 := hid_ B2
  clear hm hE hS hX hmx B1 B2
  go_enter Tryd.func7, Tryd.ntmps7
  go_upto_region 1 with fail
  generalize (w.alloc (.cells #[.int .i64 m.states, .int .i64 m.symbols, .slice A1 m.rules.length c1] 24)).alloc (.cells #[.int .i64 c.st, .int .i64 c.pos, .int .i64 c.frm, .slice A2 c.cells.length c2] 27) = W at *
  have p0 := HB1.out.cell 0
  have p1 := HB1.out.cell 1
  have p2 := HB1.out.cell 2
  simp at p0 p1 p2
  have q0 := HB2.out.cell 0
  have q1 := HB2.out.cell 1
  have q2 := HB2.out.cell 2
  have q3 := HB2.out.cell 3
  simp at q0 q1 q2 q3
  go_wp2_with fail
  refine (wide_any m c _ _ _ HM.out HE.out hlc).mono ?_
  rw [HW.out]
  rintro e w4 ⟨rfl, hb4⟩
  replace HM := hid_ (HM.out.to hb4)
  replace HE := hid_ (HE.out.to hb4)
  replace HSS := hid_ (HSS.out.to hb4)
  replace HXX := hid_ (HXX.out.to hb4)
  replace HB1 := hid_ (HB1.out.to hb4)
  replace HB2 := hid_ (HB2.out.to hb4)
  replace hbW := bnext hbW hb4
  clear hb4
  clear p0 p1 p2 q0 q1 q2 q3
  have p0 := HB1.out.cell 0
  have p1 := HB1.out.cell 1
  have p2 := HB1.out.cell 2
  simp at p0 p1 p2
  have q0 := HB2.out.cell 0
  have q1 := HB2.out.cell 1
  have q2 := HB2.out.cell 2
  have q3 := HB2.out.cell 3
  simp at q0 q1 q2 q3
  go_wp2_with fail
  refine (rfits_any m c _ _ _ HM.out HE.out hlc).mono ?_
  rw [HF.out]
  rintro e w5 ⟨rfl, hb5⟩
  replace HM := hid_ (HM.out.to hb5)
  replace HE := hid_ (HE.out.to hb5)
  replace HSS := hid_ (HSS.out.to hb5)
  replace HXX := hid_ (HXX.out.to hb5)
  replace HB1 := hid_ (HB1.out.to hb5)
  replace HB2 := hid_ (HB2.out.to hb5)
  replace hbW := bnext hbW hb5
  clear hb5
  clear p0 p1 p2 q0 q1 q2 q3
  have p0 := HB1.out.cell 0
  have p1 := HB1.out.cell 1
  have p2 := HB1.out.cell 2
  simp at p0 p1 p2
  have q0 := HB2.out.cell 0
  have q1 := HB2.out.cell 1
  have q2 := HB2.out.cell 2
  have q3 := HB2.out.cell 3
  simp at q0 q1 q2 q3
  go_wp2_with fail
  refine (far_any c _ _ HE.out HI.out.1 HI.out.2.1 HI.out.2.2).mono ?_
  rw [HG.out]
  rintro e w6 ⟨rfl, hb6⟩
  replace HM := hid_ (HM.out.to hb6)
  replace HE := hid_ (HE.out.to hb6)
  replace HSS := hid_ (HSS.out.to hb6)
  replace HXX := hid_ (HXX.out.to hb6)
  replace HB1 := hid_ (HB1.out.to hb6)
  replace HB2 := hid_ (HB2.out.to hb6)
  replace hbW := bnext hbW hb6
  clear hb6
  clear p0 p1 p2 q0 q1 q2 q3
  have p0 := HB1.out.cell 0
  have p1 := HB1.out.cell 1
  have p2 := HB1.out.cell 2
  simp at p0 p1 p2
  have q0 := HB2.out.cell 0
  have q1 := HB2.out.cell 1
  have q2 := HB2.out.cell 2
  have q3 := HB2.out.cell 3
  simp at q0 q1 q2 q3
  go_wp2_with fail
  refine (awake_any mx _ (keepc hbW HMX.out)).mono ?_
  rintro e w99 ⟨rfl, hb99⟩
  go_wp2_with fail
  go_ret
  exact ⟨rfl, bnext hbW hb99⟩

set_option maxRecDepth 100000 in
set_option maxHeartbeats 8000000 in
theorem same_e3 (hm : MachIn w w.heap.size v m) (hE : Elems w w.heap.size u (ints c.cells)) (hS : Elems w w.heap.size u1 (ints ss)) (hX : Elems w w.heap.size u2 (ints xs)) (hlc : c.cells.length ≤ 17592186044416) (hmx : w.cell? ⟨0, 0, none⟩ = some (.int .i64 mx)) (hHW : wideT m c = false) (hHF : fitsC m c = true) (hHG : farC c = true) (t1 : (100 : Int) < (ss.length : Int)) :
    Calls Tryd.prog 7 #[.agg #[.int .i64 m.states, .int .i64 m.symbols, v], .agg #[.int .i64 c.st, .int .i64 c.pos, .int .i64 c.frm, u], .int .u16 (N : Int), u1, u2, .int .i16 t] w (YesL w) := by
  have HW := hid_ hHW
  have HF := hid_ hHF
  have HG := hid_ hHG
  have HI := hid_ (fits_bounds hHF)
  clear hHW hHF hHG
  obtain ⟨A1, c1, rfl⟩ := hm.rules.form
  obtain ⟨A2, c2, rfl⟩ := hE.form
  obtain ⟨As, cs, rfl⟩ := hS.form
  obtain ⟨Ax, cx, rfl⟩ := hX.form
  rw [ints_len] at hE hS hX ⊢
  rw [ints_len, ints_len]
  have hbW : Below w.heap.size w ((w.alloc (.cells #[.int .i64 m.states, .int .i64 m.symbols, .slice A1 m.rules.length c1] 24)).alloc (.cells #[.int .i64 c.st, .int .i64 c.pos, .int .i64 c.frm, .slice A2 c.cells.length c2] 27)) := below2 w _ _
  have HM := hid_ (hm.to hbW)
  have HE := hid_ (hE.to hbW)
  have HSS := hid_ (hS.to hbW)
  have HXX := hid_ (hX.to hbW)
  have HMX := hid_ hmx
  have B1 := (Blk.new w 24 #[.int .i64 m.states, .int .i64 m.symbols, .slice A1 m.rules.length c1]).alloc (.cells #[.int .i64 c.st, .int .i64 c.pos, .int .i64 c.frm, .slice A2 c.cells.length c2] 27)
  have B2 := Blk.new (w.alloc (.cells #[.int .i64 m.states, .int .i64 m.symbols, .slice A1 m.rules.length c1] 24)) 27 #[.int .i64 c.st, .int .i64 c.pos, .int .i64 c.frm, .slice A2 c.cells.length c2]
  rw [show (w.alloc (.cells #[.int .i64 m.states, .int .i64 m.symbols, .slice A1 m.rules.length c1] 24)).heap.size = w.heap.size + 1 by simp] at B2
  have HB1 := hid_ B1
  have HB2 := hid_ B2
  clear hm hE hS hX hmx B1 B2
  go_enter Tryd.func7, Tryd.ntmps7
  go_upto_region 1 with fail
  generalize (w.alloc (.cells #[.int .i64 m.states, .int .i64 m.symbols, .slice A1 m.rules.length c1] 24)).alloc (.cells #[.int .i64 c.st, .int .i64 c.pos, .int .i64 c.frm, .slice A2 c.cells.length c2] 27) = W at *
  have p0 := HB1.out.cell 0
  have p1 := HB1.out.cell 1
  have p2 := HB1.out.cell 2
  simp at p0 p1 p2
  have q0 := HB2.out.cell 0
  have q1 := HB2.out.cell 1
  have q2 := HB2.out.cell 2
  have q3 := HB2.out.cell 3
  simp at q0 q1 q2 q3
  go_wp2_with fail
  refine (wide_any m c _ _ _ HM.out HE.out hlc).mono ?_
  rw [HW.out]
  rintro e w7 ⟨rfl, hb7⟩
  replace HM := hid_ (HM.out.to hb7)
  replace HE := hid_ (HE.out.to hb7)
  replace HSS := hid_ (HSS.out.to hb7)
  replace HXX := hid_ (HXX.out.to hb7)
  replace HB1 := hid_ (HB1.out.to hb7)
  replace HB2 := hid_ (HB2.out.to hb7)
  replace hbW := bnext hbW hb7
  clear hb7
  clear p0 p1 p2 q0 q1 q2 q3
  have p0 := HB1.out.cell 0
  have p1 := HB1.out.cell 1
  have p2 := HB1.out.cell 2
  simp at p0 p1 p2
  have q0 := HB2.out.cell 0
  have q1 := HB2.out.cell 1
  have q2 := HB2.out.cell 2
  have q3 := HB2.out.cell 3
  simp at q0 q1 q2 q3
  go_wp2_with fail
  refine (rfits_any m c _ _ _ HM.out HE.out hlc).mono ?_
  rw [HF.out]
  rintro e w8 ⟨rfl, hb8⟩
  replace HM := hid_ (HM.out.to hb8)
  replace HE := hid_ (HE.out.to hb8)
  replace HSS := hid_ (HSS.out.to hb8)
  replace HXX := hid_ (HXX.out.to hb8)
  replace HB1 := hid_ (HB1.out.to hb8)
  replace HB2 := hid_ (HB2.out.to hb8)
  replace hbW := bnext hbW hb8
  clear hb8
  clear p0 p1 p2 q0 q1 q2 q3
  have p0 := HB1.out.cell 0
  have p1 := HB1.out.cell 1
  have p2 := HB1.out.cell 2
  simp at p0 p1 p2
  have q0 := HB2.out.cell 0
  have q1 := HB2.out.cell 1
  have q2 := HB2.out.cell 2
  have q3 := HB2.out.cell 3
  simp at q0 q1 q2 q3
  go_wp2_with fail
  refine (far_any c _ _ HE.out HI.out.1 HI.out.2.1 HI.out.2.2).mono ?_
  rw [HG.out]
  rintro e w9 ⟨rfl, hb9⟩
  replace HM := hid_ (HM.out.to hb9)
  replace HE := hid_ (HE.out.to hb9)
  replace HSS := hid_ (HSS.out.to hb9)
  replace HXX := hid_ (HXX.out.to hb9)
  replace HB1 := hid_ (HB1.out.to hb9)
  replace HB2 := hid_ (HB2.out.to hb9)
  replace hbW := bnext hbW hb9
  clear hb9
  clear p0 p1 p2 q0 q1 q2 q3
  have p0 := HB1.out.cell 0
  have p1 := HB1.out.cell 1
  have p2 := HB1.out.cell 2
  simp at p0 p1 p2
  have q0 := HB2.out.cell 0
  have q1 := HB2.out.cell 1
  have q2 := HB2.out.cell 2
  have q3 := HB2.out.cell 3
  simp at q0 q1 q2 q3
  go_wp2_with fail
  refine (awake_any mx _ (keepc hbW HMX.out)).mono ?_
  rintro e w99 ⟨rfl, hb99⟩
  go_wp2_with fail
  go_ret
  exact ⟨rfl, bnext hbW hb99⟩

set_option maxRecDepth 100000 in
set_option maxHeartbeats 8000000 in
theorem same_e4 (hm : MachIn w w.heap.size v m) (hE : Elems w w.heap.size u (ints c.cells)) (hS : Elems w w.heap.size u1 (ints ss)) (hX : Elems w w.heap.size u2 (ints xs)) (hlc : c.cells.length ≤ 17592186044416) (hmx : w.cell? ⟨0, 0, none⟩ = some (.int .i64 mx)) (hHW : wideT m c = false) (hHF : fitsC m c = true) (hHG : farC c = true) (t1 : ¬ (100 : Int) < (ss.length : Int)) (t2 : (100 : Int) < (xs.length : Int)) :
    Calls Tryd.prog 7 #[.agg #[.int .i64 m.states, .int .i64 m.symbols, v], .agg #[.int .i64 c.st, .int .i64 c.pos, .int .i64 c.frm, u], .int .u16 (N : Int), u1, u2, .int .i16 t] w (YesL w) := by
  have HW := hid_ hHW
  have HF := hid_ hHF
  have HG := hid_ hHG
  have HI := hid_ (fits_bounds hHF)
  clear hHW hHF hHG
  obtain ⟨A1, c1, rfl⟩ := hm.rules.form
  obtain ⟨A2, c2, rfl⟩ := hE.form
  obtain ⟨As, cs, rfl⟩ := hS.form
  obtain ⟨Ax, cx, rfl⟩ := hX.form
  rw [ints_len] at hE hS hX ⊢
  rw [ints_len, ints_len]
  have hbW : Below w.heap.size w ((w.alloc (.cells #[.int .i64 m.states, .int .i64 m.symbols, .slice A1 m.rules.length c1] 24)).alloc (.cells #[.int .i64 c.st, .int .i64 c.pos, .int .i64 c.frm, .slice A2 c.cells.length c2] 27)) := below2 w _ _
  have HM := hid_ (hm.to hbW)
  have HE := hid_ (hE.to hbW)
  have HSS := hid_ (hS.to hbW)
  have HXX := hid_ (hX.to hbW)
  have HMX := hid_ hmx
  have B1 := (Blk.new w 24 #[.int .i64 m.states, .int .i64 m.symbols, .slice A1 m.rules.length c1]).alloc (.cells #[.int .i64 c.st, .int .i64 c.pos, .int .i64 c.frm, .slice A2 c.cells.length c2] 27)
  have B2 := Blk.new (w.alloc (.cells #[.int .i64 m.states, .int .i64 m.symbols, .slice A1 m.rules.length c1] 24)) 27 #[.int .i64 c.st, .int .i64 c.pos, .int .i64 c.frm, .slice A2 c.cells.length c2]
  rw [show (w.alloc (.cells #[.int .i64 m.states, .int .i64 m.symbols, .slice A1 m.rules.length c1] 24)).heap.size = w.heap.size + 1 by simp] at B2
  have HB1 := hid_ B1
  have HB2 := hid_ B2
  clear hm hE hS hX hmx B1 B2
  go_enter Tryd.func7, Tryd.ntmps7
  go_upto_region 1 with fail
  generalize (w.alloc (.cells #[.int .i64 m.states, .int .i64 m.symbols, .slice A1 m.rules.length c1] 24)).alloc (.cells #[.int .i64 c.st, .int .i64 c.pos, .int .i64 c.frm, .slice A2 c.cells.length c2] 27) = W at *
  have p0 := HB1.out.cell 0
  have p1 := HB1.out.cell 1
  have p2 := HB1.out.cell 2
  simp at p0 p1 p2
  have q0 := HB2.out.cell 0
  have q1 := HB2.out.cell 1
  have q2 := HB2.out.cell 2
  have q3 := HB2.out.cell 3
  simp at q0 q1 q2 q3
  go_wp2_with fail
  refine (wide_any m c _ _ _ HM.out HE.out hlc).mono ?_
  rw [HW.out]
  rintro e w10 ⟨rfl, hb10⟩
  replace HM := hid_ (HM.out.to hb10)
  replace HE := hid_ (HE.out.to hb10)
  replace HSS := hid_ (HSS.out.to hb10)
  replace HXX := hid_ (HXX.out.to hb10)
  replace HB1 := hid_ (HB1.out.to hb10)
  replace HB2 := hid_ (HB2.out.to hb10)
  replace hbW := bnext hbW hb10
  clear hb10
  clear p0 p1 p2 q0 q1 q2 q3
  have p0 := HB1.out.cell 0
  have p1 := HB1.out.cell 1
  have p2 := HB1.out.cell 2
  simp at p0 p1 p2
  have q0 := HB2.out.cell 0
  have q1 := HB2.out.cell 1
  have q2 := HB2.out.cell 2
  have q3 := HB2.out.cell 3
  simp at q0 q1 q2 q3
  go_wp2_with fail
  refine (rfits_any m c _ _ _ HM.out HE.out hlc).mono ?_
  rw [HF.out]
  rintro e w11 ⟨rfl, hb11⟩
  replace HM := hid_ (HM.out.to hb11)
  replace HE := hid_ (HE.out.to hb11)
  replace HSS := hid_ (HSS.out.to hb11)
  replace HXX := hid_ (HXX.out.to hb11)
  replace HB1 := hid_ (HB1.out.to hb11)
  replace HB2 := hid_ (HB2.out.to hb11)
  replace hbW := bnext hbW hb11
  clear hb11
  clear p0 p1 p2 q0 q1 q2 q3
  have p0 := HB1.out.cell 0
  have p1 := HB1.out.cell 1
  have p2 := HB1.out.cell 2
  simp at p0 p1 p2
  have q0 := HB2.out.cell 0
  have q1 := HB2.out.cell 1
  have q2 := HB2.out.cell 2
  have q3 := HB2.out.cell 3
  simp at q0 q1 q2 q3
  go_wp2_with fail
  refine (far_any c _ _ HE.out HI.out.1 HI.out.2.1 HI.out.2.2).mono ?_
  rw [HG.out]
  rintro e w12 ⟨rfl, hb12⟩
  replace HM := hid_ (HM.out.to hb12)
  replace HE := hid_ (HE.out.to hb12)
  replace HSS := hid_ (HSS.out.to hb12)
  replace HXX := hid_ (HXX.out.to hb12)
  replace HB1 := hid_ (HB1.out.to hb12)
  replace HB2 := hid_ (HB2.out.to hb12)
  replace hbW := bnext hbW hb12
  clear hb12
  clear p0 p1 p2 q0 q1 q2 q3
  have p0 := HB1.out.cell 0
  have p1 := HB1.out.cell 1
  have p2 := HB1.out.cell 2
  simp at p0 p1 p2
  have q0 := HB2.out.cell 0
  have q1 := HB2.out.cell 1
  have q2 := HB2.out.cell 2
  have q3 := HB2.out.cell 3
  simp at q0 q1 q2 q3
  go_wp2_with fail
  refine (awake_any mx _ (keepc hbW HMX.out)).mono ?_
  rintro e w99 ⟨rfl, hb99⟩
  go_wp2_with fail
  go_ret
  exact ⟨rfl, bnext hbW hb99⟩

end
end Go.Proofs.YtkbaiegfloajlaaDoor.Tp

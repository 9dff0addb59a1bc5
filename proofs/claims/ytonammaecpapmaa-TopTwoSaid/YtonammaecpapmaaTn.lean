/- The contract of Run of package tape. Contracts: champion, sameInts, lives of package standstilltop. -/
import Derived.Test.YtonammaecpapmaaTi
import Derived.Test.YtonammaecpapmaaTk
import Derived.Test.YtonammaecpapmaaTl
import Derived.Test.YtonammaecpapmaaTa
namespace Go.Proofs.Ytonammaecpapmaa.Tp
open Go.RowKit

theorem step_within {m : MachS} {c d : CfgS} (hv : validM m = true) (hw : withinC c m.states m.symbols = true) (hs : c.st ≠ -1) (hd : stepC m c = some d) : withinC d m.states m.symbols = true := by
  obtain ⟨w1, w2, w3, w4, w5, w6, w7⟩ := within_iff.1 hw
  obtain ⟨v1, v2, v3, v4, v5, v6⟩ := validM_parts hv
  have hc := (symB_cells (b := c.frm) (by omega)).1 w7
  obtain ⟨s, hse⟩ := Int.eq_ofNat_of_zero_le (show 0 ≤ c.st by omega)
  obtain ⟨x, hxe⟩ := Int.eq_ofNat_of_zero_le (hc c.pos).1
  obtain ⟨row, r, _, _, h3, h4, _⟩ := rule_at hv (s := s) (x := x) (by omega) (by have := (hc c.pos).2; omega)
  obtain ⟨b1, b2, b3, b4, b5⟩ := ruleB_yes.1 h4
  rw [stepC, hse, hxe, h3] at hd
  split at hd
  · rename_i hh
    obtain rfl := Option.some.inj hd
    refine within_iff.2 ⟨b3, b4, hh.2.1, hh.2.2, hh.1, normL_norm _ _, (symB_cells (b := (normL (putL c.frm c.cells c.pos r.w).1 (putL c.frm c.cells c.pos r.w).2).1) (by omega)).2 fun p => ?_⟩
    rw [normL_cell, putL_cell]
    split
    · exact ⟨b1, b2⟩
    · exact hc p
  · cases hd

theorem elems_out {w : World} {p : Addr} {u v : Value} {cs : List Value} (h : Elems w w.heap.size v cs) (hp : v.ownBlock ≠ some p.block) : Elems (w.setCell p u) (w.setCell p u).heap.size v cs := by
  rw [set_size]
  rcases h with h | ⟨b, off, c, rfl, hb, hc⟩
  · exact .inl h
  · have hbp : b ≠ p.block := fun e => hp (by simp [Value.ownBlock, e])
    exact .inr ⟨b, off, c, rfl, hb, fun k x hx => (World.cell?_of_block (Below.heap_setCell w p u b hbp)).trans (hc k x hx)⟩
theorem fr_ne {v : Value} {B N i : Nat} (h : ∀ k, v.ownBlock = some k → B ≤ k) (hN : N < B) : v.ownBlock ≠ some (⟨N, i, none⟩ : Addr).block := fun e => by
  have := h N e
  omega
structure RRes where
  c : CfgS
  k : Int
  err : Int
def noC : CfgS := ⟨0, 0, 0, []⟩
/-- What Run returns. -/
def runS (m : MachS) (c : CfgS) (n : Int) : RRes := if fitsC m c = false then ⟨noC, 0, 1⟩ else if n < 0 ∨ 1000000 < n then ⟨noC, 0, 2⟩ else
  match runC m n.toNat c with
  | none => ⟨noC, 0, 4⟩
  | some (d, k) => ⟨d, k, 0⟩
def RunRan (w : World) (r : RRes) (e : Ending) (w' : World) : Prop :=
  ∃ v, e = .returned (.tuple #[.agg #[.int .i64 r.c.st, .int .i64 r.c.pos, .int .i64 r.c.frm, v], .int .i64 r.k, .int .i64 r.err]) ∧ Elems w' w'.heap.size v (ints r.c.cells) ∧ Below w.heap.size w w'

section
variable (m : MachS) (c : CfgS) (n : Int) (v u : Value) (w : World)

set_option maxRecDepth 100000 in
set_option maxHeartbeats 4000000 in
theorem run_bad (hv : MachIn w w.heap.size v m) (hE : Elems w w.heap.size u (ints c.cells)) (hl : c.cells.length ≤ 17592186044416) (hf : fitsC m c = false) :
    Calls Try.prog 12 #[.agg #[.int .i64 m.states, .int .i64 m.symbols, v], .agg #[.int .i64 c.st, .int .i64 c.pos, .int .i64 c.frm, u], .int .i64 n] w (RunRan w (runS m c n)) := by
  obtain ⟨A1, c1, rfl⟩ := hv.rules.form
  obtain ⟨A2, c2, rfl⟩ := hE.form
  rw [ints_len] at hE ⊢
  have HM := hid_ hv
  have HE := hid_ hE
  obtain ⟨R, hR⟩ : ∃ R, R = runS m c n := ⟨_, rfl⟩
  rw [← hR]
  have HR : Hid (R = ⟨noC, 0, 1⟩) := hid_ (by rw [hR, runS, if_pos hf])
  have HF := hid_ hf
  clear hf
  clear hv hE hR
  go_enter Try.func12, Try.ntmps12
  go_upto_region 1 with fail
  have hW : Below w.heap.size w (((w.alloc (.cells #[.int .i64 m.states, .int .i64 m.symbols, .slice A1 m.rules.length c1] 55)).alloc (.cells #[.int .i64 c.st, .int .i64 c.pos, .int .i64 c.frm, .slice A2 c.cells.length c2] 50)).alloc (.cells #[.int .i64 0, .int .i64 0, .int .i64 0, .slice none 0 0] 50)) := (below2 w _ _).alloc (by simp; omega) _
  have B0 : Blk (((w.alloc (.cells #[.int .i64 m.states, .int .i64 m.symbols, .slice A1 m.rules.length c1] 55)).alloc (.cells #[.int .i64 c.st, .int .i64 c.pos, .int .i64 c.frm, .slice A2 c.cells.length c2] 50)).alloc (.cells #[.int .i64 0, .int .i64 0, .int .i64 0, .slice none 0 0] 50)) w.heap.size 55 #[.int .i64 m.states, .int .i64 m.symbols, .slice A1 m.rules.length c1] := ((Blk.new w _ _).alloc _).alloc _
  have B1 : Blk (((w.alloc (.cells #[.int .i64 m.states, .int .i64 m.symbols, .slice A1 m.rules.length c1] 55)).alloc (.cells #[.int .i64 c.st, .int .i64 c.pos, .int .i64 c.frm, .slice A2 c.cells.length c2] 50)).alloc (.cells #[.int .i64 0, .int .i64 0, .int .i64 0, .slice none 0 0] 50)) (w.heap.size + 1) 50 #[.int .i64 c.st, .int .i64 c.pos, .int .i64 c.frm, .slice A2 c.cells.length c2] := by
    have := (Blk.new (w.alloc (.cells #[.int .i64 m.states, .int .i64 m.symbols, .slice A1 m.rules.length c1] 55)) 50 #[.int .i64 c.st, .int .i64 c.pos, .int .i64 c.frm, .slice A2 c.cells.length c2]).alloc (.cells #[.int .i64 0, .int .i64 0, .int .i64 0, .slice none 0 0] 50)
    simpa using this
  have B2 : Blk (((w.alloc (.cells #[.int .i64 m.states, .int .i64 m.symbols, .slice A1 m.rules.length c1] 55)).alloc (.cells #[.int .i64 c.st, .int .i64 c.pos, .int .i64 c.frm, .slice A2 c.cells.length c2] 50)).alloc (.cells #[.int .i64 0, .int .i64 0, .int .i64 0, .slice none 0 0] 50)) (w.heap.size + 1 + 1) 50 #[.int .i64 0, .int .i64 0, .int .i64 0, .slice none 0 0] := by
    have := Blk.new ((w.alloc (.cells #[.int .i64 m.states, .int .i64 m.symbols, .slice A1 m.rules.length c1] 55)).alloc (.cells #[.int .i64 c.st, .int .i64 c.pos, .int .i64 c.frm, .slice A2 c.cells.length c2] 50)) 50 #[.int .i64 0, .int .i64 0, .int .i64 0, .slice none 0 0]
    simpa using this
  generalize (((w.alloc (.cells #[.int .i64 m.states, .int .i64 m.symbols, .slice A1 m.rules.length c1] 55)).alloc (.cells #[.int .i64 c.st, .int .i64 c.pos, .int .i64 c.frm, .slice A2 c.cells.length c2] 50)).alloc (.cells #[.int .i64 0, .int .i64 0, .int .i64 0, .slice none 0 0] 50)) = W at *
  have p0 := B0.cell 0
  have p1 := B0.cell 1
  have p2 := B0.cell 2
  have q0 := B1.cell 0
  have q1 := B1.cell 1
  have q2 := B1.cell 2
  have q3 := B1.cell 3
  simp at p0 p1 p2 q0 q1 q2 q3
  have HB0 := hid_ B0
  have HB1 := hid_ B1
  have HB2 := hid_ B2
  have z2 := B2.lt
  clear B0 B1 B2
  go_wp2_with fail
  refine (fitsM_any m c _ _ W (HM.out.to hW) (HE.out.to hW) hl).mono ?_
  rw [HF.out]
  rintro e w1 ⟨rfl, hb1⟩
  have hw1 := bnext hW hb1
  replace HB0 := hid_ (HB0.out.to hb1)
  replace HB1 := hid_ (HB1.out.to hb1)
  replace HB2 := hid_ (HB2.out.to hb1)
  clear p0 p1 p2 q0 q1 q2 q3 z2
  have s0 := HB2.out.cell 0
  have s1 := HB2.out.cell 1
  have s2 := HB2.out.cell 2
  have s3 := HB2.out.cell 3
  have f0 := HB2.out.free 0
  have f1 := HB2.out.free 1
  have f2 := HB2.out.free 2
  have f3 := HB2.out.free 3
  simp at s0 s1 s2 s3
  go_wp2_with fail
  have E0 := (((HB2.out.set_ 0 (.int .i64 0)).set_ 1 (.int .i64 0)).set_ 2 (.int .i64 0)).set_ 3 (.slice none 0 0)
  have e0 := E0.cell 0
  have e1 := E0.cell 1
  have e2 := E0.cell 2
  have e3 := E0.cell 3
  simp at e0 e1 e2 e3
  refine bodyPost_ret (v := .tuple #[.agg #[.int .i64 0, .int .i64 0, .int .i64 0, .slice none 0 0], .int .i64 0, .int .i64 1]) (by simp [results, Try.results12, go_sem, e0, e1, e2, e3]) rfl ?_
  rw [HR.out]
  exact ⟨_, rfl, Elems.nil _ _, below_set (below_set (below_set (below_set hw1 (by omega) 0 _) (by omega) 1 _) (by omega) 2 _) (by omega) 3 _⟩

set_option maxRecDepth 100000 in
set_option maxHeartbeats 4000000 in
theorem run_arg (hv : MachIn w w.heap.size v m) (hE : Elems w w.heap.size u (ints c.cells)) (hl : c.cells.length ≤ 17592186044416) (hf : fitsC m c = true) (hn : n < 0 ∨ 1000000 < n) :
    Calls Try.prog 12 #[.agg #[.int .i64 m.states, .int .i64 m.symbols, v], .agg #[.int .i64 c.st, .int .i64 c.pos, .int .i64 c.frm, u], .int .i64 n] w (RunRan w (runS m c n)) := by
  obtain ⟨A1, c1, rfl⟩ := hv.rules.form
  obtain ⟨A2, c2, rfl⟩ := hE.form
  rw [ints_len] at hE ⊢
  have HM := hid_ hv
  have HE := hid_ hE
  obtain ⟨R, hR⟩ : ∃ R, R = runS m c n := ⟨_, rfl⟩
  rw [← hR]
  have HR : Hid (R = ⟨noC, 0, 2⟩) := hid_ (by rw [hR, runS, if_neg (by rw [hf]; simp), if_pos hn])
  have HF := hid_ hf
  clear hf
  clear hv hE hR
  go_enter Try.func12, Try.ntmps12
  go_upto_region 1 with fail
  have hW : Below w.heap.size w (((w.alloc (.cells #[.int .i64 m.states, .int .i64 m.symbols, .slice A1 m.rules.length c1] 55)).alloc (.cells #[.int .i64 c.st, .int .i64 c.pos, .int .i64 c.frm, .slice A2 c.cells.length c2] 50)).alloc (.cells #[.int .i64 0, .int .i64 0, .int .i64 0, .slice none 0 0] 50)) := (below2 w _ _).alloc (by simp; omega) _
  have B0 : Blk (((w.alloc (.cells #[.int .i64 m.states, .int .i64 m.symbols, .slice A1 m.rules.length c1] 55)).alloc (.cells #[.int .i64 c.st, .int .i64 c.pos, .int .i64 c.frm, .slice A2 c.cells.length c2] 50)).alloc (.cells #[.int .i64 0, .int .i64 0, .int .i64 0, .slice none 0 0] 50)) w.heap.size 55 #[.int .i64 m.states, .int .i64 m.symbols, .slice A1 m.rules.length c1] := ((Blk.new w _ _).alloc _).alloc _
  have B1 : Blk (((w.alloc (.cells #[.int .i64 m.states, .int .i64 m.symbols, .slice A1 m.rules.length c1] 55)).alloc (.cells #[.int .i64 c.st, .int .i64 c.pos, .int .i64 c.frm, .slice A2 c.cells.length c2] 50)).alloc (.cells #[.int .i64 0, .int .i64 0, .int .i64 0, .slice none 0 0] 50)) (w.heap.size + 1) 50 #[.int .i64 c.st, .int .i64 c.pos, .int .i64 c.frm, .slice A2 c.cells.length c2] := by
    have := (Blk.new (w.alloc (.cells #[.int .i64 m.states, .int .i64 m.symbols, .slice A1 m.rules.length c1] 55)) 50 #[.int .i64 c.st, .int .i64 c.pos, .int .i64 c.frm, .slice A2 c.cells.length c2]).alloc (.cells #[.int .i64 0, .int .i64 0, .int .i64 0, .slice none 0 0] 50)
    simpa using this
  have B2 : Blk (((w.alloc (.cells #[.int .i64 m.states, .int .i64 m.symbols, .slice A1 m.rules.length c1] 55)).alloc (.cells #[.int .i64 c.st, .int .i64 c.pos, .int .i64 c.frm, .slice A2 c.cells.length c2] 50)).alloc (.cells #[.int .i64 0, .int .i64 0, .int .i64 0, .slice none 0 0] 50)) (w.heap.size + 1 + 1) 50 #[.int .i64 0, .int .i64 0, .int .i64 0, .slice none 0 0] := by
    have := Blk.new ((w.alloc (.cells #[.int .i64 m.states, .int .i64 m.symbols, .slice A1 m.rules.length c1] 55)).alloc (.cells #[.int .i64 c.st, .int .i64 c.pos, .int .i64 c.frm, .slice A2 c.cells.length c2] 50)) 50 #[.int .i64 0, .int .i64 0, .int .i64 0, .slice none 0 0]
    simpa using this
  generalize (((w.alloc (.cells #[.int .i64 m.states, .int .i64 m.symbols, .slice A1 m.rules.length c1] 55)).alloc (.cells #[.int .i64 c.st, .int .i64 c.pos, .int .i64 c.frm, .slice A2 c.cells.length c2] 50)).alloc (.cells #[.int .i64 0, .int .i64 0, .int .i64 0, .slice none 0 0] 50)) = W at *
  have p0 := B0.cell 0
  have p1 := B0.cell 1
  have p2 := B0.cell 2
  have q0 := B1.cell 0
  have q1 := B1.cell 1
  have q2 := B1.cell 2
  have q3 := B1.cell 3
  simp at p0 p1 p2 q0 q1 q2 q3
  have HB0 := hid_ B0
  have HB1 := hid_ B1
  have HB2 := hid_ B2
  have z2 := B2.lt
  clear B0 B1 B2
  go_wp2_with fail
  refine (fitsM_any m c _ _ W (HM.out.to hW) (HE.out.to hW) hl).mono ?_
  rw [HF.out]
  rintro e w1 ⟨rfl, hb1⟩
  have hw1 := bnext hW hb1
  replace HB0 := hid_ (HB0.out.to hb1)
  replace HB1 := hid_ (HB1.out.to hb1)
  replace HB2 := hid_ (HB2.out.to hb1)
  clear p0 p1 p2 q0 q1 q2 q3 z2
  rcases hn with hn | hn
  · have s0 := HB2.out.cell 0
    have s1 := HB2.out.cell 1
    have s2 := HB2.out.cell 2
    have s3 := HB2.out.cell 3
    have f0 := HB2.out.free 0
    have f1 := HB2.out.free 1
    have f2 := HB2.out.free 2
    have f3 := HB2.out.free 3
    simp at s0 s1 s2 s3
    go_wp2_with fail
    have E0 := (((HB2.out.set_ 0 (.int .i64 0)).set_ 1 (.int .i64 0)).set_ 2 (.int .i64 0)).set_ 3 (.slice none 0 0)
    have e0 := E0.cell 0
    have e1 := E0.cell 1
    have e2 := E0.cell 2
    have e3 := E0.cell 3
    simp at e0 e1 e2 e3
    refine bodyPost_ret (v := .tuple #[.agg #[.int .i64 0, .int .i64 0, .int .i64 0, .slice none 0 0], .int .i64 0, .int .i64 2]) (by simp [results, Try.results12, go_sem, e0, e1, e2, e3]) rfl ?_
    rw [HR.out]
    exact ⟨_, rfl, Elems.nil _ _, below_set (below_set (below_set (below_set hw1 (by omega) 0 _) (by omega) 1 _) (by omega) 2 _) (by omega) 3 _⟩
  · have hn2 : ¬ n < 0 := by omega
    have s0 := HB2.out.cell 0
    have s1 := HB2.out.cell 1
    have s2 := HB2.out.cell 2
    have s3 := HB2.out.cell 3
    have f0 := HB2.out.free 0
    have f1 := HB2.out.free 1
    have f2 := HB2.out.free 2
    have f3 := HB2.out.free 3
    simp at s0 s1 s2 s3
    go_wp2_with fail
    have E0 := (((HB2.out.set_ 0 (.int .i64 0)).set_ 1 (.int .i64 0)).set_ 2 (.int .i64 0)).set_ 3 (.slice none 0 0)
    have e0 := E0.cell 0
    have e1 := E0.cell 1
    have e2 := E0.cell 2
    have e3 := E0.cell 3
    simp at e0 e1 e2 e3
    refine bodyPost_ret (v := .tuple #[.agg #[.int .i64 0, .int .i64 0, .int .i64 0, .slice none 0 0], .int .i64 0, .int .i64 2]) (by simp [results, Try.results12, go_sem, e0, e1, e2, e3]) rfl ?_
    rw [HR.out]
    exact ⟨_, rfl, Elems.nil _ _, below_set (below_set (below_set (below_set hw1 (by omega) 0 _) (by omega) 1 _) (by omega) 2 _) (by omega) 3 _⟩

set_option maxRecDepth 100000 in
set_option maxHeartbeats 4000000 in
theorem run_go (hv : MachIn w w.heap.size v m) (hE : Elems w w.heap.size u (ints c.cells)) (hl : c.cells.length ≤ 17592186044416) (hf : fitsC m c = true) (n0 : 0 ≤ n) (n1 : n ≤ 1000000) :
    Calls Try.prog 12 #[.agg #[.int .i64 m.states, .int .i64 m.symbols, v], .agg #[.int .i64 c.st, .int .i64 c.pos, .int .i64 c.frm, u], .int .i64 n] w (RunRan w (runS m c n)) := by
  obtain ⟨A1, c1, rfl⟩ := hv.rules.form
  obtain ⟨A2, c2, rfl⟩ := hE.form
  rw [ints_len] at hE ⊢
  have HM := hid_ hv
  have HE := hid_ hE
  obtain ⟨R, hR⟩ : ∃ R, R = runS m c n := ⟨_, rfl⟩
  rw [← hR]
  obtain ⟨N, rfl⟩ := Int.eq_ofNat_of_zero_le n0
  have hRN : R = match runC m N c with
      | none => ⟨noC, 0, 4⟩
      | some (d, k) => ⟨d, k, 0⟩ := by
    rw [hR, runS, if_neg (by rw [hf]; simp), if_neg (by omega), Int.toNat_natCast]
  have HRN := hid_ hRN
  have HF := hid_ hf
  have hvm : validM m = true := by rw [fitsC, Bool.and_eq_true] at hf; exact hf.1
  have hwc : withinC c m.states m.symbols = true := by rw [fitsC, Bool.and_eq_true] at hf; exact hf.2
  have HVM := hid_ hvm
  have HWC := hid_ hwc
  obtain ⟨_, _, wp, wf, wl, wn, _⟩ := within_iff.1 hwc
  have HWP := hid_ wp
  have HWF := hid_ wf
  have HWN := hid_ wn
  have t1 : ¬ (N : Int) < 0 := by omega
  have t2 : ¬ 1000000 < (N : Int) := by omega
  clear hf hRN hvm hwc wp wf wn
  clear hv hE hR
  go_enter Try.func12, Try.ntmps12
  go_upto_region 1 with fail
  have hW : Below w.heap.size w (((w.alloc (.cells #[.int .i64 m.states, .int .i64 m.symbols, .slice A1 m.rules.length c1] 55)).alloc (.cells #[.int .i64 c.st, .int .i64 c.pos, .int .i64 c.frm, .slice A2 c.cells.length c2] 50)).alloc (.cells #[.int .i64 0, .int .i64 0, .int .i64 0, .slice none 0 0] 50)) := (below2 w _ _).alloc (by simp; omega) _
  have B0 : Blk (((w.alloc (.cells #[.int .i64 m.states, .int .i64 m.symbols, .slice A1 m.rules.length c1] 55)).alloc (.cells #[.int .i64 c.st, .int .i64 c.pos, .int .i64 c.frm, .slice A2 c.cells.length c2] 50)).alloc (.cells #[.int .i64 0, .int .i64 0, .int .i64 0, .slice none 0 0] 50)) w.heap.size 55 #[.int .i64 m.states, .int .i64 m.symbols, .slice A1 m.rules.length c1] := ((Blk.new w _ _).alloc _).alloc _
  have B1 : Blk (((w.alloc (.cells #[.int .i64 m.states, .int .i64 m.symbols, .slice A1 m.rules.length c1] 55)).alloc (.cells #[.int .i64 c.st, .int .i64 c.pos, .int .i64 c.frm, .slice A2 c.cells.length c2] 50)).alloc (.cells #[.int .i64 0, .int .i64 0, .int .i64 0, .slice none 0 0] 50)) (w.heap.size + 1) 50 #[.int .i64 c.st, .int .i64 c.pos, .int .i64 c.frm, .slice A2 c.cells.length c2] := by
    have := (Blk.new (w.alloc (.cells #[.int .i64 m.states, .int .i64 m.symbols, .slice A1 m.rules.length c1] 55)) 50 #[.int .i64 c.st, .int .i64 c.pos, .int .i64 c.frm, .slice A2 c.cells.length c2]).alloc (.cells #[.int .i64 0, .int .i64 0, .int .i64 0, .slice none 0 0] 50)
    simpa using this
  have B2 : Blk (((w.alloc (.cells #[.int .i64 m.states, .int .i64 m.symbols, .slice A1 m.rules.length c1] 55)).alloc (.cells #[.int .i64 c.st, .int .i64 c.pos, .int .i64 c.frm, .slice A2 c.cells.length c2] 50)).alloc (.cells #[.int .i64 0, .int .i64 0, .int .i64 0, .slice none 0 0] 50)) (w.heap.size + 1 + 1) 50 #[.int .i64 0, .int .i64 0, .int .i64 0, .slice none 0 0] := by
    have := Blk.new ((w.alloc (.cells #[.int .i64 m.states, .int .i64 m.symbols, .slice A1 m.rules.length c1] 55)).alloc (.cells #[.int .i64 c.st, .int .i64 c.pos, .int .i64 c.frm, .slice A2 c.cells.length c2] 50)) 50 #[.int .i64 0, .int .i64 0, .int .i64 0, .slice none 0 0]
    simpa using this
  generalize (((w.alloc (.cells #[.int .i64 m.states, .int .i64 m.symbols, .slice A1 m.rules.length c1] 55)).alloc (.cells #[.int .i64 c.st, .int .i64 c.pos, .int .i64 c.frm, .slice A2 c.cells.length c2] 50)).alloc (.cells #[.int .i64 0, .int .i64 0, .int .i64 0, .slice none 0 0] 50)) = W at *
  have p0 := B0.cell 0
  have p1 := B0.cell 1
  have p2 := B0.cell 2
  have q0 := B1.cell 0
  have q1 := B1.cell 1
  have q2 := B1.cell 2
  have q3 := B1.cell 3
  simp at p0 p1 p2 q0 q1 q2 q3
  have HB0 := hid_ B0
  have HB1 := hid_ B1
  have HB2 := hid_ B2
  have z2 := B2.lt
  clear B0 B1 B2
  go_wp2_with fail
  refine (fitsM_any m c _ _ W (HM.out.to hW) (HE.out.to hW) hl).mono ?_
  rw [HF.out]
  rintro e w1 ⟨rfl, hb1⟩
  have hw1 := bnext hW hb1
  replace HB0 := hid_ (HB0.out.to hb1)
  replace HB1 := hid_ (HB1.out.to hb1)
  replace HB2 := hid_ (HB2.out.to hb1)
  clear p0 p1 p2 q0 q1 q2 q3 z2
  have q0 := HB1.out.cell 0
  have q1 := HB1.out.cell 1
  have q2 := HB1.out.cell 2
  have q3 := HB1.out.cell 3
  simp at q0 q1 q2 q3
  go_wp2_with fail
  refine (newBand_any c _ w1 (HE.out.to hw1) wl HWF.out).mono ?_
  rintro e w2 ⟨go, rfl, hb, hb2⟩
  have HB := hid_ hb
  have z0 := HB0.out.lt
  have z2 := HB2.out.lt
  clear hb q0 q1 q2 q3
  go_wp2_with fail
  go_loopw [10] (fun s wr => ∃ (k : Nat) (d : CfgS) (b : Band) (L H : Int), s = .int .i64 ((k : Nat) : Int) ∧ k ≤ N ∧ H - L ≤ 100000 * ((k : Int) + 1) ∧ Hid (BAt wr w1.heap.size go b) ∧ Hid (BandOk b L H) ∧ Hid (Stands b d) ∧ Hid (runC m k c = some (d, k)) ∧ Hid (withinC d m.states m.symbols = true) ∧ Below w1.heap.size w1 wr) (fun s _ => N - (intOf s).toNat)
  case atStart =>
    obtain ⟨k1, k2⟩ := newB_ok HWN.out wl HWP.out HWF.out
    exact ⟨0, c, newB c, c.frm, c.frm + c.cells.length - 1, rfl, Nat.zero_le _, by simp; omega, HB, hid_ k1, hid_ k2, hid_ rfl, HWC, hb2⟩
  case round =>
    obtain ⟨k, d, b, L, H, rfl, hk, hLH, HBr, HOK, HST, HRU, HWD, hbr⟩ := hrel
    have hB : w1.heap.size ≤ go := by obtain ⟨_, _, _, _, h3, _⟩ := HBr.out; exact h3
    obtain ⟨A9, c9, ⟨c0', _, _, _, _, _, _, _⟩, _, _, _, _, _⟩ := HBr.out.cells
    rw [HST.out.st] at c0'
    have HB0r := hid_ (HB0.out.to hbr)
    have HB2r := hid_ (HB2.out.to hbr)
    have hwr := bnext hw1 hbr
    by_cases hlt : k < N ∧ d.st ≠ -1
    · obtain ⟨hlt, hds⟩ := hlt
      have hds2 : (d.st != -1) = true := by simpa using hds
      have p0 := HB0r.out.cell 0
      have p1 := HB0r.out.cell 1
      have p2 := HB0r.out.cell 2
      simp at p0 p1 p2
      obtain ⟨wd1, wd2, _, _, _, _, wd7⟩ := within_iff.1 HWD.out
      obtain ⟨_, _, v3, _, _, _⟩ := validM_parts HVM.out
      have hcl := (symB_cells (b := d.frm) (by omega)).1 wd7
      have hsym : b.sym = cellAt d.frm d.cells d.pos := by
        show cellAt b.base b.cells b.pos = _
        rw [HST.out.cells, HST.out.pos]
      have hMr : MachIn wr w1.heap.size (.slice A1 m.rules.length c1) m := ⟨(HM.out.to hw1).rules.below hbr (Nat.le_refl _), HM.out.lim⟩
      have hst := step_any m b _ w1.heap.size go L H wr hMr HVM.out HBr.out HOK.out (by omega) hbr.size (by rw [HST.out.st]; omega) (by rw [hsym]; exact hcl d.pos)
      have hsame := step_same (m := m) HOK.out HST.out (fun r hr => by
        obtain ⟨s, hse⟩ := Int.eq_ofNat_of_zero_le (show 0 ≤ d.st by omega)
        obtain ⟨x, hxe⟩ := Int.eq_ofNat_of_zero_le (hcl d.pos).1
        obtain ⟨_, r', _, _, h3, h4, _⟩ := rule_at HVM.out (s := s) (x := x) (by omega) (by have := (hcl d.pos).2; omega)
        rw [hse, hxe, h3] at hr
        subst hr
        have := (ruleB_yes.1 h4).2.2.2.2
        omega)
      rcases hsame with ⟨b', d', h1, h2, h3, L', H', h4, h5⟩ | ⟨h1, h2⟩
      · rw [h1] at hst
        have HST2 := hid_ hst
        have HD := hid_ h3
        have HO2 := hid_ h4
        have HRU2 := hid_ (runC_next HRU.out hds h2)
        have HWD2 := hid_ (step_within HVM.out HWD.out hds h2)
        clear hst h1 h2 h3 h4 hMr hsym hcl wd7 hds
        go_wp2_with fail
        refine HST2.out.mono ?_
        rintro e w3 ⟨rfl, hb3, hbel3, -⟩
        have HB3 := hid_ hb3
        clear hb3
        go_wp2_with fail
        go_roundw
        case rel => exact ⟨k + 1, d', b', L', H', by go_num, by omega, by simp only [Int.natCast_add, Int.natCast_one]; omega, HB3, HO2, HD, HRU2, HWD2, hbr.trans hbel3⟩
        case measure => simp [intOf]; omega
      · rw [h1] at hst
        have HST2 := hid_ hst
        have HR : Hid (R = ⟨noC, 0, 4⟩) := hid_ (by rw [HRN.out, runC_fail HRU.out hds h2 hlt])
        clear hst h1 h2 hMr hsym hcl wd7 hds
        go_wp2_with fail
        refine HST2.out.mono ?_
        rintro e w3 ⟨rfl, hb3⟩
        have HB2w := hid_ (HB2r.out.below hb3 (by omega))
        have hw3 := hwr.trans (hb3.mono (by have := hw1.size; omega))
        clear c0' p0 p1 p2
        have s0 := HB2w.out.cell 0
        have s1 := HB2w.out.cell 1
        have s2 := HB2w.out.cell 2
        have s3 := HB2w.out.cell 3
        have f0 := HB2w.out.free 0
        have f1 := HB2w.out.free 1
        have f2 := HB2w.out.free 2
        have f3 := HB2w.out.free 3
        simp at s0 s1 s2 s3
        go_wp2_with fail
        have E0 := (((HB2w.out.set_ 0 (.int .i64 0)).set_ 1 (.int .i64 0)).set_ 2 (.int .i64 0)).set_ 3 (.slice none 0 0)
        have e0 := E0.cell 0
        have e1 := E0.cell 1
        have e2 := E0.cell 2
        have e3 := E0.cell 3
        simp at e0 e1 e2 e3
        refine bodyPost_ret (v := .tuple #[.agg #[.int .i64 0, .int .i64 0, .int .i64 0, .slice none 0 0], .int .i64 0, .int .i64 4]) (by simp [results, Try.results12, go_sem, e0, e1, e2, e3]) rfl ?_
        rw [HR.out]
        exact ⟨_, rfl, Elems.nil _ _, below_set (below_set (below_set (below_set hw3 (by omega) 0 _) (by omega) 1 _) (by omega) 2 _) (by omega) 3 _⟩
    · have HRE : Hid (R = ⟨d, k, 0⟩) := hid_ (by
        rw [HRN.out]
        by_cases e : k = N
        · rw [← e, HRU.out]
        · rw [runC_stop HRU.out (by
            cases Decidable.em (d.st = -1) with
            | inl h => exact h
            | inr h => exact absurd ⟨by omega, h⟩ hlt) hk])
      have hgo := config_any b w1.heap.size go L H wr HBr.out HOK.out (by omega) hbr.size
      rw [config_same HOK.out HST.out] at hgo
      have HGO := hid_ hgo
      clear hgo
      by_cases hkN : k < N
      · have hds : d.st = -1 := by
          cases Decidable.em (d.st = -1) with
          | inl h => exact h
          | inr h => exact absurd ⟨hkN, h⟩ hlt
        have hds2 : (d.st != -1) = false := by simpa using hds
        clear hds hlt
        go_wp2_with fail
        refine HGO.out.mono ?_
        rintro e w4 ⟨v, rfl, hEl, hfr, hb4⟩
        have HB4 := hid_ (HB2r.out.below hb4 (by omega))
        have hw4 := hwr.trans (hb4.mono (by have := hw1.size; omega))
        obtain ⟨A5, c5, rfl⟩ := hEl.form
        rw [ints_len] at hEl hfr ⊢
        have HEL := hid_ hEl
        have HFR := hid_ hfr
        have hz4 : w.heap.size + 1 + 1 < wr.heap.size := HB2r.out.lt
        have s0 := HB4.out.cell 0
        have s1 := HB4.out.cell 1
        have s2 := HB4.out.cell 2
        have s3 := HB4.out.cell 3
        have f0 := HB4.out.free 0
        have f1 := HB4.out.free 1
        have f2 := HB4.out.free 2
        have f3 := HB4.out.free 3
        simp at s0 s1 s2 s3
        clear hEl hfr c0'
        go_wp2_with fail
        have E0 := (((HB4.out.set_ 0 (.int .i64 d.st)).set_ 1 (.int .i64 d.pos)).set_ 2 (.int .i64 d.frm)).set_ 3 (.slice A5 d.cells.length c5)
        have e0 := E0.cell 0
        have e1 := E0.cell 1
        have e2 := E0.cell 2
        have e3 := E0.cell 3
        simp at e0 e1 e2 e3
        refine bodyPost_ret (v := .tuple #[.agg #[.int .i64 d.st, .int .i64 d.pos, .int .i64 d.frm, .slice A5 d.cells.length c5], .int .i64 k, .int .i64 0]) (by simp [results, Try.results12, go_sem, e0, e1, e2, e3]) rfl ?_
        rw [HRE.out]
        exact ⟨_, rfl, elems_out (elems_out (elems_out (elems_out HEL.out (fr_ne HFR.out hz4)) (fr_ne HFR.out hz4)) (fr_ne HFR.out hz4)) (fr_ne HFR.out hz4), below_set (below_set (below_set (below_set hw4 (by omega) 0 _) (by omega) 1 _) (by omega) 2 _) (by omega) 3 _⟩
      · clear hlt
        go_wp2_with fail
        refine HGO.out.mono ?_
        rintro e w4 ⟨v, rfl, hEl, hfr, hb4⟩
        have HB4 := hid_ (HB2r.out.below hb4 (by omega))
        have hw4 := hwr.trans (hb4.mono (by have := hw1.size; omega))
        obtain ⟨A5, c5, rfl⟩ := hEl.form
        rw [ints_len] at hEl hfr ⊢
        have HEL := hid_ hEl
        have HFR := hid_ hfr
        have hz4 : w.heap.size + 1 + 1 < wr.heap.size := HB2r.out.lt
        have s0 := HB4.out.cell 0
        have s1 := HB4.out.cell 1
        have s2 := HB4.out.cell 2
        have s3 := HB4.out.cell 3
        have f0 := HB4.out.free 0
        have f1 := HB4.out.free 1
        have f2 := HB4.out.free 2
        have f3 := HB4.out.free 3
        simp at s0 s1 s2 s3
        clear hEl hfr c0'
        go_wp2_with fail
        have E0 := (((HB4.out.set_ 0 (.int .i64 d.st)).set_ 1 (.int .i64 d.pos)).set_ 2 (.int .i64 d.frm)).set_ 3 (.slice A5 d.cells.length c5)
        have e0 := E0.cell 0
        have e1 := E0.cell 1
        have e2 := E0.cell 2
        have e3 := E0.cell 3
        simp at e0 e1 e2 e3
        refine bodyPost_ret (v := .tuple #[.agg #[.int .i64 d.st, .int .i64 d.pos, .int .i64 d.frm, .slice A5 d.cells.length c5], .int .i64 k, .int .i64 0]) (by simp [results, Try.results12, go_sem, e0, e1, e2, e3]) rfl ?_
        rw [HRE.out]
        exact ⟨_, rfl, elems_out (elems_out (elems_out (elems_out HEL.out (fr_ne HFR.out hz4)) (fr_ne HFR.out hz4)) (fr_ne HFR.out hz4)) (fr_ne HFR.out hz4), below_set (below_set (below_set (below_set hw4 (by omega) 0 _) (by omega) 1 _) (by omega) 2 _) (by omega) 3 _⟩
end
theorem run_any (m : MachS) (c : CfgS) (n : Int) (v u : Value) (w : World) (hv : MachIn w w.heap.size v m) (hE : Elems w w.heap.size u (ints c.cells)) (hl : c.cells.length ≤ 17592186044416) :
    Calls Try.prog 12 #[.agg #[.int .i64 m.states, .int .i64 m.symbols, v], .agg #[.int .i64 c.st, .int .i64 c.pos, .int .i64 c.frm, u], .int .i64 n] w (RunRan w (runS m c n)) := by
  cases hf : fitsC m c with
  | false => exact run_bad m c n v u w hv hE hl hf
  | true =>
    by_cases hn : n < 0 ∨ 1000000 < n
    · exact run_arg m c n v u w hv hE hl hf hn
    · exact run_go m c n v u w hv hE hl hf (by omega) (by omega)
end Go.Proofs.Ytonammaecpapmaa.Tp

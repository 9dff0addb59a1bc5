/- The law TopSteps: its main way. -/
import Derived.Test.YtkbaiegfloajlaaUi
import Derived.Test.YtkbaiegfloajlaaUe
namespace Go.Proofs.Ytkbaiegfloajlaa.Tp
open Go.RowKit

theorem runS_of {m : MachS} {k N : Nat} {d : CfgS} {r : RunT} {lo hi : Int} (hv : validM m = true) (h : Rel m k d r lo hi) (hN : N ≤ 100000) (hk : k ≤ N) (hs : k = N ∨ d.st = -1) : runS m noC (N : Int) = ⟨d, k, 0⟩ := by
  have hf : fitsC m noC = true := by
    rw [fitsC, hv, Bool.true_and]
    exact (rel_start hv).within
  have hr : runC m N noC = some (d, k) := by
    rcases hs with rfl | hs
    · exact h.run
    · exact runC_stop h.run hs hk
  rw [runS, if_neg (by rw [hf]; simp), if_neg (by omega), Int.toNat_natCast, hr]
theorem run_rel {m : MachS} {k N : Nat} {d : CfgS} {r : RunT} {lo hi : Int} (v : Value) (w : World) (hm : MachIn w w.heap.size v m) (hv : validM m = true) (h : Rel m k d r lo hi) (hN : N ≤ 100000) (hk : k ≤ N) (hs : k = N ∨ d.st = -1) :
    Calls Try.prog 8 #[.agg #[.int .i64 m.states, .int .i64 m.symbols, v], .agg #[.int .i64 0, .int .i64 0, .int .i64 0, .slice none 0 0], .int .i64 (N : Int)] w fun e w' =>
      ∃ A c, e = .returned (.tuple #[.agg #[.int .i64 d.st, .int .i64 d.pos, .int .i64 d.frm, .slice A d.cells.length c], .int .i64 (k : Int), .int .i64 0]) ∧ Elems w' w'.heap.size (.slice A d.cells.length c) (ints d.cells) ∧ Below w.heap.size w w' := by
  have c := run_any m noC N v (.slice none 0 0) w hm (Elems.nil _ _) (by decide)
  rw [runS_of hv h hN hk hs] at c
  refine c.mono ?_
  rintro e w' ⟨u, he, hE, hb⟩
  obtain ⟨A, c, rfl⟩ := hE.form
  rw [ints_len] at he hE
  exact ⟨A, c, he, hE, hb⟩

set_option maxRecDepth 100000 in
set_option maxHeartbeats 4000000 in
theorem steps_go (m : MachS) (N : Nat) (v : Value) (w : World) (hm : MachIn w w.heap.size v m) (hv : validM m = true) (hN : N ≤ 100000) : Calls Try.prog 3 #[.agg #[.int .i64 m.states, .int .i64 m.symbols, v], .int .i64 (N : Int)] w (YesT w) := by
  have HM := hid_ hm
  have HV := hid_ hv
  obtain ⟨A, c, rfl⟩ := hm.rules.form
  have n1 : ¬ (100000 : Int) < (N : Int) := by omega
  have n2 : ¬ 100000 < N := by omega
  clear hm hv
  go_enter Try.func3, Try.ntmps3
  go_wp2_with fail
  refine (tvalid_any m _ _ (HM.out.to (below1 w _))).mono ?_
  rw [HV.out]
  rintro e w1 ⟨rfl, hb1⟩
  have BX := (Blk.new w 24 #[.int .i64 m.states, .int .i64 m.symbols, .slice A m.rules.length c]).to hb1
  have HM1 := hid_ ((HM.out.to (below1 w (.cells #[.int .i64 m.states, .int .i64 m.symbols, .slice A m.rules.length c] 24))).to hb1)
  have hw1 := bnext (below1 w _) hb1
  have p0 := BX.cell 0
  have p1 := BX.cell 1
  have p2 := BX.cell 2
  have hlt := BX.lt
  simp at p0 p1 p2
  clear hb1 HM
  go_upto_region 3 with fail
  go_upto_region 4 with (go_at_call 6; (with_reducible refine (start_any m _ _).mono ?_); rintro e w2 ⟨go, rfl, hR, hb2⟩)
  have HR := hid_ hR
  have HM2 : Hid (MachIn w2 w1.heap.size (.slice A m.rules.length c) m) := hid_ ⟨HM1.out.rules.below hb2 (Nat.le_refl _), HM1.out.lim⟩
  have BX2 := BX.to hb2
  clear hR p0 p1 p2
  go_upto_region 5 with (go_at_call 7; (with_reducible refine (on_any m _ N w1.heap.size go w2 HM2.out HV.out HR.out hN hb2.size).mono ?_); rintro e w3 ⟨k, d, r, lo, hi, rfl, hR3, hb3, hrel, hkN, hend⟩)
  have hb13 := hb2.trans hb3
  have BX3 := BX.to hb13
  have HR3 := hid_ hR3
  have HREL := hid_ hrel
  have HM3 := hid_ (HM1.out.to hb13)
  have HEND := hid_ hend
  have p0 := BX3.cell 0
  have p1 := BX3.cell 1
  have p2 := BX3.cell 2
  have hw3 := bnext hw1 hb13
  have hsz3 : w1.heap.size ≤ w3.heap.size := hb13.size
  simp at p0 p1 p2
  clear hR3 hrel BX BX2 HM1 HM2 HR hend hb2 hb3 hb13
  go_upto_region 6 with (go_at_call 8; (with_reducible refine (run_rel _ w3 HM3.out HV.out HREL.out hN hkN HEND.out).mono ?_); rintro e w4 ⟨Au, cu, rfl, hE, hb4⟩)
  have hbG : Below w3.heap.size w3 (w4.alloc (.cells #[.int .i64 d.st, .int .i64 d.pos, .int .i64 d.frm, .slice Au d.cells.length cu] 32)) := hb4.alloc hb4.size _
  have HRG := hid_ (HR3.out.to hbG)
  have HEG := hid_ (hE.to (below1 w4 (.cells #[.int .i64 d.st, .int .i64 d.pos, .int .i64 d.frm, .slice Au d.cells.length cu] 32)))
  have BC := Blk.new w4 32 #[.int .i64 d.st, .int .i64 d.pos, .int .i64 d.frm, .slice Au d.cells.length cu]
  have hszG : w1.heap.size ≤ (w4.alloc (.cells #[.int .i64 d.st, .int .i64 d.pos, .int .i64 d.frm, .slice Au d.cells.length cu] 32)).heap.size := Nat.le_trans hsz3 hbG.size
  clear hE hb4 p0 p1 p2 BX3 HM3 HR3
  generalize w4.alloc (.cells #[.int .i64 d.st, .int .i64 d.pos, .int .i64 d.frm, .slice Au d.cells.length cu] 32) = G at *
  have hwG := bnext hw3 hbG
  obtain ⟨A9, c9, ⟨_, _, _, _, _, P7⟩, -, -, -, -, -⟩ := HRG.out.cells
  rw [HREL.out.steps] at P7
  have Q0 := BC.cell 0
  have Q1 := BC.cell 1
  have Q2 := BC.cell 2
  have Q3 := BC.cell 3
  simp at Q0 Q1 Q2 Q3
  have hk100 : k ≤ 100000 := by omega
  have hdl : d.cells.length ≤ 1000000 := by
    obtain ⟨_, _, _, _, h, _, _⟩ := within_iff.1 HREL.out.within
    omega
  clear BC HEND hbG
  go_region_held3 (fun w' => w'.cell? ⟨go, 7, none⟩ = some (.int .i64 (k : Int)) ∧ w'.cell? ⟨w4.heap.size, 0, none⟩ = some (.int .i64 d.st) ∧ w'.cell? ⟨w4.heap.size, 1, none⟩ = some (.int .i64 d.pos) ∧ w'.cell? ⟨w4.heap.size, 2, none⟩ = some (.int .i64 d.frm) ∧ w'.cell? ⟨w4.heap.size, 3, none⟩ = some (.slice Au d.cells.length cu) ∧ Below G.heap.size G w')
    (first | assumption | exact ⟨P7, Q0, Q1, Q2, Q3, (Below.refl _ _).drew⟩ | exact ⟨P7, Q0, Q1, Q2, Q3, Below.refl _ _⟩ | exact ⟨keepc HQ.out P7, keepc HQ.out Q0, keepc HQ.out Q1, keepc HQ.out Q2, keepc HQ.out Q3, HQ.out⟩ | exact ⟨keepc HZ.out P7, keepc HZ.out Q0, keepc HZ.out Q1, keepc HZ.out Q2, keepc HZ.out Q3, HZ.out⟩ | exact ⟨keepc HY.out P7, keepc HY.out Q0, keepc HY.out Q1, keepc HY.out Q2, keepc HY.out Q3, HY.out⟩)
    (first
      | (go_at_call 10; refine (tconfig_any m k d r lo hi w1.heap.size go _ _ (HRG.out.to (And.right (And.right (And.right (And.right (And.right (by assumption))))))) HREL.out hk100 (Nat.le_trans hszG (Below.size (And.right (And.right (And.right (And.right (And.right (by assumption))))))))).mono ?_; rintro e w5 ⟨u5, rfl, hE5, hb5⟩; obtain ⟨A5, c5, rfl⟩ := hE5.form; have HE5 := hid_ hE5; have HY : Hid (Below G.heap.size G w5) := hid_ (bnext (And.right (And.right (And.right (And.right (And.right (by assumption)))))) hb5); clear hE5 hb5)
      | (go_at_call 9; refine (same_eq d _ _ _ (HEG.out.to HY.out) HE5.out hdl).mono ?_; rintro e w6 ⟨rfl, hb6⟩; have HZ : Hid (Below G.heap.size G w6) := hid_ (bnext HY.out hb6))
      | (go_at_call 5; refine (lives_any _).mono ?_; rintro e w7 ⟨rfl, hb7⟩; have HQ : Hid (Below G.heap.size G w7) := hid_ (bnext HZ.out hb7)))
  go_wp2_with fail
  go_ret
  exact ⟨rfl, bnext hwG HQ.out⟩
end Go.Proofs.Ytkbaiegfloajlaa.Tp

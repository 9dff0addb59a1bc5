/- The law TapeNear: its main way. -/
import Derived.Test.YtkbaiegfloajlaaDoorWh
namespace Go.Proofs.YtkbaiegfloajlaaDoor.Tp
open Go.RowKit

theorem within_bounds {c : CfgS} {s y : Int} (h : withinC c s y = true) : c.cells.length ≤ 100000 ∧ (-1099511627776 ≤ c.pos ∧ c.pos ≤ 1099511627776) ∧ (-1099511627776 ≤ c.frm ∧ c.frm ≤ 1099511627776) := by
  obtain ⟨_, _, h3, h4, h5, _, _⟩ := within_iff.1 h
  exact ⟨h5, inR_iff.1 h3, inR_iff.1 h4⟩

section
variable (m : MachS) (c d : CfgS) (N : Nat) (v u x : Value) (w : World) (mx : Int)

set_option maxRecDepth 100000 in
set_option maxHeartbeats 8000000 in
theorem near_go_ (hm : MachIn w w.heap.size v m) (hE : Elems w w.heap.size u (ints c.cells)) (hD : Elems w w.heap.size x (ints d.cells)) (hlc : c.cells.length ≤ 17592186044416) (hld : d.cells.length ≤ 17592186044416) (hmx : w.cell? ⟨0, 0, none⟩ = some (.int .i64 mx)) (hHW1 : wideT m c = false) (hHW2 : wideT m d = false) (hHF1 : fitsC m c = true) (hHF2 : fitsC m d = true) (hHG1 : farC c = true) (hHG2 : farC d = true) (hep : d.pos = c.pos) (hes : d.st = c.st) (hN : N ≤ 65535) :
    Calls Tryd.prog 8 #[.agg #[.int .i64 m.states, .int .i64 m.symbols, v], .agg #[.int .i64 c.st, .int .i64 c.pos, .int .i64 c.frm, u], .agg #[.int .i64 d.st, .int .i64 d.pos, .int .i64 d.frm, x], .int .u16 (N : Int)] w (YesL w) := by
  have HW1 := hid_ hHW1
  have HW2 := hid_ hHW2
  have HF1 := hid_ hHF1
  have HF2 := hid_ hHF2
  have HG1 := hid_ hHG1
  have HG2 := hid_ hHG2
  have HI1 := hid_ (fits_bounds hHF1)
  have HI2 := hid_ (fits_bounds hHF2)
  clear hHW1 hHW2 hHF1 hHF2 hHG1 hHG2
  obtain ⟨A1, c1, rfl⟩ := hm.rules.form
  obtain ⟨A2, c2, rfl⟩ := hE.form
  obtain ⟨A3, c3, rfl⟩ := hD.form
  rw [ints_len] at hE hD ⊢
  rw [ints_len]
  have hbW : Below w.heap.size w (((w.alloc (.cells #[.int .i64 m.states, .int .i64 m.symbols, .slice A1 m.rules.length c1] 24)).alloc (.cells #[.int .i64 c.st, .int .i64 c.pos, .int .i64 c.frm, .slice A2 c.cells.length c2] 27)).alloc (.cells #[.int .i64 d.st, .int .i64 d.pos, .int .i64 d.frm, .slice A3 d.cells.length c3] 27)) := (below2 w _ _).alloc (by simp; omega) _
  have HM := hid_ (hm.to hbW)
  have HE := hid_ (hE.to hbW)
  have HD := hid_ (hD.to hbW)
  have HMX := hid_ hmx
  have B1 := ((Blk.new w 24 #[.int .i64 m.states, .int .i64 m.symbols, .slice A1 m.rules.length c1]).alloc (.cells #[.int .i64 c.st, .int .i64 c.pos, .int .i64 c.frm, .slice A2 c.cells.length c2] 27)).alloc (.cells #[.int .i64 d.st, .int .i64 d.pos, .int .i64 d.frm, .slice A3 d.cells.length c3] 27)
  have B2 := (Blk.new (w.alloc (.cells #[.int .i64 m.states, .int .i64 m.symbols, .slice A1 m.rules.length c1] 24)) 27 #[.int .i64 c.st, .int .i64 c.pos, .int .i64 c.frm, .slice A2 c.cells.length c2]).alloc (.cells #[.int .i64 d.st, .int .i64 d.pos, .int .i64 d.frm, .slice A3 d.cells.length c3] 27)
  rw [show (w.alloc (.cells #[.int .i64 m.states, .int .i64 m.symbols, .slice A1 m.rules.length c1] 24)).heap.size = w.heap.size + 1 by simp] at B2
  have B3 := Blk.new ((w.alloc (.cells #[.int .i64 m.states, .int .i64 m.symbols, .slice A1 m.rules.length c1] 24)).alloc (.cells #[.int .i64 c.st, .int .i64 c.pos, .int .i64 c.frm, .slice A2 c.cells.length c2] 27)) 27 #[.int .i64 d.st, .int .i64 d.pos, .int .i64 d.frm, .slice A3 d.cells.length c3]
  rw [show ((w.alloc (.cells #[.int .i64 m.states, .int .i64 m.symbols, .slice A1 m.rules.length c1] 24)).alloc (.cells #[.int .i64 c.st, .int .i64 c.pos, .int .i64 c.frm, .slice A2 c.cells.length c2] 27)).heap.size = w.heap.size + 1 + 1 by simp] at B3
  have HB1 := hid_ B1
  have HB2 := hid_ B2
  have HB3 := hid_ B3
  clear hm hE hD hmx B1 B2 B3
  have t1 : (d.pos != c.pos) = false := by simpa using hep
  have t2 : (d.st != c.st) = false := by simpa using hes
  have HEP := hid_ hep
  have HES := hid_ hes
  clear hep hes
  have t3 : IntKind.i64.wrap (N : Int) = (N : Int) := IntWalk.i64_in _ (by omega)
  obtain ⟨k, hk⟩ : ∃ k, k = N % 1001 := ⟨_, rfl⟩
  have hk1 : k ≤ 1000 := by omega
  have t4 : (N : Int).tmod 1001 = (k : Int) := by rw [Int.tmod_eq_emod_of_nonneg (by omega)]; omega
  have t5 : IntKind.i64.wrap (-(k : Int)) = -(k : Int) := IntWalk.i64_in _ (by omega)
  have t6 : IntKind.i64.wrap (k : Int) = (k : Int) := IntWalk.i64_in _ (by omega)
  clear hk
  go_enter Tryd.func8, Tryd.ntmps8
  go_upto_region 1 with fail
  generalize ((w.alloc (.cells #[.int .i64 m.states, .int .i64 m.symbols, .slice A1 m.rules.length c1] 24)).alloc (.cells #[.int .i64 c.st, .int .i64 c.pos, .int .i64 c.frm, .slice A2 c.cells.length c2] 27)).alloc (.cells #[.int .i64 d.st, .int .i64 d.pos, .int .i64 d.frm, .slice A3 d.cells.length c3] 27) = W at *
  have p0 := HB1.out.cell 0
  have p1 := HB1.out.cell 1
  have p2 := HB1.out.cell 2
  have q0 := HB2.out.cell 0
  have q1 := HB2.out.cell 1
  have q2 := HB2.out.cell 2
  have q3 := HB2.out.cell 3
  have r0 := HB3.out.cell 0
  have r1 := HB3.out.cell 1
  have r2 := HB3.out.cell 2
  have r3 := HB3.out.cell 3
  simp at p0 p1 p2 q0 q1 q2 q3 r0 r1 r2 r3
  go_wp2_with fail
  refine (wide_any m c _ _ _ HM.out HE.out hlc).mono ?_
  rw [HW1.out]
  rintro e w1 ⟨rfl, hb1⟩
  replace HM := hid_ (HM.out.to hb1)
  replace HE := hid_ (HE.out.to hb1)
  replace HD := hid_ (HD.out.to hb1)
  replace HB1 := hid_ (HB1.out.to hb1)
  replace HB2 := hid_ (HB2.out.to hb1)
  replace HB3 := hid_ (HB3.out.to hb1)
  replace hbW := bnext hbW hb1
  clear hb1
  clear p0 p1 p2 q0 q1 q2 q3 r0 r1 r2 r3
  have p0 := HB1.out.cell 0
  have p1 := HB1.out.cell 1
  have p2 := HB1.out.cell 2
  have q0 := HB2.out.cell 0
  have q1 := HB2.out.cell 1
  have q2 := HB2.out.cell 2
  have q3 := HB2.out.cell 3
  have r0 := HB3.out.cell 0
  have r1 := HB3.out.cell 1
  have r2 := HB3.out.cell 2
  have r3 := HB3.out.cell 3
  simp at p0 p1 p2 q0 q1 q2 q3 r0 r1 r2 r3
  go_wp2_with fail
  refine (wide_any m d _ _ _ HM.out HD.out hld).mono ?_
  rw [HW2.out]
  rintro e w2 ⟨rfl, hb2⟩
  replace HM := hid_ (HM.out.to hb2)
  replace HE := hid_ (HE.out.to hb2)
  replace HD := hid_ (HD.out.to hb2)
  replace HB1 := hid_ (HB1.out.to hb2)
  replace HB2 := hid_ (HB2.out.to hb2)
  replace HB3 := hid_ (HB3.out.to hb2)
  replace hbW := bnext hbW hb2
  clear hb2
  clear p0 p1 p2 q0 q1 q2 q3 r0 r1 r2 r3
  have p0 := HB1.out.cell 0
  have p1 := HB1.out.cell 1
  have p2 := HB1.out.cell 2
  have q0 := HB2.out.cell 0
  have q1 := HB2.out.cell 1
  have q2 := HB2.out.cell 2
  have q3 := HB2.out.cell 3
  have r0 := HB3.out.cell 0
  have r1 := HB3.out.cell 1
  have r2 := HB3.out.cell 2
  have r3 := HB3.out.cell 3
  simp at p0 p1 p2 q0 q1 q2 q3 r0 r1 r2 r3
  go_wp2_with fail
  refine (rfits_any m c _ _ _ HM.out HE.out hlc).mono ?_
  rw [HF1.out]
  rintro e w3 ⟨rfl, hb3⟩
  replace HM := hid_ (HM.out.to hb3)
  replace HE := hid_ (HE.out.to hb3)
  replace HD := hid_ (HD.out.to hb3)
  replace HB1 := hid_ (HB1.out.to hb3)
  replace HB2 := hid_ (HB2.out.to hb3)
  replace HB3 := hid_ (HB3.out.to hb3)
  replace hbW := bnext hbW hb3
  clear hb3
  clear p0 p1 p2 q0 q1 q2 q3 r0 r1 r2 r3
  have p0 := HB1.out.cell 0
  have p1 := HB1.out.cell 1
  have p2 := HB1.out.cell 2
  have q0 := HB2.out.cell 0
  have q1 := HB2.out.cell 1
  have q2 := HB2.out.cell 2
  have q3 := HB2.out.cell 3
  have r0 := HB3.out.cell 0
  have r1 := HB3.out.cell 1
  have r2 := HB3.out.cell 2
  have r3 := HB3.out.cell 3
  simp at p0 p1 p2 q0 q1 q2 q3 r0 r1 r2 r3
  go_wp2_with fail
  refine (rfits_any m d _ _ _ HM.out HD.out hld).mono ?_
  rw [HF2.out]
  rintro e w4 ⟨rfl, hb4⟩
  replace HM := hid_ (HM.out.to hb4)
  replace HE := hid_ (HE.out.to hb4)
  replace HD := hid_ (HD.out.to hb4)
  replace HB1 := hid_ (HB1.out.to hb4)
  replace HB2 := hid_ (HB2.out.to hb4)
  replace HB3 := hid_ (HB3.out.to hb4)
  replace hbW := bnext hbW hb4
  clear hb4
  clear p0 p1 p2 q0 q1 q2 q3 r0 r1 r2 r3
  have p0 := HB1.out.cell 0
  have p1 := HB1.out.cell 1
  have p2 := HB1.out.cell 2
  have q0 := HB2.out.cell 0
  have q1 := HB2.out.cell 1
  have q2 := HB2.out.cell 2
  have q3 := HB2.out.cell 3
  have r0 := HB3.out.cell 0
  have r1 := HB3.out.cell 1
  have r2 := HB3.out.cell 2
  have r3 := HB3.out.cell 3
  simp at p0 p1 p2 q0 q1 q2 q3 r0 r1 r2 r3
  go_wp2_with fail
  refine (far_any c _ _ HE.out HI1.out.1 HI1.out.2.1 HI1.out.2.2).mono ?_
  rw [HG1.out]
  rintro e w5 ⟨rfl, hb5⟩
  replace HM := hid_ (HM.out.to hb5)
  replace HE := hid_ (HE.out.to hb5)
  replace HD := hid_ (HD.out.to hb5)
  replace HB1 := hid_ (HB1.out.to hb5)
  replace HB2 := hid_ (HB2.out.to hb5)
  replace HB3 := hid_ (HB3.out.to hb5)
  replace hbW := bnext hbW hb5
  clear hb5
  clear p0 p1 p2 q0 q1 q2 q3 r0 r1 r2 r3
  have p0 := HB1.out.cell 0
  have p1 := HB1.out.cell 1
  have p2 := HB1.out.cell 2
  have q0 := HB2.out.cell 0
  have q1 := HB2.out.cell 1
  have q2 := HB2.out.cell 2
  have q3 := HB2.out.cell 3
  have r0 := HB3.out.cell 0
  have r1 := HB3.out.cell 1
  have r2 := HB3.out.cell 2
  have r3 := HB3.out.cell 3
  simp at p0 p1 p2 q0 q1 q2 q3 r0 r1 r2 r3
  go_wp2_with fail
  refine (far_any d _ _ HD.out HI2.out.1 HI2.out.2.1 HI2.out.2.2).mono ?_
  rw [HG2.out]
  rintro e w6 ⟨rfl, hb6⟩
  replace HM := hid_ (HM.out.to hb6)
  replace HE := hid_ (HE.out.to hb6)
  replace HD := hid_ (HD.out.to hb6)
  replace HB1 := hid_ (HB1.out.to hb6)
  replace HB2 := hid_ (HB2.out.to hb6)
  replace HB3 := hid_ (HB3.out.to hb6)
  replace hbW := bnext hbW hb6
  clear hb6
  clear p0 p1 p2 q0 q1 q2 q3 r0 r1 r2 r3
  have p0 := HB1.out.cell 0
  have p1 := HB1.out.cell 1
  have p2 := HB1.out.cell 2
  have q0 := HB2.out.cell 0
  have q1 := HB2.out.cell 1
  have q2 := HB2.out.cell 2
  have q3 := HB2.out.cell 3
  have r0 := HB3.out.cell 0
  have r1 := HB3.out.cell 1
  have r2 := HB3.out.cell 2
  have r3 := HB3.out.cell 3
  simp at p0 p1 p2 q0 q1 q2 q3 r0 r1 r2 r3
  go_wp2_with fail
  go_loopw [10] (fun s wr => ∃ q : Int, s = .int .i64 q ∧ -(k : Int) ≤ q ∧ q ≤ (k : Int) + 1 ∧ Hid (∀ p, c.pos - k ≤ p → p < c.pos + q → cellAt c.frm c.cells p = cellAt d.frm d.cells p) ∧ Below w6.heap.size w6 wr) (fun s _ => ((k : Int) + 1 - intOf s).toNat)
  case atStart => exact ⟨-(k : Int), rfl, by omega, by omega, hid_ (fun p g1 g2 => absurd g2 (by omega)), Below.refl _ _⟩
  case round =>
    obtain ⟨q, rfl, hq1, hq2, hqs, hbr⟩ := hrel
    have HB1r := hid_ (HB1.out.to hbr)
    have HB2r := hid_ (HB2.out.to hbr)
    have HB3r := hid_ (HB3.out.to hbr)
    have HMr := hid_ (HM.out.to hbr)
    have HEr := hid_ (HE.out.to hbr)
    have HDr := hid_ (HD.out.to hbr)
    have hwr := bnext hbW hbr
    clear p0 p1 p2 q0 q1 q2 q3 r0 r1 r2 r3
    have q0 := HB2r.out.cell 0
    have q1 := HB2r.out.cell 1
    have q2 := HB2r.out.cell 2
    have q3 := HB2r.out.cell 3
    have r0 := HB3r.out.cell 0
    have r1 := HB3r.out.cell 1
    have r2 := HB3r.out.cell 2
    have r3 := HB3r.out.cell 3
    simp at q0 q1 q2 q3 r0 r1 r2 r3
    by_cases hil : q ≤ (k : Int)
    · have HC2 := hid_ (HE.out.to hbr)
      have HD2 := hid_ (HD.out.to hbr)
      obtain ⟨p, hp⟩ : ∃ p, p = c.pos + q := ⟨_, rfl⟩
      have hp' := hp
      have b1 := HI1.out.2.1
      have b2 := HI1.out.2.2
      have b3 := HI2.out.2.2
      have m1 : IntKind.i64.wrap (c.pos + q) = p := by rw [hp']; exact IntWalk.i64_in _ (by omega)
      obtain ⟨z1, hz1⟩ : ∃ z, z = cellAt c.frm c.cells p := ⟨_, rfl⟩
      obtain ⟨z2, hz2⟩ : ∃ z, z = cellAt d.frm d.cells p := ⟨_, rfl⟩
      have HRC : Hid (∀ X, Elems X X.heap.size (.slice A2 c.cells.length c2) (ints c.cells) → Calls Tryd.prog 28 #[.agg #[.int .i64 c.st, .int .i64 c.pos, .int .i64 c.frm, .slice A2 c.cells.length c2], .int .i64 p] X fun e w' => e = .returned (.int .i64 z1) ∧ Below X.heap.size X w') := hid_ (fun X h => by rw [hz1]; exact read_any c p _ X h hlc (by omega) (by omega))
      have HRD : Hid (∀ X, Elems X X.heap.size (.slice A3 d.cells.length c3) (ints d.cells) → Calls Tryd.prog 28 #[.agg #[.int .i64 d.st, .int .i64 d.pos, .int .i64 d.frm, .slice A3 d.cells.length c3], .int .i64 p] X fun e w' => e = .returned (.int .i64 z2) ∧ Below X.heap.size X w') := hid_ (fun X h => by rw [hz2]; exact read_any d p _ X h hld (by omega) (by omega))
      have HP := hid_ hp'
      have HZ1 := hid_ hz1
      have HZ2 := hid_ hz2
      clear hp hp' hz1 hz2 b1 b2 b3
      go_upto_region 7 with fail
      obtain ⟨X, rfl⟩ : ∃ X : World, X = wr := ⟨_, rfl⟩
      by_cases hzz : z2 = z1
      · rw [hzz] at HRD
        go_cut [84] (fun s wx => s = .bool false ∧ Below X.heap.size X wx)
        case first => as_aux_lemma =>
          clear hzz
          go_region_held3 (fun w' => w'.cell? ⟨w.heap.size + 1, 0, none⟩ = some (.int .i64 c.st) ∧ w'.cell? ⟨w.heap.size + 1, 1, none⟩ = some (.int .i64 c.pos) ∧ w'.cell? ⟨w.heap.size + 1, 2, none⟩ = some (.int .i64 c.frm) ∧ w'.cell? ⟨w.heap.size + 1, 3, none⟩ = some (.slice A2 c.cells.length c2) ∧ w'.cell? ⟨w.heap.size + 1 + 1, 0, none⟩ = some (.int .i64 d.st) ∧ w'.cell? ⟨w.heap.size + 1 + 1, 1, none⟩ = some (.int .i64 d.pos) ∧ w'.cell? ⟨w.heap.size + 1 + 1, 2, none⟩ = some (.int .i64 d.frm) ∧ w'.cell? ⟨w.heap.size + 1 + 1, 3, none⟩ = some (.slice A3 d.cells.length c3) ∧ Below X.heap.size X w')
              (first | assumption | exact ⟨q0, q1, q2, q3, r0, r1, r2, r3, (Below.refl _ _).drew⟩ | exact ⟨q0, q1, q2, q3, r0, r1, r2, r3, Below.refl _ _⟩ | exact ⟨keepc H4.out q0, keepc H4.out q1, keepc H4.out q2, keepc H4.out q3, keepc H4.out r0, keepc H4.out r1, keepc H4.out r2, keepc H4.out r3, H4.out⟩ | exact ⟨keepc H3.out q0, keepc H3.out q1, keepc H3.out q2, keepc H3.out q3, keepc H3.out r0, keepc H3.out r1, keepc H3.out r2, keepc H3.out r3, H3.out⟩)
              (first
              | (go_at_call 28; (with_reducible refine (HRC.out _ (HC2.out.to ((And.right (And.right (And.right (And.right (And.right (And.right (And.right (And.right (by assumption)))))))))))).mono ?_); rintro e w3 ⟨rfl, hz3⟩; have H3 : Hid (Below X.heap.size X w3) := hid_ (bnext ((And.right (And.right (And.right (And.right (And.right (And.right (And.right (And.right (by assumption)))))))))) hz3); clear hz3)
              | (go_at_call 28; (with_reducible refine (HRD.out _ (HD2.out.to ((And.right (And.right (And.right (And.right (And.right (And.right (And.right (And.right (by assumption)))))))))))).mono ?_); rintro e w4 ⟨rfl, hz4⟩; have H4 : Hid (Below X.heap.size X w4) := hid_ (bnext ((And.right (And.right (And.right (And.right (And.right (And.right (And.right (And.right (by assumption)))))))))) hz4); clear hz4))
          go_wp2_with fail
          go_meet
          first | exact ⟨rfl, H4.out⟩ | exact ⟨rfl, H3.out⟩
        case rest => as_aux_lemma =>
          obtain ⟨rfl, hbx⟩ := hcut
          go_wp2_with fail
          go_roundw
          case rel =>
            have m9 : q + 1 ≤ (k : Int) + 1 := by omega
            refine ⟨q + 1, by go_num, by omega, m9, hid_ (fun p' g1 g2 => ?_), hbr.trans (hbx.mono hbr.size)⟩
            by_cases g3 : p' < c.pos + q
            · exact hqs.out p' g1 g3
            · obtain rfl : p' = p := by have := HP.out; omega
              rw [← HZ1.out, ← HZ2.out, hzz]
          case measure => simp [intOf]; omega
      · have hne : (z1 != z2) = true := by simpa using fun e => hzz e.symm
        clear hzz
        go_cut [84] (fun s wx => s = .bool true ∧ Below X.heap.size X wx)
        case first => as_aux_lemma =>
          go_region_held3 (fun w' => w'.cell? ⟨w.heap.size + 1, 0, none⟩ = some (.int .i64 c.st) ∧ w'.cell? ⟨w.heap.size + 1, 1, none⟩ = some (.int .i64 c.pos) ∧ w'.cell? ⟨w.heap.size + 1, 2, none⟩ = some (.int .i64 c.frm) ∧ w'.cell? ⟨w.heap.size + 1, 3, none⟩ = some (.slice A2 c.cells.length c2) ∧ w'.cell? ⟨w.heap.size + 1 + 1, 0, none⟩ = some (.int .i64 d.st) ∧ w'.cell? ⟨w.heap.size + 1 + 1, 1, none⟩ = some (.int .i64 d.pos) ∧ w'.cell? ⟨w.heap.size + 1 + 1, 2, none⟩ = some (.int .i64 d.frm) ∧ w'.cell? ⟨w.heap.size + 1 + 1, 3, none⟩ = some (.slice A3 d.cells.length c3) ∧ Below X.heap.size X w')
              (first | assumption | exact ⟨q0, q1, q2, q3, r0, r1, r2, r3, (Below.refl _ _).drew⟩ | exact ⟨q0, q1, q2, q3, r0, r1, r2, r3, Below.refl _ _⟩ | exact ⟨keepc H4.out q0, keepc H4.out q1, keepc H4.out q2, keepc H4.out q3, keepc H4.out r0, keepc H4.out r1, keepc H4.out r2, keepc H4.out r3, H4.out⟩ | exact ⟨keepc H3.out q0, keepc H3.out q1, keepc H3.out q2, keepc H3.out q3, keepc H3.out r0, keepc H3.out r1, keepc H3.out r2, keepc H3.out r3, H3.out⟩)
              (first
              | (go_at_call 28; (with_reducible refine (HRC.out _ (HC2.out.to ((And.right (And.right (And.right (And.right (And.right (And.right (And.right (And.right (by assumption)))))))))))).mono ?_); rintro e w3 ⟨rfl, hz3⟩; have H3 : Hid (Below X.heap.size X w3) := hid_ (bnext ((And.right (And.right (And.right (And.right (And.right (And.right (And.right (And.right (by assumption)))))))))) hz3); clear hz3)
              | (go_at_call 28; (with_reducible refine (HRD.out _ (HD2.out.to ((And.right (And.right (And.right (And.right (And.right (And.right (And.right (And.right (by assumption)))))))))))).mono ?_); rintro e w4 ⟨rfl, hz4⟩; have H4 : Hid (Below X.heap.size X w4) := hid_ (bnext ((And.right (And.right (And.right (And.right (And.right (And.right (And.right (And.right (by assumption)))))))))) hz4); clear hz4))
          go_wp2_with fail
          go_meet
          first | exact ⟨rfl, H4.out⟩ | exact ⟨rfl, H3.out⟩
        case rest => as_aux_lemma =>
          obtain ⟨rfl, hbx⟩ := hcut
          have hwx := bnext hwr hbx
          go_wp2_with fail
          refine (awake_any mx _ (keepc hwx HMX.out)).mono ?_
          rintro e w99 ⟨rfl, hb99⟩
          go_wp2_with fail
          go_ret
          exact ⟨rfl, bnext hwx hb99⟩
    · clear q0 q1 q2 q3 r0 r1 r2 r3
      obtain rfl : q = (k : Int) + 1 := by omega
      obtain ⟨a, b, i, hra, hrb, hik, e1, e2, e3, e4, e5, wa, wb⟩ := near_two HF1.out HF2.out HG1.out HG2.out HES.out HEP.out hk1 (fun p g1 g2 => hqs.out p g1 (by omega))
      have HRA := hid_ hra
      have HRB := hid_ hrb
      have HE5 := hid_ e5
      have HWA := hid_ (within_bounds wa)
      have HWB := hid_ (within_bounds wb)
      have t7 : (a.st != b.st) = false := by simp [e1]
      have t8 : (a.pos != b.pos) = false := by simp [e2]
      have b1 := HI1.out.2.1
      obtain ⟨x5, hx5⟩ : ∃ z, z = c.pos - (i : Int) := ⟨_, rfl⟩
      obtain ⟨x6, hx6⟩ : ∃ z, z = c.pos + (i : Int) := ⟨_, rfl⟩
      have m5 : IntKind.i64.wrap (c.pos - (i : Int)) = x5 := by rw [hx5]; exact IntWalk.i64_in _ (by omega)
      have m6 : IntKind.i64.wrap (c.pos + (i : Int)) = x6 := by rw [hx6]; exact IntWalk.i64_in _ (by omega)
      rw [← hx5] at e3
      rw [← hx6] at e4
      have t9 : ¬ a.pos < x5 := by omega
      have t10 : ¬ x6 < a.pos := by omega
      clear hra hrb e1 e2 e5 wa wb b1 hx5 hx6 hqs
      have p0 := HB1r.out.cell 0
      have p1 := HB1r.out.cell 1
      have p2 := HB1r.out.cell 2
      have q0 := HB2r.out.cell 0
      have q1 := HB2r.out.cell 1
      have q2 := HB2r.out.cell 2
      have q3 := HB2r.out.cell 3
      have r0 := HB3r.out.cell 0
      have r1 := HB3r.out.cell 1
      have r2 := HB3r.out.cell 2
      have r3 := HB3r.out.cell 3
      simp at p0 p1 p2 q0 q1 q2 q3 r0 r1 r2 r3
      go_upto_region 10 with (go_at_call 16; (with_reducible refine (runL HRA.out _ _ wr HMr.out HEr.out hlc).mono ?_); rintro e w20 ⟨Aa, ca, rfl, hEa, hb20⟩)
      have C1 := (HB1r.out.to hb20).alloc (.cells #[.int .i64 a.st, .int .i64 a.pos, .int .i64 a.frm, .slice Aa a.cells.length ca] 27)
      have C2 := (HB2r.out.to hb20).alloc (.cells #[.int .i64 a.st, .int .i64 a.pos, .int .i64 a.frm, .slice Aa a.cells.length ca] 27)
      have C3 := (HB3r.out.to hb20).alloc (.cells #[.int .i64 a.st, .int .i64 a.pos, .int .i64 a.frm, .slice Aa a.cells.length ca] 27)
      have C4 := Blk.new w20 27 #[.int .i64 a.st, .int .i64 a.pos, .int .i64 a.frm, .slice Aa a.cells.length ca]
      have HM2 := hid_ ((HMr.out.to hb20).to (below1 w20 (.cells #[.int .i64 a.st, .int .i64 a.pos, .int .i64 a.frm, .slice Aa a.cells.length ca] 27)))
      have HE2 := hid_ ((HEr.out.to hb20).to (below1 w20 (.cells #[.int .i64 a.st, .int .i64 a.pos, .int .i64 a.frm, .slice Aa a.cells.length ca] 27)))
      have HD2 := hid_ ((HDr.out.to hb20).to (below1 w20 (.cells #[.int .i64 a.st, .int .i64 a.pos, .int .i64 a.frm, .slice Aa a.cells.length ca] 27)))
      have HA2 := hid_ (hEa.to (below1 w20 (.cells #[.int .i64 a.st, .int .i64 a.pos, .int .i64 a.frm, .slice Aa a.cells.length ca] 27)))
      have hw2 := bnext hwr (hb20.alloc hb20.size (.cells #[.int .i64 a.st, .int .i64 a.pos, .int .i64 a.frm, .slice Aa a.cells.length ca] 27))
      clear hEa hb20 HMr HEr HDr HB1r HB2r HB3r hwr hbr
      clear p0 p1 p2 q0 q1 q2 q3 r0 r1 r2 r3
      generalize w20.alloc (.cells #[.int .i64 a.st, .int .i64 a.pos, .int .i64 a.frm, .slice Aa a.cells.length ca] 27) = W2 at *
      have p0 := C1.cell 0
      have p1 := C1.cell 1
      have p2 := C1.cell 2
      have r0 := C3.cell 0
      have r1 := C3.cell 1
      have r2 := C3.cell 2
      have r3 := C3.cell 3
      simp at p0 p1 p2 r0 r1 r2 r3
      go_upto_region 11 with (go_at_call 16; (with_reducible refine (runL HRB.out _ _ W2 HM2.out HD2.out hld).mono ?_); rintro e w21 ⟨Ab, cb, rfl, hEb, hb21⟩)
      have D2 := (C2.to hb21).alloc (.cells #[.int .i64 b.st, .int .i64 b.pos, .int .i64 b.frm, .slice Ab b.cells.length cb] 27)
      have D3 := (C3.to hb21).alloc (.cells #[.int .i64 b.st, .int .i64 b.pos, .int .i64 b.frm, .slice Ab b.cells.length cb] 27)
      have D4 := (C4.to hb21).alloc (.cells #[.int .i64 b.st, .int .i64 b.pos, .int .i64 b.frm, .slice Ab b.cells.length cb] 27)
      have D5 := Blk.new w21 27 #[.int .i64 b.st, .int .i64 b.pos, .int .i64 b.frm, .slice Ab b.cells.length cb]
      have HE3 := hid_ ((HE2.out.to hb21).to (below1 w21 (.cells #[.int .i64 b.st, .int .i64 b.pos, .int .i64 b.frm, .slice Ab b.cells.length cb] 27)))
      have HD3 := hid_ ((HD2.out.to hb21).to (below1 w21 (.cells #[.int .i64 b.st, .int .i64 b.pos, .int .i64 b.frm, .slice Ab b.cells.length cb] 27)))
      have HA3 := hid_ ((HA2.out.to hb21).to (below1 w21 (.cells #[.int .i64 b.st, .int .i64 b.pos, .int .i64 b.frm, .slice Ab b.cells.length cb] 27)))
      have HB3 := hid_ (hEb.to (below1 w21 (.cells #[.int .i64 b.st, .int .i64 b.pos, .int .i64 b.frm, .slice Ab b.cells.length cb] 27)))
      have hw3 := bnext hw2 (hb21.alloc hb21.size (.cells #[.int .i64 b.st, .int .i64 b.pos, .int .i64 b.frm, .slice Ab b.cells.length cb] 27))
      clear hEb hb21 HM2 HE2 HD2 HA2 C1 C2 C3 C4 hw2
      clear p0 p1 p2 r0 r1 r2 r3
      generalize w21.alloc (.cells #[.int .i64 b.st, .int .i64 b.pos, .int .i64 b.frm, .slice Ab b.cells.length cb] 27) = W3 at *
      have p0 := D4.cell 0
      have p1 := D4.cell 1
      have p2 := D4.cell 2
      have p3 := D4.cell 3
      have q0 := D2.cell 0
      have q1 := D2.cell 1
      have q2 := D2.cell 2
      have q3 := D2.cell 3
      have r0 := D3.cell 0
      have r1 := D3.cell 1
      have r2 := D3.cell 2
      have r3 := D3.cell 3
      have s0 := D5.cell 0
      have s1 := D5.cell 1
      have s2 := D5.cell 2
      have s3 := D5.cell 3
      simp at p0 p1 p2 p3 q0 q1 q2 q3 r0 r1 r2 r3 s0 s1 s2 s3
      go_wp2_with fail
      refine (others_yes a c k _ _ W3 HA3.out HE3.out HWA.out.1 HI1.out.1 hk1 HWA.out.2.2 HI1.out.2.2 HI1.out.2.1 (fun p g => (HE5.out p g).1)).mono ?_
      rintro e w22 ⟨rfl, hb22⟩
      have E3 := D3.to hb22
      have E5 := D5.to hb22
      have HD4 := hid_ (HD3.out.to hb22)
      have HB4 := hid_ (HB3.out.to hb22)
      have hw4 := bnext hw3 hb22
      clear HD3 HB3 hb22 hw3 D2 D3 D4 D5 p0 p1 p2 p3 q0 q1 q2 q3 r0 r1 r2 r3 s0 s1 s2 s3
      have r0 := E3.cell 0
      have r1 := E3.cell 1
      have r2 := E3.cell 2
      have r3 := E3.cell 3
      have s0 := E5.cell 0
      have s1 := E5.cell 1
      have s2 := E5.cell 2
      have s3 := E5.cell 3
      simp at r0 r1 r2 r3 s0 s1 s2 s3
      go_wp2_with fail
      refine (others_yes b d k _ _ w22 HB4.out HD4.out HWB.out.1 HI2.out.1 hk1 HWB.out.2.2 HI2.out.2.2 HI2.out.2.1 (fun p g => (HE5.out p (by have := HEP.out; omega)).2)).mono ?_
      rintro e w23 ⟨rfl, hb23⟩
      have hw5 := bnext hw4 hb23
      go_wp2_with fail
      refine (awake_any mx _ (keepc hw5 HMX.out)).mono ?_
      rintro e w99 ⟨rfl, hb99⟩
      go_wp2_with fail
      go_ret
      exact ⟨rfl, bnext hw5 hb99⟩

end
end Go.Proofs.YtkbaiegfloajlaaDoor.Tp

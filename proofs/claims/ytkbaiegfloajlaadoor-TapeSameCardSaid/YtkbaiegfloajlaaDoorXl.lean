/- The law TapeSame: its main way. -/
import Derived.Test.YtkbaiegfloajlaaDoorXk
namespace Go.Proofs.YtkbaiegfloajlaaDoor.Tp
open Go.RowKit

def FreshV (w : World) (v : Value) : Prop := ∀ k, v.ownBlock = some k → w.heap.size ≤ k
theorem Fresh.v {w : World} {A : Option Addr} (h : Fresh w A) (n d : Nat) : FreshV w (.slice A n d) := fun k hk => by
  rcases h with rfl | ⟨g, o, rfl, hg⟩
  · simp [Value.ownBlock] at hk
  · simp only [Value.ownBlock, Option.some.injEq] at hk
    omega
def CfR (r : CfgS) (er : Int) (w : World) (e : Ending) (w' : World) : Prop :=
  ∃ (A : Option Addr) (d : Nat), e = .returned (.tuple #[.agg #[.int .i64 r.st, .int .i64 r.pos, .int .i64 r.frm, .slice A r.cells.length d], .int .i64 er]) ∧ Elems w' w'.heap.size (.slice A r.cells.length d) (ints r.cells) ∧ Below w.heap.size w w' ∧ FreshV w (.slice A r.cells.length d)
def CfR3 (r : CfgS) (i er : Int) (w : World) (e : Ending) (w' : World) : Prop :=
  ∃ (A : Option Addr) (d : Nat), e = .returned (.tuple #[.agg #[.int .i64 r.st, .int .i64 r.pos, .int .i64 r.frm, .slice A r.cells.length d], .int .i64 i, .int .i64 er]) ∧ Elems w' w'.heap.size (.slice A r.cells.length d) (ints r.cells) ∧ Below w.heap.size w w' ∧ FreshV w (.slice A r.cells.length d)
def McR (r : MachS) (er : Int) (w : World) (e : Ending) (w' : World) : Prop :=
  ∃ (A : Option Addr) (d : Nat), e = .returned (.tuple #[.agg #[.int .i64 r.states, .int .i64 r.symbols, .slice A r.rules.length d], .int .i64 er]) ∧ MachIn w' w'.heap.size (.slice A r.rules.length d) r ∧ Below w.heap.size w w' ∧ (er = 0 → MachFr w.heap.size w' (.slice A r.rules.length d) r)
theorem cfr_of {q : CfgS × Int} {r : CfgS} {er : Int} {w w' : World} {e : Ending} (h : ConfRan q w e w') (hq : q = (r, er)) : CfR r er w e w' := by
  subst hq
  obtain ⟨A, d, h1, h2, h3, h4⟩ := h
  exact ⟨A, d, h1, h2, h3, h4.v _ _⟩
theorem mcr_of {q : MachS × Int} {r : MachS} {er : Int} {w w' : World} {e : Ending} (h : MachRan q w e w') (hq : q = (r, er)) : McR r er w e w' := by
  subst hq
  exact h
theorem runs_of (m : MachS) (c r : CfgS) (N : Nat) (i : Int) (v u : Value) (w : World) (hr : runS m c ((N % 1001 : Nat) : Int) = ⟨r, i, 0⟩) (hm : MachIn w w.heap.size v m) (hE : Elems w w.heap.size u (ints c.cells)) (hl : c.cells.length ≤ 17592186044416) (hN : N ≤ 65535) :
    Calls Tryd.prog 37 #[.agg #[.int .i64 m.states, .int .i64 m.symbols, v], .agg #[.int .i64 c.st, .int .i64 c.pos, .int .i64 c.frm, u], .int .u16 (N : Int)] w (CfR3 r i 0 w) := by
  refine (runs3_any m c N v u w hm hE hl hN).mono fun e w' h => ?_
  rw [hr] at h
  exact h

section
variable (m : MachS) (c : CfgS) (N : Nat) (ss xs : List Int) (t : Int) (v u u1 u2 : Value) (w : World) (mx : Int)

set_option maxRecDepth 100000 in
set_option maxHeartbeats 8000000 in
theorem same_go (hm : MachIn w w.heap.size v m) (hE : Elems w w.heap.size u (ints c.cells)) (hS : Elems w w.heap.size u1 (ints ss)) (hX : Elems w w.heap.size u2 (ints xs)) (hlc : c.cells.length ≤ 17592186044416) (hmx : w.cell? ⟨0, 0, none⟩ = some (.int .i64 mx)) (hHW : wideT m c = false) (hHF : fitsC m c = true) (hHG : farC c = true) (t1 : ¬ (100 : Int) < (ss.length : Int)) (t2 : ¬ (100 : Int) < (xs.length : Int)) (hN : N ≤ 65535) (ht : -32768 ≤ t ∧ t ≤ 32767) :
    Calls Tryd.prog 7 #[.agg #[.int .i64 m.states, .int .i64 m.symbols, v], .agg #[.int .i64 c.st, .int .i64 c.pos, .int .i64 c.frm, u], .int .u16 (N : Int), u1, u2, .int .i16 t] w (YesL w) := by
  have HW := hid_ hHW
  have HF := hid_ hHF
  have HG := hid_ hHG
  have HI := hid_ (fits_bounds hHF)
  clear hHW hHF hHG
  obtain ⟨A1, c1, rfl⟩ := hm.rules.form
  obtain ⟨A2, c2, rfl⟩ := hE.form
  obtain ⟨As, cs, rfl⟩ := hS.form
  obtain ⟨Ax, cx, rfl⟩ := hX.form
  rw [ints_len] at hE hS hX ⊢
  rw [ints_len, ints_len]
  have hbW : Below w.heap.size w ((w.alloc (.cells #[.int .i64 m.states, .int .i64 m.symbols, .slice A1 m.rules.length c1] 24)).alloc (.cells #[.int .i64 c.st, .int .i64 c.pos, .int .i64 c.frm, .slice A2 c.cells.length c2] 27)) := below2 w _ _
  have HM := hid_ (hm.to hbW)
  have HE := hid_ (hE.to hbW)
  have HSS := hid_ (hS.to hbW)
  have HXX := hid_ (hX.to hbW)
  have HMX := hid_ hmx
  have B1 := (Blk.new w 24 #[.int .i64 m.states, .int .i64 m.symbols, .slice A1 m.rules.length c1]).alloc (.cells #[.int .i64 c.st, .int .i64 c.pos, .int .i64 c.frm, .slice A2 c.cells.length c2] 27)
  have B2 := Blk.new (w.alloc (.cells #[.int .i64 m.states, .int .i64 m.symbols, .slice A1 m.rules.length c1] 24)) 27 #[.int .i64 c.st, .int .i64 c.pos, .int .i64 c.frm, .slice A2 c.cells.length c2]
  rw [show (w.alloc (.cells #[.int .i64 m.states, .int .i64 m.symbols, .slice A1 m.rules.length c1] 24)).heap.size = w.heap.size + 1 by simp] at B2
  have HB1 := hid_ B1
  have HB2 := hid_ B2
  clear hm hE hS hX hmx B1 B2
  go_enter Tryd.func7, Tryd.ntmps7
  go_upto_region 1 with fail
  generalize (w.alloc (.cells #[.int .i64 m.states, .int .i64 m.symbols, .slice A1 m.rules.length c1] 24)).alloc (.cells #[.int .i64 c.st, .int .i64 c.pos, .int .i64 c.frm, .slice A2 c.cells.length c2] 27) = W at *
  have p0 := HB1.out.cell 0
  have p1 := HB1.out.cell 1
  have p2 := HB1.out.cell 2
  simp at p0 p1 p2
  have q0 := HB2.out.cell 0
  have q1 := HB2.out.cell 1
  have q2 := HB2.out.cell 2
  have q3 := HB2.out.cell 3
  simp at q0 q1 q2 q3
  go_wp2_with fail
  refine (wide_any m c _ _ _ HM.out HE.out hlc).mono ?_
  rw [HW.out]
  rintro e w13 ⟨rfl, hb13⟩
  replace HM := hid_ (HM.out.to hb13)
  replace HE := hid_ (HE.out.to hb13)
  replace HSS := hid_ (HSS.out.to hb13)
  replace HXX := hid_ (HXX.out.to hb13)
  replace HB1 := hid_ (HB1.out.to hb13)
  replace HB2 := hid_ (HB2.out.to hb13)
  replace hbW := bnext hbW hb13
  clear hb13
  clear p0 p1 p2 q0 q1 q2 q3
  have p0 := HB1.out.cell 0
  have p1 := HB1.out.cell 1
  have p2 := HB1.out.cell 2
  simp at p0 p1 p2
  have q0 := HB2.out.cell 0
  have q1 := HB2.out.cell 1
  have q2 := HB2.out.cell 2
  have q3 := HB2.out.cell 3
  simp at q0 q1 q2 q3
  go_wp2_with fail
  refine (rfits_any m c _ _ _ HM.out HE.out hlc).mono ?_
  rw [HF.out]
  rintro e w14 ⟨rfl, hb14⟩
  replace HM := hid_ (HM.out.to hb14)
  replace HE := hid_ (HE.out.to hb14)
  replace HSS := hid_ (HSS.out.to hb14)
  replace HXX := hid_ (HXX.out.to hb14)
  replace HB1 := hid_ (HB1.out.to hb14)
  replace HB2 := hid_ (HB2.out.to hb14)
  replace hbW := bnext hbW hb14
  clear hb14
  clear p0 p1 p2 q0 q1 q2 q3
  have p0 := HB1.out.cell 0
  have p1 := HB1.out.cell 1
  have p2 := HB1.out.cell 2
  simp at p0 p1 p2
  have q0 := HB2.out.cell 0
  have q1 := HB2.out.cell 1
  have q2 := HB2.out.cell 2
  have q3 := HB2.out.cell 3
  simp at q0 q1 q2 q3
  go_wp2_with fail
  refine (far_any c _ _ HE.out HI.out.1 HI.out.2.1 HI.out.2.2).mono ?_
  rw [HG.out]
  rintro e w15 ⟨rfl, hb15⟩
  replace HM := hid_ (HM.out.to hb15)
  replace HE := hid_ (HE.out.to hb15)
  replace HSS := hid_ (HSS.out.to hb15)
  replace HXX := hid_ (HXX.out.to hb15)
  replace HB1 := hid_ (HB1.out.to hb15)
  replace HB2 := hid_ (HB2.out.to hb15)
  replace hbW := bnext hbW hb15
  clear hb15
  clear p0 p1 p2 q0 q1 q2 q3
  have p0 := HB1.out.cell 0
  have p1 := HB1.out.cell 1
  have p2 := HB1.out.cell 2
  simp at p0 p1 p2
  have q0 := HB2.out.cell 0
  have q1 := HB2.out.cell 1
  have q2 := HB2.out.cell 2
  have q3 := HB2.out.cell 3
  simp at q0 q1 q2 q3
  go_upto_region 3 with fail
  obtain ⟨d, i, r1, r2, r3, s1, s2, s3, s4, s5, s6⟩ := same_mirror (k := N % 1001) HF.out HG.out (by omega)
  obtain ⟨d', i', r1', x2, x3, x4, x5, x6⟩ := same_shift (k := N % 1001) HF.out HG.out (by omega) ht
  rw [r1] at r1'
  simp only [Option.some.injEq, Prod.mk.injEq] at r1'
  obtain ⟨rfl, rfl⟩ := r1'
  have hld : d.cells.length ≤ 100000 := (within_iff.1 r3).2.2.2.2.1
  have ti : ((i : Int) != (i : Int)) = false := by simp
  have ti2 : ((i : Int) == (i : Int)) = true := by simp
  have m1 : IntKind.i64.wrap t = t := IntWalk.i64_in _ (by omega)
  have HR1 := hid_ r1
  have HS5 := hid_ s5
  have HX5 := hid_ x5
  have HLD := hid_ hld
  have KR1 : Hid (∀ Y, MachIn Y Y.heap.size (.slice A1 m.rules.length c1) m → Elems Y Y.heap.size (.slice A2 c.cells.length c2) (ints c.cells) → Calls Tryd.prog 37 #[.agg #[.int .i64 m.states, .int .i64 m.symbols, .slice A1 m.rules.length c1], .agg #[.int .i64 c.st, .int .i64 c.pos, .int .i64 c.frm, .slice A2 c.cells.length c2], .int .u16 (N : Int)] Y (CfR3 d (i : Int) 0 Y)) := hid_ (fun Y h1 h2 => runs_of m c d N (i : Int) _ _ Y r2 h1 h2 hlc hN)
  have KMI : Hid (∀ Y, MachIn Y Y.heap.size (.slice A1 m.rules.length c1) m → Calls Tryd.prog 30 #[.agg #[.int .i64 m.states, .int .i64 m.symbols, .slice A1 m.rules.length c1]] Y (McR (mirrorM m) 0 Y)) := hid_ (fun Y h1 => (mirror_any m _ Y h1).mono (fun e w' h => mcr_of h s1))
  have KRC : Hid (∀ Y, Elems Y Y.heap.size (.slice A2 c.cells.length c2) (ints c.cells) → Calls Tryd.prog 38 #[.agg #[.int .i64 c.st, .int .i64 c.pos, .int .i64 c.frm, .slice A2 c.cells.length c2]] Y (CfR (reflectO c) 0 Y)) := hid_ (fun Y h1 => (reflect_any c _ Y h1 hlc).mono (fun e w' h => cfr_of h s2))
  have KSC : Hid (∀ Y, Elems Y Y.heap.size (.slice A2 c.cells.length c2) (ints c.cells) → Calls Tryd.prog 39 #[.agg #[.int .i64 c.st, .int .i64 c.pos, .int .i64 c.frm, .slice A2 c.cells.length c2], .int .i64 t] Y (CfR (shiftO c t) 0 Y)) := hid_ (fun Y h1 => (shift_any c t _ Y h1 hlc).mono (fun e w' h => cfr_of h x2))
  have HS3 := hid_ s3
  have HS4 := hid_ s4
  have HX3 := hid_ x3
  have HX4 := hid_ x4
  clear s1 s2 s3 s4 s5 s6 x2 x3 x4 x5 x6 r1 r2 r3 hld
  go_upto_region 4 with (go_at_call 37; (with_reducible refine (KR1.out _ HM.out HE.out).mono ?_); rintro e w20 ⟨Ad, cd, rfl, hEd, hb20, hfd⟩)
  have HB3 := hid_ (Blk.new w20 27 #[.int .i64 d.st, .int .i64 d.pos, .int .i64 d.frm, .slice Ad d.cells.length cd])
  have HD := hid_ (hEd.to (below1 w20 (.cells #[.int .i64 d.st, .int .i64 d.pos, .int .i64 d.frm, .slice Ad d.cells.length cd] 27)))
  have hbx := hb20.alloc hb20.size (.cells #[.int .i64 d.st, .int .i64 d.pos, .int .i64 d.frm, .slice Ad d.cells.length cd] 27)
  replace HM := hid_ (HM.out.to hbx)
  replace HE := hid_ (HE.out.to hbx)
  replace HSS := hid_ (HSS.out.to hbx)
  replace HXX := hid_ (HXX.out.to hbx)
  replace HB1 := hid_ (HB1.out.to hbx)
  replace HB2 := hid_ (HB2.out.to hbx)
  replace hbW := bnext hbW hbx
  clear hEd hb20 hbx hfd KR1 p0 p1 p2 q0 q1 q2 q3
  generalize w20.alloc (.cells #[.int .i64 d.st, .int .i64 d.pos, .int .i64 d.frm, .slice Ad d.cells.length cd] 27) = V at *
  have hwV := hbW.size
  have KRD : Hid (∀ Y, Elems Y Y.heap.size (.slice Ad d.cells.length cd) (ints d.cells) → Calls Tryd.prog 38 #[.agg #[.int .i64 d.st, .int .i64 d.pos, .int .i64 d.frm, .slice Ad d.cells.length cd]] Y (CfR (reflectO d) 0 Y)) := hid_ (fun Y h1 => (reflect_any d _ Y h1 (by have := HLD.out; omega)).mono (fun e w' h => cfr_of h HS4.out))
  have KSD : Hid (∀ Y, Elems Y Y.heap.size (.slice Ad d.cells.length cd) (ints d.cells) → Calls Tryd.prog 39 #[.agg #[.int .i64 d.st, .int .i64 d.pos, .int .i64 d.frm, .slice Ad d.cells.length cd], .int .i64 t] Y (CfR (shiftO d t) 0 Y)) := hid_ (fun Y h1 => (shift_any d t _ Y h1 (by have := HLD.out; omega)).mono (fun e w' h => cfr_of h HX4.out))
  have p0 := (HB1.out).cell 0
  have p1 := (HB1.out).cell 1
  have p2 := (HB1.out).cell 2
  simp at p0 p1 p2
  go_upto_region 7 with (go_at_call 30; (with_reducible refine (KMI.out V HM.out).mono ?_); rintro e w21 ⟨Ax1, cx1, rfl, hMx, hb21, hfx⟩)
  have BX := hid_ (Blk.new w21 24 #[.int .i64 (mirrorM m).states, .int .i64 (mirrorM m).symbols, .slice Ax1 (mirrorM m).rules.length cx1])
  have MX := hid_ (hMx.to (below1 w21 (.cells #[.int .i64 (mirrorM m).states, .int .i64 (mirrorM m).symbols, .slice Ax1 (mirrorM m).rules.length cx1] 24)))
  have hbx := hb21.alloc hb21.size (.cells #[.int .i64 (mirrorM m).states, .int .i64 (mirrorM m).symbols, .slice Ax1 (mirrorM m).rules.length cx1] 24)
  have hgx : V.heap.size ≤ w21.heap.size := hb21.size
  have hbV := hbx
  clear hMx hb21 hbx hfx KMI
  clear p0 p1 p2
  generalize hVV : w21.alloc (.cells #[.int .i64 (mirrorM m).states, .int .i64 (mirrorM m).symbols, .slice Ax1 (mirrorM m).rules.length cx1] 24) = Vgx at *
  generalize w21.heap.size = gx at *
  clear hVV
  have q0 := ((HB2.out.to hbV)).cell 0
  have q1 := ((HB2.out.to hbV)).cell 1
  have q2 := ((HB2.out.to hbV)).cell 2
  have q3 := ((HB2.out.to hbV)).cell 3
  simp at q0 q1 q2 q3
  go_upto_region 8 with (go_at_call 38; (with_reducible refine (KRC.out Vgx (HE.out.to hbV)).mono ?_); rintro e w22 ⟨Ay1, cy1, rfl, hEy, hb22, hfy⟩)
  have BY := hid_ (Blk.new w22 27 #[.int .i64 (reflectO c).st, .int .i64 (reflectO c).pos, .int .i64 (reflectO c).frm, .slice Ay1 (reflectO c).cells.length cy1])
  have EY := hid_ (hEy.to (below1 w22 (.cells #[.int .i64 (reflectO c).st, .int .i64 (reflectO c).pos, .int .i64 (reflectO c).frm, .slice Ay1 (reflectO c).cells.length cy1] 27)))
  have hbx := hb22.alloc hb22.size (.cells #[.int .i64 (reflectO c).st, .int .i64 (reflectO c).pos, .int .i64 (reflectO c).frm, .slice Ay1 (reflectO c).cells.length cy1] 27)
  have hgy : gx < w22.heap.size := Nat.lt_of_lt_of_le BX.out.lt hb22.size
  replace BX := hid_ (BX.out.to hbx)
  replace MX := hid_ (MX.out.to hbx)
  have hbV := bnext hbV hbx
  clear hEy hb22 hbx hfy KRC
  clear q0 q1 q2 q3
  generalize hVV : w22.alloc (.cells #[.int .i64 (reflectO c).st, .int .i64 (reflectO c).pos, .int .i64 (reflectO c).frm, .slice Ay1 (reflectO c).cells.length cy1] 27) = Vgy at *
  generalize w22.heap.size = gy at *
  clear hVV
  have KRX : Hid (∀ Y, MachIn Y Y.heap.size (.slice Ax1 (mirrorM m).rules.length cx1) (mirrorM m) → Elems Y Y.heap.size (.slice Ay1 (reflectO c).cells.length cy1) (ints (reflectO c).cells) → Calls Tryd.prog 37 #[.agg #[.int .i64 (mirrorM m).states, .int .i64 (mirrorM m).symbols, .slice Ax1 (mirrorM m).rules.length cx1], .agg #[.int .i64 (reflectO c).st, .int .i64 (reflectO c).pos, .int .i64 (reflectO c).frm, .slice Ay1 (reflectO c).cells.length cy1], .int .u16 (N : Int)] Y (CfR3 (reflectO d) (i : Int) 0 Y)) := hid_ (fun Y h1 h2 => runs_of (mirrorM m) (reflectO c) (reflectO d) N (i : Int) _ _ Y HS3.out h1 h2 (by have := HS5.out; omega) hN)
  have p0 := (BX.out).cell 0
  have p1 := (BX.out).cell 1
  have p2 := (BX.out).cell 2
  have q0 := (BY.out).cell 0
  have q1 := (BY.out).cell 1
  have q2 := (BY.out).cell 2
  have q3 := (BY.out).cell 3
  simp at p0 p1 p2 q0 q1 q2 q3
  go_upto_region 9 with (go_at_call 37; (with_reducible refine (KRX.out Vgy MX.out EY.out).mono ?_); rintro e w23 ⟨Az1, cz1, rfl, hEz, hb23, hfz⟩)
  have BZ := hid_ (Blk.new w23 27 #[.int .i64 (reflectO d).st, .int .i64 (reflectO d).pos, .int .i64 (reflectO d).frm, .slice Az1 (reflectO d).cells.length cz1])
  have EZ := hid_ (hEz.to (below1 w23 (.cells #[.int .i64 (reflectO d).st, .int .i64 (reflectO d).pos, .int .i64 (reflectO d).frm, .slice Az1 (reflectO d).cells.length cz1] 27)))
  have hbx := hb23.alloc hb23.size (.cells #[.int .i64 (reflectO d).st, .int .i64 (reflectO d).pos, .int .i64 (reflectO d).frm, .slice Az1 (reflectO d).cells.length cz1] 27)
  have hgz : gy < w23.heap.size := Nat.lt_of_lt_of_le BY.out.lt hb23.size
  replace BX := hid_ (BX.out.to hbx)
  replace BY := hid_ (BY.out.to hbx)
  have hbV := bnext hbV hbx
  clear hEz hb23 hbx hfz KRX MX EY
  clear p0 p1 p2 q0 q1 q2 q3
  generalize hVV : w23.alloc (.cells #[.int .i64 (reflectO d).st, .int .i64 (reflectO d).pos, .int .i64 (reflectO d).frm, .slice Az1 (reflectO d).cells.length cz1] 27) = Vgz at *
  generalize w23.heap.size = gz at *
  clear hVV
  have q0 := ((HB3.out.to hbV)).cell 0
  have q1 := ((HB3.out.to hbV)).cell 1
  have q2 := ((HB3.out.to hbV)).cell 2
  have q3 := ((HB3.out.to hbV)).cell 3
  simp at q0 q1 q2 q3
  go_upto_region 10 with (go_at_call 38; (with_reducible refine (KRD.out Vgz (HD.out.to hbV)).mono ?_); rintro e w24 ⟨Aw1, cw1, rfl, hEw, hb24, hfw⟩)
  have BW := hid_ (Blk.new w24 27 #[.int .i64 (reflectO d).st, .int .i64 (reflectO d).pos, .int .i64 (reflectO d).frm, .slice Aw1 (reflectO d).cells.length cw1])
  have EW := hid_ (hEw.to (below1 w24 (.cells #[.int .i64 (reflectO d).st, .int .i64 (reflectO d).pos, .int .i64 (reflectO d).frm, .slice Aw1 (reflectO d).cells.length cw1] 27)))
  have hbx := hb24.alloc hb24.size (.cells #[.int .i64 (reflectO d).st, .int .i64 (reflectO d).pos, .int .i64 (reflectO d).frm, .slice Aw1 (reflectO d).cells.length cw1] 27)
  have hgw : gz < w24.heap.size := Nat.lt_of_lt_of_le BZ.out.lt hb24.size
  replace BX := hid_ (BX.out.to hbx)
  replace BY := hid_ (BY.out.to hbx)
  replace BZ := hid_ (BZ.out.to hbx)
  replace EZ := hid_ (EZ.out.to hbx)
  have hbV := bnext hbV hbx
  clear hEw hb24 hbx hfw KRD
  clear q0 q1 q2 q3
  generalize hVV : w24.alloc (.cells #[.int .i64 (reflectO d).st, .int .i64 (reflectO d).pos, .int .i64 (reflectO d).frm, .slice Aw1 (reflectO d).cells.length cw1] 27) = Vgw at *
  generalize w24.heap.size = gw at *
  clear hVV
  have KEQ : Hid (∀ Y, Elems Y Y.heap.size (.slice Az1 (reflectO d).cells.length cz1) (ints (reflectO d).cells) → Elems Y Y.heap.size (.slice Aw1 (reflectO d).cells.length cw1) (ints (reflectO d).cells) → Calls Tryd.prog 17 #[.agg #[.int .i64 (reflectO d).st, .int .i64 (reflectO d).pos, .int .i64 (reflectO d).frm, .slice Az1 (reflectO d).cells.length cz1], .agg #[.int .i64 (reflectO d).st, .int .i64 (reflectO d).pos, .int .i64 (reflectO d).frm, .slice Aw1 (reflectO d).cells.length cw1]] Y fun e w' => e = .returned (.bool true) ∧ Below Y.heap.size Y w') := hid_ (fun Y h h2 => by have := rsame_any (reflectO d) (reflectO d) _ _ Y h h2 (by have := HLD.out; simp [reflectO]; omega); rw [sameC_iff.2 rfl] at this; exact this)
  have r0 := (BZ.out).cell 0
  have r1 := (BZ.out).cell 1
  have r2 := (BZ.out).cell 2
  have r3 := (BZ.out).cell 3
  have s0 := (BW.out).cell 0
  have s1 := (BW.out).cell 1
  have s2 := (BW.out).cell 2
  have s3 := (BW.out).cell 3
  simp at r0 r1 r2 r3 s0 s1 s2 s3
  go_upto_region 12 with (go_at_call 17; (with_reducible refine (KEQ.out Vgw EZ.out EW.out).mono ?_); rintro e w25 ⟨rfl, hb25⟩)
  replace BX := hid_ (BX.out.to hb25)
  replace BY := hid_ (BY.out.to hb25)
  replace BZ := hid_ (BZ.out.to hb25)
  replace BW := hid_ (BW.out.to hb25)
  have hbV := bnext hbV hb25
  clear hb25 KEQ EZ EW
  clear r0 r1 r2 r3 s0 s1 s2 s3
  obtain ⟨V25, rfl⟩ : ∃ X : World, X = w25 := ⟨_, rfl⟩
  have q0 := ((HB2.out.to hbV)).cell 0
  have q1 := ((HB2.out.to hbV)).cell 1
  have q2 := ((HB2.out.to hbV)).cell 2
  have q3 := ((HB2.out.to hbV)).cell 3
  simp at q0 q1 q2 q3
  go_upto_region 13 with (go_at_call 39; (with_reducible refine (KSC.out V25 (HE.out.to hbV)).mono ?_); rintro e w31 ⟨Ay2, cy2, rfl, hEn, hb31, hfn⟩; have k0 := (BY.out.to hb31).free 0; have k1 := (BY.out.to hb31).free 1; have k2 := (BY.out.to hb31).free 2; have k3 := (BY.out.to hb31).free 3; have l0 := (BY.out.to hb31).cell 0; have l1 := (BY.out.to hb31).cell 1; have l2 := (BY.out.to hb31).cell 2; have l3 := (BY.out.to hb31).cell 3; simp at l0 l1 l2 l3)
  have n_BY : Blk ((((w31.setCell ⟨gy, 0, none⟩ (.int .i64 (shiftO c t).st)).setCell ⟨gy, 1, none⟩ (.int .i64 (shiftO c t).pos)).setCell ⟨gy, 2, none⟩ (.int .i64 (shiftO c t).frm)).setCell ⟨gy, 3, none⟩ (.slice Ay2 (shiftO c t).cells.length cy2)) gy 27 #[.int .i64 (shiftO c t).st, .int .i64 (shiftO c t).pos, .int .i64 (shiftO c t).frm, .slice Ay2 (shiftO c t).cells.length cy2] := (((((BY.out.to hb31).set_ 0 (.int .i64 (shiftO c t).st)).set_ 1 (.int .i64 (shiftO c t).pos)).set_ 2 (.int .i64 (shiftO c t).frm)).set_ 3 (.slice Ay2 (shiftO c t).cells.length cy2))
  have n_BX := (((((BX.out.to hb31).far (p := ⟨gy, 0, none⟩) (show gx ≠ gy by omega) (.int .i64 (shiftO c t).st)).far (p := ⟨gy, 1, none⟩) (show gx ≠ gy by omega) (.int .i64 (shiftO c t).pos)).far (p := ⟨gy, 2, none⟩) (show gx ≠ gy by omega) (.int .i64 (shiftO c t).frm)).far (p := ⟨gy, 3, none⟩) (show gx ≠ gy by omega) (.slice Ay2 (shiftO c t).cells.length cy2))
  have n_BZ := (((((BZ.out.to hb31).far (p := ⟨gy, 0, none⟩) (show gz ≠ gy by omega) (.int .i64 (shiftO c t).st)).far (p := ⟨gy, 1, none⟩) (show gz ≠ gy by omega) (.int .i64 (shiftO c t).pos)).far (p := ⟨gy, 2, none⟩) (show gz ≠ gy by omega) (.int .i64 (shiftO c t).frm)).far (p := ⟨gy, 3, none⟩) (show gz ≠ gy by omega) (.slice Ay2 (shiftO c t).cells.length cy2))
  have n_BW := (((((BW.out.to hb31).far (p := ⟨gy, 0, none⟩) (show gw ≠ gy by omega) (.int .i64 (shiftO c t).st)).far (p := ⟨gy, 1, none⟩) (show gw ≠ gy by omega) (.int .i64 (shiftO c t).pos)).far (p := ⟨gy, 2, none⟩) (show gw ≠ gy by omega) (.int .i64 (shiftO c t).frm)).far (p := ⟨gy, 3, none⟩) (show gw ≠ gy by omega) (.slice Ay2 (shiftO c t).cells.length cy2))
  have nF : ∀ k, (.slice Ay2 (shiftO c t).cells.length cy2 : Value).ownBlock = some k → gw < k := fun k hk => Nat.lt_of_lt_of_le BW.out.lt (hfn k hk)
  have hne : (.slice Ay2 (shiftO c t).cells.length cy2 : Value).ownBlock ≠ some gy := fun e => by have := nF _ e; omega
  have n_EY := (elems_off (p := ⟨gy, 3, none⟩) (u := .slice Ay2 (shiftO c t).cells.length cy2) (elems_off (p := ⟨gy, 2, none⟩) (u := .int .i64 (shiftO c t).frm) (elems_off (p := ⟨gy, 1, none⟩) (u := .int .i64 (shiftO c t).pos) (elems_off (p := ⟨gy, 0, none⟩) (u := .int .i64 (shiftO c t).st) hEn (.inr hne)) (.inr hne)) (.inr hne)) (.inr hne))
  clear hne
  have n_hbV := (((((bnext hbV hb31).setCell (p := ⟨gy, 0, none⟩) (show V.heap.size ≤ gy by omega) (.int .i64 (shiftO c t).st)).setCell (p := ⟨gy, 1, none⟩) (show V.heap.size ≤ gy by omega) (.int .i64 (shiftO c t).pos)).setCell (p := ⟨gy, 2, none⟩) (show V.heap.size ≤ gy by omega) (.int .i64 (shiftO c t).frm)).setCell (p := ⟨gy, 3, none⟩) (show V.heap.size ≤ gy by omega) (.slice Ay2 (shiftO c t).cells.length cy2))
  clear hEn hb31 hbV BY BX BZ BW  k0 l0 k1 l1 k2 l2 k3 l3 hfn KSC
  clear q0 q1 q2 q3
  generalize hVV : ((((w31.setCell ⟨gy, 0, none⟩ (.int .i64 (shiftO c t).st)).setCell ⟨gy, 1, none⟩ (.int .i64 (shiftO c t).pos)).setCell ⟨gy, 2, none⟩ (.int .i64 (shiftO c t).frm)).setCell ⟨gy, 3, none⟩ (.slice Ay2 (shiftO c t).cells.length cy2)) = V31 at *
  clear hVV
  have BY := hid_ n_BY
  clear n_BY
  have BX := hid_ n_BX
  clear n_BX
  have BZ := hid_ n_BZ
  clear n_BZ
  have BW := hid_ n_BW
  clear n_BW
  have EY := hid_ n_EY
  clear n_EY
  have FEY := hid_ nF
  clear nF
  have hbV := n_hbV
  clear n_hbV
  have KRX : Hid (∀ Y, MachIn Y Y.heap.size (.slice A1 m.rules.length c1) m → Elems Y Y.heap.size (.slice Ay2 (shiftO c t).cells.length cy2) (ints (shiftO c t).cells) → Calls Tryd.prog 37 #[.agg #[.int .i64 m.states, .int .i64 m.symbols, .slice A1 m.rules.length c1], .agg #[.int .i64 (shiftO c t).st, .int .i64 (shiftO c t).pos, .int .i64 (shiftO c t).frm, .slice Ay2 (shiftO c t).cells.length cy2], .int .u16 (N : Int)] Y (CfR3 (shiftO d t) (i : Int) 0 Y)) := hid_ (fun Y h1 h2 => runs_of m (shiftO c t) (shiftO d t) N (i : Int) _ _ Y HX3.out h1 h2 (by have := HX5.out; omega) hN)
  have p0 := ((HB1.out.to hbV)).cell 0
  have p1 := ((HB1.out.to hbV)).cell 1
  have p2 := ((HB1.out.to hbV)).cell 2
  have q0 := (BY.out).cell 0
  have q1 := (BY.out).cell 1
  have q2 := (BY.out).cell 2
  have q3 := (BY.out).cell 3
  simp at p0 p1 p2 q0 q1 q2 q3
  go_upto_region 14 with (go_at_call 37; (with_reducible refine (KRX.out V31 (HM.out.to hbV) EY.out).mono ?_); rintro e w32 ⟨Az2, cz2, rfl, hEn, hb32, hfn⟩; have k0 := (BZ.out.to hb32).free 0; have k1 := (BZ.out.to hb32).free 1; have k2 := (BZ.out.to hb32).free 2; have k3 := (BZ.out.to hb32).free 3; have l0 := (BZ.out.to hb32).cell 0; have l1 := (BZ.out.to hb32).cell 1; have l2 := (BZ.out.to hb32).cell 2; have l3 := (BZ.out.to hb32).cell 3; simp at l0 l1 l2 l3)
  have n_BZ : Blk ((((w32.setCell ⟨gz, 0, none⟩ (.int .i64 (shiftO d t).st)).setCell ⟨gz, 1, none⟩ (.int .i64 (shiftO d t).pos)).setCell ⟨gz, 2, none⟩ (.int .i64 (shiftO d t).frm)).setCell ⟨gz, 3, none⟩ (.slice Az2 (shiftO d t).cells.length cz2)) gz 27 #[.int .i64 (shiftO d t).st, .int .i64 (shiftO d t).pos, .int .i64 (shiftO d t).frm, .slice Az2 (shiftO d t).cells.length cz2] := (((((BZ.out.to hb32).set_ 0 (.int .i64 (shiftO d t).st)).set_ 1 (.int .i64 (shiftO d t).pos)).set_ 2 (.int .i64 (shiftO d t).frm)).set_ 3 (.slice Az2 (shiftO d t).cells.length cz2))
  have n_BX := (((((BX.out.to hb32).far (p := ⟨gz, 0, none⟩) (show gx ≠ gz by omega) (.int .i64 (shiftO d t).st)).far (p := ⟨gz, 1, none⟩) (show gx ≠ gz by omega) (.int .i64 (shiftO d t).pos)).far (p := ⟨gz, 2, none⟩) (show gx ≠ gz by omega) (.int .i64 (shiftO d t).frm)).far (p := ⟨gz, 3, none⟩) (show gx ≠ gz by omega) (.slice Az2 (shiftO d t).cells.length cz2))
  have n_BY := (((((BY.out.to hb32).far (p := ⟨gz, 0, none⟩) (show gy ≠ gz by omega) (.int .i64 (shiftO d t).st)).far (p := ⟨gz, 1, none⟩) (show gy ≠ gz by omega) (.int .i64 (shiftO d t).pos)).far (p := ⟨gz, 2, none⟩) (show gy ≠ gz by omega) (.int .i64 (shiftO d t).frm)).far (p := ⟨gz, 3, none⟩) (show gy ≠ gz by omega) (.slice Az2 (shiftO d t).cells.length cz2))
  have n_BW := (((((BW.out.to hb32).far (p := ⟨gz, 0, none⟩) (show gw ≠ gz by omega) (.int .i64 (shiftO d t).st)).far (p := ⟨gz, 1, none⟩) (show gw ≠ gz by omega) (.int .i64 (shiftO d t).pos)).far (p := ⟨gz, 2, none⟩) (show gw ≠ gz by omega) (.int .i64 (shiftO d t).frm)).far (p := ⟨gz, 3, none⟩) (show gw ≠ gz by omega) (.slice Az2 (shiftO d t).cells.length cz2))
  have hne : (.slice Ay2 (shiftO c t).cells.length cy2 : Value).ownBlock ≠ some gz := fun e => by have := FEY.out _ e; omega
  have n_EY := (elems_off (p := ⟨gz, 3, none⟩) (u := .slice Az2 (shiftO d t).cells.length cz2) (elems_off (p := ⟨gz, 2, none⟩) (u := .int .i64 (shiftO d t).frm) (elems_off (p := ⟨gz, 1, none⟩) (u := .int .i64 (shiftO d t).pos) (elems_off (p := ⟨gz, 0, none⟩) (u := .int .i64 (shiftO d t).st) (EY.out.to hb32) (.inr hne)) (.inr hne)) (.inr hne)) (.inr hne))
  clear hne
  have nF : ∀ k, (.slice Az2 (shiftO d t).cells.length cz2 : Value).ownBlock = some k → gw < k := fun k hk => Nat.lt_of_lt_of_le BW.out.lt (hfn k hk)
  have hne : (.slice Az2 (shiftO d t).cells.length cz2 : Value).ownBlock ≠ some gz := fun e => by have := nF _ e; omega
  have n_EZ := (elems_off (p := ⟨gz, 3, none⟩) (u := .slice Az2 (shiftO d t).cells.length cz2) (elems_off (p := ⟨gz, 2, none⟩) (u := .int .i64 (shiftO d t).frm) (elems_off (p := ⟨gz, 1, none⟩) (u := .int .i64 (shiftO d t).pos) (elems_off (p := ⟨gz, 0, none⟩) (u := .int .i64 (shiftO d t).st) hEn (.inr hne)) (.inr hne)) (.inr hne)) (.inr hne))
  clear hne
  have n_hbV := (((((bnext hbV hb32).setCell (p := ⟨gz, 0, none⟩) (show V.heap.size ≤ gz by omega) (.int .i64 (shiftO d t).st)).setCell (p := ⟨gz, 1, none⟩) (show V.heap.size ≤ gz by omega) (.int .i64 (shiftO d t).pos)).setCell (p := ⟨gz, 2, none⟩) (show V.heap.size ≤ gz by omega) (.int .i64 (shiftO d t).frm)).setCell (p := ⟨gz, 3, none⟩) (show V.heap.size ≤ gz by omega) (.slice Az2 (shiftO d t).cells.length cz2))
  clear hEn hb32 hbV BZ BX BY BW EY k0 l0 k1 l1 k2 l2 k3 l3 hfn KRX
  clear p0 p1 p2 q0 q1 q2 q3
  generalize hVV : ((((w32.setCell ⟨gz, 0, none⟩ (.int .i64 (shiftO d t).st)).setCell ⟨gz, 1, none⟩ (.int .i64 (shiftO d t).pos)).setCell ⟨gz, 2, none⟩ (.int .i64 (shiftO d t).frm)).setCell ⟨gz, 3, none⟩ (.slice Az2 (shiftO d t).cells.length cz2)) = V32 at *
  clear hVV
  have BZ := hid_ n_BZ
  clear n_BZ
  have BX := hid_ n_BX
  clear n_BX
  have BY := hid_ n_BY
  clear n_BY
  have BW := hid_ n_BW
  clear n_BW
  have EY := hid_ n_EY
  clear n_EY
  have EZ := hid_ n_EZ
  clear n_EZ
  have FEZ := hid_ nF
  clear nF
  have hbV := n_hbV
  clear n_hbV
  clear EY FEY
  have q0 := ((HB3.out.to hbV)).cell 0
  have q1 := ((HB3.out.to hbV)).cell 1
  have q2 := ((HB3.out.to hbV)).cell 2
  have q3 := ((HB3.out.to hbV)).cell 3
  simp at q0 q1 q2 q3
  go_upto_region 15 with (go_at_call 39; (with_reducible refine (KSD.out V32 (HD.out.to hbV)).mono ?_); rintro e w33 ⟨Aw2, cw2, rfl, hEn, hb33, hfn⟩; have k0 := (BW.out.to hb33).free 0; have k1 := (BW.out.to hb33).free 1; have k2 := (BW.out.to hb33).free 2; have k3 := (BW.out.to hb33).free 3; have l0 := (BW.out.to hb33).cell 0; have l1 := (BW.out.to hb33).cell 1; have l2 := (BW.out.to hb33).cell 2; have l3 := (BW.out.to hb33).cell 3; simp at l0 l1 l2 l3)
  have n_BW : Blk ((((w33.setCell ⟨gw, 0, none⟩ (.int .i64 (shiftO d t).st)).setCell ⟨gw, 1, none⟩ (.int .i64 (shiftO d t).pos)).setCell ⟨gw, 2, none⟩ (.int .i64 (shiftO d t).frm)).setCell ⟨gw, 3, none⟩ (.slice Aw2 (shiftO d t).cells.length cw2)) gw 27 #[.int .i64 (shiftO d t).st, .int .i64 (shiftO d t).pos, .int .i64 (shiftO d t).frm, .slice Aw2 (shiftO d t).cells.length cw2] := (((((BW.out.to hb33).set_ 0 (.int .i64 (shiftO d t).st)).set_ 1 (.int .i64 (shiftO d t).pos)).set_ 2 (.int .i64 (shiftO d t).frm)).set_ 3 (.slice Aw2 (shiftO d t).cells.length cw2))
  have n_BX := (((((BX.out.to hb33).far (p := ⟨gw, 0, none⟩) (show gx ≠ gw by omega) (.int .i64 (shiftO d t).st)).far (p := ⟨gw, 1, none⟩) (show gx ≠ gw by omega) (.int .i64 (shiftO d t).pos)).far (p := ⟨gw, 2, none⟩) (show gx ≠ gw by omega) (.int .i64 (shiftO d t).frm)).far (p := ⟨gw, 3, none⟩) (show gx ≠ gw by omega) (.slice Aw2 (shiftO d t).cells.length cw2))
  have n_BY := (((((BY.out.to hb33).far (p := ⟨gw, 0, none⟩) (show gy ≠ gw by omega) (.int .i64 (shiftO d t).st)).far (p := ⟨gw, 1, none⟩) (show gy ≠ gw by omega) (.int .i64 (shiftO d t).pos)).far (p := ⟨gw, 2, none⟩) (show gy ≠ gw by omega) (.int .i64 (shiftO d t).frm)).far (p := ⟨gw, 3, none⟩) (show gy ≠ gw by omega) (.slice Aw2 (shiftO d t).cells.length cw2))
  have n_BZ := (((((BZ.out.to hb33).far (p := ⟨gw, 0, none⟩) (show gz ≠ gw by omega) (.int .i64 (shiftO d t).st)).far (p := ⟨gw, 1, none⟩) (show gz ≠ gw by omega) (.int .i64 (shiftO d t).pos)).far (p := ⟨gw, 2, none⟩) (show gz ≠ gw by omega) (.int .i64 (shiftO d t).frm)).far (p := ⟨gw, 3, none⟩) (show gz ≠ gw by omega) (.slice Aw2 (shiftO d t).cells.length cw2))
  have hne : (.slice Az2 (shiftO d t).cells.length cz2 : Value).ownBlock ≠ some gw := fun e => by have := FEZ.out _ e; omega
  have n_EZ := (elems_off (p := ⟨gw, 3, none⟩) (u := .slice Aw2 (shiftO d t).cells.length cw2) (elems_off (p := ⟨gw, 2, none⟩) (u := .int .i64 (shiftO d t).frm) (elems_off (p := ⟨gw, 1, none⟩) (u := .int .i64 (shiftO d t).pos) (elems_off (p := ⟨gw, 0, none⟩) (u := .int .i64 (shiftO d t).st) (EZ.out.to hb33) (.inr hne)) (.inr hne)) (.inr hne)) (.inr hne))
  clear hne
  have nF : ∀ k, (.slice Aw2 (shiftO d t).cells.length cw2 : Value).ownBlock = some k → gw < k := fun k hk => Nat.lt_of_lt_of_le BW.out.lt (hfn k hk)
  have hne : (.slice Aw2 (shiftO d t).cells.length cw2 : Value).ownBlock ≠ some gw := fun e => by have := nF _ e; omega
  have n_EW := (elems_off (p := ⟨gw, 3, none⟩) (u := .slice Aw2 (shiftO d t).cells.length cw2) (elems_off (p := ⟨gw, 2, none⟩) (u := .int .i64 (shiftO d t).frm) (elems_off (p := ⟨gw, 1, none⟩) (u := .int .i64 (shiftO d t).pos) (elems_off (p := ⟨gw, 0, none⟩) (u := .int .i64 (shiftO d t).st) hEn (.inr hne)) (.inr hne)) (.inr hne)) (.inr hne))
  clear hne
  have n_hbV := (((((bnext hbV hb33).setCell (p := ⟨gw, 0, none⟩) (show V.heap.size ≤ gw by omega) (.int .i64 (shiftO d t).st)).setCell (p := ⟨gw, 1, none⟩) (show V.heap.size ≤ gw by omega) (.int .i64 (shiftO d t).pos)).setCell (p := ⟨gw, 2, none⟩) (show V.heap.size ≤ gw by omega) (.int .i64 (shiftO d t).frm)).setCell (p := ⟨gw, 3, none⟩) (show V.heap.size ≤ gw by omega) (.slice Aw2 (shiftO d t).cells.length cw2))
  clear hEn hb33 hbV BW BX BY BZ EZ k0 l0 k1 l1 k2 l2 k3 l3 hfn KSD
  clear q0 q1 q2 q3
  generalize hVV : ((((w33.setCell ⟨gw, 0, none⟩ (.int .i64 (shiftO d t).st)).setCell ⟨gw, 1, none⟩ (.int .i64 (shiftO d t).pos)).setCell ⟨gw, 2, none⟩ (.int .i64 (shiftO d t).frm)).setCell ⟨gw, 3, none⟩ (.slice Aw2 (shiftO d t).cells.length cw2)) = V33 at *
  clear hVV
  have BW := hid_ n_BW
  clear n_BW
  have BX := hid_ n_BX
  clear n_BX
  have BY := hid_ n_BY
  clear n_BY
  have BZ := hid_ n_BZ
  clear n_BZ
  have EZ := hid_ n_EZ
  clear n_EZ
  have EW := hid_ n_EW
  clear n_EW
  have FEW := hid_ nF
  clear nF
  have hbV := n_hbV
  clear n_hbV
  have KEQ : Hid (∀ Y, Elems Y Y.heap.size (.slice Az2 (shiftO d t).cells.length cz2) (ints (shiftO d t).cells) → Elems Y Y.heap.size (.slice Aw2 (shiftO d t).cells.length cw2) (ints (shiftO d t).cells) → Calls Tryd.prog 17 #[.agg #[.int .i64 (shiftO d t).st, .int .i64 (shiftO d t).pos, .int .i64 (shiftO d t).frm, .slice Az2 (shiftO d t).cells.length cz2], .agg #[.int .i64 (shiftO d t).st, .int .i64 (shiftO d t).pos, .int .i64 (shiftO d t).frm, .slice Aw2 (shiftO d t).cells.length cw2]] Y fun e w' => e = .returned (.bool true) ∧ Below Y.heap.size Y w') := hid_ (fun Y h h2 => by have := rsame_any (shiftO d t) (shiftO d t) _ _ Y h h2 (by have := HLD.out; simp [shiftO]; omega); rw [sameC_iff.2 rfl] at this; exact this)
  have r0 := (BZ.out).cell 0
  have r1 := (BZ.out).cell 1
  have r2 := (BZ.out).cell 2
  have r3 := (BZ.out).cell 3
  have s0 := (BW.out).cell 0
  have s1 := (BW.out).cell 1
  have s2 := (BW.out).cell 2
  have s3 := (BW.out).cell 3
  simp at r0 r1 r2 r3 s0 s1 s2 s3
  go_upto_region 17 with (go_at_call 17; (with_reducible refine (KEQ.out V33 EZ.out EW.out).mono ?_); rintro e w35 ⟨rfl, hb35⟩)
  replace BX := hid_ (BX.out.to hb35)
  replace BY := hid_ (BY.out.to hb35)
  replace BZ := hid_ (BZ.out.to hb35)
  replace BW := hid_ (BW.out.to hb35)
  have hbV := bnext hbV hb35
  clear hb35 KEQ EZ EW FEZ FEW
  clear r0 r1 r2 r3 s0 s1 s2 s3
  obtain ⟨V35, rfl⟩ : ∃ X : World, X = w35 := ⟨_, rfl⟩
  cases ho : okR m ss xs with
  | false =>
    have hrn : renameC m ss xs = (noM, 2) := by
      have hv : validM m = true := by have := HF.out; rw [fitsC, Bool.and_eq_true] at this; exact this.1
      rw [renameC, if_neg (by rw [hv]; simp), if_neg (by rw [ho]; simp)]
    have HRNN := hid_ hrn
    clear hrn ho
    have KRN : Hid (∀ Y, MachIn Y Y.heap.size (.slice A1 m.rules.length c1) m → Elems Y Y.heap.size (.slice As ss.length cs) (ints ss) → Elems Y Y.heap.size (.slice Ax xs.length cx) (ints xs) → Calls Tryd.prog 31 #[.agg #[.int .i64 m.states, .int .i64 m.symbols, .slice A1 m.rules.length c1], .slice As ss.length cs, .slice Ax xs.length cx] Y (McR noM 2 Y)) := hid_ (fun Y h1 h2 h3 => (rename_any m ss xs _ _ _ Y h1 h2 h3 (by omega) (by omega)).mono (fun e w' h => mcr_of h HRNN.out))
    have p0 := ((HB1.out.to hbV)).cell 0
    have p1 := ((HB1.out.to hbV)).cell 1
    have p2 := ((HB1.out.to hbV)).cell 2
    simp at p0 p1 p2
    go_upto_region 18 with (go_at_call 31; (with_reducible refine (KRN.out V35 (HM.out.to hbV) (HSS.out.to hbV) (HXX.out.to hbV)).mono ?_); rintro e w41 ⟨Ax3, cx3, rfl, _, hb41, _⟩; have k0 := (BX.out.to hb41).free 0; have k1 := (BX.out.to hb41).free 1; have k2 := (BX.out.to hb41).free 2; have l0 := (BX.out.to hb41).cell 0; have l1 := (BX.out.to hb41).cell 1; have l2 := (BX.out.to hb41).cell 2; simp at l0 l1 l2)
    have hbZ := ((((bnext hbW (bnext hbV hb41)).setCell (p := ⟨gx, 0, none⟩) (show w.heap.size ≤ gx by omega) (.int .i64 noM.states)).setCell (p := ⟨gx, 1, none⟩) (show w.heap.size ≤ gx by omega) (.int .i64 noM.symbols)).setCell (p := ⟨gx, 2, none⟩) (show w.heap.size ≤ gx by omega) (.slice Ax3 noM.rules.length cx3))
    go_wp2_with fail
    refine (awake_any mx _ (keepc hbZ HMX.out)).mono ?_
    rintro e w99 ⟨rfl, hb99⟩
    go_wp2_with fail
    go_ret
    exact ⟨rfl, bnext hbZ hb99⟩
  | true =>
    obtain ⟨d', i', r1', x1, x2, x3, x4, x5, x6⟩ := same_rename (k := N % 1001) HF.out HG.out (by omega) ho
    rw [HR1.out] at r1'
    simp only [Option.some.injEq, Prod.mk.injEq] at r1'
    obtain ⟨rfl, rfl⟩ := r1'
    have HN1 := hid_ x1
    have HN2 := hid_ x2
    have HN3 := hid_ x3
    have HN4 := hid_ x4
    have HN5 := hid_ x5
    clear x1 x2 x3 x4 x5 x6 ho
    have KRN : Hid (∀ Y, MachIn Y Y.heap.size (.slice A1 m.rules.length c1) m → Elems Y Y.heap.size (.slice As ss.length cs) (ints ss) → Elems Y Y.heap.size (.slice Ax xs.length cx) (ints xs) → Calls Tryd.prog 31 #[.agg #[.int .i64 m.states, .int .i64 m.symbols, .slice A1 m.rules.length c1], .slice As ss.length cs, .slice Ax xs.length cx] Y (McR (renameM m ss xs) 0 Y)) := hid_ (fun Y h1 h2 h3 => (rename_any m ss xs _ _ _ Y h1 h2 h3 (by omega) (by omega)).mono (fun e w' h => mcr_of h HN1.out))
    have p0 := ((HB1.out.to hbV)).cell 0
    have p1 := ((HB1.out.to hbV)).cell 1
    have p2 := ((HB1.out.to hbV)).cell 2
    simp at p0 p1 p2
    go_upto_region 18 with (go_at_call 31; (with_reducible refine (KRN.out V35 (HM.out.to hbV) (HSS.out.to hbV) (HXX.out.to hbV)).mono ?_); rintro e w41 ⟨Ax3, cx3, rfl, _, hb41, hEn0⟩; have hEn := hEn0 rfl; clear hEn0; have k0 := (BX.out.to hb41).free 0; have k1 := (BX.out.to hb41).free 1; have k2 := (BX.out.to hb41).free 2; have l0 := (BX.out.to hb41).cell 0; have l1 := (BX.out.to hb41).cell 1; have l2 := (BX.out.to hb41).cell 2; simp at l0 l1 l2)
    have n_BX : Blk (((w41.setCell ⟨gx, 0, none⟩ (.int .i64 (renameM m ss xs).states)).setCell ⟨gx, 1, none⟩ (.int .i64 (renameM m ss xs).symbols)).setCell ⟨gx, 2, none⟩ (.slice Ax3 (renameM m ss xs).rules.length cx3)) gx 24 #[.int .i64 (renameM m ss xs).states, .int .i64 (renameM m ss xs).symbols, .slice Ax3 (renameM m ss xs).rules.length cx3] := ((((BX.out.to hb41).set_ 0 (.int .i64 (renameM m ss xs).states)).set_ 1 (.int .i64 (renameM m ss xs).symbols)).set_ 2 (.slice Ax3 (renameM m ss xs).rules.length cx3))
    have n_BY := ((((BY.out.to hb41).far (p := ⟨gx, 0, none⟩) (show gy ≠ gx by omega) (.int .i64 (renameM m ss xs).states)).far (p := ⟨gx, 1, none⟩) (show gy ≠ gx by omega) (.int .i64 (renameM m ss xs).symbols)).far (p := ⟨gx, 2, none⟩) (show gy ≠ gx by omega) (.slice Ax3 (renameM m ss xs).rules.length cx3))
    have n_BZ := ((((BZ.out.to hb41).far (p := ⟨gx, 0, none⟩) (show gz ≠ gx by omega) (.int .i64 (renameM m ss xs).states)).far (p := ⟨gx, 1, none⟩) (show gz ≠ gx by omega) (.int .i64 (renameM m ss xs).symbols)).far (p := ⟨gx, 2, none⟩) (show gz ≠ gx by omega) (.slice Ax3 (renameM m ss xs).rules.length cx3))
    have n_BW := ((((BW.out.to hb41).far (p := ⟨gx, 0, none⟩) (show gw ≠ gx by omega) (.int .i64 (renameM m ss xs).states)).far (p := ⟨gx, 1, none⟩) (show gw ≠ gx by omega) (.int .i64 (renameM m ss xs).symbols)).far (p := ⟨gx, 2, none⟩) (show gw ≠ gx by omega) (.slice Ax3 (renameM m ss xs).rules.length cx3))
    have n_XF := (MachFr.far (MachFr.far (MachFr.far hEn (p := ⟨gx, 0, none⟩) (show gx < V35.heap.size from Nat.lt_of_le_of_lt (by omega) BW.out.lt) (.int .i64 (renameM m ss xs).states)) (p := ⟨gx, 1, none⟩) (show gx < V35.heap.size from Nat.lt_of_le_of_lt (by omega) BW.out.lt) (.int .i64 (renameM m ss xs).symbols)) (p := ⟨gx, 2, none⟩) (show gx < V35.heap.size from Nat.lt_of_le_of_lt (by omega) BW.out.lt) (.slice Ax3 (renameM m ss xs).rules.length cx3))
    have nlo := BW.out.lt
    have n_hbV := ((((bnext hbV hb41).setCell (p := ⟨gx, 0, none⟩) (show V.heap.size ≤ gx by omega) (.int .i64 (renameM m ss xs).states)).setCell (p := ⟨gx, 1, none⟩) (show V.heap.size ≤ gx by omega) (.int .i64 (renameM m ss xs).symbols)).setCell (p := ⟨gx, 2, none⟩) (show V.heap.size ≤ gx by omega) (.slice Ax3 (renameM m ss xs).rules.length cx3))
    clear hEn hb41 hbV BX BY BZ BW  k0 l0 k1 l1 k2 l2 KRN
    clear p0 p1 p2
    generalize hVV : (((w41.setCell ⟨gx, 0, none⟩ (.int .i64 (renameM m ss xs).states)).setCell ⟨gx, 1, none⟩ (.int .i64 (renameM m ss xs).symbols)).setCell ⟨gx, 2, none⟩ (.slice Ax3 (renameM m ss xs).rules.length cx3)) = V41 at *
    clear hVV
    have BX := hid_ n_BX
    clear n_BX
    have BY := hid_ n_BY
    clear n_BY
    have BZ := hid_ n_BZ
    clear n_BZ
    have BW := hid_ n_BW
    clear n_BW
    have XF := hid_ n_XF
    clear n_XF
    have hbV := n_hbV
    clear n_hbV
    generalize V35.heap.size = lo at *
    have KNC : Hid (∀ Y, Elems Y Y.heap.size (.slice A2 c.cells.length c2) (ints c.cells) → Elems Y Y.heap.size (.slice As ss.length cs) (ints ss) → Elems Y Y.heap.size (.slice Ax xs.length cx) (ints xs) → Calls Tryd.prog 40 #[.agg #[.int .i64 c.st, .int .i64 c.pos, .int .i64 c.frm, .slice A2 c.cells.length c2], .slice As ss.length cs, .slice Ax xs.length cx] Y (CfR (renamedO c ss xs) 0 Y)) := hid_ (fun Y h1 h2 h3 => (renamed_any c ss xs _ _ _ Y h1 h2 h3 hlc (by omega) (by omega)).mono (fun e w' h => cfr_of h HN2.out))
    have KND : Hid (∀ Y, Elems Y Y.heap.size (.slice Ad d.cells.length cd) (ints d.cells) → Elems Y Y.heap.size (.slice As ss.length cs) (ints ss) → Elems Y Y.heap.size (.slice Ax xs.length cx) (ints xs) → Calls Tryd.prog 40 #[.agg #[.int .i64 d.st, .int .i64 d.pos, .int .i64 d.frm, .slice Ad d.cells.length cd], .slice As ss.length cs, .slice Ax xs.length cx] Y (CfR (renamedO d ss xs) 0 Y)) := hid_ (fun Y h1 h2 h3 => (renamed_any d ss xs _ _ _ Y h1 h2 h3 (by have := HLD.out; omega) (by omega) (by omega)).mono (fun e w' h => cfr_of h HN4.out))
    have q0 := ((HB2.out.to hbV)).cell 0
    have q1 := ((HB2.out.to hbV)).cell 1
    have q2 := ((HB2.out.to hbV)).cell 2
    have q3 := ((HB2.out.to hbV)).cell 3
    simp at q0 q1 q2 q3
    go_upto_region 21 with (go_at_call 40; (with_reducible refine (KNC.out V41 (HE.out.to hbV) (HSS.out.to hbV) (HXX.out.to hbV)).mono ?_); rintro e w42 ⟨Ay4, cy4, rfl, hEn, hb42, hfn⟩; have k0 := (BY.out.to hb42).free 0; have k1 := (BY.out.to hb42).free 1; have k2 := (BY.out.to hb42).free 2; have k3 := (BY.out.to hb42).free 3; have l0 := (BY.out.to hb42).cell 0; have l1 := (BY.out.to hb42).cell 1; have l2 := (BY.out.to hb42).cell 2; have l3 := (BY.out.to hb42).cell 3; simp at l0 l1 l2 l3)
    have n_BY : Blk ((((w42.setCell ⟨gy, 0, none⟩ (.int .i64 (renamedO c ss xs).st)).setCell ⟨gy, 1, none⟩ (.int .i64 (renamedO c ss xs).pos)).setCell ⟨gy, 2, none⟩ (.int .i64 (renamedO c ss xs).frm)).setCell ⟨gy, 3, none⟩ (.slice Ay4 (renamedO c ss xs).cells.length cy4)) gy 27 #[.int .i64 (renamedO c ss xs).st, .int .i64 (renamedO c ss xs).pos, .int .i64 (renamedO c ss xs).frm, .slice Ay4 (renamedO c ss xs).cells.length cy4] := (((((BY.out.to hb42).set_ 0 (.int .i64 (renamedO c ss xs).st)).set_ 1 (.int .i64 (renamedO c ss xs).pos)).set_ 2 (.int .i64 (renamedO c ss xs).frm)).set_ 3 (.slice Ay4 (renamedO c ss xs).cells.length cy4))
    have n_BX := (((((BX.out.to hb42).far (p := ⟨gy, 0, none⟩) (show gx ≠ gy by omega) (.int .i64 (renamedO c ss xs).st)).far (p := ⟨gy, 1, none⟩) (show gx ≠ gy by omega) (.int .i64 (renamedO c ss xs).pos)).far (p := ⟨gy, 2, none⟩) (show gx ≠ gy by omega) (.int .i64 (renamedO c ss xs).frm)).far (p := ⟨gy, 3, none⟩) (show gx ≠ gy by omega) (.slice Ay4 (renamedO c ss xs).cells.length cy4))
    have n_BZ := (((((BZ.out.to hb42).far (p := ⟨gy, 0, none⟩) (show gz ≠ gy by omega) (.int .i64 (renamedO c ss xs).st)).far (p := ⟨gy, 1, none⟩) (show gz ≠ gy by omega) (.int .i64 (renamedO c ss xs).pos)).far (p := ⟨gy, 2, none⟩) (show gz ≠ gy by omega) (.int .i64 (renamedO c ss xs).frm)).far (p := ⟨gy, 3, none⟩) (show gz ≠ gy by omega) (.slice Ay4 (renamedO c ss xs).cells.length cy4))
    have n_BW := (((((BW.out.to hb42).far (p := ⟨gy, 0, none⟩) (show gw ≠ gy by omega) (.int .i64 (renamedO c ss xs).st)).far (p := ⟨gy, 1, none⟩) (show gw ≠ gy by omega) (.int .i64 (renamedO c ss xs).pos)).far (p := ⟨gy, 2, none⟩) (show gw ≠ gy by omega) (.int .i64 (renamedO c ss xs).frm)).far (p := ⟨gy, 3, none⟩) (show gw ≠ gy by omega) (.slice Ay4 (renamedO c ss xs).cells.length cy4))
    have nF : ∀ k, (.slice Ay4 (renamedO c ss xs).cells.length cy4 : Value).ownBlock = some k → gw < k := fun k hk => Nat.lt_of_lt_of_le BW.out.lt (hfn k hk)
    have hne : (.slice Ay4 (renamedO c ss xs).cells.length cy4 : Value).ownBlock ≠ some gy := fun e => by have := nF _ e; omega
    have n_EY := (elems_off (p := ⟨gy, 3, none⟩) (u := .slice Ay4 (renamedO c ss xs).cells.length cy4) (elems_off (p := ⟨gy, 2, none⟩) (u := .int .i64 (renamedO c ss xs).frm) (elems_off (p := ⟨gy, 1, none⟩) (u := .int .i64 (renamedO c ss xs).pos) (elems_off (p := ⟨gy, 0, none⟩) (u := .int .i64 (renamedO c ss xs).st) hEn (.inr hne)) (.inr hne)) (.inr hne)) (.inr hne))
    clear hne
    have n_XF := (MachFr.far (MachFr.far (MachFr.far (MachFr.far (MachFr.to XF.out hb42) (p := ⟨gy, 0, none⟩) (show gy < lo by omega) (.int .i64 (renamedO c ss xs).st)) (p := ⟨gy, 1, none⟩) (show gy < lo by omega) (.int .i64 (renamedO c ss xs).pos)) (p := ⟨gy, 2, none⟩) (show gy < lo by omega) (.int .i64 (renamedO c ss xs).frm)) (p := ⟨gy, 3, none⟩) (show gy < lo by omega) (.slice Ay4 (renamedO c ss xs).cells.length cy4))
    have n_hbV := (((((bnext hbV hb42).setCell (p := ⟨gy, 0, none⟩) (show V.heap.size ≤ gy by omega) (.int .i64 (renamedO c ss xs).st)).setCell (p := ⟨gy, 1, none⟩) (show V.heap.size ≤ gy by omega) (.int .i64 (renamedO c ss xs).pos)).setCell (p := ⟨gy, 2, none⟩) (show V.heap.size ≤ gy by omega) (.int .i64 (renamedO c ss xs).frm)).setCell (p := ⟨gy, 3, none⟩) (show V.heap.size ≤ gy by omega) (.slice Ay4 (renamedO c ss xs).cells.length cy4))
    clear XF hEn hb42 hbV BY BX BZ BW  k0 l0 k1 l1 k2 l2 k3 l3 hfn KNC
    clear q0 q1 q2 q3
    generalize hVV : ((((w42.setCell ⟨gy, 0, none⟩ (.int .i64 (renamedO c ss xs).st)).setCell ⟨gy, 1, none⟩ (.int .i64 (renamedO c ss xs).pos)).setCell ⟨gy, 2, none⟩ (.int .i64 (renamedO c ss xs).frm)).setCell ⟨gy, 3, none⟩ (.slice Ay4 (renamedO c ss xs).cells.length cy4)) = V42 at *
    clear hVV
    have BY := hid_ n_BY
    clear n_BY
    have BX := hid_ n_BX
    clear n_BX
    have BZ := hid_ n_BZ
    clear n_BZ
    have BW := hid_ n_BW
    clear n_BW
    have EY := hid_ n_EY
    clear n_EY
    have FEY := hid_ nF
    clear nF
    have XF := hid_ n_XF
    clear n_XF
    have hbV := n_hbV
    clear n_hbV
    have KRX : Hid (∀ Y, MachIn Y Y.heap.size (.slice Ax3 (renameM m ss xs).rules.length cx3) (renameM m ss xs) → Elems Y Y.heap.size (.slice Ay4 (renamedO c ss xs).cells.length cy4) (ints (renamedO c ss xs).cells) → Calls Tryd.prog 37 #[.agg #[.int .i64 (renameM m ss xs).states, .int .i64 (renameM m ss xs).symbols, .slice Ax3 (renameM m ss xs).rules.length cx3], .agg #[.int .i64 (renamedO c ss xs).st, .int .i64 (renamedO c ss xs).pos, .int .i64 (renamedO c ss xs).frm, .slice Ay4 (renamedO c ss xs).cells.length cy4], .int .u16 (N : Int)] Y (CfR3 (renamedO d ss xs) (i : Int) 0 Y)) := hid_ (fun Y h1 h2 => runs_of (renameM m ss xs) (renamedO c ss xs) (renamedO d ss xs) N (i : Int) _ _ Y HN3.out h1 h2 (by have := HN5.out; omega) hN)
    have p0 := (BX.out).cell 0
    have p1 := (BX.out).cell 1
    have p2 := (BX.out).cell 2
    have q0 := (BY.out).cell 0
    have q1 := (BY.out).cell 1
    have q2 := (BY.out).cell 2
    have q3 := (BY.out).cell 3
    simp at p0 p1 p2 q0 q1 q2 q3
    go_upto_region 22 with (go_at_call 37; (with_reducible refine (KRX.out V42 XF.out.mach EY.out).mono ?_); rintro e w43 ⟨Az4, cz4, rfl, hEn, hb43, hfn⟩; have k0 := (BZ.out.to hb43).free 0; have k1 := (BZ.out.to hb43).free 1; have k2 := (BZ.out.to hb43).free 2; have k3 := (BZ.out.to hb43).free 3; have l0 := (BZ.out.to hb43).cell 0; have l1 := (BZ.out.to hb43).cell 1; have l2 := (BZ.out.to hb43).cell 2; have l3 := (BZ.out.to hb43).cell 3; simp at l0 l1 l2 l3)
    have n_BZ : Blk ((((w43.setCell ⟨gz, 0, none⟩ (.int .i64 (renamedO d ss xs).st)).setCell ⟨gz, 1, none⟩ (.int .i64 (renamedO d ss xs).pos)).setCell ⟨gz, 2, none⟩ (.int .i64 (renamedO d ss xs).frm)).setCell ⟨gz, 3, none⟩ (.slice Az4 (renamedO d ss xs).cells.length cz4)) gz 27 #[.int .i64 (renamedO d ss xs).st, .int .i64 (renamedO d ss xs).pos, .int .i64 (renamedO d ss xs).frm, .slice Az4 (renamedO d ss xs).cells.length cz4] := (((((BZ.out.to hb43).set_ 0 (.int .i64 (renamedO d ss xs).st)).set_ 1 (.int .i64 (renamedO d ss xs).pos)).set_ 2 (.int .i64 (renamedO d ss xs).frm)).set_ 3 (.slice Az4 (renamedO d ss xs).cells.length cz4))
    have n_BX := (((((BX.out.to hb43).far (p := ⟨gz, 0, none⟩) (show gx ≠ gz by omega) (.int .i64 (renamedO d ss xs).st)).far (p := ⟨gz, 1, none⟩) (show gx ≠ gz by omega) (.int .i64 (renamedO d ss xs).pos)).far (p := ⟨gz, 2, none⟩) (show gx ≠ gz by omega) (.int .i64 (renamedO d ss xs).frm)).far (p := ⟨gz, 3, none⟩) (show gx ≠ gz by omega) (.slice Az4 (renamedO d ss xs).cells.length cz4))
    have n_BY := (((((BY.out.to hb43).far (p := ⟨gz, 0, none⟩) (show gy ≠ gz by omega) (.int .i64 (renamedO d ss xs).st)).far (p := ⟨gz, 1, none⟩) (show gy ≠ gz by omega) (.int .i64 (renamedO d ss xs).pos)).far (p := ⟨gz, 2, none⟩) (show gy ≠ gz by omega) (.int .i64 (renamedO d ss xs).frm)).far (p := ⟨gz, 3, none⟩) (show gy ≠ gz by omega) (.slice Az4 (renamedO d ss xs).cells.length cz4))
    have n_BW := (((((BW.out.to hb43).far (p := ⟨gz, 0, none⟩) (show gw ≠ gz by omega) (.int .i64 (renamedO d ss xs).st)).far (p := ⟨gz, 1, none⟩) (show gw ≠ gz by omega) (.int .i64 (renamedO d ss xs).pos)).far (p := ⟨gz, 2, none⟩) (show gw ≠ gz by omega) (.int .i64 (renamedO d ss xs).frm)).far (p := ⟨gz, 3, none⟩) (show gw ≠ gz by omega) (.slice Az4 (renamedO d ss xs).cells.length cz4))
    have hne : (.slice Ay4 (renamedO c ss xs).cells.length cy4 : Value).ownBlock ≠ some gz := fun e => by have := FEY.out _ e; omega
    have n_EY := (elems_off (p := ⟨gz, 3, none⟩) (u := .slice Az4 (renamedO d ss xs).cells.length cz4) (elems_off (p := ⟨gz, 2, none⟩) (u := .int .i64 (renamedO d ss xs).frm) (elems_off (p := ⟨gz, 1, none⟩) (u := .int .i64 (renamedO d ss xs).pos) (elems_off (p := ⟨gz, 0, none⟩) (u := .int .i64 (renamedO d ss xs).st) (EY.out.to hb43) (.inr hne)) (.inr hne)) (.inr hne)) (.inr hne))
    clear hne
    have nF : ∀ k, (.slice Az4 (renamedO d ss xs).cells.length cz4 : Value).ownBlock = some k → gw < k := fun k hk => Nat.lt_of_lt_of_le BW.out.lt (hfn k hk)
    have hne : (.slice Az4 (renamedO d ss xs).cells.length cz4 : Value).ownBlock ≠ some gz := fun e => by have := nF _ e; omega
    have n_EZ := (elems_off (p := ⟨gz, 3, none⟩) (u := .slice Az4 (renamedO d ss xs).cells.length cz4) (elems_off (p := ⟨gz, 2, none⟩) (u := .int .i64 (renamedO d ss xs).frm) (elems_off (p := ⟨gz, 1, none⟩) (u := .int .i64 (renamedO d ss xs).pos) (elems_off (p := ⟨gz, 0, none⟩) (u := .int .i64 (renamedO d ss xs).st) hEn (.inr hne)) (.inr hne)) (.inr hne)) (.inr hne))
    clear hne
    have n_hbV := (((((bnext hbV hb43).setCell (p := ⟨gz, 0, none⟩) (show V.heap.size ≤ gz by omega) (.int .i64 (renamedO d ss xs).st)).setCell (p := ⟨gz, 1, none⟩) (show V.heap.size ≤ gz by omega) (.int .i64 (renamedO d ss xs).pos)).setCell (p := ⟨gz, 2, none⟩) (show V.heap.size ≤ gz by omega) (.int .i64 (renamedO d ss xs).frm)).setCell (p := ⟨gz, 3, none⟩) (show V.heap.size ≤ gz by omega) (.slice Az4 (renamedO d ss xs).cells.length cz4))
    clear hEn hb43 hbV BZ BX BY BW EY k0 l0 k1 l1 k2 l2 k3 l3 hfn KRX XF
    clear p0 p1 p2 q0 q1 q2 q3
    generalize hVV : ((((w43.setCell ⟨gz, 0, none⟩ (.int .i64 (renamedO d ss xs).st)).setCell ⟨gz, 1, none⟩ (.int .i64 (renamedO d ss xs).pos)).setCell ⟨gz, 2, none⟩ (.int .i64 (renamedO d ss xs).frm)).setCell ⟨gz, 3, none⟩ (.slice Az4 (renamedO d ss xs).cells.length cz4)) = V43 at *
    clear hVV
    have BZ := hid_ n_BZ
    clear n_BZ
    have BX := hid_ n_BX
    clear n_BX
    have BY := hid_ n_BY
    clear n_BY
    have BW := hid_ n_BW
    clear n_BW
    have EY := hid_ n_EY
    clear n_EY
    have EZ := hid_ n_EZ
    clear n_EZ
    have FEZ := hid_ nF
    clear nF
    have hbV := n_hbV
    clear n_hbV
    clear EY FEY
    have q0 := ((HB3.out.to hbV)).cell 0
    have q1 := ((HB3.out.to hbV)).cell 1
    have q2 := ((HB3.out.to hbV)).cell 2
    have q3 := ((HB3.out.to hbV)).cell 3
    simp at q0 q1 q2 q3
    go_upto_region 23 with (go_at_call 40; (with_reducible refine (KND.out V43 (HD.out.to hbV) (HSS.out.to hbV) (HXX.out.to hbV)).mono ?_); rintro e w44 ⟨Aw4, cw4, rfl, hEn, hb44, hfn⟩; have k0 := (BW.out.to hb44).free 0; have k1 := (BW.out.to hb44).free 1; have k2 := (BW.out.to hb44).free 2; have k3 := (BW.out.to hb44).free 3; have l0 := (BW.out.to hb44).cell 0; have l1 := (BW.out.to hb44).cell 1; have l2 := (BW.out.to hb44).cell 2; have l3 := (BW.out.to hb44).cell 3; simp at l0 l1 l2 l3)
    have n_BW : Blk ((((w44.setCell ⟨gw, 0, none⟩ (.int .i64 (renamedO d ss xs).st)).setCell ⟨gw, 1, none⟩ (.int .i64 (renamedO d ss xs).pos)).setCell ⟨gw, 2, none⟩ (.int .i64 (renamedO d ss xs).frm)).setCell ⟨gw, 3, none⟩ (.slice Aw4 (renamedO d ss xs).cells.length cw4)) gw 27 #[.int .i64 (renamedO d ss xs).st, .int .i64 (renamedO d ss xs).pos, .int .i64 (renamedO d ss xs).frm, .slice Aw4 (renamedO d ss xs).cells.length cw4] := (((((BW.out.to hb44).set_ 0 (.int .i64 (renamedO d ss xs).st)).set_ 1 (.int .i64 (renamedO d ss xs).pos)).set_ 2 (.int .i64 (renamedO d ss xs).frm)).set_ 3 (.slice Aw4 (renamedO d ss xs).cells.length cw4))
    have n_BX := (((((BX.out.to hb44).far (p := ⟨gw, 0, none⟩) (show gx ≠ gw by omega) (.int .i64 (renamedO d ss xs).st)).far (p := ⟨gw, 1, none⟩) (show gx ≠ gw by omega) (.int .i64 (renamedO d ss xs).pos)).far (p := ⟨gw, 2, none⟩) (show gx ≠ gw by omega) (.int .i64 (renamedO d ss xs).frm)).far (p := ⟨gw, 3, none⟩) (show gx ≠ gw by omega) (.slice Aw4 (renamedO d ss xs).cells.length cw4))
    have n_BY := (((((BY.out.to hb44).far (p := ⟨gw, 0, none⟩) (show gy ≠ gw by omega) (.int .i64 (renamedO d ss xs).st)).far (p := ⟨gw, 1, none⟩) (show gy ≠ gw by omega) (.int .i64 (renamedO d ss xs).pos)).far (p := ⟨gw, 2, none⟩) (show gy ≠ gw by omega) (.int .i64 (renamedO d ss xs).frm)).far (p := ⟨gw, 3, none⟩) (show gy ≠ gw by omega) (.slice Aw4 (renamedO d ss xs).cells.length cw4))
    have n_BZ := (((((BZ.out.to hb44).far (p := ⟨gw, 0, none⟩) (show gz ≠ gw by omega) (.int .i64 (renamedO d ss xs).st)).far (p := ⟨gw, 1, none⟩) (show gz ≠ gw by omega) (.int .i64 (renamedO d ss xs).pos)).far (p := ⟨gw, 2, none⟩) (show gz ≠ gw by omega) (.int .i64 (renamedO d ss xs).frm)).far (p := ⟨gw, 3, none⟩) (show gz ≠ gw by omega) (.slice Aw4 (renamedO d ss xs).cells.length cw4))
    have hne : (.slice Az4 (renamedO d ss xs).cells.length cz4 : Value).ownBlock ≠ some gw := fun e => by have := FEZ.out _ e; omega
    have n_EZ := (elems_off (p := ⟨gw, 3, none⟩) (u := .slice Aw4 (renamedO d ss xs).cells.length cw4) (elems_off (p := ⟨gw, 2, none⟩) (u := .int .i64 (renamedO d ss xs).frm) (elems_off (p := ⟨gw, 1, none⟩) (u := .int .i64 (renamedO d ss xs).pos) (elems_off (p := ⟨gw, 0, none⟩) (u := .int .i64 (renamedO d ss xs).st) (EZ.out.to hb44) (.inr hne)) (.inr hne)) (.inr hne)) (.inr hne))
    clear hne
    have nF : ∀ k, (.slice Aw4 (renamedO d ss xs).cells.length cw4 : Value).ownBlock = some k → gw < k := fun k hk => Nat.lt_of_lt_of_le BW.out.lt (hfn k hk)
    have hne : (.slice Aw4 (renamedO d ss xs).cells.length cw4 : Value).ownBlock ≠ some gw := fun e => by have := nF _ e; omega
    have n_EW := (elems_off (p := ⟨gw, 3, none⟩) (u := .slice Aw4 (renamedO d ss xs).cells.length cw4) (elems_off (p := ⟨gw, 2, none⟩) (u := .int .i64 (renamedO d ss xs).frm) (elems_off (p := ⟨gw, 1, none⟩) (u := .int .i64 (renamedO d ss xs).pos) (elems_off (p := ⟨gw, 0, none⟩) (u := .int .i64 (renamedO d ss xs).st) hEn (.inr hne)) (.inr hne)) (.inr hne)) (.inr hne))
    clear hne
    have n_hbV := (((((bnext hbV hb44).setCell (p := ⟨gw, 0, none⟩) (show V.heap.size ≤ gw by omega) (.int .i64 (renamedO d ss xs).st)).setCell (p := ⟨gw, 1, none⟩) (show V.heap.size ≤ gw by omega) (.int .i64 (renamedO d ss xs).pos)).setCell (p := ⟨gw, 2, none⟩) (show V.heap.size ≤ gw by omega) (.int .i64 (renamedO d ss xs).frm)).setCell (p := ⟨gw, 3, none⟩) (show V.heap.size ≤ gw by omega) (.slice Aw4 (renamedO d ss xs).cells.length cw4))
    clear hEn hb44 hbV BW BX BY BZ EZ k0 l0 k1 l1 k2 l2 k3 l3 hfn KND
    clear q0 q1 q2 q3
    generalize hVV : ((((w44.setCell ⟨gw, 0, none⟩ (.int .i64 (renamedO d ss xs).st)).setCell ⟨gw, 1, none⟩ (.int .i64 (renamedO d ss xs).pos)).setCell ⟨gw, 2, none⟩ (.int .i64 (renamedO d ss xs).frm)).setCell ⟨gw, 3, none⟩ (.slice Aw4 (renamedO d ss xs).cells.length cw4)) = V44 at *
    clear hVV
    have BW := hid_ n_BW
    clear n_BW
    have BX := hid_ n_BX
    clear n_BX
    have BY := hid_ n_BY
    clear n_BY
    have BZ := hid_ n_BZ
    clear n_BZ
    have EZ := hid_ n_EZ
    clear n_EZ
    have EW := hid_ n_EW
    clear n_EW
    have FEW := hid_ nF
    clear nF
    have hbV := n_hbV
    clear n_hbV
    have KEQ : Hid (∀ Y, Elems Y Y.heap.size (.slice Az4 (renamedO d ss xs).cells.length cz4) (ints (renamedO d ss xs).cells) → Elems Y Y.heap.size (.slice Aw4 (renamedO d ss xs).cells.length cw4) (ints (renamedO d ss xs).cells) → Calls Tryd.prog 17 #[.agg #[.int .i64 (renamedO d ss xs).st, .int .i64 (renamedO d ss xs).pos, .int .i64 (renamedO d ss xs).frm, .slice Az4 (renamedO d ss xs).cells.length cz4], .agg #[.int .i64 (renamedO d ss xs).st, .int .i64 (renamedO d ss xs).pos, .int .i64 (renamedO d ss xs).frm, .slice Aw4 (renamedO d ss xs).cells.length cw4]] Y fun e w' => e = .returned (.bool true) ∧ Below Y.heap.size Y w') := hid_ (fun Y h h2 => by have := rsame_any (renamedO d ss xs) (renamedO d ss xs) _ _ Y h h2 (by have := HLD.out; simp [renamedO]; omega); rw [sameC_iff.2 rfl] at this; exact this)
    have r0 := (BZ.out).cell 0
    have r1 := (BZ.out).cell 1
    have r2 := (BZ.out).cell 2
    have r3 := (BZ.out).cell 3
    have s0 := (BW.out).cell 0
    have s1 := (BW.out).cell 1
    have s2 := (BW.out).cell 2
    have s3 := (BW.out).cell 3
    simp at r0 r1 r2 r3 s0 s1 s2 s3
    go_wp2_with fail
    refine (KEQ.out V44 EZ.out EW.out).mono ?_
    rintro e w45 ⟨rfl, hb45⟩
    have hbZ := bnext hbW (bnext hbV hb45)
    clear r0 r1 r2 r3 s0 s1 s2 s3
    go_wp2_with fail
    refine (awake_any mx _ (keepc hbZ HMX.out)).mono ?_
    rintro e w99 ⟨rfl, hb99⟩
    go_wp2_with fail
    go_ret
    exact ⟨rfl, bnext hbZ hb99⟩

end
end Go.Proofs.YtkbaiegfloajlaaDoor.Tp

/- The law's turnsConfig at a configuration that is not valid; both ways. -/
import Derived.Test.YtkbaiegfloajlaaDoorYj
namespace Go.Proofs.YtkbaiegfloajlaaDoor.Tp
open Go.RowKit

set_option maxRecDepth 100000 in
set_option maxHeartbeats 8000000 in
theorem turns_none (c : CfgS) (ss xs : List Int) (k : Int) (u u1 u2 : Value) (w : World) (hE : Elems w w.heap.size u (ints c.cells)) (hS : Elems w w.heap.size u1 (ints ss)) (hX : Elems w w.heap.size u2 (ints xs)) (hlc : c.cells.length ≤ 17592186044416) (hls : ss.length ≤ 100) (hlx : xs.length ≤ 100) (hs : someC c = false) :
    Calls Tryd.prog 35 #[.agg #[.int .i64 c.st, .int .i64 c.pos, .int .i64 c.frm, u], u1, u2, .int .i64 k] w (YesL w) := by
  obtain ⟨A2, c2, rfl⟩ := hE.form
  obtain ⟨As, cs, rfl⟩ := hS.form
  obtain ⟨Ax, cx, rfl⟩ := hX.form
  rw [ints_len] at hE hS hX ⊢
  rw [ints_len, ints_len]
  have hbW := below1 w (.cells #[.int .i64 c.st, .int .i64 c.pos, .int .i64 c.frm, .slice A2 c.cells.length c2] 27)
  have HE := hid_ (hE.to hbW)
  have HSS := hid_ (hS.to hbW)
  have HXX := hid_ (hX.to hbW)
  have HB1 := hid_ (Blk.new w 27 #[.int .i64 c.st, .int .i64 c.pos, .int .i64 c.frm, .slice A2 c.cells.length c2])
  clear hE hS hX
  go_enter Tryd.func35, Tryd.ntmps35
  go_upto_region 1 with fail
  generalize w.alloc (.cells #[.int .i64 c.st, .int .i64 c.pos, .int .i64 c.frm, .slice A2 c.cells.length c2] 27) = V at *
  obtain ⟨q1, e1, hq1⟩ : ∃ q e, q = (reflectC c).1 ∧ e = (reflectC c).2 := ⟨_, _, rfl, rfl⟩
  obtain ⟨q2, e2, hq2⟩ : ∃ q e, q = (renamedC c ss xs).1 ∧ e = (renamedC c ss xs).2 := ⟨_, _, rfl, rfl⟩
  obtain ⟨q3, e3, hq3⟩ : ∃ q e, q = (shiftC c k).1 ∧ e = (shiftC c k).2 := ⟨_, _, rfl, rfl⟩
  have K1 : Hid (∀ Y, Elems Y Y.heap.size (.slice A2 c.cells.length c2) (ints c.cells) → Calls Tryd.prog 38 #[.agg #[.int .i64 c.st, .int .i64 c.pos, .int .i64 c.frm, .slice A2 c.cells.length c2]] Y (CfT q1 e1 Y)) := hid_ (fun Y h1 => (reflect_any c _ Y h1 hlc).mono (fun e w' h => cft_mk h hq1))
  have K2 : Hid (∀ Y, Elems Y Y.heap.size (.slice A2 c.cells.length c2) (ints c.cells) → Elems Y Y.heap.size (.slice As ss.length cs) (ints ss) → Elems Y Y.heap.size (.slice Ax xs.length cx) (ints xs) → Calls Tryd.prog 40 #[.agg #[.int .i64 c.st, .int .i64 c.pos, .int .i64 c.frm, .slice A2 c.cells.length c2], .slice As ss.length cs, .slice Ax xs.length cx] Y (CfT q2 e2 Y)) := hid_ (fun Y h1 h2 h3 => (renamed_any c ss xs _ _ _ Y h1 h2 h3 hlc (by omega) (by omega)).mono (fun e w' h => cft_mk h hq2))
  have K3 : Hid (∀ Y, Elems Y Y.heap.size (.slice A2 c.cells.length c2) (ints c.cells) → Calls Tryd.prog 39 #[.agg #[.int .i64 c.st, .int .i64 c.pos, .int .i64 c.frm, .slice A2 c.cells.length c2], .int .i64 k] Y (CfT q3 e3 Y)) := hid_ (fun Y h1 => (shift_any c k _ Y h1 hlc).mono (fun e w' h => cft_mk h hq3))
  have HQ1 := hid_ hq1
  have HQ2 := hid_ hq2
  have HQ3 := hid_ hq3
  clear hq1 hq2 hq3
  have KS : Hid (∀ Y, Elems Y Y.heap.size (.slice A2 c.cells.length c2) (ints c.cells) → Calls Tryd.prog 60 #[.agg #[.int .i64 c.st, .int .i64 c.pos, .int .i64 c.frm, .slice A2 c.cells.length c2]] Y fun e w' => e = .returned (.bool false) ∧ Below Y.heap.size Y w') := hid_ (fun Y h => by have := rsome_any c _ Y h hlc; rwa [hs] at this)
  have z0 := (HB1.out).cell 0
  have z1 := (HB1.out).cell 1
  have z2 := (HB1.out).cell 2
  have z3 := (HB1.out).cell 3
  simp at z0 z1 z2 z3
  go_upto_region 2 with (go_at_call 38; (with_reducible refine (K1.out V HE.out).mono ?_); rintro e w21 ⟨Aa, ca, rfl, hEa, hb21⟩)
  have BA := hid_ (Blk.new w21 27 #[.int .i64 q1.st, .int .i64 q1.pos, .int .i64 q1.frm, .slice Aa q1.cells.length ca])
  have EA := hid_ (hEa.to (below1 w21 (.cells #[.int .i64 q1.st, .int .i64 q1.pos, .int .i64 q1.frm, .slice Aa q1.cells.length ca] 27)))
  have hbx := hb21.alloc hb21.size (.cells #[.int .i64 q1.st, .int .i64 q1.pos, .int .i64 q1.frm, .slice Aa q1.cells.length ca] 27)
  have hga : V.heap.size ≤ w21.heap.size := hb21.size
  have hbV := hbx
  clear hEa hb21 hbx K1
  clear z0 z1 z2 z3
  generalize hVV : w21.alloc (.cells #[.int .i64 q1.st, .int .i64 q1.pos, .int .i64 q1.frm, .slice Aa q1.cells.length ca] 27) = Vga at *
  generalize w21.heap.size = ga at *
  clear hVV
  have z0 := ((HB1.out.to hbV)).cell 0
  have z1 := ((HB1.out.to hbV)).cell 1
  have z2 := ((HB1.out.to hbV)).cell 2
  have z3 := ((HB1.out.to hbV)).cell 3
  simp at z0 z1 z2 z3
  go_upto_region 3 with (go_at_call 40; (with_reducible refine (K2.out Vga (HE.out.to hbV) (HSS.out.to hbV) (HXX.out.to hbV)).mono ?_); rintro e w22 ⟨Ab, cb, rfl, hEb, hb22⟩)
  have BB := hid_ (Blk.new w22 27 #[.int .i64 q2.st, .int .i64 q2.pos, .int .i64 q2.frm, .slice Ab q2.cells.length cb])
  have EB := hid_ (hEb.to (below1 w22 (.cells #[.int .i64 q2.st, .int .i64 q2.pos, .int .i64 q2.frm, .slice Ab q2.cells.length cb] 27)))
  have hbx := hb22.alloc hb22.size (.cells #[.int .i64 q2.st, .int .i64 q2.pos, .int .i64 q2.frm, .slice Ab q2.cells.length cb] 27)
  have hgb : ga < w22.heap.size := Nat.lt_of_lt_of_le BA.out.lt hb22.size
  replace BA := hid_ (BA.out.to hbx)
  replace EA := hid_ (EA.out.to hbx)
  have hbV := bnext hbV hbx
  clear hEb hb22 hbx K2
  clear z0 z1 z2 z3
  generalize hVV : w22.alloc (.cells #[.int .i64 q2.st, .int .i64 q2.pos, .int .i64 q2.frm, .slice Ab q2.cells.length cb] 27) = Vgb at *
  generalize w22.heap.size = gb at *
  clear hVV
  have z0 := ((HB1.out.to hbV)).cell 0
  have z1 := ((HB1.out.to hbV)).cell 1
  have z2 := ((HB1.out.to hbV)).cell 2
  have z3 := ((HB1.out.to hbV)).cell 3
  simp at z0 z1 z2 z3
  go_upto_region 4 with (go_at_call 39; (with_reducible refine (K3.out Vgb (HE.out.to hbV)).mono ?_); rintro e w23 ⟨Ad, cd, rfl, hEd, hb23⟩)
  have BD := hid_ (Blk.new w23 27 #[.int .i64 q3.st, .int .i64 q3.pos, .int .i64 q3.frm, .slice Ad q3.cells.length cd])
  have ED := hid_ (hEd.to (below1 w23 (.cells #[.int .i64 q3.st, .int .i64 q3.pos, .int .i64 q3.frm, .slice Ad q3.cells.length cd] 27)))
  have hbx := hb23.alloc hb23.size (.cells #[.int .i64 q3.st, .int .i64 q3.pos, .int .i64 q3.frm, .slice Ad q3.cells.length cd] 27)
  have hgd : gb < w23.heap.size := Nat.lt_of_lt_of_le BB.out.lt hb23.size
  replace BA := hid_ (BA.out.to hbx)
  replace EA := hid_ (EA.out.to hbx)
  replace BB := hid_ (BB.out.to hbx)
  replace EB := hid_ (EB.out.to hbx)
  have hbV := bnext hbV hbx
  clear hEd hb23 hbx K3
  clear z0 z1 z2 z3
  generalize hVV : w23.alloc (.cells #[.int .i64 q3.st, .int .i64 q3.pos, .int .i64 q3.frm, .slice Ad q3.cells.length cd] 27) = Vgd at *
  generalize w23.heap.size = gd at *
  clear hVV
  have BD0 := BD
  go_upto_region 5 with fail
  have BN := hid_ (Blk.new Vgd 27 #[.int .i64 0, .int .i64 0, .int .i64 0, .slice none 0 0])
  have hbx := below1 Vgd (.cells #[.int .i64 0, .int .i64 0, .int .i64 0, .slice none 0 0] 27)
  replace BA := hid_ (BA.out.to hbx)
  replace EA := hid_ (EA.out.to hbx)
  replace BB := hid_ (BB.out.to hbx)
  replace EB := hid_ (EB.out.to hbx)
  replace BD := hid_ (BD.out.to hbx)
  replace ED := hid_ (ED.out.to hbx)
  have hgn : gd < Vgd.heap.size := BD0.out.lt
  have hbV := bnext hbV hbx
  clear hbx BD0
  generalize hVV : Vgd.alloc (.cells #[.int .i64 0, .int .i64 0, .int .i64 0, .slice none 0 0] 27) = Vn at *
  generalize Vgd.heap.size = gn at *
  clear hVV
  have z0 := ((HB1.out.to hbV)).cell 0
  have z1 := ((HB1.out.to hbV)).cell 1
  have z2 := ((HB1.out.to hbV)).cell 2
  have z3 := ((HB1.out.to hbV)).cell 3
  simp at z0 z1 z2 z3
  go_upto_region 6 with (go_at_call 60; (with_reducible refine (KS.out _ (HE.out.to hbV)).mono ?_); rintro e w5 ⟨rfl, hb5⟩)
  replace BA := hid_ (BA.out.to hb5)
  replace EA := hid_ (EA.out.to hb5)
  replace BB := hid_ (BB.out.to hb5)
  replace EB := hid_ (EB.out.to hb5)
  replace BD := hid_ (BD.out.to hb5)
  replace ED := hid_ (ED.out.to hb5)
  replace BN := hid_ (BN.out.to hb5)
  have hbV := bnext hbV hb5
  clear hb5 KS
  clear z0 z1 z2 z3
  obtain ⟨V5, rfl⟩ : ∃ X : World, X = w5 := ⟨_, rfl⟩
  obtain ⟨hq1, he1⟩ : q1 = noC ∧ e1 = 1 := by
    have h := HQ1.out
    rw [reflectC, if_pos hs] at h
    exact h
  obtain ⟨hq2, he2⟩ : q2 = noC ∧ e2 = 1 := by
    have h := HQ2.out
    rw [renamedC, if_pos hs] at h
    exact h
  obtain ⟨hq3, he3⟩ : q3 = noC ∧ e3 = 1 := by
    have h := HQ3.out
    rw [shiftC, if_pos hs] at h
    exact h
  have KE1 : Hid (∀ Y, Elems Y Y.heap.size (.slice Aa q1.cells.length ca) (ints q1.cells) → Elems Y Y.heap.size (.slice none 0 0) (ints []) → Calls Tryd.prog 17 #[.agg #[.int .i64 q1.st, .int .i64 q1.pos, .int .i64 q1.frm, .slice Aa q1.cells.length ca], .agg #[.int .i64 0, .int .i64 0, .int .i64 0, .slice none 0 0]] Y fun e w' => e = .returned (.bool true) ∧ Below Y.heap.size Y w') := hid_ (fun Y h h2 => by have := rsame_any q1 noC _ _ Y h h2 (by rw [hq1]; simp [noC]); rw [sameC_iff.2 hq1] at this; exact this)
  have KE2 : Hid (∀ Y, Elems Y Y.heap.size (.slice Ab q2.cells.length cb) (ints q2.cells) → Elems Y Y.heap.size (.slice none 0 0) (ints []) → Calls Tryd.prog 17 #[.agg #[.int .i64 q2.st, .int .i64 q2.pos, .int .i64 q2.frm, .slice Ab q2.cells.length cb], .agg #[.int .i64 0, .int .i64 0, .int .i64 0, .slice none 0 0]] Y fun e w' => e = .returned (.bool true) ∧ Below Y.heap.size Y w') := hid_ (fun Y h h2 => by have := rsame_any q2 noC _ _ Y h h2 (by rw [hq2]; simp [noC]); rw [sameC_iff.2 hq2] at this; exact this)
  have KE3 : Hid (∀ Y, Elems Y Y.heap.size (.slice Ad q3.cells.length cd) (ints q3.cells) → Elems Y Y.heap.size (.slice none 0 0) (ints []) → Calls Tryd.prog 17 #[.agg #[.int .i64 q3.st, .int .i64 q3.pos, .int .i64 q3.frm, .slice Ad q3.cells.length cd], .agg #[.int .i64 0, .int .i64 0, .int .i64 0, .slice none 0 0]] Y fun e w' => e = .returned (.bool true) ∧ Below Y.heap.size Y w') := hid_ (fun Y h h2 => by have := rsame_any q3 noC _ _ Y h h2 (by rw [hq3]; simp [noC]); rw [sameC_iff.2 hq3] at this; exact this)
  subst he1 he2 he3
  clear hq1 hq2 hq3
  have r0 := (BA.out).cell 0
  have r1 := (BA.out).cell 1
  have r2 := (BA.out).cell 2
  have r3 := (BA.out).cell 3
  have s0 := (BB.out).cell 0
  have s1 := (BB.out).cell 1
  have s2 := (BB.out).cell 2
  have s3 := (BB.out).cell 3
  have x0 := (BD.out).cell 0
  have x1 := (BD.out).cell 1
  have x2 := (BD.out).cell 2
  have x3 := (BD.out).cell 3
  have y0 := (BN.out).cell 0
  have y1 := (BN.out).cell 1
  have y2 := (BN.out).cell 2
  have y3 := (BN.out).cell 3
  simp at r0 r1 r2 r3 s0 s1 s2 s3 x0 x1 x2 x3 y0 y1 y2 y3
  go_wp2_with (first
    | (go_at_call 17; (with_reducible refine (KE1.out V5 EA.out (Elems.nil _ _)).mono ?_); rintro e x1 ⟨rfl, hx1⟩; have hha := hx1; have EB1 := hid_ (EB.out.to hha); have ED1 := hid_ (ED.out.to hha); have ra0 := (BA.out.to hha).cell 0; have ra1 := (BA.out.to hha).cell 1; have ra2 := (BA.out.to hha).cell 2; have ra3 := (BA.out.to hha).cell 3; have sa0 := (BB.out.to hha).cell 0; have sa1 := (BB.out.to hha).cell 1; have sa2 := (BB.out.to hha).cell 2; have sa3 := (BB.out.to hha).cell 3; have xa0 := (BD.out.to hha).cell 0; have xa1 := (BD.out.to hha).cell 1; have xa2 := (BD.out.to hha).cell 2; have xa3 := (BD.out.to hha).cell 3; have ya0 := (BN.out.to hha).cell 0; have ya1 := (BN.out.to hha).cell 1; have ya2 := (BN.out.to hha).cell 2; have ya3 := (BN.out.to hha).cell 3; simp at ra0 ra1 ra2 ra3 sa0 sa1 sa2 sa3 xa0 xa1 xa2 xa3 ya0 ya1 ya2 ya3)
    | (go_at_call 17; (with_reducible refine (KE2.out x1 EB1.out (Elems.nil _ _)).mono ?_); rintro e x2 ⟨rfl, hx2⟩; have hhb := bnext hha hx2; have ED2 := hid_ (ED.out.to hhb); have rb0 := (BA.out.to hhb).cell 0; have rb1 := (BA.out.to hhb).cell 1; have rb2 := (BA.out.to hhb).cell 2; have rb3 := (BA.out.to hhb).cell 3; have sb0 := (BB.out.to hhb).cell 0; have sb1 := (BB.out.to hhb).cell 1; have sb2 := (BB.out.to hhb).cell 2; have sb3 := (BB.out.to hhb).cell 3; have xb0 := (BD.out.to hhb).cell 0; have xb1 := (BD.out.to hhb).cell 1; have xb2 := (BD.out.to hhb).cell 2; have xb3 := (BD.out.to hhb).cell 3; have yb0 := (BN.out.to hhb).cell 0; have yb1 := (BN.out.to hhb).cell 1; have yb2 := (BN.out.to hhb).cell 2; have yb3 := (BN.out.to hhb).cell 3; simp at rb0 rb1 rb2 rb3 sb0 sb1 sb2 sb3 xb0 xb1 xb2 xb3 yb0 yb1 yb2 yb3)
    | (go_at_call 17; (with_reducible refine (KE3.out x2 ED2.out (Elems.nil _ _)).mono ?_); rintro e x3 ⟨rfl, hx3⟩; have hhc := bnext hhb hx3))
  go_ret
  exact ⟨rfl, bnext hbW (bnext hbV hhc)⟩

theorem turnsConfig_any (c : CfgS) (ss xs : List Int) (k : Int) (u u1 u2 : Value) (w : World) (hE : Elems w w.heap.size u (ints c.cells)) (hS : Elems w w.heap.size u1 (ints ss)) (hX : Elems w w.heap.size u2 (ints xs)) (hlc : c.cells.length ≤ 17592186044416) (hls : ss.length ≤ 100) (hlx : xs.length ≤ 100) :
    Calls Tryd.prog 35 #[.agg #[.int .i64 c.st, .int .i64 c.pos, .int .i64 c.frm, u], u1, u2, .int .i64 k] w (YesL w) := by
  cases hs : someC c with
  | true => exact turns_go c ss xs k u u1 u2 w hE hS hX hlc hls hlx hs
  | false => exact turns_none c ss xs k u u1 u2 w hE hS hX hlc hls hlx hs
end Go.Proofs.YtkbaiegfloajlaaDoor.Tp

/- The law's turnsConfig. -/
import Derived.Test.YtkbaiegfloajlaaDoorYg
import Derived.Test.YtkbaiegfloajlaaDoorYc
namespace Go.Proofs.YtkbaiegfloajlaaDoor.Tp
open Go.RowKit

/-- A configuration and an error. -/
def CfT (r : CfgS) (er : Int) (w : World) (e : Ending) (w' : World) : Prop :=
  ∃ (A : Option Addr) (d : Nat), e = .returned (.tuple #[.agg #[.int .i64 r.st, .int .i64 r.pos, .int .i64 r.frm, .slice A r.cells.length d], .int .i64 er]) ∧ Elems w' w'.heap.size (.slice A r.cells.length d) (ints r.cells) ∧ Below w.heap.size w w'
theorem cft_mk {q : CfgS × Int} {r : CfgS} {er : Int} {w w' : World} {e : Ending} (h : ConfRan q w e w') (hq : r = q.1 ∧ er = q.2) : CfT r er w e w' := by
  obtain ⟨rfl, rfl⟩ := hq
  obtain ⟨A, d, h1, h2, h3, _⟩ := h
  exact ⟨A, d, h1, h2, h3⟩
set_option maxRecDepth 100000 in
set_option maxHeartbeats 8000000 in
theorem turns_go (c : CfgS) (ss xs : List Int) (k : Int) (u u1 u2 : Value) (w : World) (hE : Elems w w.heap.size u (ints c.cells)) (hS : Elems w w.heap.size u1 (ints ss)) (hX : Elems w w.heap.size u2 (ints xs)) (hlc : c.cells.length ≤ 17592186044416) (hls : ss.length ≤ 100) (hlx : xs.length ≤ 100) (hs : someC c = true) :
    Calls Tryd.prog 35 #[.agg #[.int .i64 c.st, .int .i64 c.pos, .int .i64 c.frm, u], u1, u2, .int .i64 k] w (YesL w) := by
  obtain ⟨A2, c2, rfl⟩ := hE.form
  obtain ⟨As, cs, rfl⟩ := hS.form
  obtain ⟨Ax, cx, rfl⟩ := hX.form
  rw [ints_len] at hE hS hX ⊢
  rw [ints_len, ints_len]
  have hbW := below1 w (.cells #[.int .i64 c.st, .int .i64 c.pos, .int .i64 c.frm, .slice A2 c.cells.length c2] 27)
  have HE := hid_ (hE.to hbW)
  have HSS := hid_ (hS.to hbW)
  have HXX := hid_ (hX.to hbW)
  have HB1 := hid_ (Blk.new w 27 #[.int .i64 c.st, .int .i64 c.pos, .int .i64 c.frm, .slice A2 c.cells.length c2])
  clear hE hS hX
  go_enter Tryd.func35, Tryd.ntmps35
  go_upto_region 1 with fail
  generalize w.alloc (.cells #[.int .i64 c.st, .int .i64 c.pos, .int .i64 c.frm, .slice A2 c.cells.length c2] 27) = V at *
  obtain ⟨q1, e1, hq1⟩ : ∃ q e, q = (reflectC c).1 ∧ e = (reflectC c).2 := ⟨_, _, rfl, rfl⟩
  obtain ⟨q2, e2, hq2⟩ : ∃ q e, q = (renamedC c ss xs).1 ∧ e = (renamedC c ss xs).2 := ⟨_, _, rfl, rfl⟩
  obtain ⟨q3, e3, hq3⟩ : ∃ q e, q = (shiftC c k).1 ∧ e = (shiftC c k).2 := ⟨_, _, rfl, rfl⟩
  have K1 : Hid (∀ Y, Elems Y Y.heap.size (.slice A2 c.cells.length c2) (ints c.cells) → Calls Tryd.prog 38 #[.agg #[.int .i64 c.st, .int .i64 c.pos, .int .i64 c.frm, .slice A2 c.cells.length c2]] Y (CfT q1 e1 Y)) := hid_ (fun Y h1 => (reflect_any c _ Y h1 hlc).mono (fun e w' h => cft_mk h hq1))
  have K2 : Hid (∀ Y, Elems Y Y.heap.size (.slice A2 c.cells.length c2) (ints c.cells) → Elems Y Y.heap.size (.slice As ss.length cs) (ints ss) → Elems Y Y.heap.size (.slice Ax xs.length cx) (ints xs) → Calls Tryd.prog 40 #[.agg #[.int .i64 c.st, .int .i64 c.pos, .int .i64 c.frm, .slice A2 c.cells.length c2], .slice As ss.length cs, .slice Ax xs.length cx] Y (CfT q2 e2 Y)) := hid_ (fun Y h1 h2 h3 => (renamed_any c ss xs _ _ _ Y h1 h2 h3 hlc (by omega) (by omega)).mono (fun e w' h => cft_mk h hq2))
  have K3 : Hid (∀ Y, Elems Y Y.heap.size (.slice A2 c.cells.length c2) (ints c.cells) → Calls Tryd.prog 39 #[.agg #[.int .i64 c.st, .int .i64 c.pos, .int .i64 c.frm, .slice A2 c.cells.length c2], .int .i64 k] Y (CfT q3 e3 Y)) := hid_ (fun Y h1 => (shift_any c k _ Y h1 hlc).mono (fun e w' h => cft_mk h hq3))
  have HQ1 := hid_ hq1
  have HQ2 := hid_ hq2
  have HQ3 := hid_ hq3
  clear hq1 hq2 hq3
  obtain ⟨sr, hsr⟩ : ∃ b, b = someC (reflectO c) := ⟨_, rfl⟩
  obtain ⟨okb, hok⟩ : ∃ b, b = okN c ss xs := ⟨_, rfl⟩
  have HR1 : Hid (if sr = true then q1 = reflectO c ∧ e1 = 0 else q1 = noC ∧ e1 = 2) := hid_ (by
    have h := HQ1.out
    rw [reflectC, if_neg (by rw [hs]; simp), ← hsr] at h
    cases sr <;> simpa using h)
  have HR2 : Hid (if okb = true then q2 = renamedO c ss xs ∧ e2 = 0 else q2 = noC ∧ e2 = 2) := hid_ (by
    have h := HQ2.out
    rw [renamedC, if_neg (by rw [hs]; simp), ← hok] at h
    cases okb <;> simpa using h)
  have HOK := hid_ hok
  have HSR := hid_ hsr
  have HS := hid_ hs
  obtain ⟨w1, w2, w3, w4, w5, _, _⟩ := within_iff.1 hs
  have w3 := inR_iff.1 w3
  have w4 := inR_iff.1 w4
  have HBD : Hid ((-1099511627776 ≤ c.pos ∧ c.pos ≤ 1099511627776) ∧ (-1099511627776 ≤ c.frm ∧ c.frm ≤ 1099511627776) ∧ c.cells.length ≤ 100000) := hid_ ⟨w3, w4, w5⟩
  obtain ⟨F, hF⟩ : ∃ F, F = (reflectO c).frm := ⟨_, rfl⟩
  have HF := hid_ hF
  clear w1 w2 w3 w4 w5 hok hsr hF
  have KRR : Hid (∀ Y, Elems Y Y.heap.size (.slice A2 c.cells.length c2) (ints c.cells) → Calls Tryd.prog 61 #[.agg #[.int .i64 c.st, .int .i64 c.pos, .int .i64 c.frm, .slice A2 c.cells.length c2]] Y fun e w' => ∃ Ar cr, e = .returned (.agg #[.int .i64 c.st, .int .i64 (-c.pos), .int .i64 F, .slice Ar c.cells.length cr]) ∧ Elems w' w'.heap.size (.slice Ar c.cells.length cr) (ints c.cells.reverse) ∧ Below Y.heap.size Y w') := hid_ (fun Y h => by rw [HF.out]; exact rreflect_any c _ Y h HBD.out.2.2 HBD.out.1 HBD.out.2.1)
  have HL3 : Hid (q3.cells.length ≤ 100000) := hid_ (by
    have h := HQ3.out.1
    rw [h, shift_is hs]
    have h5 := HBD.out.2.2
    unfold rshiftC
    split
    · simp [noC]
    · rename_i d hd
      split at hd
      · simp at hd
      · split at hd
        · simp only [Option.some.injEq] at hd
          subst hd
          exact h5
        · simp at hd)
  have KS : Hid (∀ Y, Elems Y Y.heap.size (.slice A2 c.cells.length c2) (ints c.cells) → Calls Tryd.prog 60 #[.agg #[.int .i64 c.st, .int .i64 c.pos, .int .i64 c.frm, .slice A2 c.cells.length c2]] Y fun e w' => e = .returned (.bool true) ∧ Below Y.heap.size Y w') := hid_ (fun Y h => by have := rsome_any c _ Y h hlc; rwa [hs] at this)
  have z0 := (HB1.out).cell 0
  have z1 := (HB1.out).cell 1
  have z2 := (HB1.out).cell 2
  have z3 := (HB1.out).cell 3
  simp at z0 z1 z2 z3
  go_upto_region 2 with (go_at_call 38; (with_reducible refine (K1.out V HE.out).mono ?_); rintro e w21 ⟨Aa, ca, rfl, hEa, hb21⟩)
  have BA := hid_ (Blk.new w21 27 #[.int .i64 q1.st, .int .i64 q1.pos, .int .i64 q1.frm, .slice Aa q1.cells.length ca])
  have EA := hid_ (hEa.to (below1 w21 (.cells #[.int .i64 q1.st, .int .i64 q1.pos, .int .i64 q1.frm, .slice Aa q1.cells.length ca] 27)))
  have hbx := hb21.alloc hb21.size (.cells #[.int .i64 q1.st, .int .i64 q1.pos, .int .i64 q1.frm, .slice Aa q1.cells.length ca] 27)
  have hga : V.heap.size ≤ w21.heap.size := hb21.size
  have hbV := hbx
  clear hEa hb21 hbx K1
  clear z0 z1 z2 z3
  generalize hVV : w21.alloc (.cells #[.int .i64 q1.st, .int .i64 q1.pos, .int .i64 q1.frm, .slice Aa q1.cells.length ca] 27) = Vga at *
  generalize w21.heap.size = ga at *
  clear hVV
  have z0 := ((HB1.out.to hbV)).cell 0
  have z1 := ((HB1.out.to hbV)).cell 1
  have z2 := ((HB1.out.to hbV)).cell 2
  have z3 := ((HB1.out.to hbV)).cell 3
  simp at z0 z1 z2 z3
  go_upto_region 3 with (go_at_call 40; (with_reducible refine (K2.out Vga (HE.out.to hbV) (HSS.out.to hbV) (HXX.out.to hbV)).mono ?_); rintro e w22 ⟨Ab, cb, rfl, hEb, hb22⟩)
  have BB := hid_ (Blk.new w22 27 #[.int .i64 q2.st, .int .i64 q2.pos, .int .i64 q2.frm, .slice Ab q2.cells.length cb])
  have EB := hid_ (hEb.to (below1 w22 (.cells #[.int .i64 q2.st, .int .i64 q2.pos, .int .i64 q2.frm, .slice Ab q2.cells.length cb] 27)))
  have hbx := hb22.alloc hb22.size (.cells #[.int .i64 q2.st, .int .i64 q2.pos, .int .i64 q2.frm, .slice Ab q2.cells.length cb] 27)
  have hgb : ga < w22.heap.size := Nat.lt_of_lt_of_le BA.out.lt hb22.size
  replace BA := hid_ (BA.out.to hbx)
  replace EA := hid_ (EA.out.to hbx)
  have hbV := bnext hbV hbx
  clear hEb hb22 hbx K2
  clear z0 z1 z2 z3
  generalize hVV : w22.alloc (.cells #[.int .i64 q2.st, .int .i64 q2.pos, .int .i64 q2.frm, .slice Ab q2.cells.length cb] 27) = Vgb at *
  generalize w22.heap.size = gb at *
  clear hVV
  have z0 := ((HB1.out.to hbV)).cell 0
  have z1 := ((HB1.out.to hbV)).cell 1
  have z2 := ((HB1.out.to hbV)).cell 2
  have z3 := ((HB1.out.to hbV)).cell 3
  simp at z0 z1 z2 z3
  go_upto_region 4 with (go_at_call 39; (with_reducible refine (K3.out Vgb (HE.out.to hbV)).mono ?_); rintro e w23 ⟨Ad, cd, rfl, hEd, hb23⟩)
  have BD := hid_ (Blk.new w23 27 #[.int .i64 q3.st, .int .i64 q3.pos, .int .i64 q3.frm, .slice Ad q3.cells.length cd])
  have ED := hid_ (hEd.to (below1 w23 (.cells #[.int .i64 q3.st, .int .i64 q3.pos, .int .i64 q3.frm, .slice Ad q3.cells.length cd] 27)))
  have hbx := hb23.alloc hb23.size (.cells #[.int .i64 q3.st, .int .i64 q3.pos, .int .i64 q3.frm, .slice Ad q3.cells.length cd] 27)
  have hgd : gb < w23.heap.size := Nat.lt_of_lt_of_le BB.out.lt hb23.size
  replace BA := hid_ (BA.out.to hbx)
  replace EA := hid_ (EA.out.to hbx)
  replace BB := hid_ (BB.out.to hbx)
  replace EB := hid_ (EB.out.to hbx)
  have hbV := bnext hbV hbx
  clear hEd hb23 hbx K3
  clear z0 z1 z2 z3
  generalize hVV : w23.alloc (.cells #[.int .i64 q3.st, .int .i64 q3.pos, .int .i64 q3.frm, .slice Ad q3.cells.length cd] 27) = Vgd at *
  generalize w23.heap.size = gd at *
  clear hVV
  have BD0 := BD
  go_upto_region 5 with fail
  have BN := hid_ (Blk.new Vgd 27 #[.int .i64 0, .int .i64 0, .int .i64 0, .slice none 0 0])
  have hbx := below1 Vgd (.cells #[.int .i64 0, .int .i64 0, .int .i64 0, .slice none 0 0] 27)
  replace BA := hid_ (BA.out.to hbx)
  replace EA := hid_ (EA.out.to hbx)
  replace BB := hid_ (BB.out.to hbx)
  replace EB := hid_ (EB.out.to hbx)
  replace BD := hid_ (BD.out.to hbx)
  replace ED := hid_ (ED.out.to hbx)
  have hgn : gd < Vgd.heap.size := BD0.out.lt
  have hbV := bnext hbV hbx
  clear hbx BD0
  generalize hVV : Vgd.alloc (.cells #[.int .i64 0, .int .i64 0, .int .i64 0, .slice none 0 0] 27) = Vn at *
  generalize Vgd.heap.size = gn at *
  clear hVV
  have z0 := ((HB1.out.to hbV)).cell 0
  have z1 := ((HB1.out.to hbV)).cell 1
  have z2 := ((HB1.out.to hbV)).cell 2
  have z3 := ((HB1.out.to hbV)).cell 3
  simp at z0 z1 z2 z3
  go_upto_region 7 with (go_at_call 60; (with_reducible refine (KS.out _ (HE.out.to hbV)).mono ?_); rintro e w5 ⟨rfl, hb5⟩)
  replace BA := hid_ (BA.out.to hb5)
  replace EA := hid_ (EA.out.to hb5)
  replace BB := hid_ (BB.out.to hb5)
  replace EB := hid_ (EB.out.to hb5)
  replace BD := hid_ (BD.out.to hb5)
  replace ED := hid_ (ED.out.to hb5)
  replace BN := hid_ (BN.out.to hb5)
  have hbV := bnext hbV hb5
  clear hb5 KS
  clear z0 z1 z2 z3
  obtain ⟨V5, rfl⟩ : ∃ X : World, X = w5 := ⟨_, rfl⟩
  have z0 := ((HB1.out.to hbV)).cell 0
  have z1 := ((HB1.out.to hbV)).cell 1
  have z2 := ((HB1.out.to hbV)).cell 2
  have z3 := ((HB1.out.to hbV)).cell 3
  simp at z0 z1 z2 z3
  go_upto_region 8 with (go_at_call 61; (with_reducible refine (KRR.out V5 (HE.out.to hbV)).mono ?_); rintro e w7 ⟨Ar, cr, rfl, hEr, hb7⟩)
  have BR := hid_ (Blk.new w7 27 #[.int .i64 c.st, .int .i64 (-c.pos), .int .i64 F, .slice Ar c.cells.length cr])
  have ER := hid_ (hEr.to (below1 w7 (.cells #[.int .i64 c.st, .int .i64 (-c.pos), .int .i64 F, .slice Ar c.cells.length cr] 27)))
  have hbx := hb7.alloc hb7.size (.cells #[.int .i64 c.st, .int .i64 (-c.pos), .int .i64 F, .slice Ar c.cells.length cr] 27)
  have hgr : gn < w7.heap.size := Nat.lt_of_lt_of_le BN.out.lt hb7.size
  replace BA := hid_ (BA.out.to hbx)
  replace EA := hid_ (EA.out.to hbx)
  replace BB := hid_ (BB.out.to hbx)
  replace EB := hid_ (EB.out.to hbx)
  replace BD := hid_ (BD.out.to hbx)
  replace ED := hid_ (ED.out.to hbx)
  replace BN := hid_ (BN.out.to hbx)
  have hbV := bnext hbV hbx
  clear hEr hb7 hbx KRR
  clear z0 z1 z2 z3
  generalize hVV : w7.alloc (.cells #[.int .i64 c.st, .int .i64 (-c.pos), .int .i64 F, .slice Ar c.cells.length cr] 27) = Vgr at *
  generalize w7.heap.size = gr at *
  clear hVV
  have KSR : Hid (∀ Y, Elems Y Y.heap.size (.slice Ar c.cells.length cr) (ints c.cells.reverse) → Calls Tryd.prog 60 #[.agg #[.int .i64 c.st, .int .i64 (-c.pos), .int .i64 F, .slice Ar c.cells.length cr]] Y fun e w' => e = .returned (.bool sr) ∧ Below Y.heap.size Y w') := hid_ (fun Y h => by rw [HSR.out, HF.out]; exact rsome_any (reflectO c) _ Y h (by simp [reflectO]; have := HBD.out.2.2; omega))
  have r0 := (BR.out).cell 0
  have r1 := (BR.out).cell 1
  have r2 := (BR.out).cell 2
  have r3 := (BR.out).cell 3
  simp at r0 r1 r2 r3
  go_upto_if 69 with (go_at_call 60; (with_reducible refine (KSR.out _ ER.out).mono ?_); rintro e w8 ⟨rfl, hb8⟩)
  replace BA := hid_ (BA.out.to hb8)
  replace EA := hid_ (EA.out.to hb8)
  replace BB := hid_ (BB.out.to hb8)
  replace EB := hid_ (EB.out.to hb8)
  replace BD := hid_ (BD.out.to hb8)
  replace ED := hid_ (ED.out.to hb8)
  replace BN := hid_ (BN.out.to hb8)
  replace BR := hid_ (BR.out.to hb8)
  replace ER := hid_ (ER.out.to hb8)
  have hbV := bnext hbV hb8
  clear hb8 KSR
  clear r0 r1 r2 r3
  obtain ⟨V8, rfl⟩ : ∃ X : World, X = w8 := ⟨_, rfl⟩
  go_cut [] (fun wx => Below V8.heap.size V8 wx)
  case first => as_aux_lemma =>
    cases sr with
    | true =>
      obtain ⟨hq1, he1⟩ : q1 = reflectO c ∧ e1 = 0 := by simpa using HR1.out
      clear HR1
      have KEQ : Hid (∀ Y, Elems Y Y.heap.size (.slice Aa q1.cells.length ca) (ints q1.cells) → Elems Y Y.heap.size (.slice Ar c.cells.length cr) (ints c.cells.reverse) → Calls Tryd.prog 17 #[.agg #[.int .i64 q1.st, .int .i64 q1.pos, .int .i64 q1.frm, .slice Aa q1.cells.length ca], .agg #[.int .i64 c.st, .int .i64 (-c.pos), .int .i64 F, .slice Ar c.cells.length cr]] Y fun e w' => e = .returned (.bool true) ∧ Below Y.heap.size Y w') := hid_ (fun Y h h2 => by rw [HF.out]; have := rsame_any q1 (reflectO c) _ _ Y h h2 (by rw [hq1]; simp [reflectO]; have := HBD.out.2.2; omega); rw [sameC_iff.2 hq1] at this; exact this)
      subst he1
      clear hq1
      have r0 := (BA.out).cell 0
      have r1 := (BA.out).cell 1
      have r2 := (BA.out).cell 2
      have r3 := (BA.out).cell 3
      have s0 := (BR.out).cell 0
      have s1 := (BR.out).cell 1
      have s2 := (BR.out).cell 2
      have s3 := (BR.out).cell 3
      simp at r0 r1 r2 r3 s0 s1 s2 s3
      go_wp2_with (go_at_call 17; (with_reducible refine (KEQ.out _ EA.out ER.out).mono ?_); rintro e w9 ⟨rfl, hb9⟩)
      go_meet
      exact hb9
    | false =>
      obtain ⟨hq1, he1⟩ : q1 = noC ∧ e1 = 2 := by simpa using HR1.out
      clear HR1
      have KEQ : Hid (∀ Y, Elems Y Y.heap.size (.slice Aa q1.cells.length ca) (ints q1.cells) → Elems Y Y.heap.size (.slice none 0 0) (ints []) → Calls Tryd.prog 17 #[.agg #[.int .i64 q1.st, .int .i64 q1.pos, .int .i64 q1.frm, .slice Aa q1.cells.length ca], .agg #[.int .i64 0, .int .i64 0, .int .i64 0, .slice none 0 0]] Y fun e w' => e = .returned (.bool true) ∧ Below Y.heap.size Y w') := hid_ (fun Y h h2 => by have := rsame_any q1 noC _ _ Y h h2 (by rw [hq1]; simp [noC]); rw [sameC_iff.2 hq1] at this; exact this)
      subst he1
      clear hq1
      have r0 := (BA.out).cell 0
      have r1 := (BA.out).cell 1
      have r2 := (BA.out).cell 2
      have r3 := (BA.out).cell 3
      have s0 := (BN.out).cell 0
      have s1 := (BN.out).cell 1
      have s2 := (BN.out).cell 2
      have s3 := (BN.out).cell 3
      simp at r0 r1 r2 r3 s0 s1 s2 s3
      go_wp2_with (go_at_call 17; (with_reducible refine (KEQ.out _ EA.out (Elems.nil _ _)).mono ?_); rintro e w9 ⟨rfl, hb9⟩)
      go_meet
      exact hb9
  case rest => as_aux_lemma =>
    have hbc := hcut
    obtain ⟨V9, rfl⟩ : ∃ X : World, X = wc := ⟨_, rfl⟩
    replace BA := hid_ (BA.out.to hbc)
    replace EA := hid_ (EA.out.to hbc)
    replace BB := hid_ (BB.out.to hbc)
    replace EB := hid_ (EB.out.to hbc)
    replace BD := hid_ (BD.out.to hbc)
    replace ED := hid_ (ED.out.to hbc)
    replace BN := hid_ (BN.out.to hbc)
    have hbV := bnext hbV hbc
    clear hbc BA EA BR ER HR1
    obtain ⟨b1, hb1⟩ : ∃ b, b = permB ss := ⟨_, rfl⟩
    obtain ⟨b2, hb2⟩ : ∃ b, b = permB xs := ⟨_, rfl⟩
    obtain ⟨b3, hb3⟩ : ∃ b, b = withinC c (ss.length : Int) (xs.length : Int) := ⟨_, rfl⟩
    have HOV : Hid (okb = (b1 && b2 && decide (ss.length ≤ 6) && decide (xs.length ≤ 4) && b3)) := hid_ (by rw [HOK.out, hb1, hb2, hb3]; exact okN_is HS.out)
    have HP1 : Hid (∀ Y, Elems Y Y.heap.size (.slice As ss.length cs) (ints ss) → Calls Tryd.prog 33 #[.slice As ss.length cs] Y fun e w' => e = .returned (.bool b1) ∧ Below Y.heap.size Y w') := hid_ (fun Y h => by rw [hb1]; exact permutes_any ss _ Y h (by omega))
    have HP2 : Hid (∀ Y, Elems Y Y.heap.size (.slice Ax xs.length cx) (ints xs) → Calls Tryd.prog 33 #[.slice Ax xs.length cx] Y fun e w' => e = .returned (.bool b2) ∧ Below Y.heap.size Y w') := hid_ (fun Y h => by rw [hb2]; exact permutes_any xs _ Y h (by omega))
    have HWI : Hid (∀ Y, Elems Y Y.heap.size (.slice A2 c.cells.length c2) (ints c.cells) → Calls Tryd.prog 44 #[.agg #[.int .i64 c.st, .int .i64 c.pos, .int .i64 c.frm, .slice A2 c.cells.length c2], .int .i64 (ss.length : Int), .int .i64 (xs.length : Int)] Y fun e w' => e = .returned (.bool b3) ∧ Below Y.heap.size Y w') := hid_ (fun Y h => by rw [hb3]; exact rwithin_any c _ _ _ Y h hlc)
    have HB3 := hid_ hb3
    clear hb1 hb2 hb3
    have HS9 := hid_ (HSS.out.to hbV)
    have HX9 := hid_ (HXX.out.to hbV)
    have HE9 := hid_ (HE.out.to hbV)
    have HC9 := hid_ (HB1.out.to hbV)
    go_upto_region 13 with fail
    go_cut [112] (fun s wx => s = .bool (!okb) ∧ Below V9.heap.size V9 wx)
    case first => as_aux_lemma =>
      clear HB3 HOK
      cases b1 with
      | false =>
        go_wp2_with (go_at_call 33; (with_reducible refine (HP1.out _ HS9.out).mono ?_); rintro e x1 ⟨rfl, hx1⟩)
        go_meet
        exact ⟨by rw [HOV.out]; rfl, hx1⟩
      | true =>
      cases b2 with
      | false =>
        go_wp2_with (first
          | (go_at_call 33; (with_reducible refine (HP1.out V9 HS9.out).mono ?_); rintro e x1 ⟨rfl, hx1⟩; have HX91 := hid_ (HX9.out.to hx1))
          | (go_at_call 33; (with_reducible refine (HP2.out _ HX91.out).mono ?_); rintro e x2 ⟨rfl, hx2⟩))
        go_meet
        exact ⟨by rw [HOV.out]; rfl, bnext hx1 hx2⟩
      | true =>
      by_cases h6 : (6 : Int) < (ss.length : Int)
      · have HD6 : Hid (decide (ss.length ≤ 6) = false) := hid_ (decide_eq_false (by omega))
        go_wp2_with (first
          | (go_at_call 33; (with_reducible refine (HP1.out V9 HS9.out).mono ?_); rintro e x1 ⟨rfl, hx1⟩; have HX91 := hid_ (HX9.out.to hx1))
          | (go_at_call 33; (with_reducible refine (HP2.out _ HX91.out).mono ?_); rintro e x2 ⟨rfl, hx2⟩))
        go_meet
        exact ⟨by rw [HOV.out, HD6.out]; rfl, bnext hx1 hx2⟩
      have HD6 : Hid (decide (ss.length ≤ 6) = true) := hid_ (decide_eq_true (by omega))
      by_cases h4 : (4 : Int) < (xs.length : Int)
      · have HD4 : Hid (decide (xs.length ≤ 4) = false) := hid_ (decide_eq_false (by omega))
        go_wp2_with (first
          | (go_at_call 33; (with_reducible refine (HP1.out V9 HS9.out).mono ?_); rintro e x1 ⟨rfl, hx1⟩; have HX91 := hid_ (HX9.out.to hx1))
          | (go_at_call 33; (with_reducible refine (HP2.out _ HX91.out).mono ?_); rintro e x2 ⟨rfl, hx2⟩))
        go_meet
        exact ⟨by rw [HOV.out, HD6.out, HD4.out]; rfl, bnext hx1 hx2⟩
      have HD4 : Hid (decide (xs.length ≤ 4) = true) := hid_ (decide_eq_true (by omega))
      go_wp2_with (first
          | (go_at_call 33; (with_reducible refine (HP1.out V9 HS9.out).mono ?_); rintro e x1 ⟨rfl, hx1⟩; have HX91 := hid_ (HX9.out.to hx1))
          | (go_at_call 33; (with_reducible refine (HP2.out _ HX91.out).mono ?_); rintro e x2 ⟨rfl, hx2⟩; have hxx := bnext hx1 hx2; have HE92 := hid_ (HE9.out.to hxx); have HC92 := HC9.out.to hxx; have z0 := HC92.cell 0; have z1 := HC92.cell 1; have z2 := HC92.cell 2; have z3 := HC92.cell 3; simp at z0 z1 z2 z3)
          | (go_at_call 44; (with_reducible refine (HWI.out _ HE92.out).mono ?_); rintro e x3 ⟨rfl, hx3⟩))
      go_meet
      exact ⟨by rw [HOV.out, HD6.out, HD4.out]; cases b3 <;> simp [h6, h4], bnext hxx hx3⟩
    case rest => as_aux_lemma =>
      obtain ⟨rfl, hbc⟩ := hcut
      obtain ⟨V10, rfl⟩ : ∃ X : World, X = wc := ⟨_, rfl⟩
      replace BB := hid_ (BB.out.to hbc)
      replace EB := hid_ (EB.out.to hbc)
      replace BD := hid_ (BD.out.to hbc)
      replace ED := hid_ (ED.out.to hbc)
      replace BN := hid_ (BN.out.to hbc)
      have hbV := bnext hbV hbc
      clear hbc HS9 HX9 HE9 HC9
      go_upto_if 112 with fail
      go_cut [] (fun wx => Below V10.heap.size V10 wx)
      case first => as_aux_lemma =>
        cases okb with
        | true =>
          obtain ⟨hq2, he2⟩ : q2 = renamedO c ss xs ∧ e2 = 0 := by simpa using HR2.out
          clear HR2 HOK
          obtain ⟨⟨⟨⟨hp1, hp2⟩, hd6⟩, hd4⟩, hb3⟩ : (((b1 = true ∧ b2 = true) ∧ ss.length ≤ 6) ∧ xs.length ≤ 4) ∧ b3 = true := by simpa using HOV.out.symm
          have HWX : Hid (withinC c (ss.length : Int) (xs.length : Int) = true) := hid_ (by rw [← HB3.out]; exact hb3)
          have HWT : Hid (-1 ≤ c.st ∧ c.st < (ss.length : Int)) := hid_ (by obtain ⟨g1, g2, _⟩ := within_iff.1 HWX.out; exact ⟨g1, g2⟩)
          have HWA : Hid (c.cells.all (symB (xs.length : Int)) = true) := hid_ ((within_iff.1 HWX.out).2.2.2.2.2.2)
          clear hp1 hp2 hd6 hd4 hb3 HOV
          have KRN : Hid (∀ Y, Elems Y Y.heap.size (.slice A2 c.cells.length c2) (ints c.cells) → Elems Y Y.heap.size (.slice As ss.length cs) (ints ss) → Elems Y Y.heap.size (.slice Ax xs.length cx) (ints xs) → Calls Tryd.prog 62 #[.agg #[.int .i64 c.st, .int .i64 c.pos, .int .i64 c.frm, .slice A2 c.cells.length c2], .slice As ss.length cs, .slice Ax xs.length cx] Y fun e w' => ∃ Av cv, e = .returned (.agg #[.int .i64 (renamedO c ss xs).st, .int .i64 c.pos, .int .i64 c.frm, .slice Av c.cells.length cv]) ∧ Elems w' w'.heap.size (.slice Av c.cells.length cv) (ints (renamedO c ss xs).cells) ∧ Below Y.heap.size Y w') := hid_ (fun Y h1 h2 h3 => rrenamed_any c ss xs _ _ _ Y h1 h2 h3 HBD.out.2.2 (by have := HWT.out; omega) HWA.out)
          have KEQ : Hid (∀ Av cv Y, Elems Y Y.heap.size (.slice Ab q2.cells.length cb) (ints q2.cells) → Elems Y Y.heap.size (.slice Av c.cells.length cv) (ints (renamedO c ss xs).cells) → Calls Tryd.prog 17 #[.agg #[.int .i64 q2.st, .int .i64 q2.pos, .int .i64 q2.frm, .slice Ab q2.cells.length cb], .agg #[.int .i64 (renamedO c ss xs).st, .int .i64 c.pos, .int .i64 c.frm, .slice Av c.cells.length cv]] Y fun e w' => e = .returned (.bool true) ∧ Below Y.heap.size Y w') := hid_ (fun Av cv Y h h2 => by have := rsame_any q2 (renamedO c ss xs) _ _ Y h h2 (by rw [hq2]; simp [renamedO]; have := HBD.out.2.2; omega); rw [sameC_iff.2 hq2] at this; exact this)
          subst he2
          clear hq2
          have b0 := (BB.out).cell 0
          have b1 := (BB.out).cell 1
          have b2 := (BB.out).cell 2
          have b3 := (BB.out).cell 3
          have z0 := ((HB1.out.to hbV)).cell 0
          have z1 := ((HB1.out.to hbV)).cell 1
          have z2 := ((HB1.out.to hbV)).cell 2
          have z3 := ((HB1.out.to hbV)).cell 3
          simp at b0 b1 b2 b3 z0 z1 z2 z3
          go_upto_region 16 with fail
          go_region_held3 (fun w' => w'.cell? ⟨gb, 0, none⟩ = some (.int .i64 q2.st) ∧ w'.cell? ⟨gb, 1, none⟩ = some (.int .i64 q2.pos) ∧ w'.cell? ⟨gb, 2, none⟩ = some (.int .i64 q2.frm) ∧ w'.cell? ⟨gb, 3, none⟩ = some (.slice Ab q2.cells.length cb) ∧ w'.cell? ⟨w.heap.size, 0, none⟩ = some (.int .i64 c.st) ∧ w'.cell? ⟨w.heap.size, 1, none⟩ = some (.int .i64 c.pos) ∧ w'.cell? ⟨w.heap.size, 2, none⟩ = some (.int .i64 c.frm) ∧ w'.cell? ⟨w.heap.size, 3, none⟩ = some (.slice A2 c.cells.length c2) ∧ Below V10.heap.size V10 w')
            (first | (with_reducible assumption) | (with_reducible exact (let hb := H4.out; ⟨keepc hb b0, keepc hb b1, keepc hb b2, keepc hb b3, keepc hb z0, keepc hb z1, keepc hb z2, keepc hb z3, hb⟩)) | (with_reducible exact (let hb := H3.out; ⟨keepc hb b0, keepc hb b1, keepc hb b2, keepc hb b3, keepc hb z0, keepc hb z1, keepc hb z2, keepc hb z3, hb⟩)) | (with_reducible exact (let hb := (Below.refl V10.heap.size V10).drew; ⟨keepc hb b0, keepc hb b1, keepc hb b2, keepc hb b3, keepc hb z0, keepc hb z1, keepc hb z2, keepc hb z3, hb⟩)) | (with_reducible exact (let hb := Below.refl V10.heap.size V10; ⟨keepc hb b0, keepc hb b1, keepc hb b2, keepc hb b3, keepc hb z0, keepc hb z1, keepc hb z2, keepc hb z3, hb⟩)) | fail)
            (first
              | (go_at_call 62; (with_reducible refine (KRN.out _ (HE.out.to (bnext hbV (And.right (And.right (And.right (And.right (And.right (And.right (And.right (And.right (by assumption))))))))))) (HSS.out.to (bnext hbV (And.right (And.right (And.right (And.right (And.right (And.right (And.right (And.right (by assumption))))))))))) (HXX.out.to (bnext hbV (And.right (And.right (And.right (And.right (And.right (And.right (And.right (And.right (by assumption)))))))))))).mono ?_); rintro e x1 ⟨Av, cv, rfl, hEv, hx1⟩; have H3 : Hid (Below V10.heap.size V10 x1) := hid_ (bnext (And.right (And.right (And.right (And.right (And.right (And.right (And.right (And.right (by assumption))))))))) hx1); have HEV := hid_ hEv; clear hEv hx1)
              | (go_at_call 17; (with_reducible refine (KEQ.out _ _ _ (EB.out.to H3.out) HEV.out).mono ?_); rintro e x2 ⟨rfl, hx2⟩; have H4 : Hid (Below V10.heap.size V10 x2) := hid_ (bnext H3.out hx2); clear hx2))
          all_goals
            go_wp2_with fail
            go_meet
            first
              | exact H4.out
              | exact H4.out.drew
        | false =>
          obtain ⟨hq2, he2⟩ : q2 = noC ∧ e2 = 2 := by simpa using HR2.out
          clear HR2 HOK
          have KEQ : Hid (∀ Y, Elems Y Y.heap.size (.slice Ab q2.cells.length cb) (ints q2.cells) → Elems Y Y.heap.size (.slice none 0 0) (ints []) → Calls Tryd.prog 17 #[.agg #[.int .i64 q2.st, .int .i64 q2.pos, .int .i64 q2.frm, .slice Ab q2.cells.length cb], .agg #[.int .i64 0, .int .i64 0, .int .i64 0, .slice none 0 0]] Y fun e w' => e = .returned (.bool true) ∧ Below Y.heap.size Y w') := hid_ (fun Y h h2 => by have := rsame_any q2 noC _ _ Y h h2 (by rw [hq2]; simp [noC]); rw [sameC_iff.2 hq2] at this; exact this)
          subst he2
          clear hq2
          have r0 := (BB.out).cell 0
          have r1 := (BB.out).cell 1
          have r2 := (BB.out).cell 2
          have r3 := (BB.out).cell 3
          have s0 := (BN.out).cell 0
          have s1 := (BN.out).cell 1
          have s2 := (BN.out).cell 2
          have s3 := (BN.out).cell 3
          simp at r0 r1 r2 r3 s0 s1 s2 s3
          go_wp2_with (go_at_call 17; (with_reducible refine (KEQ.out _ EB.out (Elems.nil _ _)).mono ?_); rintro e w9 ⟨rfl, hb9⟩)
          go_meet
          exact hb9
      case rest => as_aux_lemma =>
        have hbc := hcut
        obtain ⟨V11, rfl⟩ : ∃ X : World, X = wc := ⟨_, rfl⟩
        replace BD := hid_ (BD.out.to hbc)
        replace ED := hid_ (ED.out.to hbc)
        have hbV := bnext hbV hbc
        clear hbc BB EB BN HR2 HOK HOV HB3
        obtain ⟨bb, hbb⟩ : ∃ b, b = (rshiftC c k).isSome := ⟨_, rfl⟩
        have hq3 : q3 = (rshiftC c k).getD noC ∧ e3 = if bb = true then 0 else 2 := by
          have h := HQ3.out
          rw [shift_is HS.out] at h
          rw [hbb]
          cases hr : rshiftC c k with
          | none => rw [hr] at h; simpa using h
          | some d => rw [hr] at h; simpa using h
        have HE3 := hid_ hq3.2
        replace hq3 := hq3.1
        have KSH : Hid (∀ Y, Elems Y Y.heap.size (.slice A2 c.cells.length c2) (ints c.cells) → Calls Tryd.prog 63 #[.agg #[.int .i64 c.st, .int .i64 c.pos, .int .i64 c.frm, .slice A2 c.cells.length c2], .int .i64 k] Y fun e w' => ∃ Aw cw, e = .returned (.tuple #[.agg #[.int .i64 q3.st, .int .i64 q3.pos, .int .i64 q3.frm, .slice Aw q3.cells.length cw], .bool bb]) ∧ Elems w' w'.heap.size (.slice Aw q3.cells.length cw) (ints q3.cells) ∧ Below Y.heap.size Y w') := hid_ (fun Y h => (rshift_any c k _ Y h HS.out).mono (fun e w' h => by
          obtain ⟨q, A, d, h1, h2, h3, h4⟩ := h
          rw [← hq3] at h2
          subst h2
          rw [← hbb] at h1
          exact ⟨A, d, h1, h3, h4⟩))
        clear hbb hq3
        have z0 := ((HB1.out.to hbV)).cell 0
        have z1 := ((HB1.out.to hbV)).cell 1
        have z2 := ((HB1.out.to hbV)).cell 2
        have z3 := ((HB1.out.to hbV)).cell 3
        simp at z0 z1 z2 z3
        go_upto_region 19 with (go_at_call 63; (with_reducible refine (KSH.out V11 (HE.out.to hbV)).mono ?_); rintro e w18 ⟨Aw, cw, rfl, hEw, hb18⟩)
        have BW := hid_ (Blk.new w18 27 #[.int .i64 q3.st, .int .i64 q3.pos, .int .i64 q3.frm, .slice Aw q3.cells.length cw])
        have EW := hid_ (hEw.to (below1 w18 (.cells #[.int .i64 q3.st, .int .i64 q3.pos, .int .i64 q3.frm, .slice Aw q3.cells.length cw] 27)))
        have hbx := hb18.alloc hb18.size (.cells #[.int .i64 q3.st, .int .i64 q3.pos, .int .i64 q3.frm, .slice Aw q3.cells.length cw] 27)
        have hgw : gd < w18.heap.size := Nat.lt_of_lt_of_le BD.out.lt hb18.size
        replace BD := hid_ (BD.out.to hbx)
        replace ED := hid_ (ED.out.to hbx)
        have hbV := bnext hbV hbx
        clear hEw hb18 hbx KSH
        clear z0 z1 z2 z3
        generalize hVV : w18.alloc (.cells #[.int .i64 q3.st, .int .i64 q3.pos, .int .i64 q3.frm, .slice Aw q3.cells.length cw] 27) = Vgw at *
        generalize w18.heap.size = gw at *
        clear hVV
        have KEQ : Hid (∀ Y, Elems Y Y.heap.size (.slice Ad q3.cells.length cd) (ints q3.cells) → Elems Y Y.heap.size (.slice Aw q3.cells.length cw) (ints q3.cells) → Calls Tryd.prog 17 #[.agg #[.int .i64 q3.st, .int .i64 q3.pos, .int .i64 q3.frm, .slice Ad q3.cells.length cd], .agg #[.int .i64 q3.st, .int .i64 q3.pos, .int .i64 q3.frm, .slice Aw q3.cells.length cw]] Y fun e w' => e = .returned (.bool true) ∧ Below Y.heap.size Y w') := hid_ (fun Y h h2 => by have := rsame_any q3 q3 _ _ Y h h2 (by have := HL3.out; omega); rw [sameC_iff.2 rfl] at this; exact this)
        have r0 := (BD.out).cell 0
        have r1 := (BD.out).cell 1
        have r2 := (BD.out).cell 2
        have r3 := (BD.out).cell 3
        have s0 := (BW.out).cell 0
        have s1 := (BW.out).cell 1
        have s2 := (BW.out).cell 2
        have s3 := (BW.out).cell 3
        simp at r0 r1 r2 r3 s0 s1 s2 s3
        cases bb with
        | true =>
          have he3 : e3 = 0 := by simpa using HE3.out
          subst he3
          go_wp2_with (go_at_call 17; (with_reducible refine (KEQ.out _ ED.out EW.out).mono ?_); rintro e w19 ⟨rfl, hb19⟩)
          go_ret
          exact ⟨rfl, bnext hbW (bnext hbV hb19)⟩
        | false =>
          have he3 : e3 = 2 := by simpa using HE3.out
          subst he3
          go_wp2_with (go_at_call 17; (with_reducible refine (KEQ.out _ ED.out EW.out).mono ?_); rintro e w19 ⟨rfl, hb19⟩)
          go_ret
          exact ⟨rfl, bnext hbW (bnext hbV hb19)⟩
end Go.Proofs.YtkbaiegfloajlaaDoor.Tp

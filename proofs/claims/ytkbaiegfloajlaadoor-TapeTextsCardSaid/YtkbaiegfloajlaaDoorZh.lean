/- The law TapeTexts. -/
import Derived.Test.YtkbaiegfloajlaaDoorZg
import Derived.Test.YtkbaiegfloajlaaDoorVh
import Derived.Test.YtkbaiegfloajlaaDoorVi
namespace Go.Proofs.YtkbaiegfloajlaaDoor.Tp
open Go.RowKit

set_option maxRecDepth 100000 in
set_option maxHeartbeats 8000000 in
theorem texts_e0 (m : MachS) (s : ByteArray) (v : Value) (w : World) (mx : Int) (hm : MachIn w w.heap.size v m) (hmx : w.cell? ⟨0, 0, none⟩ = some (.int .i64 mx)) (hw : wideT m noC = true) :
    Calls Tryd.prog 4 #[.agg #[.int .i64 m.states, .int .i64 m.symbols, v], .string s] w (YesL w) := by
  obtain ⟨A1, c1, rfl⟩ := hm.rules.form
  have hbW := below1 w (.cells #[.int .i64 m.states, .int .i64 m.symbols, .slice A1 m.rules.length c1] 24)
  have HM := hid_ (hm.to hbW)
  have HB1 := hid_ (Blk.new w 24 #[.int .i64 m.states, .int .i64 m.symbols, .slice A1 m.rules.length c1])
  have HMX := hid_ hmx
  clear hm hmx
  go_enter Tryd.func4, Tryd.ntmps4
  go_upto_region 1 with fail
  generalize w.alloc (.cells #[.int .i64 m.states, .int .i64 m.symbols, .slice A1 m.rules.length c1] 24) = V at *
  have KW : Hid (∀ Y, MachIn Y Y.heap.size (.slice A1 m.rules.length c1) m → Calls Tryd.prog 9 #[.agg #[.int .i64 m.states, .int .i64 m.symbols, .slice A1 m.rules.length c1], .agg #[.int .i64 0, .int .i64 0, .int .i64 0, .slice none 0 0]] Y fun e w' => e = .returned (.bool true) ∧ Below Y.heap.size Y w') := hid_ (fun Y h => by have := wide_any m noC _ _ Y h (Elems.nil _ _) (by decide); rw [hw] at this; exact this)
  have p0 := (HB1.out).cell 0
  have p1 := (HB1.out).cell 1
  have p2 := (HB1.out).cell 2
  simp at p0 p1 p2
  go_wp2_with (first
    | (go_at_call 9; (with_reducible refine (KW.out _ HM.out).mono ?_); rintro e x1 ⟨rfl, hx1⟩; have HF := hid_ (bnext hbW hx1))
    | (go_at_call 10; (with_reducible refine (awake_any mx _ (keepc HF.out HMX.out)).mono ?_); rintro e x9 ⟨rfl, hx9⟩))
  go_ret
  exact ⟨rfl, bnext HF.out hx9⟩

set_option maxRecDepth 100000 in
set_option maxHeartbeats 8000000 in
theorem texts_e1 (m : MachS) (s : ByteArray) (v : Value) (w : World) (mx : Int) (hm : MachIn w w.heap.size v m) (hmx : w.cell? ⟨0, 0, none⟩ = some (.int .i64 mx)) (hw : wideT m noC = false) (t1 : (1000 : Int) < (s.size : Int)) :
    Calls Tryd.prog 4 #[.agg #[.int .i64 m.states, .int .i64 m.symbols, v], .string s] w (YesL w) := by
  obtain ⟨A1, c1, rfl⟩ := hm.rules.form
  have hbW := below1 w (.cells #[.int .i64 m.states, .int .i64 m.symbols, .slice A1 m.rules.length c1] 24)
  have HM := hid_ (hm.to hbW)
  have HB1 := hid_ (Blk.new w 24 #[.int .i64 m.states, .int .i64 m.symbols, .slice A1 m.rules.length c1])
  have HMX := hid_ hmx
  clear hm hmx
  go_enter Tryd.func4, Tryd.ntmps4
  go_upto_region 1 with fail
  generalize w.alloc (.cells #[.int .i64 m.states, .int .i64 m.symbols, .slice A1 m.rules.length c1] 24) = V at *
  have KW : Hid (∀ Y, MachIn Y Y.heap.size (.slice A1 m.rules.length c1) m → Calls Tryd.prog 9 #[.agg #[.int .i64 m.states, .int .i64 m.symbols, .slice A1 m.rules.length c1], .agg #[.int .i64 0, .int .i64 0, .int .i64 0, .slice none 0 0]] Y fun e w' => e = .returned (.bool false) ∧ Below Y.heap.size Y w') := hid_ (fun Y h => by have := wide_any m noC _ _ Y h (Elems.nil _ _) (by decide); rw [hw] at this; exact this)
  have p0 := (HB1.out).cell 0
  have p1 := (HB1.out).cell 1
  have p2 := (HB1.out).cell 2
  simp at p0 p1 p2
  go_wp2_with (first
    | (go_at_call 9; (with_reducible refine (KW.out _ HM.out).mono ?_); rintro e x1 ⟨rfl, hx1⟩; have HF := hid_ (bnext hbW hx1))
    | (go_at_call 10; (with_reducible refine (awake_any mx _ (keepc HF.out HMX.out)).mono ?_); rintro e x9 ⟨rfl, hx9⟩))
  go_ret
  exact ⟨rfl, bnext HF.out hx9⟩

set_option maxRecDepth 100000 in
set_option maxHeartbeats 8000000 in
theorem texts_no (m : MachS) (s : ByteArray) (v : Value) (w : World) (mx : Int) (hm : MachIn w w.heap.size v m) (hmx : w.cell? ⟨0, 0, none⟩ = some (.int .i64 mx)) (hw : wideT m noC = false) (t1 : ¬ (1000 : Int) < (s.size : Int)) (hv : validM m = false) :
    Calls Tryd.prog 4 #[.agg #[.int .i64 m.states, .int .i64 m.symbols, v], .string s] w (YesL w) := by
  obtain ⟨A1, c1, rfl⟩ := hm.rules.form
  have hbW := below1 w (.cells #[.int .i64 m.states, .int .i64 m.symbols, .slice A1 m.rules.length c1] 24)
  have HM := hid_ (hm.to hbW)
  have HB1 := hid_ (Blk.new w 24 #[.int .i64 m.states, .int .i64 m.symbols, .slice A1 m.rules.length c1])
  have HMX := hid_ hmx
  clear hm hmx
  go_enter Tryd.func4, Tryd.ntmps4
  go_upto_region 1 with fail
  generalize w.alloc (.cells #[.int .i64 m.states, .int .i64 m.symbols, .slice A1 m.rules.length c1] 24) = V at *
  have KW : Hid (∀ Y, MachIn Y Y.heap.size (.slice A1 m.rules.length c1) m → Calls Tryd.prog 9 #[.agg #[.int .i64 m.states, .int .i64 m.symbols, .slice A1 m.rules.length c1], .agg #[.int .i64 0, .int .i64 0, .int .i64 0, .slice none 0 0]] Y fun e w' => e = .returned (.bool false) ∧ Below Y.heap.size Y w') := hid_ (fun Y h => by have := wide_any m noC _ _ Y h (Elems.nil _ _) (by decide); rw [hw] at this; exact this)
  have KT : Hid (∀ Y, MachIn Y Y.heap.size (.slice A1 m.rules.length c1) m → Calls Tryd.prog 21 #[.agg #[.int .i64 m.states, .int .i64 m.symbols, .slice A1 m.rules.length c1]] Y fun e w' => e = .returned (.tuple #[.string ⟨#[]⟩, .int .i64 1]) ∧ Below Y.heap.size Y w') := hid_ (fun Y h => text_bad m _ Y h hv)
  obtain ⟨q, hq⟩ : ∃ q, q = (rparseO s.data.toList).getD noM := ⟨_, rfl⟩
  obtain ⟨ob, hob⟩ : ∃ b, b = (rparseO s.data.toList).isSome := ⟨_, rfl⟩
  obtain ⟨ef, hef⟩ : ∃ n : Int, n = if ob = true then 0 else 3 := ⟨_, rfl⟩
  have HPI : Hid (parseC s.data.toList = (q, ef)) := hid_ (by
    rw [parse_is, hef, hq, hob]
    cases rparseO s.data.toList <;> rfl)
  have HOB : Hid (ob = true → validM q = true ∧ (⟨(textM q).toArray⟩ : ByteArray) = s) := hid_ (fun h => by
    rw [hob] at h
    rw [hq]
    cases hr : rparseO s.data.toList with
    | none => rw [hr] at h; simp at h
    | some M =>
      unfold rparseO at hr
      split at hr
      · next h2 =>
        simp only [Option.some.injEq] at hr
        subst hr
        refine ⟨h2.1, ?_⟩
        show (⟨(textM (rbM s.data.toList)).toArray⟩ : ByteArray) = s
        rw [h2.2]
      · simp at hr)
  have hs1 : s.size ≤ 100000 := by omega
  have KPA : Hid (∀ Y, Y.cell? ⟨0, 0, none⟩ = some (.int .i64 mx) → Calls Tryd.prog 22 #[.string s] Y fun e w' => ∃ Aq cq, e = .returned (.tuple #[.agg #[.int .i64 q.states, .int .i64 q.symbols, .slice Aq q.rules.length cq], .int .i64 ef]) ∧ MachIn w' w'.heap.size (.slice Aq q.rules.length cq) q ∧ Below Y.heap.size Y w') := hid_ (fun Y h => by have := parse_any s mx Y h hs1; rw [HPI.out] at this; exact this)
  have KRP : Hid (∀ Y, Calls Tryd.prog 23 #[.string s] Y fun e w' => ∃ Ar cr, e = .returned (.tuple #[.agg #[.int .i64 q.states, .int .i64 q.symbols, .slice Ar q.rules.length cr], .bool ob]) ∧ MachIn w' w'.heap.size (.slice Ar q.rules.length cr) q ∧ Below Y.heap.size Y w') := hid_ (fun Y => by have := rparse_any s Y hs1; rw [hq, hob]; exact this)
  have HEF := hid_ hef
  clear hq hob hef hw
  have p0 := (HB1.out).cell 0
  have p1 := (HB1.out).cell 1
  have p2 := (HB1.out).cell 2
  simp at p0 p1 p2
  go_upto_region 3 with (go_at_call 9; (with_reducible refine (KW.out _ HM.out).mono ?_); rintro e x1 ⟨rfl, hx1⟩)
  replace HM := hid_ (HM.out.to hx1)
  replace HB1 := hid_ (HB1.out.to hx1)
  replace hbW := bnext hbW hx1
  clear hx1 KW p0 p1 p2
  obtain ⟨V, rfl⟩ : ∃ X : World, X = x1 := ⟨_, rfl⟩
  have p0 := (HB1.out).cell 0
  have p1 := (HB1.out).cell 1
  have p2 := (HB1.out).cell 2
  simp at p0 p1 p2
  go_upto_region 4 with (go_at_call 21; (with_reducible refine (KT.out _ HM.out).mono ?_); rintro e x1 ⟨rfl, hx1⟩)
  replace HM := hid_ (HM.out.to hx1)
  replace HB1 := hid_ (HB1.out.to hx1)
  replace hbW := bnext hbW hx1
  clear hx1 KT p0 p1 p2
  obtain ⟨V, rfl⟩ : ∃ X : World, X = x1 := ⟨_, rfl⟩
  go_upto_region 5 with (go_at_call 22; (with_reducible refine (KPA.out V (keepc hbW HMX.out)).mono ?_); rintro e w21 ⟨Aq, cq, rfl, hMa, hb21⟩)
  have BA := hid_ (Blk.new w21 24 #[.int .i64 q.states, .int .i64 q.symbols, .slice Aq q.rules.length cq])
  have EA := hid_ (hMa.to (below1 w21 (.cells #[.int .i64 q.states, .int .i64 q.symbols, .slice Aq q.rules.length cq] 24)))
  have hbx := hb21.alloc hb21.size (.cells #[.int .i64 q.states, .int .i64 q.symbols, .slice Aq q.rules.length cq] 24)
  have hga : V.heap.size ≤ w21.heap.size := hb21.size
  have hbV := hbx
  clear hMa hb21 hbx KPA

  generalize hVV : w21.alloc (.cells #[.int .i64 q.states, .int .i64 q.symbols, .slice Aq q.rules.length cq] 24) = Vga at *
  generalize w21.heap.size = ga at *
  clear hVV
  go_upto_region 6 with (go_at_call 23; (with_reducible refine (KRP.out Vga).mono ?_); rintro e w22 ⟨Ar, cr, rfl, hMb, hb22⟩)
  have BB := hid_ (Blk.new w22 24 #[.int .i64 q.states, .int .i64 q.symbols, .slice Ar q.rules.length cr])
  have EB := hid_ (hMb.to (below1 w22 (.cells #[.int .i64 q.states, .int .i64 q.symbols, .slice Ar q.rules.length cr] 24)))
  have hbx := hb22.alloc hb22.size (.cells #[.int .i64 q.states, .int .i64 q.symbols, .slice Ar q.rules.length cr] 24)
  have hgb : ga < w22.heap.size := Nat.lt_of_lt_of_le BA.out.lt hb22.size
  replace BA := hid_ (BA.out.to hbx)
  replace EA := hid_ (EA.out.to hbx)
  have hbV := bnext hbV hbx
  clear hMb hb22 hbx KRP

  generalize hVV : w22.alloc (.cells #[.int .i64 q.states, .int .i64 q.symbols, .slice Ar q.rules.length cr] 24) = Vgb at *
  generalize w22.heap.size = gb at *
  clear hVV
  have KEQ : Hid (∀ Y, MachIn Y Y.heap.size (.slice Aq q.rules.length cq) q → MachIn Y Y.heap.size (.slice Ar q.rules.length cr) q → Calls Tryd.prog 24 #[.agg #[.int .i64 q.states, .int .i64 q.symbols, .slice Aq q.rules.length cq], .agg #[.int .i64 q.states, .int .i64 q.symbols, .slice Ar q.rules.length cr]] Y fun e w' => e = .returned (.bool true) ∧ Below Y.heap.size Y w') := hid_ (fun Y h h2 => by have := rsameM_any q q _ _ Y h h2; rw [sameM_iff.2 rfl] at this; exact this)
  go_upto_region 6 with fail
  go_cut [56] (fun t wx => t = .bool false ∧ Below Vgb.heap.size Vgb wx)
  case first => as_aux_lemma =>
    have r0 := (BA.out).cell 0
    have r1 := (BA.out).cell 1
    have r2 := (BA.out).cell 2
    have s0 := (BB.out).cell 0
    have s1 := (BB.out).cell 1
    have s2 := (BB.out).cell 2
    simp at r0 r1 r2 s0 s1 s2
    cases ob with
    | false =>
      have he : ef = 3 := by simpa using HEF.out
      clear HEF HPI HOB
      subst he
      go_wp2_with (go_at_call 24; (with_reducible refine (KEQ.out _ EA.out EB.out).mono ?_); rintro e x3 ⟨rfl, hx3⟩)
      go_meet
      exact ⟨rfl, hx3⟩
    | true =>
      have he : ef = 0 := by simpa using HEF.out
      clear HEF HPI HOB
      subst he
      go_wp2_with (go_at_call 24; (with_reducible refine (KEQ.out _ EA.out EB.out).mono ?_); rintro e x3 ⟨rfl, hx3⟩)
      go_meet
      exact ⟨rfl, hx3⟩
  case rest => as_aux_lemma =>
    obtain ⟨rfl, hbc⟩ := hcut
    obtain ⟨V6, rfl⟩ : ∃ X : World, X = wc := ⟨_, rfl⟩
    replace BA := hid_ (BA.out.to hbc)
    replace EA := hid_ (EA.out.to hbc)
    have hbV := bnext hbV hbc
    clear hbc KEQ BB EB HEF HPI
    go_upto_if 57 with fail
    go_cut [] (fun wx => Below V6.heap.size V6 wx)
    case first => as_aux_lemma =>
      cases ob with
      | false =>
        go_wp2_with fail
        go_meet
        exact Below.refl _ _
      | true =>
        obtain ⟨hvq, hts⟩ := HOB.out rfl
        clear HOB
        have KTQ : Hid (∀ Y, MachIn Y Y.heap.size (.slice Aq q.rules.length cq) q → Calls Tryd.prog 21 #[.agg #[.int .i64 q.states, .int .i64 q.symbols, .slice Aq q.rules.length cq]] Y fun e w' => e = .returned (.tuple #[.string s, .int .i64 0]) ∧ Below Y.heap.size Y w') := hid_ (fun Y h => by have := text_any q _ Y h hvq; rw [hts] at this; exact this)
        have tS : (s.toList == s.toList) = true := by simp
        clear hvq hts
        have r0 := (BA.out).cell 0
        have r1 := (BA.out).cell 1
        have r2 := (BA.out).cell 2
        simp at r0 r1 r2
        go_wp2_with (go_at_call 21; (with_reducible refine (KTQ.out _ EA.out).mono ?_); rintro e x4 ⟨rfl, hx4⟩)
        go_meet
        exact hx4
    case rest => as_aux_lemma =>
    have hbc := hcut
    obtain ⟨V7, rfl⟩ : ∃ X : World, X = wc := ⟨_, rfl⟩
    have hbV := bnext hbV hbc
    clear hbc BA EA HOB
    have KV : Hid (∀ Y, MachIn Y Y.heap.size (.slice A1 m.rules.length c1) m → Calls Tryd.prog 12 #[.agg #[.int .i64 m.states, .int .i64 m.symbols, .slice A1 m.rules.length c1]] Y fun e w' => e = .returned (.bool false) ∧ Below Y.heap.size Y w') := hid_ (fun Y h => by have := rvalid_any m _ Y h; rwa [hv] at this)
    have p0 := ((HB1.out.to hbV)).cell 0
    have p1 := ((HB1.out.to hbV)).cell 1
    have p2 := ((HB1.out.to hbV)).cell 2
    simp at p0 p1 p2
    have tE : (ByteArray.toList ⟨#[]⟩ == ByteArray.toList ⟨#[]⟩) = true := by simp
    go_wp2_with (first
      | (go_at_call 12; (with_reducible refine (KV.out V7 (HM.out.to hbV)).mono ?_); rintro e x5 ⟨rfl, hx5⟩; have hb5 := bnext hbV hx5; have HX5 := hid_ (bnext hbW hb5))
      | (go_at_call 10; (with_reducible refine (awake_any mx _ (keepc HX5.out HMX.out)).mono ?_); rintro e x9 ⟨rfl, hx9⟩))
    go_ret
    exact ⟨rfl, bnext HX5.out hx9⟩

set_option maxRecDepth 100000 in
set_option maxHeartbeats 8000000 in
theorem texts_ok (m : MachS) (s : ByteArray) (v : Value) (w : World) (mx : Int) (hm : MachIn w w.heap.size v m) (hmx : w.cell? ⟨0, 0, none⟩ = some (.int .i64 mx)) (hw : wideT m noC = false) (t1 : ¬ (1000 : Int) < (s.size : Int)) (hv : validM m = true) :
    Calls Tryd.prog 4 #[.agg #[.int .i64 m.states, .int .i64 m.symbols, v], .string s] w (YesL w) := by
  obtain ⟨A1, c1, rfl⟩ := hm.rules.form
  have hbW := below1 w (.cells #[.int .i64 m.states, .int .i64 m.symbols, .slice A1 m.rules.length c1] 24)
  have HM := hid_ (hm.to hbW)
  have HB1 := hid_ (Blk.new w 24 #[.int .i64 m.states, .int .i64 m.symbols, .slice A1 m.rules.length c1])
  have HMX := hid_ hmx
  clear hm hmx
  go_enter Tryd.func4, Tryd.ntmps4
  go_upto_region 1 with fail
  generalize w.alloc (.cells #[.int .i64 m.states, .int .i64 m.symbols, .slice A1 m.rules.length c1] 24) = V at *
  have KW : Hid (∀ Y, MachIn Y Y.heap.size (.slice A1 m.rules.length c1) m → Calls Tryd.prog 9 #[.agg #[.int .i64 m.states, .int .i64 m.symbols, .slice A1 m.rules.length c1], .agg #[.int .i64 0, .int .i64 0, .int .i64 0, .slice none 0 0]] Y fun e w' => e = .returned (.bool false) ∧ Below Y.heap.size Y w') := hid_ (fun Y h => by have := wide_any m noC _ _ Y h (Elems.nil _ _) (by decide); rw [hw] at this; exact this)
  obtain ⟨P, hP⟩ : ∃ P : ByteArray, P = ⟨(textM m).toArray⟩ := ⟨_, rfl⟩
  obtain ⟨er, her⟩ : ∃ n : Int, n = 0 := ⟨_, rfl⟩
  have KT : Hid (∀ Y, MachIn Y Y.heap.size (.slice A1 m.rules.length c1) m → Calls Tryd.prog 21 #[.agg #[.int .i64 m.states, .int .i64 m.symbols, .slice A1 m.rules.length c1]] Y fun e w' => e = .returned (.tuple #[.string P, .int .i64 0]) ∧ Below Y.heap.size Y w') := hid_ (fun Y h => by rw [hP]; exact text_any m _ Y h hv)
  have KRT : Hid (∀ Y, MachIn Y Y.heap.size (.slice A1 m.rules.length c1) m → Calls Tryd.prog 25 #[.agg #[.int .i64 m.states, .int .i64 m.symbols, .slice A1 m.rules.length c1]] Y fun e w' => e = .returned (.string P) ∧ Below Y.heap.size Y w') := hid_ (fun Y h => by rw [hP]; exact rtext_any m _ Y h hv)
  have KBK : Hid (∀ Y, Y.cell? ⟨0, 0, none⟩ = some (.int .i64 mx) → Calls Tryd.prog 22 #[.string P] Y fun e w' => ∃ Ak ck, e = .returned (.tuple #[.agg #[.int .i64 m.states, .int .i64 m.symbols, .slice Ak m.rules.length ck], .int .i64 0]) ∧ MachIn w' w'.heap.size (.slice Ak m.rules.length ck) m ∧ Below Y.heap.size Y w') := hid_ (fun Y h => by
    have hz : P.size ≤ 100000 := by
      have h1 : (textM m).length ≤ 78 := by
        by_cases hc : (textM m).length ≤ 78
        · exact hc
        · have := parse_text hv
          rw [parseC, if_pos (by omega)] at this
          simp at this
      have h2 : P.size = (textM m).length := by rw [hP]; simp [ByteArray.size]
      omega
    have := parse_any P mx Y h hz
    rw [show P.data.toList = textM m by rw [hP], parse_text hv] at this
    exact this)
  clear hP her
  obtain ⟨q, hq⟩ : ∃ q, q = (rparseO s.data.toList).getD noM := ⟨_, rfl⟩
  obtain ⟨ob, hob⟩ : ∃ b, b = (rparseO s.data.toList).isSome := ⟨_, rfl⟩
  obtain ⟨ef, hef⟩ : ∃ n : Int, n = if ob = true then 0 else 3 := ⟨_, rfl⟩
  have HPI : Hid (parseC s.data.toList = (q, ef)) := hid_ (by
    rw [parse_is, hef, hq, hob]
    cases rparseO s.data.toList <;> rfl)
  have HOB : Hid (ob = true → validM q = true ∧ (⟨(textM q).toArray⟩ : ByteArray) = s) := hid_ (fun h => by
    rw [hob] at h
    rw [hq]
    cases hr : rparseO s.data.toList with
    | none => rw [hr] at h; simp at h
    | some M =>
      unfold rparseO at hr
      split at hr
      · next h2 =>
        simp only [Option.some.injEq] at hr
        subst hr
        refine ⟨h2.1, ?_⟩
        show (⟨(textM (rbM s.data.toList)).toArray⟩ : ByteArray) = s
        rw [h2.2]
      · simp at hr)
  have hs1 : s.size ≤ 100000 := by omega
  have KPA : Hid (∀ Y, Y.cell? ⟨0, 0, none⟩ = some (.int .i64 mx) → Calls Tryd.prog 22 #[.string s] Y fun e w' => ∃ Aq cq, e = .returned (.tuple #[.agg #[.int .i64 q.states, .int .i64 q.symbols, .slice Aq q.rules.length cq], .int .i64 ef]) ∧ MachIn w' w'.heap.size (.slice Aq q.rules.length cq) q ∧ Below Y.heap.size Y w') := hid_ (fun Y h => by have := parse_any s mx Y h hs1; rw [HPI.out] at this; exact this)
  have KRP : Hid (∀ Y, Calls Tryd.prog 23 #[.string s] Y fun e w' => ∃ Ar cr, e = .returned (.tuple #[.agg #[.int .i64 q.states, .int .i64 q.symbols, .slice Ar q.rules.length cr], .bool ob]) ∧ MachIn w' w'.heap.size (.slice Ar q.rules.length cr) q ∧ Below Y.heap.size Y w') := hid_ (fun Y => by have := rparse_any s Y hs1; rw [hq, hob]; exact this)
  have HEF := hid_ hef
  clear hq hob hef hw
  have p0 := (HB1.out).cell 0
  have p1 := (HB1.out).cell 1
  have p2 := (HB1.out).cell 2
  simp at p0 p1 p2
  go_upto_region 3 with (go_at_call 9; (with_reducible refine (KW.out _ HM.out).mono ?_); rintro e x1 ⟨rfl, hx1⟩)
  replace HM := hid_ (HM.out.to hx1)
  replace HB1 := hid_ (HB1.out.to hx1)
  replace hbW := bnext hbW hx1
  clear hx1 KW p0 p1 p2
  obtain ⟨V, rfl⟩ : ∃ X : World, X = x1 := ⟨_, rfl⟩
  have p0 := (HB1.out).cell 0
  have p1 := (HB1.out).cell 1
  have p2 := (HB1.out).cell 2
  simp at p0 p1 p2
  go_upto_region 4 with (go_at_call 21; (with_reducible refine (KT.out _ HM.out).mono ?_); rintro e x1 ⟨rfl, hx1⟩)
  replace HM := hid_ (HM.out.to hx1)
  replace HB1 := hid_ (HB1.out.to hx1)
  replace hbW := bnext hbW hx1
  clear hx1 KT p0 p1 p2
  obtain ⟨V, rfl⟩ : ∃ X : World, X = x1 := ⟨_, rfl⟩
  go_upto_region 5 with (go_at_call 22; (with_reducible refine (KPA.out V (keepc hbW HMX.out)).mono ?_); rintro e w21 ⟨Aq, cq, rfl, hMa, hb21⟩)
  have BA := hid_ (Blk.new w21 24 #[.int .i64 q.states, .int .i64 q.symbols, .slice Aq q.rules.length cq])
  have EA := hid_ (hMa.to (below1 w21 (.cells #[.int .i64 q.states, .int .i64 q.symbols, .slice Aq q.rules.length cq] 24)))
  have hbx := hb21.alloc hb21.size (.cells #[.int .i64 q.states, .int .i64 q.symbols, .slice Aq q.rules.length cq] 24)
  have hga : V.heap.size ≤ w21.heap.size := hb21.size
  have hbV := hbx
  clear hMa hb21 hbx KPA

  generalize hVV : w21.alloc (.cells #[.int .i64 q.states, .int .i64 q.symbols, .slice Aq q.rules.length cq] 24) = Vga at *
  generalize w21.heap.size = ga at *
  clear hVV
  go_upto_region 6 with (go_at_call 23; (with_reducible refine (KRP.out Vga).mono ?_); rintro e w22 ⟨Ar, cr, rfl, hMb, hb22⟩)
  have BB := hid_ (Blk.new w22 24 #[.int .i64 q.states, .int .i64 q.symbols, .slice Ar q.rules.length cr])
  have EB := hid_ (hMb.to (below1 w22 (.cells #[.int .i64 q.states, .int .i64 q.symbols, .slice Ar q.rules.length cr] 24)))
  have hbx := hb22.alloc hb22.size (.cells #[.int .i64 q.states, .int .i64 q.symbols, .slice Ar q.rules.length cr] 24)
  have hgb : ga < w22.heap.size := Nat.lt_of_lt_of_le BA.out.lt hb22.size
  replace BA := hid_ (BA.out.to hbx)
  replace EA := hid_ (EA.out.to hbx)
  have hbV := bnext hbV hbx
  clear hMb hb22 hbx KRP

  generalize hVV : w22.alloc (.cells #[.int .i64 q.states, .int .i64 q.symbols, .slice Ar q.rules.length cr] 24) = Vgb at *
  generalize w22.heap.size = gb at *
  clear hVV
  have KEQ : Hid (∀ Y, MachIn Y Y.heap.size (.slice Aq q.rules.length cq) q → MachIn Y Y.heap.size (.slice Ar q.rules.length cr) q → Calls Tryd.prog 24 #[.agg #[.int .i64 q.states, .int .i64 q.symbols, .slice Aq q.rules.length cq], .agg #[.int .i64 q.states, .int .i64 q.symbols, .slice Ar q.rules.length cr]] Y fun e w' => e = .returned (.bool true) ∧ Below Y.heap.size Y w') := hid_ (fun Y h h2 => by have := rsameM_any q q _ _ Y h h2; rw [sameM_iff.2 rfl] at this; exact this)
  go_upto_region 6 with fail
  go_cut [56] (fun t wx => t = .bool false ∧ Below Vgb.heap.size Vgb wx)
  case first => as_aux_lemma =>
    have r0 := (BA.out).cell 0
    have r1 := (BA.out).cell 1
    have r2 := (BA.out).cell 2
    have s0 := (BB.out).cell 0
    have s1 := (BB.out).cell 1
    have s2 := (BB.out).cell 2
    simp at r0 r1 r2 s0 s1 s2
    cases ob with
    | false =>
      have he : ef = 3 := by simpa using HEF.out
      clear HEF HPI HOB
      subst he
      go_wp2_with (go_at_call 24; (with_reducible refine (KEQ.out _ EA.out EB.out).mono ?_); rintro e x3 ⟨rfl, hx3⟩)
      go_meet
      exact ⟨rfl, hx3⟩
    | true =>
      have he : ef = 0 := by simpa using HEF.out
      clear HEF HPI HOB
      subst he
      go_wp2_with (go_at_call 24; (with_reducible refine (KEQ.out _ EA.out EB.out).mono ?_); rintro e x3 ⟨rfl, hx3⟩)
      go_meet
      exact ⟨rfl, hx3⟩
  case rest => as_aux_lemma =>
    obtain ⟨rfl, hbc⟩ := hcut
    obtain ⟨V6, rfl⟩ : ∃ X : World, X = wc := ⟨_, rfl⟩
    replace BA := hid_ (BA.out.to hbc)
    replace EA := hid_ (EA.out.to hbc)
    have hbV := bnext hbV hbc
    clear hbc KEQ BB EB HEF HPI
    go_upto_if 57 with fail
    go_cut [] (fun wx => Below V6.heap.size V6 wx)
    case first => as_aux_lemma =>
      cases ob with
      | false =>
        go_wp2_with fail
        go_meet
        exact Below.refl _ _
      | true =>
        obtain ⟨hvq, hts⟩ := HOB.out rfl
        clear HOB
        have KTQ : Hid (∀ Y, MachIn Y Y.heap.size (.slice Aq q.rules.length cq) q → Calls Tryd.prog 21 #[.agg #[.int .i64 q.states, .int .i64 q.symbols, .slice Aq q.rules.length cq]] Y fun e w' => e = .returned (.tuple #[.string s, .int .i64 0]) ∧ Below Y.heap.size Y w') := hid_ (fun Y h => by have := text_any q _ Y h hvq; rw [hts] at this; exact this)
        have tS : (s.toList == s.toList) = true := by simp
        clear hvq hts
        have r0 := (BA.out).cell 0
        have r1 := (BA.out).cell 1
        have r2 := (BA.out).cell 2
        simp at r0 r1 r2
        go_wp2_with (go_at_call 21; (with_reducible refine (KTQ.out _ EA.out).mono ?_); rintro e x4 ⟨rfl, hx4⟩)
        go_meet
        exact hx4
    case rest => as_aux_lemma =>
    have hbc := hcut
    obtain ⟨V7, rfl⟩ : ∃ X : World, X = wc := ⟨_, rfl⟩
    have hbV := bnext hbV hbc
    clear hbc BA EA HOB
    have KV : Hid (∀ Y, MachIn Y Y.heap.size (.slice A1 m.rules.length c1) m → Calls Tryd.prog 12 #[.agg #[.int .i64 m.states, .int .i64 m.symbols, .slice A1 m.rules.length c1]] Y fun e w' => e = .returned (.bool true) ∧ Below Y.heap.size Y w') := hid_ (fun Y h => by have := rvalid_any m _ Y h; rwa [hv] at this)
    have p0 := ((HB1.out.to hbV)).cell 0
    have p1 := ((HB1.out.to hbV)).cell 1
    have p2 := ((HB1.out.to hbV)).cell 2
    simp at p0 p1 p2
    go_upto_region 14 with (go_at_call 12; (with_reducible refine (KV.out V7 (HM.out.to hbV)).mono ?_); rintro e x5 ⟨rfl, hx5⟩; have hb5 := bnext hbV hx5)
    replace HM := hid_ (HM.out.to hb5)
    replace HB1 := hid_ (HB1.out.to hb5)
    replace hbW := bnext hbW hb5
    clear hx5 hb5 hbV KV p0 p1 p2
    obtain ⟨V, rfl⟩ : ∃ X : World, X = x5 := ⟨_, rfl⟩
    go_upto_region 15 with (go_at_call 22; (with_reducible refine (KBK.out V (keepc hbW HMX.out)).mono ?_); rintro e w31 ⟨Ak, ck, rfl, hMk, hb31⟩)
    have BK := hid_ (Blk.new w31 24 #[.int .i64 m.states, .int .i64 m.symbols, .slice Ak m.rules.length ck])
    have EK := hid_ (hMk.to (below1 w31 (.cells #[.int .i64 m.states, .int .i64 m.symbols, .slice Ak m.rules.length ck] 24)))
    have hbx := hb31.alloc hb31.size (.cells #[.int .i64 m.states, .int .i64 m.symbols, .slice Ak m.rules.length ck] 24)
    have hgk : V.heap.size ≤ w31.heap.size := hb31.size
    have hbV := hbx
    clear hMk hb31 hbx KBK

    generalize hVV : w31.alloc (.cells #[.int .i64 m.states, .int .i64 m.symbols, .slice Ak m.rules.length ck] 24) = Vgk at *
    generalize w31.heap.size = gk at *
    clear hVV
    have KEQ : Hid (∀ Y, MachIn Y Y.heap.size (.slice Ak m.rules.length ck) m → MachIn Y Y.heap.size (.slice A1 m.rules.length c1) m → Calls Tryd.prog 24 #[.agg #[.int .i64 m.states, .int .i64 m.symbols, .slice Ak m.rules.length ck], .agg #[.int .i64 m.states, .int .i64 m.symbols, .slice A1 m.rules.length c1]] Y fun e w' => e = .returned (.bool true) ∧ Below Y.heap.size Y w') := hid_ (fun Y h h2 => by have := rsameM_any m m _ _ Y h h2; rw [sameM_iff.2 rfl] at this; exact this)
    have tP : (P.toList == P.toList) = true := by simp
    have p0 := ((HB1.out.to hbV)).cell 0
    have p1 := ((HB1.out.to hbV)).cell 1
    have p2 := ((HB1.out.to hbV)).cell 2
    simp at p0 p1 p2
    go_wp2_with (first
      | (go_at_call 25; (with_reducible refine (KRT.out Vgk (HM.out.to hbV)).mono ?_); rintro e x6 ⟨rfl, hx6⟩; have hb6 := bnext hbV hx6; have EK6 := hid_ (EK.out.to hx6); have HM6 := hid_ (HM.out.to hb6); have B61 := HB1.out.to hb6; have B62 := BK.out.to hx6; have r0 := B61.cell 0; have r1 := B61.cell 1; have r2 := B61.cell 2; have s0 := B62.cell 0; have s1 := B62.cell 1; have s2 := B62.cell 2; simp at r0 r1 r2 s0 s1 s2)
      | (go_at_call 24; (with_reducible refine (KEQ.out x6 EK6.out HM6.out).mono ?_); rintro e x7 ⟨rfl, hx7⟩; have HX7 := hid_ (bnext hbW (bnext hb6 hx7)))
      | (go_at_call 10; (with_reducible refine (awake_any mx _ (keepc HX7.out HMX.out)).mono ?_); rintro e x9 ⟨rfl, hx9⟩))
    go_ret
    exact ⟨rfl, bnext HX7.out hx9⟩
end Go.Proofs.YtkbaiegfloajlaaDoor.Tp

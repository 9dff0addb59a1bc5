/- The law TapeRuns, way by way. -/
import Derived.Test.YtkbaiegfloajlaaDoorVh
import Derived.Test.YtkbaiegfloajlaaDoorWc
import Derived.Test.YtkbaiegfloajlaaDoorWm
import Derived.Test.YtkbaiegfloajlaaDoorVf
import Derived.Test.YtkbaiegfloajlaaDoorVg
namespace Go.Proofs.YtkbaiegfloajlaaDoor.Tp
open Go.RowKit

theorem errno_any (b : Bool) (w : World) : Calls Tryd.prog 19 #[.bool b] w fun e w' => e = .returned (.int .i64 (if b then 0 else 4)) ∧ Below w.heap.size w w' := by
  go_enter Tryd.func19, Tryd.ntmps19
  cases b with
  | true =>
    go_wp2_with fail
    go_ret
    exact ⟨rfl, Below.refl _ _⟩
  | false =>
    go_wp2_with fail
    go_ret
    exact ⟨rfl, Below.refl _ _⟩
theorem stepS_len (m : MachS) (c : CfgS) : (stepS m c).c.cells.length ≤ 100000 := by
  unfold stepS
  cases hf : fitsC m c with
  | false => simp [noC]
  | true =>
    by_cases hs : c.st = -1
    · simp [hs, noC]
    · rw [if_neg (by simp), if_neg hs]
      cases h : stepC m c with
      | none => simp [noC]
      | some d =>
        rw [fitsC, Bool.and_eq_true] at hf
        exact (within_iff.1 (step_within hf.1 hf.2 hs h)).2.2.2.2.1
theorem runS_len (m : MachS) (c : CfgS) (n : Int) : (runS m c n).c.cells.length ≤ 100000 := by
  unfold runS
  cases hf : fitsC m c with
  | false => simp [noC]
  | true =>
    by_cases hs : n < 0 ∨ 1000000 < n
    · simp [hs, noC]
    · rw [if_neg (by simp), if_neg hs]
      cases h : runC m n.toNat c with
      | none => simp [noC]
      | some dj =>
        obtain ⟨d, j⟩ := dj
        rw [fitsC, Bool.and_eq_true] at hf
        exact (within_iff.1 (runC_within hf.1 hf.2 h)).2.2.2.2.1

section
variable (m : MachS) (c : CfgS) (n : Int) (v u : Value) (w : World) (mx : Int)

set_option maxRecDepth 100000 in
set_option maxHeartbeats 8000000 in
theorem runs_e0 (hm : MachIn w w.heap.size v m) (hE : Elems w w.heap.size u (ints c.cells)) (hlc : c.cells.length ≤ 17592186044416) (hmx : w.cell? ⟨0, 0, none⟩ = some (.int .i64 mx)) (hHW1 : wideT m c = true)  :
    Calls Tryd.prog 3 #[.agg #[.int .i64 m.states, .int .i64 m.symbols, v], .agg #[.int .i64 c.st, .int .i64 c.pos, .int .i64 c.frm, u], .int .i64 n] w (YesL w) := by
  have HW1 := hid_ hHW1
  clear hHW1
  obtain ⟨A1, c1, rfl⟩ := hm.rules.form
  obtain ⟨A2, c2, rfl⟩ := hE.form
  rw [ints_len] at hE ⊢
  have hbW : Below w.heap.size w ((w.alloc (.cells #[.int .i64 m.states, .int .i64 m.symbols, .slice A1 m.rules.length c1] 24)).alloc (.cells #[.int .i64 c.st, .int .i64 c.pos, .int .i64 c.frm, .slice A2 c.cells.length c2] 27)) := below2 w _ _
  have HM := hid_ (hm.to hbW)
  have HE := hid_ (hE.to hbW)
  have HMX := hid_ hmx
  have B1 := (Blk.new w 24 #[.int .i64 m.states, .int .i64 m.symbols, .slice A1 m.rules.length c1]).alloc (.cells #[.int .i64 c.st, .int .i64 c.pos, .int .i64 c.frm, .slice A2 c.cells.length c2] 27)
  have B2 := Blk.new (w.alloc (.cells #[.int .i64 m.states, .int .i64 m.symbols, .slice A1 m.rules.length c1] 24)) 27 #[.int .i64 c.st, .int .i64 c.pos, .int .i64 c.frm, .slice A2 c.cells.length c2]
  rw [show (w.alloc (.cells #[.int .i64 m.states, .int .i64 m.symbols, .slice A1 m.rules.length c1] 24)).heap.size = w.heap.size + 1 by simp] at B2
  have HB1 := hid_ B1
  have HB2 := hid_ B2
  clear hm hE hmx B1 B2
  go_enter Tryd.func3, Tryd.ntmps3
  go_upto_region 1 with fail
  generalize (w.alloc (.cells #[.int .i64 m.states, .int .i64 m.symbols, .slice A1 m.rules.length c1] 24)).alloc (.cells #[.int .i64 c.st, .int .i64 c.pos, .int .i64 c.frm, .slice A2 c.cells.length c2] 27) = W at *
  have p0 := HB1.out.cell 0
  have p1 := HB1.out.cell 1
  have p2 := HB1.out.cell 2
  have q0 := HB2.out.cell 0
  have q1 := HB2.out.cell 1
  have q2 := HB2.out.cell 2
  have q3 := HB2.out.cell 3
  simp at p0 p1 p2 q0 q1 q2 q3
  go_wp2_with fail
  refine (wide_any m c _ _ _ HM.out HE.out hlc).mono ?_
  rw [HW1.out]
  rintro e w1 ⟨rfl, hb1⟩
  replace HM := hid_ (HM.out.to hb1)
  replace HE := hid_ (HE.out.to hb1)
  replace HB1 := hid_ (HB1.out.to hb1)
  replace HB2 := hid_ (HB2.out.to hb1)
  replace hbW := bnext hbW hb1
  clear hb1
  clear p0 p1 p2 q0 q1 q2 q3
  have p0 := HB1.out.cell 0
  have p1 := HB1.out.cell 1
  have p2 := HB1.out.cell 2
  have q0 := HB2.out.cell 0
  have q1 := HB2.out.cell 1
  have q2 := HB2.out.cell 2
  have q3 := HB2.out.cell 3
  simp at p0 p1 p2 q0 q1 q2 q3
  go_wp2_with fail
  refine (awake_any mx _ (keepc hbW HMX.out)).mono ?_
  rintro e w99 ⟨rfl, hb99⟩
  go_wp2_with fail
  go_ret
  exact ⟨rfl, bnext hbW hb99⟩

set_option maxRecDepth 100000 in
set_option maxHeartbeats 8000000 in
theorem runs_e1 (hm : MachIn w w.heap.size v m) (hE : Elems w w.heap.size u (ints c.cells)) (hlc : c.cells.length ≤ 17592186044416) (hmx : w.cell? ⟨0, 0, none⟩ = some (.int .i64 mx)) (hHW1 : wideT m c = false) (t1 : 1000 < n) (t2 : n ≤ 1000000) :
    Calls Tryd.prog 3 #[.agg #[.int .i64 m.states, .int .i64 m.symbols, v], .agg #[.int .i64 c.st, .int .i64 c.pos, .int .i64 c.frm, u], .int .i64 n] w (YesL w) := by
  have HW1 := hid_ hHW1
  clear hHW1
  obtain ⟨A1, c1, rfl⟩ := hm.rules.form
  obtain ⟨A2, c2, rfl⟩ := hE.form
  rw [ints_len] at hE ⊢
  have hbW : Below w.heap.size w ((w.alloc (.cells #[.int .i64 m.states, .int .i64 m.symbols, .slice A1 m.rules.length c1] 24)).alloc (.cells #[.int .i64 c.st, .int .i64 c.pos, .int .i64 c.frm, .slice A2 c.cells.length c2] 27)) := below2 w _ _
  have HM := hid_ (hm.to hbW)
  have HE := hid_ (hE.to hbW)
  have HMX := hid_ hmx
  have B1 := (Blk.new w 24 #[.int .i64 m.states, .int .i64 m.symbols, .slice A1 m.rules.length c1]).alloc (.cells #[.int .i64 c.st, .int .i64 c.pos, .int .i64 c.frm, .slice A2 c.cells.length c2] 27)
  have B2 := Blk.new (w.alloc (.cells #[.int .i64 m.states, .int .i64 m.symbols, .slice A1 m.rules.length c1] 24)) 27 #[.int .i64 c.st, .int .i64 c.pos, .int .i64 c.frm, .slice A2 c.cells.length c2]
  rw [show (w.alloc (.cells #[.int .i64 m.states, .int .i64 m.symbols, .slice A1 m.rules.length c1] 24)).heap.size = w.heap.size + 1 by simp] at B2
  have HB1 := hid_ B1
  have HB2 := hid_ B2
  clear hm hE hmx B1 B2
  go_enter Tryd.func3, Tryd.ntmps3
  go_upto_region 1 with fail
  generalize (w.alloc (.cells #[.int .i64 m.states, .int .i64 m.symbols, .slice A1 m.rules.length c1] 24)).alloc (.cells #[.int .i64 c.st, .int .i64 c.pos, .int .i64 c.frm, .slice A2 c.cells.length c2] 27) = W at *
  have p0 := HB1.out.cell 0
  have p1 := HB1.out.cell 1
  have p2 := HB1.out.cell 2
  have q0 := HB2.out.cell 0
  have q1 := HB2.out.cell 1
  have q2 := HB2.out.cell 2
  have q3 := HB2.out.cell 3
  simp at p0 p1 p2 q0 q1 q2 q3
  go_wp2_with fail
  refine (wide_any m c _ _ _ HM.out HE.out hlc).mono ?_
  rw [HW1.out]
  rintro e w2 ⟨rfl, hb2⟩
  replace HM := hid_ (HM.out.to hb2)
  replace HE := hid_ (HE.out.to hb2)
  replace HB1 := hid_ (HB1.out.to hb2)
  replace HB2 := hid_ (HB2.out.to hb2)
  replace hbW := bnext hbW hb2
  clear hb2
  clear p0 p1 p2 q0 q1 q2 q3
  have p0 := HB1.out.cell 0
  have p1 := HB1.out.cell 1
  have p2 := HB1.out.cell 2
  have q0 := HB2.out.cell 0
  have q1 := HB2.out.cell 1
  have q2 := HB2.out.cell 2
  have q3 := HB2.out.cell 3
  simp at p0 p1 p2 q0 q1 q2 q3
  go_wp2_with fail
  refine (awake_any mx _ (keepc hbW HMX.out)).mono ?_
  rintro e w99 ⟨rfl, hb99⟩
  go_wp2_with fail
  go_ret
  exact ⟨rfl, bnext hbW hb99⟩

set_option maxRecDepth 100000 in
set_option maxHeartbeats 8000000 in
theorem runs_go (hm : MachIn w w.heap.size v m) (hE : Elems w w.heap.size u (ints c.cells)) (hlc : c.cells.length ≤ 17592186044416) (hmx : w.cell? ⟨0, 0, none⟩ = some (.int .i64 mx)) (hHW1 : wideT m c = false) (hn : ¬ 1000 < n ∨ ¬ n ≤ 1000000) :
    Calls Tryd.prog 3 #[.agg #[.int .i64 m.states, .int .i64 m.symbols, v], .agg #[.int .i64 c.st, .int .i64 c.pos, .int .i64 c.frm, u], .int .i64 n] w (YesL w) := by
  have HW1 := hid_ hHW1
  clear hHW1
  obtain ⟨A1, c1, rfl⟩ := hm.rules.form
  obtain ⟨A2, c2, rfl⟩ := hE.form
  rw [ints_len] at hE ⊢
  have hbW : Below w.heap.size w ((w.alloc (.cells #[.int .i64 m.states, .int .i64 m.symbols, .slice A1 m.rules.length c1] 24)).alloc (.cells #[.int .i64 c.st, .int .i64 c.pos, .int .i64 c.frm, .slice A2 c.cells.length c2] 27)) := below2 w _ _
  have HM := hid_ (hm.to hbW)
  have HE := hid_ (hE.to hbW)
  have HMX := hid_ hmx
  have B1 := (Blk.new w 24 #[.int .i64 m.states, .int .i64 m.symbols, .slice A1 m.rules.length c1]).alloc (.cells #[.int .i64 c.st, .int .i64 c.pos, .int .i64 c.frm, .slice A2 c.cells.length c2] 27)
  have B2 := Blk.new (w.alloc (.cells #[.int .i64 m.states, .int .i64 m.symbols, .slice A1 m.rules.length c1] 24)) 27 #[.int .i64 c.st, .int .i64 c.pos, .int .i64 c.frm, .slice A2 c.cells.length c2]
  rw [show (w.alloc (.cells #[.int .i64 m.states, .int .i64 m.symbols, .slice A1 m.rules.length c1] 24)).heap.size = w.heap.size + 1 by simp] at B2
  have HB1 := hid_ B1
  have HB2 := hid_ B2
  clear hm hE hmx B1 B2
  go_enter Tryd.func3, Tryd.ntmps3
  go_upto_region 1 with fail
  generalize (w.alloc (.cells #[.int .i64 m.states, .int .i64 m.symbols, .slice A1 m.rules.length c1] 24)).alloc (.cells #[.int .i64 c.st, .int .i64 c.pos, .int .i64 c.frm, .slice A2 c.cells.length c2] 27) = W at *
  have p0 := HB1.out.cell 0
  have p1 := HB1.out.cell 1
  have p2 := HB1.out.cell 2
  have q0 := HB2.out.cell 0
  have q1 := HB2.out.cell 1
  have q2 := HB2.out.cell 2
  have q3 := HB2.out.cell 3
  simp at p0 p1 p2 q0 q1 q2 q3
  go_cut [27] (fun s wx => s = .bool false ∧ Below W.heap.size W wx)
  case first => as_aux_lemma =>
    go_wp2_with fail
    refine (wide_any m c _ _ _ HM.out HE.out hlc).mono ?_
    rw [HW1.out]
    rintro e w3 ⟨rfl, hb3⟩
    rcases hn with h | h
    · go_wp2_with fail
      all_goals
        go_meet
        first
          | exact ⟨rfl, hb3⟩
          | (exfalso; omega)
    · by_cases h2 : 1000 < n
      · go_wp2_with fail
        all_goals
          go_meet
          first
            | exact ⟨rfl, hb3⟩
            | exact ⟨by simp [h], hb3⟩
            | exact ⟨by simp; omega, hb3⟩
      · go_wp2_with fail
        all_goals
          go_meet
          first
            | exact ⟨rfl, hb3⟩
            | exact ⟨by simp [h2], hb3⟩
            | exact ⟨by simp; omega, hb3⟩
  case rest => as_aux_lemma =>
  obtain ⟨rfl, hbc⟩ := hcut
  replace HM := hid_ (HM.out.to hbc)
  replace HE := hid_ (HE.out.to hbc)
  replace HB1 := hid_ (HB1.out.to hbc)
  replace HB2 := hid_ (HB2.out.to hbc)
  replace hbW := bnext hbW hbc
  clear hbc p0 p1 p2 q0 q1 q2 q3
  obtain ⟨W, rfl⟩ : ∃ X : World, X = wc := ⟨_, rfl⟩
  have p0 := HB1.out.cell 0
  have p1 := HB1.out.cell 1
  have p2 := HB1.out.cell 2
  have q0 := HB2.out.cell 0
  have q1 := HB2.out.cell 1
  have q2 := HB2.out.cell 2
  have q3 := HB2.out.cell 3
  simp at p0 p1 p2 q0 q1 q2 q3
  obtain ⟨bv, hbv⟩ : ∃ b, b = validM m := ⟨_, rfl⟩
  obtain ⟨bf, hbf⟩ : ∃ b, b = fitsC m c := ⟨_, rfl⟩
  have HVA : Hid (∀ X, MachIn X X.heap.size (.slice A1 m.rules.length c1) m → Calls Tryd.prog 11 #[.agg #[.int .i64 m.states, .int .i64 m.symbols, .slice A1 m.rules.length c1]] X fun e w' => e = .returned (.bool bv) ∧ Below X.heap.size X w') := hid_ (fun X h => by rw [hbv]; exact valid_any m _ X h)
  have HVB : Hid (∀ X, MachIn X X.heap.size (.slice A1 m.rules.length c1) m → Calls Tryd.prog 12 #[.agg #[.int .i64 m.states, .int .i64 m.symbols, .slice A1 m.rules.length c1]] X fun e w' => e = .returned (.bool bv) ∧ Below X.heap.size X w') := hid_ (fun X h => by rw [hbv]; exact rvalid_any m _ X h)
  have HFA : Hid (∀ X, MachIn X X.heap.size (.slice A1 m.rules.length c1) m → Elems X X.heap.size (.slice A2 c.cells.length c2) (ints c.cells) → Calls Tryd.prog 13 #[.agg #[.int .i64 m.states, .int .i64 m.symbols, .slice A1 m.rules.length c1], .agg #[.int .i64 c.st, .int .i64 c.pos, .int .i64 c.frm, .slice A2 c.cells.length c2]] X fun e w' => e = .returned (.bool bf) ∧ Below X.heap.size X w') := hid_ (fun X h1 h2 => by rw [hbf]; exact fitsM_any m c _ _ X h1 h2 hlc)
  have HFB : Hid (∀ X, MachIn X X.heap.size (.slice A1 m.rules.length c1) m → Elems X X.heap.size (.slice A2 c.cells.length c2) (ints c.cells) → Calls Tryd.prog 14 #[.agg #[.int .i64 m.states, .int .i64 m.symbols, .slice A1 m.rules.length c1], .agg #[.int .i64 c.st, .int .i64 c.pos, .int .i64 c.frm, .slice A2 c.cells.length c2]] X fun e w' => e = .returned (.bool bf) ∧ Below X.heap.size X w') := hid_ (fun X h1 h2 => by rw [hbf]; exact rfits_any m c _ _ X h1 h2 hlc)
  clear hbv
  have HBF := hid_ hbf
  clear hbf
  go_upto_region 3 with fail
  go_cut [42] (fun s wx => s = .bool false ∧ Below W.heap.size W wx)
  case first => as_aux_lemma =>
    have t3 : (bv != bv) = false := by simp
    have t4 : (bf != bf) = false := by simp
    go_region_held3 (fun w' => w'.cell? ⟨w.heap.size, 0, none⟩ = some (.int .i64 m.states) ∧ w'.cell? ⟨w.heap.size, 1, none⟩ = some (.int .i64 m.symbols) ∧ w'.cell? ⟨w.heap.size, 2, none⟩ = some (.slice A1 m.rules.length c1) ∧ w'.cell? ⟨w.heap.size + 1, 0, none⟩ = some (.int .i64 c.st) ∧ w'.cell? ⟨w.heap.size + 1, 1, none⟩ = some (.int .i64 c.pos) ∧ w'.cell? ⟨w.heap.size + 1, 2, none⟩ = some (.int .i64 c.frm) ∧ w'.cell? ⟨w.heap.size + 1, 3, none⟩ = some (.slice A2 c.cells.length c2) ∧ Below W.heap.size W w')
      (first | assumption | (with_reducible exact (let hb := (Below.refl W.heap.size W).drew; ⟨keepc hb p0, keepc hb p1, keepc hb p2, keepc hb q0, keepc hb q1, keepc hb q2, keepc hb q3, hb⟩)) | (with_reducible exact (let hb := Below.refl W.heap.size W; ⟨keepc hb p0, keepc hb p1, keepc hb p2, keepc hb q0, keepc hb q1, keepc hb q2, keepc hb q3, hb⟩)) | (with_reducible exact ⟨keepc H4.out p0, keepc H4.out p1, keepc H4.out p2, keepc H4.out q0, keepc H4.out q1, keepc H4.out q2, keepc H4.out q3, H4.out⟩) | (with_reducible exact ⟨keepc H3.out p0, keepc H3.out p1, keepc H3.out p2, keepc H3.out q0, keepc H3.out q1, keepc H3.out q2, keepc H3.out q3, H3.out⟩) | (with_reducible exact ⟨keepc H2.out p0, keepc H2.out p1, keepc H2.out p2, keepc H2.out q0, keepc H2.out q1, keepc H2.out q2, keepc H2.out q3, H2.out⟩) | (with_reducible exact ⟨keepc H1.out p0, keepc H1.out p1, keepc H1.out p2, keepc H1.out q0, keepc H1.out q1, keepc H1.out q2, keepc H1.out q3, H1.out⟩))
      (first
        | (go_at_call 11; (with_reducible refine (HVA.out _ (HM.out.to ((And.right (And.right (And.right (And.right (And.right (And.right (And.right (by assumption))))))))))).mono ?_); rintro e w1 ⟨rfl, hz1⟩; have H1 : Hid (Below W.heap.size W w1) := hid_ (bnext ((And.right (And.right (And.right (And.right (And.right (And.right (And.right (by assumption))))))))) hz1); clear hz1)
        | (go_at_call 12; (with_reducible refine (HVB.out _ (HM.out.to ((And.right (And.right (And.right (And.right (And.right (And.right (And.right (by assumption))))))))))).mono ?_); rintro e w2 ⟨rfl, hz2⟩; have H2 : Hid (Below W.heap.size W w2) := hid_ (bnext ((And.right (And.right (And.right (And.right (And.right (And.right (And.right (by assumption))))))))) hz2); clear hz2)
        | (go_at_call 13; (with_reducible refine (HFA.out _ (HM.out.to ((And.right (And.right (And.right (And.right (And.right (And.right (And.right (by assumption)))))))))) (HE.out.to ((And.right (And.right (And.right (And.right (And.right (And.right (And.right (by assumption))))))))))).mono ?_); rintro e w3 ⟨rfl, hz3⟩; have H3 : Hid (Below W.heap.size W w3) := hid_ (bnext ((And.right (And.right (And.right (And.right (And.right (And.right (And.right (by assumption))))))))) hz3); clear hz3)
        | (go_at_call 14; (with_reducible refine (HFB.out _ (HM.out.to ((And.right (And.right (And.right (And.right (And.right (And.right (And.right (by assumption)))))))))) (HE.out.to ((And.right (And.right (And.right (And.right (And.right (And.right (And.right (by assumption))))))))))).mono ?_); rintro e w4 ⟨rfl, hz4⟩; have H4 : Hid (Below W.heap.size W w4) := hid_ (bnext ((And.right (And.right (And.right (And.right (And.right (And.right (And.right (by assumption))))))))) hz4); clear hz4))
    all_goals
      go_wp2_with fail
      go_meet
      exact ⟨rfl, H4.out⟩
  case rest => as_aux_lemma =>
  obtain ⟨rfl, hbc⟩ := hcut
  replace HM := hid_ (HM.out.to hbc)
  replace HE := hid_ (HE.out.to hbc)
  replace HB1 := hid_ (HB1.out.to hbc)
  replace HB2 := hid_ (HB2.out.to hbc)
  replace hbW := bnext hbW hbc
  clear hbc p0 p1 p2 q0 q1 q2 q3
  obtain ⟨W, rfl⟩ : ∃ X : World, X = wc := ⟨_, rfl⟩
  have p0 := HB1.out.cell 0
  have p1 := HB1.out.cell 1
  have p2 := HB1.out.cell 2
  have q0 := HB2.out.cell 0
  have q1 := HB2.out.cell 1
  have q2 := HB2.out.cell 2
  have q3 := HB2.out.cell 3
  simp at p0 p1 p2 q0 q1 q2 q3
  obtain ⟨a, er, hsS⟩ : ∃ a er, stepS m c = ⟨a, er⟩ := ⟨_, _, rfl⟩
  obtain ⟨b, kk, fr, hrS⟩ : ∃ b kk fr, runS m c n = ⟨b, kk, fr⟩ := ⟨_, _, _, rfl⟩
  have HSS := hid_ hsS
  have HRS := hid_ hrS
  clear hsS hrS
  have HST : Hid (∀ X, MachIn X X.heap.size (.slice A1 m.rules.length c1) m → Elems X X.heap.size (.slice A2 c.cells.length c2) (ints c.cells) → Calls Tryd.prog 15 #[.agg #[.int .i64 m.states, .int .i64 m.symbols, .slice A1 m.rules.length c1], .agg #[.int .i64 c.st, .int .i64 c.pos, .int .i64 c.frm, .slice A2 c.cells.length c2]] X fun e w' => ∃ A d, e = .returned (.tuple #[.agg #[.int .i64 a.st, .int .i64 a.pos, .int .i64 a.frm, .slice A a.cells.length d], .int .i64 er]) ∧ Elems w' w'.heap.size (.slice A a.cells.length d) (ints a.cells) ∧ Below X.heap.size X w') := hid_ (fun X h1 h2 => (stepT_any m c _ _ X h1 h2 hlc).mono (fun e w' h => by
    rw [HSS.out] at h
    obtain ⟨v, rfl, hE, hb⟩ := h
    obtain ⟨A, d, rfl⟩ := hE.form
    rw [ints_len] at hE ⊢
    exact ⟨A, d, rfl, hE, hb⟩))
  have HRN : Hid (∀ X, MachIn X X.heap.size (.slice A1 m.rules.length c1) m → Elems X X.heap.size (.slice A2 c.cells.length c2) (ints c.cells) → Calls Tryd.prog 16 #[.agg #[.int .i64 m.states, .int .i64 m.symbols, .slice A1 m.rules.length c1], .agg #[.int .i64 c.st, .int .i64 c.pos, .int .i64 c.frm, .slice A2 c.cells.length c2], .int .i64 n] X fun e w' => ∃ A d, e = .returned (.tuple #[.agg #[.int .i64 b.st, .int .i64 b.pos, .int .i64 b.frm, .slice A b.cells.length d], .int .i64 kk, .int .i64 fr]) ∧ Elems w' w'.heap.size (.slice A b.cells.length d) (ints b.cells) ∧ Below X.heap.size X w') := hid_ (fun X h1 h2 => (run_any m c n _ _ X h1 h2 hlc).mono (fun e w' h => by
    rw [HRS.out] at h
    obtain ⟨v, rfl, hE, hb⟩ := h
    obtain ⟨A, d, rfl⟩ := hE.form
    rw [ints_len] at hE ⊢
    exact ⟨A, d, rfl, hE, hb⟩))
  go_upto_region 6 with (go_at_call 15; (with_reducible refine (HST.out W HM.out HE.out).mono ?_); rintro e w20 ⟨Aa, ca, rfl, hEa, hb20⟩)
  have HB3 := hid_ (Blk.new w20 27 #[.int .i64 a.st, .int .i64 a.pos, .int .i64 a.frm, .slice Aa a.cells.length ca])
  have HA := hid_ (hEa.to (below1 w20 (.cells #[.int .i64 a.st, .int .i64 a.pos, .int .i64 a.frm, .slice Aa a.cells.length ca] 27)))
  have hbx := hb20.alloc hb20.size (.cells #[.int .i64 a.st, .int .i64 a.pos, .int .i64 a.frm, .slice Aa a.cells.length ca] 27)
  replace HM := hid_ (HM.out.to hbx)
  replace HE := hid_ (HE.out.to hbx)
  replace HB1 := hid_ (HB1.out.to hbx)
  replace HB2 := hid_ (HB2.out.to hbx)
  replace hbW := bnext hbW hbx
  clear hEa hb20 hbx HST p0 p1 p2 q0 q1 q2 q3
  generalize w20.alloc (.cells #[.int .i64 a.st, .int .i64 a.pos, .int .i64 a.frm, .slice Aa a.cells.length ca] 27) = W20 at *
  have p0 := HB1.out.cell 0
  have p1 := HB1.out.cell 1
  have p2 := HB1.out.cell 2
  have q0 := HB2.out.cell 0
  have q1 := HB2.out.cell 1
  have q2 := HB2.out.cell 2
  have q3 := HB2.out.cell 3
  simp at p0 p1 p2 q0 q1 q2 q3
  go_upto_region 7 with (go_at_call 16; (with_reducible refine (HRN.out W20 HM.out HE.out).mono ?_); rintro e w21 ⟨Ab, cb, rfl, hEb, hb21⟩)
  have HB4 := hid_ (Blk.new w21 27 #[.int .i64 b.st, .int .i64 b.pos, .int .i64 b.frm, .slice Ab b.cells.length cb])
  have HBE := hid_ (hEb.to (below1 w21 (.cells #[.int .i64 b.st, .int .i64 b.pos, .int .i64 b.frm, .slice Ab b.cells.length cb] 27)))
  have hbx := hb21.alloc hb21.size (.cells #[.int .i64 b.st, .int .i64 b.pos, .int .i64 b.frm, .slice Ab b.cells.length cb] 27)
  replace HM := hid_ (HM.out.to hbx)
  replace HE := hid_ (HE.out.to hbx)
  replace HB1 := hid_ (HB1.out.to hbx)
  replace HB2 := hid_ (HB2.out.to hbx)
  replace HB3 := hid_ (HB3.out.to hbx)
  replace HA := hid_ (HA.out.to hbx)
  replace hbW := bnext hbW hbx
  clear hEb hb21 hbx HRN p0 p1 p2 q0 q1 q2 q3
  generalize w21.alloc (.cells #[.int .i64 b.st, .int .i64 b.pos, .int .i64 b.frm, .slice Ab b.cells.length cb] 27) = W21 at *
  have p0 := HB1.out.cell 0
  have p1 := HB1.out.cell 1
  have p2 := HB1.out.cell 2
  have q0 := HB2.out.cell 0
  have q1 := HB2.out.cell 1
  have q2 := HB2.out.cell 2
  have q3 := HB2.out.cell 3
  simp at p0 p1 p2 q0 q1 q2 q3
  go_upto_if 60 with (go_at_call 14; (with_reducible refine (HFB.out W21 HM.out HE.out).mono ?_); rintro e w22 ⟨rfl, hb22⟩)
  replace HM := hid_ (HM.out.to hb22)
  replace HE := hid_ (HE.out.to hb22)
  replace HB1 := hid_ (HB1.out.to hb22)
  replace HB2 := hid_ (HB2.out.to hb22)
  replace HB3 := hid_ (HB3.out.to hb22)
  replace HB4 := hid_ (HB4.out.to hb22)
  replace HA := hid_ (HA.out.to hb22)
  replace HBE := hid_ (HBE.out.to hb22)
  replace hbW := bnext hbW hb22
  clear hb22 HVA HVB HFA HFB p0 p1 p2 q0 q1 q2 q3
  obtain ⟨W, rfl⟩ : ∃ X : World, X = w22 := ⟨_, rfl⟩
  cases bf with
  | false =>
    have HAN : Hid (a = noC) := hid_ (by have := HSS.out; rw [stepS, if_pos HBF.out.symm] at this; exact (SRes.mk.inj this).1.symm)
    have her : er = 1 := by have := HSS.out; rw [stepS, if_pos HBF.out.symm] at this; exact (SRes.mk.inj this).2.symm
    have HBN : Hid (b = noC) := hid_ (by have := HRS.out; rw [runS, if_pos HBF.out.symm] at this; exact (RRes.mk.inj this).1.symm)
    have hkk : kk = 0 := by have := HRS.out; rw [runS, if_pos HBF.out.symm] at this; exact (RRes.mk.inj this).2.1.symm
    have hfr : fr = 1 := by have := HRS.out; rw [runS, if_pos HBF.out.symm] at this; exact (RRes.mk.inj this).2.2.symm
    subst her
    subst hkk
    subst hfr
    have HSA : Hid (∀ X, Elems X X.heap.size (.slice Aa a.cells.length ca) (ints a.cells) → Calls Tryd.prog 17 #[.agg #[.int .i64 a.st, .int .i64 a.pos, .int .i64 a.frm, .slice Aa a.cells.length ca], .agg #[.int .i64 0, .int .i64 0, .int .i64 0, .slice none 0 0]] X fun e w' => e = .returned (.bool true) ∧ Below X.heap.size X w') := hid_ (fun X h => by have := rsame_any a noC _ _ X h (Elems.nil _ _) (by rw [HAN.out]; simp [noC]); rw [sameC_iff.2 HAN.out] at this; exact this)
    have HSB : Hid (∀ X, Elems X X.heap.size (.slice Ab b.cells.length cb) (ints b.cells) → Calls Tryd.prog 17 #[.agg #[.int .i64 b.st, .int .i64 b.pos, .int .i64 b.frm, .slice Ab b.cells.length cb], .agg #[.int .i64 0, .int .i64 0, .int .i64 0, .slice none 0 0]] X fun e w' => e = .returned (.bool true) ∧ Below X.heap.size X w') := hid_ (fun X h => by have := rsame_any b noC _ _ X h (Elems.nil _ _) (by rw [HBN.out]; simp [noC]); rw [sameC_iff.2 HBN.out] at this; exact this)
    clear HAN HBN
    have r0 := HB3.out.cell 0
    have r1 := HB3.out.cell 1
    have r2 := HB3.out.cell 2
    have r3 := HB3.out.cell 3
    have s0 := HB4.out.cell 0
    have s1 := HB4.out.cell 1
    have s2 := HB4.out.cell 2
    have s3 := HB4.out.cell 3
    simp at r0 r1 r2 r3 s0 s1 s2 s3
    go_wp2_with fail
    refine (HSA.out _ HA.out).mono ?_
    rintro e w23 ⟨rfl, hb23⟩
    replace HB3 := hid_ (HB3.out.to hb23)
    replace HB4 := hid_ (HB4.out.to hb23)
    replace HA := hid_ (HA.out.to hb23)
    replace HBE := hid_ (HBE.out.to hb23)
    replace hbW := bnext hbW hb23
    clear hb23 r0 r1 r2 r3 s0 s1 s2 s3
    have r0 := HB3.out.cell 0
    have r1 := HB3.out.cell 1
    have r2 := HB3.out.cell 2
    have r3 := HB3.out.cell 3
    have s0 := HB4.out.cell 0
    have s1 := HB4.out.cell 1
    have s2 := HB4.out.cell 2
    have s3 := HB4.out.cell 3
    simp at r0 r1 r2 r3 s0 s1 s2 s3
    go_wp2_with fail
    refine (HSB.out _ HBE.out).mono ?_
    rintro e w24 ⟨rfl, hb24⟩
    replace hbW := bnext hbW hb24
    clear hb24 r0 r1 r2 r3 s0 s1 s2 s3
    go_wp2_with fail
    refine (awake_any mx _ (keepc hbW HMX.out)).mono ?_
    rintro e w99 ⟨rfl, hb99⟩
    go_wp2_with fail
    go_ret
    exact ⟨rfl, bnext hbW hb99⟩
  | true =>
    have HLA : Hid (a.cells.length ≤ 17592186044416) := hid_ (by have := stepS_len m c; rw [HSS.out] at this; exact Nat.le_trans this (by omega))
    have HLB : Hid (b.cells.length ≤ 17592186044416) := hid_ (by have := runS_len m c n; rw [HRS.out] at this; exact Nat.le_trans this (by omega))
    have p0 := HB1.out.cell 0
    have p1 := HB1.out.cell 1
    have p2 := HB1.out.cell 2
    have q0 := HB2.out.cell 0
    have q1 := HB2.out.cell 1
    have q2 := HB2.out.cell 2
    have q3 := HB2.out.cell 3
    simp at p0 p1 p2 q0 q1 q2 q3
    go_upto_region 10 with fail
    have HB5 := hid_ (Blk.new W 27 #[.int .i64 0, .int .i64 0, .int .i64 0, .slice none 0 0])
    have hb5 := below1 W (.cells #[.int .i64 0, .int .i64 0, .int .i64 0, .slice none 0 0] 27)
    generalize W.alloc (.cells #[.int .i64 0, .int .i64 0, .int .i64 0, .slice none 0 0] 27) = W5 at *
    have q0 := (HB2.out.to hb5).cell 0
    simp at q0
    go_upto_if 87 with fail
    go_cut [14] (fun s wx => s = .int .i64 er ∧ Below W.heap.size W wx ∧ ∃ (A : Option Addr) (d : Nat), Blk wx W.heap.size 27 #[.int .i64 a.st, .int .i64 a.pos, .int .i64 a.frm, .slice A a.cells.length d] ∧ Elems wx wx.heap.size (.slice A a.cells.length d) (ints a.cells))
    case first => as_aux_lemma =>
      have HM5 := hid_ (HM.out.to hb5)
      have HE5 := hid_ (HE.out.to hb5)
      by_cases hst : c.st = -1
      · have t5 : (c.st != -1) = false := by simpa using hst
        have hS := HSS.out
        rw [stepS, if_neg (by rw [← HBF.out]; simp), if_pos hst] at hS
        have HAN : Hid (a = noC) := hid_ (SRes.mk.inj hS).1.symm
        have her : er = 5 := (SRes.mk.inj hS).2.symm
        subst her
        clear hS hst HM5 HE5
        go_wp2_with fail
        go_meet
        exact ⟨rfl, hb5, none, 0, by rw [HAN.out]; exact HB5.out, by rw [HAN.out]; exact Elems.nil _ _⟩
      · have t5 : (c.st != -1) = true := by simpa using hst
        have hS := HSS.out
        rw [stepS, if_neg (by rw [← HBF.out]; simp), if_neg hst] at hS
        have p0 := (HB1.out.to hb5).cell 0
        have p1 := (HB1.out.to hb5).cell 1
        have p2 := (HB1.out.to hb5).cell 2
        have q1 := (HB2.out.to hb5).cell 1
        have q2 := (HB2.out.to hb5).cell 2
        have q3 := (HB2.out.to hb5).cell 3
        simp at p0 p1 p2 q1 q2 q3
        have hg5 := HB5.out.lt
        cases hso : stepC m c with
        | none =>
          rw [hso] at hS
          have HAN : Hid (a = noC) := hid_ (SRes.mk.inj hS).1.symm
          have her : er = 4 := (SRes.mk.inj hS).2.symm
          subst her
          clear hS
          have HSTEP : Hid (∀ X, MachIn X X.heap.size (.slice A1 m.rules.length c1) m → Elems X X.heap.size (.slice A2 c.cells.length c2) (ints c.cells) → Calls Tryd.prog 18 #[.agg #[.int .i64 m.states, .int .i64 m.symbols, .slice A1 m.rules.length c1], .agg #[.int .i64 c.st, .int .i64 c.pos, .int .i64 c.frm, .slice A2 c.cells.length c2]] X (RStepNo m c X)) := hid_ (fun X h1 h2 => (rstep_any m c _ _ X h1 h2 HBF.out.symm hst).mono (fun e w' h => rstep_no hso h))
          have HSO := hid_ hso
          clear hso hst
          go_upto_region 12 with (go_at_call 18; (with_reducible refine (HSTEP.out W5 HM5.out HE5.out).mono ?_); rintro e w23 ⟨A', d', rfl, hE3, hb3, hf3⟩; have k0 := (HB5.out.to hb3).free 0; have k1 := (HB5.out.to hb3).free 1; have k2 := (HB5.out.to hb3).free 2; have k3 := (HB5.out.to hb3).free 3; have l0 := (HB5.out.to hb3).cell 0; have l1 := (HB5.out.to hb3).cell 1; have l2 := (HB5.out.to hb3).cell 2; have l3 := (HB5.out.to hb3).cell 3; simp at l0 l1 l2 l3)
          have hY : Blk ((((w23.setCell ⟨W.heap.size, 0, none⟩ (.int .i64 0)).setCell ⟨W.heap.size, 1, none⟩ (.int .i64 0)).setCell ⟨W.heap.size, 2, none⟩ (.int .i64 0)).setCell ⟨W.heap.size, 3, none⟩ (.slice A' 0 d')) W.heap.size 27 #[.int .i64 0, .int .i64 0, .int .i64 0, .slice A' 0 d'] := ((((HB5.out.to hb3).set_ 0 (.int .i64 0)).set_ 1 (.int .i64 0)).set_ 2 (.int .i64 0)).set_ 3 (.slice A' 0 d')
          have hbY : Below W.heap.size W ((((w23.setCell ⟨W.heap.size, 0, none⟩ (.int .i64 0)).setCell ⟨W.heap.size, 1, none⟩ (.int .i64 0)).setCell ⟨W.heap.size, 2, none⟩ (.int .i64 0)).setCell ⟨W.heap.size, 3, none⟩ (.slice A' 0 d')) := ((((bnext hb5 hb3).setCell (Nat.le_refl _) _).setCell (Nat.le_refl _) _).setCell (Nat.le_refl _) _).setCell (Nat.le_refl _) _
          have hne : ([] : List Int) = [] ∨ (Value.slice A' ([] : List Int).length d').ownBlock ≠ some W.heap.size := .inl rfl
          have hE3 : Elems w23 w23.heap.size (.slice A' ([] : List Int).length d') (ints []) := hE3
          have hEZ := elems_off (p := ⟨W.heap.size, 3, none⟩) (u := .slice A' 0 d') (elems_off (p := ⟨W.heap.size, 2, none⟩) (u := .int .i64 0) (elems_off (p := ⟨W.heap.size, 1, none⟩) (u := .int .i64 0) (elems_off (p := ⟨W.heap.size, 0, none⟩) (u := .int .i64 0) (hE3) hne) hne) hne) hne
          generalize ((((w23.setCell ⟨W.heap.size, 0, none⟩ (.int .i64 0)).setCell ⟨W.heap.size, 1, none⟩ (.int .i64 0)).setCell ⟨W.heap.size, 2, none⟩ (.int .i64 0)).setCell ⟨W.heap.size, 3, none⟩ (.slice A' 0 d')) = Y at *
          have HY := hid_ hY
          have HEY := hid_ hEZ
          clear hY hEZ hE3 k0 k1 k2 k3 l0 l1 l2 l3 hb3 hne HB5 HM5 HE5 HSTEP
          go_wp2_with fail
          refine (errno_any false Y).mono ?_
          rintro e w24 ⟨rfl, hb24⟩
          simp only [Bool.false_eq_true, if_true, if_false]
          go_wp2_with fail
          go_meet
          exact ⟨rfl, bnext hbY hb24, A', d', by rw [HAN.out]; exact HY.out.to hb24, by rw [HAN.out]; exact Elems.to HEY.out hb24⟩
        | some q =>
          rw [hso] at hS
          obtain rfl : q = a := (SRes.mk.inj hS).1
          have her : er = 0 := (SRes.mk.inj hS).2.symm
          subst her
          clear hS
          have HSTEP : Hid (∀ X, MachIn X X.heap.size (.slice A1 m.rules.length c1) m → Elems X X.heap.size (.slice A2 c.cells.length c2) (ints c.cells) → Calls Tryd.prog 18 #[.agg #[.int .i64 m.states, .int .i64 m.symbols, .slice A1 m.rules.length c1], .agg #[.int .i64 c.st, .int .i64 c.pos, .int .i64 c.frm, .slice A2 c.cells.length c2]] X (RStepYes m c q X)) := hid_ (fun X h1 h2 => (rstep_any m c _ _ X h1 h2 HBF.out.symm hst).mono (fun e w' h => rstep_yes hso h))
          have HSO := hid_ hso
          clear hso hst
          go_upto_region 12 with (go_at_call 18; (with_reducible refine (HSTEP.out W5 HM5.out HE5.out).mono ?_); rintro e w23 ⟨A', d', rfl, hE3, hb3, hf3⟩; have k0 := (HB5.out.to hb3).free 0; have k1 := (HB5.out.to hb3).free 1; have k2 := (HB5.out.to hb3).free 2; have k3 := (HB5.out.to hb3).free 3; have l0 := (HB5.out.to hb3).cell 0; have l1 := (HB5.out.to hb3).cell 1; have l2 := (HB5.out.to hb3).cell 2; have l3 := (HB5.out.to hb3).cell 3; simp at l0 l1 l2 l3)
          have hY : Blk ((((w23.setCell ⟨W.heap.size, 0, none⟩ (.int .i64 q.st)).setCell ⟨W.heap.size, 1, none⟩ (.int .i64 q.pos)).setCell ⟨W.heap.size, 2, none⟩ (.int .i64 q.frm)).setCell ⟨W.heap.size, 3, none⟩ (.slice A' q.cells.length d')) W.heap.size 27 #[.int .i64 q.st, .int .i64 q.pos, .int .i64 q.frm, .slice A' q.cells.length d'] := ((((HB5.out.to hb3).set_ 0 (.int .i64 q.st)).set_ 1 (.int .i64 q.pos)).set_ 2 (.int .i64 q.frm)).set_ 3 (.slice A' q.cells.length d')
          have hbY : Below W.heap.size W ((((w23.setCell ⟨W.heap.size, 0, none⟩ (.int .i64 q.st)).setCell ⟨W.heap.size, 1, none⟩ (.int .i64 q.pos)).setCell ⟨W.heap.size, 2, none⟩ (.int .i64 q.frm)).setCell ⟨W.heap.size, 3, none⟩ (.slice A' q.cells.length d')) := ((((bnext hb5 hb3).setCell (Nat.le_refl _) _).setCell (Nat.le_refl _) _).setCell (Nat.le_refl _) _).setCell (Nat.le_refl _) _
          have hne : q.cells = [] ∨ (Value.slice A' q.cells.length d').ownBlock ≠ some W.heap.size := .inr (hf3.ne hg5)
          have hEZ := elems_off (p := ⟨W.heap.size, 3, none⟩) (u := .slice A' q.cells.length d') (elems_off (p := ⟨W.heap.size, 2, none⟩) (u := .int .i64 q.frm) (elems_off (p := ⟨W.heap.size, 1, none⟩) (u := .int .i64 q.pos) (elems_off (p := ⟨W.heap.size, 0, none⟩) (u := .int .i64 q.st) (hE3) hne) hne) hne) hne
          generalize ((((w23.setCell ⟨W.heap.size, 0, none⟩ (.int .i64 q.st)).setCell ⟨W.heap.size, 1, none⟩ (.int .i64 q.pos)).setCell ⟨W.heap.size, 2, none⟩ (.int .i64 q.frm)).setCell ⟨W.heap.size, 3, none⟩ (.slice A' q.cells.length d')) = Y at *
          have HY := hid_ hY
          have HEY := hid_ hEZ
          clear hY hEZ hE3 k0 k1 k2 k3 l0 l1 l2 l3 hb3 hne HB5 HM5 HE5 HSTEP
          go_wp2_with fail
          refine (errno_any true Y).mono ?_
          rintro e w24 ⟨rfl, hb24⟩
          simp only [Bool.false_eq_true, if_true, if_false]
          go_wp2_with fail
          go_meet
          exact ⟨rfl, bnext hbY hb24, A', d', HY.out.to hb24, HEY.out.to hb24⟩
    case rest => as_aux_lemma =>
    obtain ⟨rfl, hb6, Aw, cw, hB5, hEw⟩ := hcut
    replace HM := hid_ (HM.out.to hb6)
    replace HE := hid_ (HE.out.to hb6)
    replace HB1 := hid_ (HB1.out.to hb6)
    replace HB2 := hid_ (HB2.out.to hb6)
    replace HB3 := hid_ (HB3.out.to hb6)
    replace HB4 := hid_ (HB4.out.to hb6)
    replace HA := hid_ (HA.out.to hb6)
    replace HBE := hid_ (HBE.out.to hb6)
    replace hbW := bnext hbW hb6
    have HB5 := hid_ hB5
    have HEW := hid_ hEw
    clear hb6 hB5 hEw q0
    generalize W.heap.size = g5 at *
    obtain ⟨W, rfl⟩ : ∃ X : World, X = wc := ⟨_, rfl⟩
    have t7 : (er != er) = false := by simp
    have HSW : Hid (∀ X, Elems X X.heap.size (.slice Aa a.cells.length ca) (ints a.cells) → Elems X X.heap.size (.slice Aw a.cells.length cw) (ints a.cells) → Calls Tryd.prog 17 #[.agg #[.int .i64 a.st, .int .i64 a.pos, .int .i64 a.frm, .slice Aa a.cells.length ca], .agg #[.int .i64 a.st, .int .i64 a.pos, .int .i64 a.frm, .slice Aw a.cells.length cw]] X fun e w' => e = .returned (.bool true) ∧ Below X.heap.size X w') := hid_ (fun X h h2 => by have := rsame_any a a _ _ X h h2 HLA.out; rw [sameC_iff.2 rfl] at this; exact this)
    have r0 := HB3.out.cell 0
    have r1 := HB3.out.cell 1
    have r2 := HB3.out.cell 2
    have r3 := HB3.out.cell 3
    have s0 := HB5.out.cell 0
    have s1 := HB5.out.cell 1
    have s2 := HB5.out.cell 2
    have s3 := HB5.out.cell 3
    simp at r0 r1 r2 r3 s0 s1 s2 s3
    go_upto_if 104 with (go_at_call 17; (with_reducible refine (HSW.out W HA.out HEW.out).mono ?_); rintro e w25 ⟨rfl, hb25⟩)
    replace HM := hid_ (HM.out.to hb25)
    replace HE := hid_ (HE.out.to hb25)
    replace HB1 := hid_ (HB1.out.to hb25)
    replace HB2 := hid_ (HB2.out.to hb25)
    replace HB3 := hid_ (HB3.out.to hb25)
    replace HB4 := hid_ (HB4.out.to hb25)
    replace HBE := hid_ (HBE.out.to hb25)
    replace hbW := bnext hbW hb25
    clear hb25 r0 r1 r2 r3 s0 s1 s2 s3 HB5 HA HEW HSW
    obtain ⟨W, rfl⟩ : ∃ X : World, X = w25 := ⟨_, rfl⟩
    by_cases hN : n < 0 ∨ 1000000 < n
    · have hS := HRS.out
      rw [runS, if_neg (by rw [← HBF.out]; simp), if_pos hN] at hS
      have HBN : Hid (b = noC) := hid_ (RRes.mk.inj hS).1.symm
      have hkk : kk = 0 := (RRes.mk.inj hS).2.1.symm
      have hfr : fr = 2 := (RRes.mk.inj hS).2.2.symm
      subst hkk
      subst hfr
      clear hS
      have HSB : Hid (∀ X, Elems X X.heap.size (.slice Ab b.cells.length cb) (ints b.cells) → Calls Tryd.prog 17 #[.agg #[.int .i64 b.st, .int .i64 b.pos, .int .i64 b.frm, .slice Ab b.cells.length cb], .agg #[.int .i64 0, .int .i64 0, .int .i64 0, .slice none 0 0]] X fun e w' => e = .returned (.bool true) ∧ Below X.heap.size X w') := hid_ (fun X h => by have := rsame_any b noC _ _ X h (Elems.nil _ _) (by rw [HBN.out]; simp [noC]); rw [sameC_iff.2 HBN.out] at this; exact this)
      clear HBN
      have s0 := HB4.out.cell 0
      have s1 := HB4.out.cell 1
      have s2 := HB4.out.cell 2
      have s3 := HB4.out.cell 3
      simp at s0 s1 s2 s3
      rcases hN with h | h
      · go_wp2_with fail
        refine (HSB.out _ HBE.out).mono ?_
        rintro e w26 ⟨rfl, hb26⟩
        replace hbW := bnext hbW hb26
        clear hb26 s0 s1 s2 s3
        go_wp2_with fail
        refine (awake_any mx _ (keepc hbW HMX.out)).mono ?_
        rintro e w99 ⟨rfl, hb99⟩
        go_wp2_with fail
        go_ret
        exact ⟨rfl, bnext hbW hb99⟩
      · have h9 : ¬ n < 0 := by omega
        go_wp2_with fail
        refine (HSB.out _ HBE.out).mono ?_
        rintro e w26 ⟨rfl, hb26⟩
        replace hbW := bnext hbW hb26
        clear hb26 s0 s1 s2 s3
        go_wp2_with fail
        refine (awake_any mx _ (keepc hbW HMX.out)).mono ?_
        rintro e w99 ⟨rfl, hb99⟩
        go_wp2_with fail
        go_ret
        exact ⟨rfl, bnext hbW hb99⟩
    · have h0n : ¬ n < 0 := by omega
      have h1n : ¬ 1000000 < n := by omega
      have h2n : n ≤ 1000000 := by omega
      obtain ⟨N, rfl⟩ := Int.eq_ofNat_of_zero_le (show 0 ≤ n by omega)
      obtain ⟨okb, hok⟩ : ∃ o, o = (runC m N c).isSome := ⟨_, rfl⟩
      have hS := HRS.out
      rw [runS, if_neg (by rw [← HBF.out]; simp), if_neg hN, Int.toNat_natCast] at hS
      have hbk : b = (rrunC m N c).1 ∧ kk = ((rrunC m N c).2 : Int) ∧ fr = if okb then 0 else 4 := by
        rw [hok, rrunC]
        cases hro : runC m N c with
        | none =>
          rw [hro] at hS
          exact ⟨(RRes.mk.inj hS).1.symm, (RRes.mk.inj hS).2.1.symm, (RRes.mk.inj hS).2.2.symm⟩
        | some dj =>
          obtain ⟨d, j⟩ := dj
          rw [hro] at hS
          exact ⟨(RRes.mk.inj hS).1.symm, (RRes.mk.inj hS).2.1.symm, (RRes.mk.inj hS).2.2.symm⟩
      have HRR : Hid (∀ X, MachIn X X.heap.size (.slice A1 m.rules.length c1) m → Elems X X.heap.size (.slice A2 c.cells.length c2) (ints c.cells) → Calls Tryd.prog 20 #[.agg #[.int .i64 m.states, .int .i64 m.symbols, .slice A1 m.rules.length c1], .agg #[.int .i64 c.st, .int .i64 c.pos, .int .i64 c.frm, .slice A2 c.cells.length c2], .int .i64 (N : Int)] X fun e w' => ∃ A d, e = .returned (.tuple #[.agg #[.int .i64 b.st, .int .i64 b.pos, .int .i64 b.frm, .slice A b.cells.length d], .int .i64 kk, .bool okb]) ∧ Elems w' w'.heap.size (.slice A b.cells.length d) (ints b.cells) ∧ Below X.heap.size X w') := hid_ (fun X h1 h2 => (rrun_any m c N _ _ X h1 h2 HBF.out.symm (by omega)).mono (fun e w' h => by
        obtain ⟨q, k, A, d, rfl, hqk, hE, hb⟩ := h
        rw [← hqk] at hbk
        obtain ⟨rfl, rfl, _⟩ := hbk
        exact ⟨A, d, by rw [hok], hE, hb⟩))
      have HER : Hid (∀ X, Calls Tryd.prog 19 #[.bool okb] X fun e w' => e = .returned (.int .i64 fr) ∧ Below X.heap.size X w') := hid_ (fun X => by rw [hbk.2.2]; exact errno_any okb X)
      have t8 : (fr == fr) = true := by simp
      have t9 : (kk == kk) = true := by simp
      clear hS hok hbk hN
      have p0 := HB1.out.cell 0
      have p1 := HB1.out.cell 1
      have p2 := HB1.out.cell 2
      have q0 := HB2.out.cell 0
      have q1 := HB2.out.cell 1
      have q2 := HB2.out.cell 2
      have q3 := HB2.out.cell 3
      simp at p0 p1 p2 q0 q1 q2 q3
      go_upto_region 18 with (go_at_call 20; (with_reducible refine (HRR.out W HM.out HE.out).mono ?_); rintro e w27 ⟨Ad, cd, rfl, hEd, hb27⟩)
      have HB6 := hid_ (Blk.new w27 27 #[.int .i64 b.st, .int .i64 b.pos, .int .i64 b.frm, .slice Ad b.cells.length cd])
      have HD := hid_ (hEd.to (below1 w27 (.cells #[.int .i64 b.st, .int .i64 b.pos, .int .i64 b.frm, .slice Ad b.cells.length cd] 27)))
      have hbx := hb27.alloc hb27.size (.cells #[.int .i64 b.st, .int .i64 b.pos, .int .i64 b.frm, .slice Ad b.cells.length cd] 27)
      replace HB4 := hid_ (HB4.out.to hbx)
      replace HBE := hid_ (HBE.out.to hbx)
      replace hbW := bnext hbW hbx
      clear hEd hb27 hbx HRR HB1 HB2 HB3 HM HE p0 p1 p2 q0 q1 q2 q3
      generalize w27.alloc (.cells #[.int .i64 b.st, .int .i64 b.pos, .int .i64 b.frm, .slice Ad b.cells.length cd] 27) = W28 at *
      have HSD : Hid (∀ X, Elems X X.heap.size (.slice Ab b.cells.length cb) (ints b.cells) → Elems X X.heap.size (.slice Ad b.cells.length cd) (ints b.cells) → Calls Tryd.prog 17 #[.agg #[.int .i64 b.st, .int .i64 b.pos, .int .i64 b.frm, .slice Ab b.cells.length cb], .agg #[.int .i64 b.st, .int .i64 b.pos, .int .i64 b.frm, .slice Ad b.cells.length cd]] X fun e w' => e = .returned (.bool true) ∧ Below X.heap.size X w') := hid_ (fun X h h2 => by have := rsame_any b b _ _ X h h2 HLB.out; rw [sameC_iff.2 rfl] at this; exact this)
      have r0 := HB6.out.cell 0
      have r1 := HB6.out.cell 1
      have r2 := HB6.out.cell 2
      have r3 := HB6.out.cell 3
      have s0 := HB4.out.cell 0
      have s1 := HB4.out.cell 1
      have s2 := HB4.out.cell 2
      have s3 := HB4.out.cell 3
      simp at r0 r1 r2 r3 s0 s1 s2 s3
      go_wp2_with fail
      refine (HER.out W28).mono ?_
      rintro e w29 ⟨rfl, hb29⟩
      replace HB4 := hid_ (HB4.out.to hb29)
      replace HBE := hid_ (HBE.out.to hb29)
      replace HB6 := hid_ (HB6.out.to hb29)
      replace HD := hid_ (HD.out.to hb29)
      replace hbW := bnext hbW hb29
      clear hb29 r0 r1 r2 r3 s0 s1 s2 s3
      have r0 := HB6.out.cell 0
      have r1 := HB6.out.cell 1
      have r2 := HB6.out.cell 2
      have r3 := HB6.out.cell 3
      have s0 := HB4.out.cell 0
      have s1 := HB4.out.cell 1
      have s2 := HB4.out.cell 2
      have s3 := HB4.out.cell 3
      simp at r0 r1 r2 r3 s0 s1 s2 s3
      go_wp2_with fail
      refine (HSD.out _ HBE.out HD.out).mono ?_
      rintro e w30 ⟨rfl, hb30⟩
      replace hbW := bnext hbW hb30
      clear hb30 r0 r1 r2 r3 s0 s1 s2 s3
      go_wp2_with fail
      refine (awake_any mx _ (keepc hbW HMX.out)).mono ?_
      rintro e w99 ⟨rfl, hb99⟩
      go_wp2_with fail
      go_ret
      exact ⟨rfl, bnext hbW hb99⟩

end
end Go.Proofs.YtkbaiegfloajlaaDoor.Tp

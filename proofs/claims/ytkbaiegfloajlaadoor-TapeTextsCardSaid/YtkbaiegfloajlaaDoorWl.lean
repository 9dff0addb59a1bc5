/- Contracts: Step of the specification. -/
import Derived.Test.YtkbaiegfloajlaaDoorWk
import Derived.Test.YtkbaiegfloajlaaDoorTn
import Derived.Test.YtkbaiegfloajlaaDoorWc
namespace Go.Proofs.YtkbaiegfloajlaaDoor.Tp
open Go.RowKit

theorem Fresh.mono {w w' : World} {A : Option Addr} (h : Fresh w' A) (hs : w.heap.size ≤ w'.heap.size) : Fresh w A := by
  rcases h with h | ⟨g, k, h, hg⟩
  · exact .inl h
  · exact .inr ⟨g, k, h, Nat.le_trans hs hg⟩
theorem Fresh.ne {w : World} {A : Option Addr} (h : Fresh w A) {b n d : Nat} (hb : b < w.heap.size) : (Value.slice A n d).ownBlock ≠ some b := by
  rcases h with rfl | ⟨g, k, rfl, hg⟩
  · simp [Value.ownBlock]
  · simp only [Value.ownBlock, ne_eq, Option.some.injEq]
    omega
/-- Step, once it is known what Put gave. -/
theorem stepC_fits {m : MachS} {c : CfgS} {F P n : Int} {L : List Int} (hv : validM m = true) (hw : withinC c m.states m.symbols = true) (hs : c.st ≠ -1)
    (hst : stepC m c = if L.length ≤ 100000 ∧ inR P = true ∧ inR F = true then some ⟨n, P, F, L⟩ else none) :
    (fitsC m ⟨n, P, F, L⟩ = true ∧ stepC m c = some ⟨n, P, F, L⟩) ∨ (fitsC m ⟨n, P, F, L⟩ = false ∧ stepC m c = none) := by
  by_cases h : L.length ≤ 100000 ∧ inR P = true ∧ inR F = true
  · rw [if_pos h] at hst
    exact .inl ⟨by rw [fitsC, hv, step_within hv hw hs hst]; rfl, hst⟩
  · rw [if_neg h] at hst
    refine .inr ⟨?_, hst⟩
    cases hf : fitsC m ⟨n, P, F, L⟩ with
    | false => rfl
    | true =>
      rw [fitsC, Bool.and_eq_true] at hf
      obtain ⟨w1, w2, w3, w4, w5, w6, w7⟩ := within_iff.1 hf.2
      exact absurd ⟨w5, w3, w4⟩ h

def RStepRan (m : MachS) (c : CfgS) (w : World) (e : Ending) (w' : World) : Prop :=
  ∃ (q : CfgS) (A : Option Addr) (d : Nat), e = .returned (.tuple #[.agg #[.int .i64 q.st, .int .i64 q.pos, .int .i64 q.frm, .slice A q.cells.length d], .bool (stepC m c).isSome]) ∧ q = (stepC m c).getD ⟨0, 0, 0, []⟩ ∧ Elems w' w'.heap.size (.slice A q.cells.length d) (ints q.cells) ∧ Below w.heap.size w w' ∧ Fresh w A

set_option maxRecDepth 100000 in
set_option maxHeartbeats 8000000 in
theorem rstep_any (m : MachS) (c : CfgS) (v u : Value) (w : World) (hm : MachIn w w.heap.size v m) (hE : Elems w w.heap.size u (ints c.cells)) (hf : fitsC m c = true) (hs : c.st ≠ -1) :
    Calls Tryd.prog 18 #[.agg #[.int .i64 m.states, .int .i64 m.symbols, v], .agg #[.int .i64 c.st, .int .i64 c.pos, .int .i64 c.frm, u]] w (RStepRan m c w) := by
  have hv : validM m = true := by rw [fitsC, Bool.and_eq_true] at hf; exact hf.1
  have hw : withinC c m.states m.symbols = true := by rw [fitsC, Bool.and_eq_true] at hf; exact hf.2
  obtain ⟨w1, w2, w3, w4, w5, w6, w7⟩ := within_iff.1 hw
  obtain ⟨_, _, v3, v4, v5, _⟩ := validM_parts hv
  have hcl := (symB_cells (b := c.frm) (by omega)).1 w7 c.pos
  obtain ⟨s, hse⟩ := Int.eq_ofNat_of_zero_le (show 0 ≤ c.st by omega)
  obtain ⟨y, hye⟩ := Int.eq_ofNat_of_zero_le hcl.1
  obtain ⟨row, r, hrow, hr, hat, hrb, hrl⟩ := rule_at hv (s := s) (x := y) (by omega) (by have := hcl.2; omega)
  obtain ⟨A2, c2, rfl⟩ := hm.rules.form
  obtain ⟨A3, c3, rfl⟩ := hE.form
  rw [ints_len] at hE ⊢
  have hbW := (below2 w (.cells #[.int .i64 m.states, .int .i64 m.symbols, .slice A2 m.rules.length c2] 24) (.cells #[.int .i64 c.st, .int .i64 c.pos, .int .i64 c.frm, .slice A3 c.cells.length c3] 27)).alloc (by simp; omega) (.cells #[.int .i64 0, .int .i64 0, .int .i64 0, .slice none 0 0] 27)
  have HM := hid_ (hm.to hbW)
  have HE := hid_ (hE.to hbW)
  have B1 := ((Blk.new w 24 #[.int .i64 m.states, .int .i64 m.symbols, .slice A2 m.rules.length c2]).alloc (.cells #[.int .i64 c.st, .int .i64 c.pos, .int .i64 c.frm, .slice A3 c.cells.length c3] 27)).alloc (.cells #[.int .i64 0, .int .i64 0, .int .i64 0, .slice none 0 0] 27)
  have B2 := (Blk.new (w.alloc (.cells #[.int .i64 m.states, .int .i64 m.symbols, .slice A2 m.rules.length c2] 24)) 27 #[.int .i64 c.st, .int .i64 c.pos, .int .i64 c.frm, .slice A3 c.cells.length c3]).alloc (.cells #[.int .i64 0, .int .i64 0, .int .i64 0, .slice none 0 0] 27)
  rw [show (w.alloc (.cells #[.int .i64 m.states, .int .i64 m.symbols, .slice A2 m.rules.length c2] 24)).heap.size = w.heap.size + 1 by simp] at B2
  have B3 := Blk.new ((w.alloc (.cells #[.int .i64 m.states, .int .i64 m.symbols, .slice A2 m.rules.length c2] 24)).alloc (.cells #[.int .i64 c.st, .int .i64 c.pos, .int .i64 c.frm, .slice A3 c.cells.length c3] 27)) 27 #[.int .i64 0, .int .i64 0, .int .i64 0, .slice none 0 0]
  rw [show ((w.alloc (.cells #[.int .i64 m.states, .int .i64 m.symbols, .slice A2 m.rules.length c2] 24)).alloc (.cells #[.int .i64 c.st, .int .i64 c.pos, .int .i64 c.frm, .slice A3 c.cells.length c3] 27)).heap.size = w.heap.size + 1 + 1 by simp] at B3
  have HB1 := hid_ B1
  have HB2 := hid_ B2
  have HB3 := hid_ B3
  have HF := hid_ hf
  have HVW := hid_ (And.intro hv (And.intro hw hs))
  have HST := hid_ (show stepC m c = if (normL (putL c.frm c.cells c.pos r.w).1 (putL c.frm c.cells c.pos r.w).2).2.length ≤ 100000 ∧ inR (c.pos + r.m) = true ∧ inR (normL (putL c.frm c.cells c.pos r.w).1 (putL c.frm c.cells c.pos r.w).2).1 = true then some ⟨r.n, c.pos + r.m, (normL (putL c.frm c.cells c.pos r.w).1 (putL c.frm c.cells c.pos r.w).2).1, (normL (putL c.frm c.cells c.pos r.w).1 (putL c.frm c.cells c.pos r.w).2).2⟩ else none by
    rw [stepC, hse, hye, hat])
  have hpb : -1099511627776 ≤ c.pos ∧ c.pos ≤ 1099511627776 := inR_iff.1 w3
  have hfb : -1099511627776 ≤ c.frm ∧ c.frm ≤ 1099511627776 := inR_iff.1 w4
  have hrb5 := (ruleB_yes.1 hrb)
  have HPUT : Hid (∀ X, Elems X X.heap.size (.slice A3 c.cells.length c3) (ints c.cells) → Calls Tryd.prog 49 #[.agg #[.int .i64 (s : Int), .int .i64 c.pos, .int .i64 c.frm, .slice A3 c.cells.length c3], .int .i64 r.w] X (PutRan c r.w X)) := hid_ (fun X h => by rw [← hse]; exact rput_any c r.w _ X h w5 hpb hfb w6)
  have HRD : Hid (∀ X, Elems X X.heap.size (.slice A3 c.cells.length c3) (ints c.cells) → Calls Tryd.prog 29 #[.agg #[.int .i64 (s : Int), .int .i64 c.pos, .int .i64 c.frm, .slice A3 c.cells.length c3], .int .i64 c.pos] X fun e w' => e = .returned (.int .i64 (y : Int)) ∧ Below X.heap.size X w') := hid_ (fun X h => by rw [← hye, ← hse]; exact rread_any c c.pos _ X h (by omega) (by omega) (by omega))
  have HYE := hid_ hye
  have HSE := hid_ hse
  have HRB := hid_ hrb5
  have t1 : 0 ≤ (s : Int) := by omega
  have t2 : (s : Int) < m.rules.length := by omega
  have t3 : 0 ≤ (y : Int) := by omega
  have t4 : (y : Int) < row.length := by have := hcl.2; omega
  have hrw := HM.out.rules.addr (by omega)
  obtain ⟨b2, o2, rfl, hb2⟩ := hrw
  obtain ⟨Ar, dr, hcr, hEr⟩ := HM.out.rules.row hrow
  obtain ⟨br, or, rfl, hbr, hcell⟩ := hEr.at_ (by omega)
  obtain ⟨i1, i2, i3⟩ := hcell y r hr
  clear hm hE hf hv hw w1 w2 w3 w4 w5 w6 w7 v3 v4 v5 hcl hye hse hrow hr hat hrb hrb5 hrl hEr hcell B1 B2 B3
  go_enter Tryd.func18, Tryd.ntmps18
  go_upto_region 1 with fail
  generalize ((w.alloc (.cells #[.int .i64 m.states, .int .i64 m.symbols, .slice (some ⟨b2, o2, none⟩) m.rules.length c2] 24)).alloc (.cells #[.int .i64 c.st, .int .i64 c.pos, .int .i64 c.frm, .slice A3 c.cells.length c3] 27)).alloc (.cells #[.int .i64 0, .int .i64 0, .int .i64 0, .slice none 0 0] 27) = W at *
  have p2 := HB1.out.cell 2
  have q0 := HB2.out.cell 0
  have q1 := HB2.out.cell 1
  have q2 := HB2.out.cell 2
  have q3 := HB2.out.cell 3
  simp at p2 q0 q1 q2 q3
  rw [HSE.out] at q0
  go_cut [6] (fun s6 wx => ∃ a, s6 = .pointer (some ⟨a, 0, none⟩) ∧ W.heap.size ≤ a ∧ Blk wx a 74 #[.int .i64 r.w, .int .i64 r.m, .int .i64 r.n] ∧ Below W.heap.size W wx)
  case first => as_aux_lemma =>
    go_region_held3 (fun w' => w'.cell? ⟨w.heap.size, 2, none⟩ = some (.slice (some ⟨b2, o2, none⟩) m.rules.length c2) ∧ w'.cell? ⟨w.heap.size + 1, 0, none⟩ = some (.int .i64 (s : Int)) ∧ w'.cell? ⟨w.heap.size + 1, 1, none⟩ = some (.int .i64 c.pos) ∧ w'.cell? ⟨w.heap.size + 1, 2, none⟩ = some (.int .i64 c.frm) ∧ w'.cell? ⟨w.heap.size + 1, 3, none⟩ = some (.slice A3 c.cells.length c3) ∧ w'.cell? ⟨b2, o2 + s, none⟩ = some (.slice (some ⟨br, or, none⟩) row.length dr) ∧ w'.cell? ⟨br, or + y * 3, none⟩ = some (.int .i64 r.w) ∧ w'.cell? ⟨br, or + y * 3 + 1, none⟩ = some (.int .i64 r.m) ∧ w'.cell? ⟨br, or + y * 3 + 2, none⟩ = some (.int .i64 r.n) ∧ Below W.heap.size W w')
      (first | assumption | (with_reducible exact (let hb := H3.out; ⟨keepc hb p2, keepc hb q0, keepc hb q1, keepc hb q2, keepc hb q3, keepc hb hcr, keepc hb i1, keepc hb i2, keepc hb i3, hb⟩)) | (with_reducible exact (let hb := H3.out.alloc H3.out.size _; ⟨keepc hb p2, keepc hb q0, keepc hb q1, keepc hb q2, keepc hb q3, keepc hb hcr, keepc hb i1, keepc hb i2, keepc hb i3, hb⟩)) | (with_reducible exact (let hb := (H3.out.alloc H3.out.size _).drew; ⟨keepc hb p2, keepc hb q0, keepc hb q1, keepc hb q2, keepc hb q3, keepc hb hcr, keepc hb i1, keepc hb i2, keepc hb i3, hb⟩)) | (with_reducible exact (let hb := below1 W _; ⟨keepc hb p2, keepc hb q0, keepc hb q1, keepc hb q2, keepc hb q3, keepc hb hcr, keepc hb i1, keepc hb i2, keepc hb i3, hb⟩)) | (with_reducible exact (let hb := (below1 W _).drew; ⟨keepc hb p2, keepc hb q0, keepc hb q1, keepc hb q2, keepc hb q3, keepc hb hcr, keepc hb i1, keepc hb i2, keepc hb i3, hb⟩)) | (with_reducible exact (let hb := ((H3.out.setCell (Nat.le_refl W.heap.size) _).setCell (Nat.le_refl W.heap.size) _).setCell (Nat.le_refl W.heap.size) _; ⟨keepc hb p2, keepc hb q0, keepc hb q1, keepc hb q2, keepc hb q3, keepc hb hcr, keepc hb i1, keepc hb i2, keepc hb i3, hb⟩)) | (with_reducible exact (let hb := (((H3.out.alloc H3.out.size _).setCell H3.out.size _).setCell H3.out.size _).setCell H3.out.size _; ⟨keepc hb p2, keepc hb q0, keepc hb q1, keepc hb q2, keepc hb q3, keepc hb hcr, keepc hb i1, keepc hb i2, keepc hb i3, hb⟩)) | (go_keep; done) | exact ⟨p2, q0, q1, q2, q3, hcr, i1, i2, i3, (Below.refl _ _).drew⟩)
      (first
        | (go_at_call 29; (with_reducible refine (HRD.out _ (HE.out.to ((And.right (And.right (And.right (And.right (And.right (And.right (And.right (And.right (And.right (by assumption))))))))))))).mono ?_); rintro e w3 ⟨rfl, hz3⟩; have H3 : Hid (Below W.heap.size W w3) := hid_ (bnext ((And.right (And.right (And.right (And.right (And.right (And.right (And.right (And.right (And.right (by assumption))))))))))) hz3); have B0 : Blk ((W.alloc (.cells #[.int .i64 0, .int .i64 0, .int .i64 0] 74)).drew) W.heap.size 74 #[.int .i64 0, .int .i64 0, .int .i64 0] := Blk.new W 74 #[.int .i64 0, .int .i64 0, .int .i64 0]; have BB : Blk w3 W.heap.size 74 #[.int .i64 0, .int .i64 0, .int .i64 0] := (by with_reducible exact Blk.to B0 hz3); have HBB := hid_ BB; have y0 := BB.cell 0; have y1 := BB.cell 1; have y2 := BB.cell 2; have f0 := BB.free 0; have f1 := BB.free 1; have f2 := BB.free 2; simp at y0 y1 y2; clear hz3 BB B0)
        | (go_at_call 29; (with_reducible refine (HRD.out _ (HE.out.to ((And.right (And.right (And.right (And.right (And.right (And.right (And.right (And.right (And.right (by assumption))))))))))))).mono ?_); rintro e w3 ⟨rfl, hz3⟩; have H3 : Hid (Below W.heap.size W w3) := hid_ (bnext ((And.right (And.right (And.right (And.right (And.right (And.right (And.right (And.right (And.right (by assumption))))))))))) hz3); clear hz3; have n0 := World.new_ne w3 _ (keepc H3.out p2); have n1 := World.new_ne w3 _ (keepc H3.out q0); have n2 := World.new_ne w3 _ (keepc H3.out q1); have n3 := World.new_ne w3 _ (keepc H3.out q2); have n4 := World.new_ne w3 _ (keepc H3.out q3); have n5 := World.new_ne w3 _ (keepc H3.out hcr); have n6 := World.new_ne w3 _ (keepc H3.out i1); have n7 := World.new_ne w3 _ (keepc H3.out i2); have n8 := World.new_ne w3 _ (keepc H3.out i3); simp only at n0 n1 n2 n3 n4 n5 n6 n7 n8; have z1 : ∀ (cs : Array Value) (t : TypeId) (i : Nat), (w3.alloc (.cells cs t)).cell? ⟨w3.heap.size, i, none⟩ = cs[i]? := fun cs t i => (Blk.new w3 t cs).cell i; have z2 : ∀ (cs : Array Value) (t : TypeId) (i : Nat), (w3.alloc (.cells cs t)).frozen? ⟨w3.heap.size, i, none⟩ = false := fun cs t i => (Blk.new w3 t cs).free i; have z3 : ∀ (cs : Array Value) (t : TypeId) (i : Nat) (u : Value), (w3.alloc (.cells cs t)).setCell ⟨w3.heap.size, i, none⟩ u = w3.alloc (.cells (cs.setIfInBounds i u) t) := fun cs t i u => World.setCell_alloc_at (w := w3) _ _ _ _ _ rfl))
    all_goals
      go_wp2_with fail
      go_meet
      first
        | exact ⟨w3.heap.size, rfl, H3.out.size, Blk.new w3 _ _, H3.out.alloc H3.out.size _⟩
        | exact ⟨W.heap.size, rfl, Nat.le_refl _, ((HBB.out.set_ 0 (.int .i64 r.w)).set_ 1 (.int .i64 r.m)).set_ 2 (.int .i64 r.n), ((H3.out.setCell (Nat.le_refl W.heap.size) _).setCell (Nat.le_refl W.heap.size) _).setCell (Nat.le_refl W.heap.size) _⟩
  case rest => as_aux_lemma =>
    obtain ⟨a, rfl, ha, hBK, hb1⟩ := hcut
    obtain ⟨X, rfl⟩ : ∃ X : World, X = wc := ⟨_, rfl⟩
    have HM1 := hid_ (HM.out.to hb1)
    have HE1 := hid_ (HE.out.to hb1)
    have C1 := hid_ (HB1.out.to hb1)
    have C2 := hid_ (HB2.out.to hb1)
    have C3 := hid_ (HB3.out.to hb1)
    have hwX := bnext hbW hb1
    have hW3 := HB3.out.lt
    have hXW := hb1.size
    have HBK := hid_ hBK
    clear p2 q0 q1 q2 q3 hcr i1 i2 i3 HM HE HB1 HB2 HB3 hbW hb1 hBK
    have q0 := C2.out.cell 0
    have q1 := C2.out.cell 1
    have q2 := C2.out.cell 2
    have q3 := C2.out.cell 3
    have y0 := HBK.out.cell 0
    simp at q0 q1 q2 q3 y0
    rw [HSE.out] at q0
    go_upto_region 3 with (go_at_call 49; (with_reducible refine (HPUT.out X HE1.out).mono ?_); rintro e w2 ⟨s', p', F', A', d', L, ok, rfl, hEL, hb2, hL, hfr, hor⟩)
    have K1 := hid_ (C1.out.to hb2)
    have K2 := hid_ (C2.out.to hb2)
    have K3 := hid_ (C3.out.to hb2)
    have KM := hid_ (HM1.out.to hb2)
    have KL := hid_ hEL
    have D2 := hid_ (K2.out.alloc (.cells #[.int .i64 s', .int .i64 p', .int .i64 F', .slice A' L.length d'] 27))
    have DK := hid_ ((HBK.out.to hb2).alloc (.cells #[.int .i64 s', .int .i64 p', .int .i64 F', .slice A' L.length d'] 27))
    have DO := hid_ (Blk.new w2 27 #[.int .i64 s', .int .i64 p', .int .i64 F', .slice A' L.length d'])
    have hB2 := below1 w2 (.cells #[.int .i64 s', .int .i64 p', .int .i64 F', .slice A' L.length d'] 27)
    have hw2 := bnext hwX hb2
    have HFR := hid_ hfr
    have HFR2 := hid_ (hfr.mono hwX.size)
    have hOR := hid_ hor
    have haX := HBK.out.lt
    have hX2 := hb2.size
    clear hEL hb2 C1 C2 C3 HBK HE1 HM1 q0 q1 q2 q3 y0 hor hfr
    generalize w2.alloc (.cells #[.int .i64 s', .int .i64 p', .int .i64 F', .slice A' L.length d'] 27) = W2 at *
    have q1 := D2.out.cell 1
    have x1 := DK.out.cell 1
    have x2 := DK.out.cell 2
    have o0 := DO.out.cell 0
    have o1 := DO.out.cell 1
    have g0 := DO.out.free 0
    have g1 := DO.out.free 1
    simp at q1 x1 x2 o0 o1
    have hrm := HRB.out.2.2.2.2
    have m1 : IntKind.i64.wrap (c.pos + r.m) = c.pos + r.m := IntWalk.i64_in _ (by omega)
    have HRM := hid_ hrm
    clear hrm
    go_region
    have EO := hid_ ((DO.out.set_ 1 (.int .i64 (c.pos + r.m))).set_ 0 (.int .i64 r.n))
    have hBZ : Below w2.heap.size w2 ((W2.setCell ⟨w2.heap.size, 1, none⟩ (.int .i64 (c.pos + r.m))).setCell ⟨w2.heap.size, 0, none⟩ (.int .i64 r.n)).drew := ((hB2.setCell (Nat.le_refl _) _).setCell (Nat.le_refl _) _).drew
    have EO2 : Blk ((W2.setCell ⟨w2.heap.size, 1, none⟩ (.int .i64 (c.pos + r.m))).setCell ⟨w2.heap.size, 0, none⟩ (.int .i64 r.n)).drew w2.heap.size 27 #[.int .i64 r.n, .int .i64 (c.pos + r.m), .int .i64 F', .slice A' L.length d'] := EO.out
    clear EO
    obtain ⟨Z, hZ⟩ : ∃ Z, Z = ((W2.setCell ⟨w2.heap.size, 1, none⟩ (.int .i64 (c.pos + r.m))).setCell ⟨w2.heap.size, 0, none⟩ (.int .i64 r.n)).drew := ⟨_, rfl⟩
    rw [← hZ] at hBZ EO2
    rw [← hZ]
    clear hZ q1 x1 x2 o0 o1 g0 g1 D2 DK DO hB2
    have E1 := hid_ (K1.out.to hBZ)
    have E3 := hid_ (K3.out.to hBZ)
    have EM := hid_ (KM.out.to hBZ)
    have EL := hid_ (KL.out.to hBZ)
    have EO := hid_ EO2
    have hwZ := bnext hw2 hBZ
    clear K1 K2 K3 KM KL EO2 hBZ hw2
    rcases hOR.out with ⟨rfl, hlong⟩ | ⟨rfl, rfl, rfl, hF, hLL, hshort⟩
    · have HN : Hid (stepC m c = none) := hid_ (by rw [HST.out, if_neg (fun h => by have := h.1; omega)])
      clear hlong hOR
      have s0 := E3.out.free 0
      have s1 := E3.out.free 1
      have s2 := E3.out.free 2
      have s3 := E3.out.free 3
      have r0 := E3.out.cell 0
      have r1 := E3.out.cell 1
      have r2 := E3.out.cell 2
      have r3 := E3.out.cell 3
      simp at r0 r1 r2 r3
      go_wp2_with fail
      have BZ := (((E3.out.set_ 0 (.int .i64 0)).set_ 1 (.int .i64 0)).set_ 2 (.int .i64 0)).set_ 3 (.slice none 0 0)
      have e0 := BZ.cell 0
      have e1 := BZ.cell 1
      have e2 := BZ.cell 2
      have e3 := BZ.cell 3
      simp at e0 e1 e2 e3
      refine bodyPost_ret (v := .tuple #[.agg #[.int .i64 0, .int .i64 0, .int .i64 0, .slice none 0 0], .bool false]) (by simp [results, Tryd.results18, go_sem, e0, e1, e2, e3]) rfl ?_
      exact ⟨⟨0, 0, 0, []⟩, none, 0, by rw [HN.out]; rfl, by rw [HN.out]; rfl, Elems.nil _ _, (((hwZ.setCell (by simp; omega) _).setCell (by simp; omega) _).setCell (by simp; omega) _).setCell (by simp; omega) _, .inl rfl⟩
    · have hst : stepC m c = if L.length ≤ 100000 ∧ inR (c.pos + r.m) = true ∧ inR F' = true then some ⟨r.n, c.pos + r.m, F', L⟩ else none := by rw [HST.out, ← hF, ← hLL]
      clear hF hLL hshort hOR
      rcases stepC_fits HVW.out.1 HVW.out.2.1 HVW.out.2.2 hst with ⟨hft, hs1⟩ | ⟨hft, hs1⟩
      · clear hst
        have HFT : Hid (∀ X, MachIn X X.heap.size (.slice (some ⟨b2, o2, none⟩) m.rules.length c2) m → Elems X X.heap.size (.slice A' L.length d') (ints L) → Calls Tryd.prog 14 #[.agg #[.int .i64 m.states, .int .i64 m.symbols, .slice (some ⟨b2, o2, none⟩) m.rules.length c2], .agg #[.int .i64 r.n, .int .i64 (c.pos + r.m), .int .i64 F', .slice A' L.length d']] X fun e w' => e = .returned (.bool true) ∧ Below X.heap.size X w') := hid_ (fun X h1 h2 => by
          have := rfits_any m ⟨r.n, c.pos + r.m, F', L⟩ _ _ X h1 h2 (by show L.length ≤ _; omega)
          rw [hft] at this
          exact this)
        have HN := hid_ hs1
        clear hft hs1
        have p0 := E1.out.cell 0
        have p1 := E1.out.cell 1
        have p2 := E1.out.cell 2
        have o0 := EO.out.cell 0
        have o1 := EO.out.cell 1
        have o2 := EO.out.cell 2
        have o3 := EO.out.cell 3
        simp at p0 p1 p2 o0 o1 o2 o3
        go_upto_region 6 with (go_at_call 14; (with_reducible refine (HFT.out Z EM.out EL.out).mono ?_); rintro e w5 ⟨rfl, hz5⟩)
        have G3 := hid_ (E3.out.to hz5)
        have GO := hid_ (EO.out.to hz5)
        have GL := hid_ (EL.out.to hz5)
        have hw5 := bnext hwZ hz5
        have hZ5 := E3.out.lt
        have hZ6 := hz5.size
        clear hz5 E1 E3 EM EO EL p0 p1 p2 o0 o1 o2 o3 hwZ
        have o0 := GO.out.cell 0
        have o1 := GO.out.cell 1
        have o2 := GO.out.cell 2
        have o3 := GO.out.cell 3
        simp at o0 o1 o2 o3
        have s0 := G3.out.free 0
        have s1 := G3.out.free 1
        have s2 := G3.out.free 2
        have s3 := G3.out.free 3
        have r0 := G3.out.cell 0
        have r1 := G3.out.cell 1
        have r2 := G3.out.cell 2
        have r3 := G3.out.cell 3
        simp at r0 r1 r2 r3
        go_wp2_with fail
        have BZ := (((G3.out.set_ 0 (.int .i64 r.n)).set_ 1 (.int .i64 (c.pos + r.m))).set_ 2 (.int .i64 F')).set_ 3 (.slice A' L.length d')
        have e0 := BZ.cell 0
        have e1 := BZ.cell 1
        have e2 := BZ.cell 2
        have e3 := BZ.cell 3
        simp at e0 e1 e2 e3
        refine bodyPost_ret (v := .tuple #[.agg #[.int .i64 r.n, .int .i64 (c.pos + r.m), .int .i64 F', .slice A' L.length d'], .bool true]) (by simp [results, Tryd.results18, go_sem, e0, e1, e2, e3]) rfl ?_
        have hne : (Value.slice A' L.length d').ownBlock ≠ some (w.heap.size + 1 + 1) := HFR.out.ne (by omega)
        have hEZ := elems_out (p := ⟨w.heap.size + 1 + 1, 3, none⟩) (u := .slice A' L.length d') (elems_out (p := ⟨w.heap.size + 1 + 1, 2, none⟩) (u := .int .i64 F') (elems_out (p := ⟨w.heap.size + 1 + 1, 1, none⟩) (u := .int .i64 (c.pos + r.m)) (elems_out (p := ⟨w.heap.size + 1 + 1, 0, none⟩) (u := .int .i64 r.n) GL.out hne) hne) hne) hne
        exact ⟨⟨r.n, c.pos + r.m, F', L⟩, A', d', by rw [HN.out]; rfl, by rw [HN.out]; rfl, hEZ, (((hw5.setCell (by simp; omega) _).setCell (by simp; omega) _).setCell (by simp; omega) _).setCell (by simp; omega) _, HFR2.out⟩
      · clear hst
        have HFT : Hid (∀ X, MachIn X X.heap.size (.slice (some ⟨b2, o2, none⟩) m.rules.length c2) m → Elems X X.heap.size (.slice A' L.length d') (ints L) → Calls Tryd.prog 14 #[.agg #[.int .i64 m.states, .int .i64 m.symbols, .slice (some ⟨b2, o2, none⟩) m.rules.length c2], .agg #[.int .i64 r.n, .int .i64 (c.pos + r.m), .int .i64 F', .slice A' L.length d']] X fun e w' => e = .returned (.bool false) ∧ Below X.heap.size X w') := hid_ (fun X h1 h2 => by
          have := rfits_any m ⟨r.n, c.pos + r.m, F', L⟩ _ _ X h1 h2 (by show L.length ≤ _; omega)
          rw [hft] at this
          exact this)
        have HN := hid_ hs1
        clear hft hs1
        have p0 := E1.out.cell 0
        have p1 := E1.out.cell 1
        have p2 := E1.out.cell 2
        have o0 := EO.out.cell 0
        have o1 := EO.out.cell 1
        have o2 := EO.out.cell 2
        have o3 := EO.out.cell 3
        simp at p0 p1 p2 o0 o1 o2 o3
        go_upto_region 5 with (go_at_call 14; (with_reducible refine (HFT.out Z EM.out EL.out).mono ?_); rintro e w5 ⟨rfl, hz5⟩)
        have G3 := hid_ (E3.out.to hz5)
        have GO := hid_ (EO.out.to hz5)
        have GL := hid_ (EL.out.to hz5)
        have hw5 := bnext hwZ hz5
        have hZ5 := E3.out.lt
        have hZ6 := hz5.size
        clear hz5 E1 E3 EM EO EL p0 p1 p2 o0 o1 o2 o3 hwZ
        have s0 := G3.out.free 0
        have s1 := G3.out.free 1
        have s2 := G3.out.free 2
        have s3 := G3.out.free 3
        have r0 := G3.out.cell 0
        have r1 := G3.out.cell 1
        have r2 := G3.out.cell 2
        have r3 := G3.out.cell 3
        simp at r0 r1 r2 r3
        go_wp2_with fail
        have BZ := (((G3.out.set_ 0 (.int .i64 0)).set_ 1 (.int .i64 0)).set_ 2 (.int .i64 0)).set_ 3 (.slice none 0 0)
        have e0 := BZ.cell 0
        have e1 := BZ.cell 1
        have e2 := BZ.cell 2
        have e3 := BZ.cell 3
        simp at e0 e1 e2 e3
        refine bodyPost_ret (v := .tuple #[.agg #[.int .i64 0, .int .i64 0, .int .i64 0, .slice none 0 0], .bool false]) (by simp [results, Tryd.results18, go_sem, e0, e1, e2, e3]) rfl ?_
        exact ⟨⟨0, 0, 0, []⟩, none, 0, by rw [HN.out]; rfl, by rw [HN.out]; rfl, Elems.nil _ _, (((hw5.setCell (by simp; omega) _).setCell (by simp; omega) _).setCell (by simp; omega) _).setCell (by simp; omega) _, .inl rfl⟩
end Go.Proofs.YtkbaiegfloajlaaDoor.Tp

/- Contracts: Shift of the specification. -/
import Derived.Test.YtkbaiegfloajlaaDoorYe
import Derived.Test.YtkbaiegfloajlaaDoorXh
namespace Go.Proofs.YtkbaiegfloajlaaDoor.Tp

theorem okR_is {m : MachS} {ss xs : List Int} (hv : validM m = true) : okR m ss xs = (permB ss && permB xs && decide ((ss.length : Int) = m.states) && decide ((xs.length : Int) = m.symbols)) := by
  obtain ⟨v1, v2, v3, v4, _⟩ := validM_parts hv
  unfold okR
  by_cases h1 : (ss.length : Int) = m.states
  · by_cases h2 : (xs.length : Int) = m.symbols
    · rw [decide_eq_true h1, decide_eq_true h2, decide_eq_true (show ss.length ≤ 6 by omega), decide_eq_true (show xs.length ≤ 6 by omega)]
      cases permB ss <;> cases permB xs <;> rfl
    · rw [decide_eq_false h2]
      simp
  · rw [decide_eq_false h1]
    simp
theorem okN_is {c : CfgS} {ss xs : List Int} (hs : someC c = true) : okN c ss xs = (permB ss && permB xs && decide (ss.length ≤ 6) && decide (xs.length ≤ 4) && withinC c (ss.length : Int) (xs.length : Int)) := by
  obtain ⟨w1, w2, w3, w4, w5, w6, w7⟩ := within_iff.1 hs
  unfold okN
  by_cases h1 : ss.length ≤ 6
  · by_cases h2 : xs.length ≤ 4
    · rw [decide_eq_true h1, decide_eq_true h2, decide_eq_true (show xs.length ≤ 6 by omega)]
      have hw : withinC c (ss.length : Int) (xs.length : Int) = (decide (c.st < (ss.length : Int)) && c.cells.all (fun x => decide (x < (xs.length : Int)))) := by
        rw [Bool.eq_iff_iff, within_iff]
        simp only [Bool.and_eq_true, decide_eq_true_eq, List.all_eq_true, symB]
        constructor
        · rintro ⟨_, g2, _, _, _, _, g7⟩
          exact ⟨g2, fun x hx => (g7 x hx).2⟩
        · rintro ⟨g2, g7⟩
          exact ⟨w1, g2, w3, w4, w5, w6, fun x hx => ⟨by
            have := List.all_eq_true.1 w7 x hx
            simp only [symB, Bool.and_eq_true, decide_eq_true_eq] at this
            exact this.1, g7 x hx⟩⟩
      rw [hw]
      cases permB ss <;> cases permB xs <;> simp
    · rw [decide_eq_false h2]
      simp
  · rw [decide_eq_false h1]
    simp
/-- What Shift of the specification returns. -/
def rshiftC (c : CfgS) (k : Int) : Option CfgS := if k < -4398046511104 ∨ 4398046511104 < k then none else if someC (shiftO c k) = true then some (shiftO c k) else none
theorem shift_is {c : CfgS} {k : Int} (hs : someC c = true) : shiftC c k = match rshiftC c k with
    | none => (noC, 2)
    | some d => (d, 0) := by
  obtain ⟨w1, w2, w3, w4, w5, w6, w7⟩ := within_iff.1 hs
  have w3' : -1099511627776 ≤ c.pos ∧ c.pos ≤ 1099511627776 := inR_iff.1 w3
  rw [shiftC, if_neg (by rw [hs]; simp), rshiftC]
  by_cases h1 : k < -4398046511104 ∨ 4398046511104 < k
  · rw [if_pos h1, if_pos (by omega)]
  · rw [if_neg h1]
    by_cases h2 : k < -2199023255552 ∨ 2199023255552 < k
    · rw [if_pos h2]
      have : someC (shiftO c k) = false := by
        cases h : someC (shiftO c k) with
        | false => rfl
        | true =>
          have h3 : -1099511627776 ≤ c.pos + k ∧ c.pos + k ≤ 1099511627776 := inR_iff.1 (within_iff.1 h).2.2.1
          omega
      rw [this]
      rfl
    · rw [if_neg h2]
      cases h : someC (shiftO c k) <;> rfl
end Go.Proofs.YtkbaiegfloajlaaDoor.Tp
namespace Go.Proofs.YtkbaiegfloajlaaDoor.Tp
open Go.RowKit

def RShRan (c : CfgS) (k : Int) (w : World) (e : Ending) (w' : World) : Prop :=
  ∃ (q : CfgS) (A : Option Addr) (d : Nat), e = .returned (.tuple #[.agg #[.int .i64 q.st, .int .i64 q.pos, .int .i64 q.frm, .slice A q.cells.length d], .bool (rshiftC c k).isSome]) ∧ q = (rshiftC c k).getD noC ∧ Elems w' w'.heap.size (.slice A q.cells.length d) (ints q.cells) ∧ Below w.heap.size w w'
def OutC (W : World) (s p f : Int) (l : List Int) (u : Value) (wx : World) : Prop :=
  ∃ a A9 c9, u = .pointer (some ⟨a, 0, none⟩) ∧ Blk wx a 27 #[.int .i64 s, .int .i64 p, .int .i64 f, .slice A9 l.length c9] ∧ W.heap.size ≤ a ∧ wx.ownsRow W.heap.size 3 1 (.slice A9 l.length c9) l.length (ints l) ∧ some a ≠ (Value.slice A9 l.length c9).ownBlock ∧ Below W.heap.size W wx
theorem outc_new {W w1 : World} {A : Option Addr} {c : Nat} {s p f : Int} {l : List Int} (h : w1.ownsRow W.heap.size 3 1 (.slice A l.length c) l.length (ints l)) (hb : Below W.heap.size W w1) : OutC W s p f l (.pointer (some ⟨w1.heap.size, 0, none⟩)) (w1.alloc (.cells #[.int .i64 s, .int .i64 p, .int .i64 f, .slice A l.length c] 27)) :=
  ⟨_, A, c, rfl, Blk.new _ _ _, hb.size, h.alloc _, fun e => by have := (h.lt _ e.symm).2; omega, bnext hb (below1 w1 _)⟩
theorem outc_set {W w1 : World} {A : Option Addr} {c g : Nat} {s p f : Int} {l : List Int} {a0 a1 a2 a3 : Value} (h : w1.ownsRow W.heap.size 3 1 (.slice A l.length c) l.length (ints l)) (hb : Below W.heap.size W w1) (hk : Blk w1 g 27 #[a0, a1, a2, a3]) (hg : W.heap.size ≤ g) (hne : some g ≠ (Value.slice A l.length c).ownBlock) :
    OutC W s p f l (.pointer (some ⟨g, 0, none⟩)) ((((w1.setCell ⟨g, 0, none⟩ (.int .i64 s)).setCell ⟨g, 1, none⟩ (.int .i64 p)).setCell ⟨g, 2, none⟩ (.int .i64 f)).setCell ⟨g, 3, none⟩ (.slice A l.length c)) :=
  ⟨_, A, c, rfl, by simpa using (((hk.set_ 0 (.int .i64 s)).set_ 1 (.int .i64 p)).set_ 2 (.int .i64 f)).set_ 3 (.slice A l.length c), hg, ownsRow_setCell_other (a := ⟨g, 3, none⟩) (ownsRow_setCell_other (a := ⟨g, 2, none⟩) (ownsRow_setCell_other (a := ⟨g, 1, none⟩) (ownsRow_setCell_other (a := ⟨g, 0, none⟩) h (fun e => hne e.symm) _) (fun e => hne e.symm) _) (fun e => hne e.symm) _) (fun e => hne e.symm) _, hne, (((hb.setCell hg _).setCell hg _).setCell hg _).setCell hg _⟩

set_option maxRecDepth 100000 in
set_option maxHeartbeats 8000000 in
theorem rshift_any (c : CfgS) (k : Int) (v : Value) (w : World) (hE : Elems w w.heap.size v (ints c.cells)) (hs : someC c = true) :
    Calls Tryd.prog 63 #[.agg #[.int .i64 c.st, .int .i64 c.pos, .int .i64 c.frm, v], .int .i64 k] w (RShRan c k w) := by
  obtain ⟨A, cc, rfl⟩ := hE.form
  rw [ints_len] at hE ⊢
  have hbW := below2 w (.cells #[.int .i64 c.st, .int .i64 c.pos, .int .i64 c.frm, .slice A c.cells.length cc] 27) (.cells #[.int .i64 0, .int .i64 0, .int .i64 0, .slice none 0 0] 27)
  have HE := hid_ (hE.to hbW)
  have B1 := (Blk.new w 27 #[.int .i64 c.st, .int .i64 c.pos, .int .i64 c.frm, .slice A c.cells.length cc]).alloc (.cells #[.int .i64 0, .int .i64 0, .int .i64 0, .slice none 0 0] 27)
  have B2 := Blk.new (w.alloc (.cells #[.int .i64 c.st, .int .i64 c.pos, .int .i64 c.frm, .slice A c.cells.length cc] 27)) 27 #[.int .i64 0, .int .i64 0, .int .i64 0, .slice none 0 0]
  rw [show (w.alloc (.cells #[.int .i64 c.st, .int .i64 c.pos, .int .i64 c.frm, .slice A c.cells.length cc] 27)).heap.size = w.heap.size + 1 by simp] at B2
  have HB1 := hid_ B1
  have HB2 := hid_ B2
  clear hE B1 B2
  go_enter Tryd.func63, Tryd.ntmps63
  go_upto_region 1 with fail
  generalize (w.alloc (.cells #[.int .i64 c.st, .int .i64 c.pos, .int .i64 c.frm, .slice A c.cells.length cc] 27)).alloc (.cells #[.int .i64 0, .int .i64 0, .int .i64 0, .slice none 0 0] 27) = W at *
  have q0 := HB1.out.cell 0
  have q1 := HB1.out.cell 1
  have q2 := HB1.out.cell 2
  have q3 := HB1.out.cell 3
  simp at q0 q1 q2 q3
  by_cases hk : k < -4398046511104 ∨ 4398046511104 < k
  · have HN : Hid (rshiftC c k = none) := hid_ (by rw [rshiftC, if_pos hk])
    rcases hk with h | h
    · clear q0 q1 q2 q3
      have s0 := HB2.out.free 0
      have s1 := HB2.out.free 1
      have s2 := HB2.out.free 2
      have s3 := HB2.out.free 3
      have r0 := HB2.out.cell 0
      have r1 := HB2.out.cell 1
      have r2 := HB2.out.cell 2
      have r3 := HB2.out.cell 3
      simp at r0 r1 r2 r3
      go_wp2_with fail
      have BZ := ((((HB2.out).set_ 0 (.int .i64 0)).set_ 1 (.int .i64 0)).set_ 2 (.int .i64 0)).set_ 3 (.slice none 0 0)
      have e0 := BZ.cell 0
      have e1 := BZ.cell 1
      have e2 := BZ.cell 2
      have e3 := BZ.cell 3
      simp at e0 e1 e2 e3
      refine bodyPost_ret (v := .tuple #[.agg #[.int .i64 0, .int .i64 0, .int .i64 0, .slice none 0 0], .bool false]) (by simp [results, Tryd.results63, go_sem, e0, e1, e2, e3]) rfl ?_
      exact ⟨noC, none, 0, by rw [HN.out]; rfl, by rw [HN.out]; rfl, Elems.nil _ _, ((((hbW).setCell (by simp <;> omega) _).setCell (by simp <;> omega) _).setCell (by simp <;> omega) _).setCell (by simp <;> omega) _⟩
    · have h2 : ¬ k < -4398046511104 := by omega
      clear q0 q1 q2 q3
      have s0 := HB2.out.free 0
      have s1 := HB2.out.free 1
      have s2 := HB2.out.free 2
      have s3 := HB2.out.free 3
      have r0 := HB2.out.cell 0
      have r1 := HB2.out.cell 1
      have r2 := HB2.out.cell 2
      have r3 := HB2.out.cell 3
      simp at r0 r1 r2 r3
      go_wp2_with fail
      have BZ := ((((HB2.out).set_ 0 (.int .i64 0)).set_ 1 (.int .i64 0)).set_ 2 (.int .i64 0)).set_ 3 (.slice none 0 0)
      have e0 := BZ.cell 0
      have e1 := BZ.cell 1
      have e2 := BZ.cell 2
      have e3 := BZ.cell 3
      simp at e0 e1 e2 e3
      refine bodyPost_ret (v := .tuple #[.agg #[.int .i64 0, .int .i64 0, .int .i64 0, .slice none 0 0], .bool false]) (by simp [results, Tryd.results63, go_sem, e0, e1, e2, e3]) rfl ?_
      exact ⟨noC, none, 0, by rw [HN.out]; rfl, by rw [HN.out]; rfl, Elems.nil _ _, ((((hbW).setCell (by simp <;> omega) _).setCell (by simp <;> omega) _).setCell (by simp <;> omega) _).setCell (by simp <;> omega) _⟩
  obtain ⟨h1, h2⟩ : ¬ k < -4398046511104 ∧ ¬ 4398046511104 < k := by omega
  have HS := hid_ hs
  obtain ⟨w1, w2, w3, w4, w5, _, _⟩ := within_iff.1 hs
  have w3 := inR_iff.1 w3
  have w4 := inR_iff.1 w4
  have w3' : -1099511627776 ≤ c.pos ∧ c.pos ≤ 1099511627776 := w3
  have w4' : -1099511627776 ≤ c.frm ∧ c.frm ≤ 1099511627776 := w4
  have hln : c.cells.length ≤ 100000 := w5
  have m1 : IntKind.i64.wrap (c.pos + k) = c.pos + k := IntWalk.i64_in _ (by omega)
  have m2 : IntKind.i64.wrap (c.frm + k) = c.frm + k := IntWalk.i64_in _ (by omega)
  have HR : Hid (rshiftC c k = if someC (shiftO c k) = true then some (shiftO c k) else none) := hid_ (by rw [rshiftC, if_neg hk])
  clear hs hk w1 w2 w3 w4 w5 w3' w4'
  obtain ⟨i0, hi, hz0, hz1, hz2⟩ := info_parts Tryd.infoI
  have h63 : 0 + (ints c.cells).length ≤ maxLen := by rw [ints_len]; unfold maxLen; omega
  have hby : (0 + (ints c.cells).length) * 8 ≤ 140737488355328 := by rw [ints_len]; omega
  have HLD : Hid ((ints c.cells).length = c.cells.length) := hid_ ints_len
  have HB3 : Hid (Below W.heap.size W ((W.alloc (.cells #[] 3)).drew)) := hid_ (below1 W _).drew
  have HO3 : Hid ((((W.alloc (.cells #[] 3)).drew)).ownsRow W.heap.size 3 1 (.slice (some ⟨W.heap.size, 0, none⟩) 0 0) 0 []) := hid_ (own_empty W 3)
  have HT3 : Hid (Elems ((W.alloc (.cells #[] 3)).drew) ((W.alloc (.cells #[] 3)).drew).heap.size (.slice A c.cells.length cc) (ints c.cells)) := hid_ (HE.out.to HB3.out)
  have HS3 : Hid (W.heap.size ≤ ((W.alloc (.cells #[] 3)).drew).heap.size) := hid_ HB3.out.size
  have HB4 : Hid (Below W.heap.size W (((W.alloc (.cells #[.int .i64 0, .int .i64 0, .int .i64 0, .slice none 0 0] 27)).alloc (.cells #[] 3)).drew)) := hid_ (below2 W _ _).drew
  have HO4 : Hid (((((W.alloc (.cells #[.int .i64 0, .int .i64 0, .int .i64 0, .slice none 0 0] 27)).alloc (.cells #[] 3)).drew)).ownsRow W.heap.size 3 1 (.slice (some ⟨W.heap.size + 1, 0, none⟩) 0 0) 0 []) := hid_ (show ((W.alloc (.cells #[.int .i64 0, .int .i64 0, .int .i64 0, .slice none 0 0] 27)).alloc (.cells #[] 3)).ownsRow W.heap.size 3 1 (.slice (some ⟨W.heap.size + 1, 0, none⟩) 0 0) 0 [] from (by have h := own_base (B' := W.heap.size) (own_empty (W.alloc (.cells #[.int .i64 0, .int .i64 0, .int .i64 0, .slice none 0 0] 27)) 3) (by simp); simpa using h))
  have HT4 : Hid (Elems (((W.alloc (.cells #[.int .i64 0, .int .i64 0, .int .i64 0, .slice none 0 0] 27)).alloc (.cells #[] 3)).drew) (((W.alloc (.cells #[.int .i64 0, .int .i64 0, .int .i64 0, .slice none 0 0] 27)).alloc (.cells #[] 3)).drew).heap.size (.slice A c.cells.length cc) (ints c.cells)) := hid_ (HE.out.to HB4.out)
  have HS4 : Hid (W.heap.size ≤ (((W.alloc (.cells #[.int .i64 0, .int .i64 0, .int .i64 0, .slice none 0 0] 27)).alloc (.cells #[] 3)).drew).heap.size) := hid_ HB4.out.size
  have HB5 : Hid (Below W.heap.size W (((W.alloc (.cells #[] 3)).alloc (.cells #[.int .i64 0, .int .i64 0, .int .i64 0, .slice none 0 0] 27)).drew)) := hid_ (below2 W _ _).drew
  have HO5 : Hid (((((W.alloc (.cells #[] 3)).alloc (.cells #[.int .i64 0, .int .i64 0, .int .i64 0, .slice none 0 0] 27)).drew)).ownsRow W.heap.size 3 1 (.slice (some ⟨W.heap.size, 0, none⟩) 0 0) 0 []) := hid_ ((own_empty W 3).alloc (.cells #[.int .i64 0, .int .i64 0, .int .i64 0, .slice none 0 0] 27))
  have HT5 : Hid (Elems (((W.alloc (.cells #[] 3)).alloc (.cells #[.int .i64 0, .int .i64 0, .int .i64 0, .slice none 0 0] 27)).drew) (((W.alloc (.cells #[] 3)).alloc (.cells #[.int .i64 0, .int .i64 0, .int .i64 0, .slice none 0 0] 27)).drew).heap.size (.slice A c.cells.length cc) (ints c.cells)) := hid_ (HE.out.to HB5.out)
  have HS5 : Hid (W.heap.size ≤ (((W.alloc (.cells #[] 3)).alloc (.cells #[.int .i64 0, .int .i64 0, .int .i64 0, .slice none 0 0] 27)).drew).heap.size) := hid_ HB5.out.size
  have HZ4 : Hid ((((W.alloc (.cells #[.int .i64 0, .int .i64 0, .int .i64 0, .slice none 0 0] 27)).alloc (.cells #[] 3)).drew).heap.size = W.heap.size + 1 + 1) := hid_ (by show ((W.alloc (.cells #[.int .i64 0, .int .i64 0, .int .i64 0, .slice none 0 0] 27)).alloc (.cells #[] 3)).heap.size = _; simp)
  have HK4 : Hid (Blk (((W.alloc (.cells #[.int .i64 0, .int .i64 0, .int .i64 0, .slice none 0 0] 27)).alloc (.cells #[] 3)).drew) W.heap.size 27 #[.int .i64 0, .int .i64 0, .int .i64 0, .slice none 0 0]) := hid_ ((Blk.new W _ _).alloc _)
  have HZ5 : Hid ((((W.alloc (.cells #[] 3)).alloc (.cells #[.int .i64 0, .int .i64 0, .int .i64 0, .slice none 0 0] 27)).drew).heap.size = W.heap.size + 1 + 1) := hid_ (by show ((W.alloc (.cells #[] 3)).alloc (.cells #[.int .i64 0, .int .i64 0, .int .i64 0, .slice none 0 0] 27)).heap.size = _; simp)
  have HK5 : Hid (Blk (((W.alloc (.cells #[] 3)).alloc (.cells #[.int .i64 0, .int .i64 0, .int .i64 0, .slice none 0 0] 27)).drew) (W.heap.size + 1) 27 #[.int .i64 0, .int .i64 0, .int .i64 0, .slice none 0 0]) := hid_ (show Blk ((W.alloc (.cells #[] 3)).alloc (.cells #[.int .i64 0, .int .i64 0, .int .i64 0, .slice none 0 0] 27)) (W.heap.size + 1) 27 #[.int .i64 0, .int .i64 0, .int .i64 0, .slice none 0 0] from (by have h := Blk.new (W.alloc (.cells #[] 3)) 27 #[.int .i64 0, .int .i64 0, .int .i64 0, .slice none 0 0]; simpa using h))
  go_upto_region 3 with fail
  go_cut [6] (fun s wx => OutC W c.st (c.pos + k) c.frm c.cells s wx)
  case first => as_aux_lemma =>
    go_region_held3 (fun w' => w'.cell? ⟨w.heap.size, 0, none⟩ = some (.int .i64 c.st) ∧ w'.cell? ⟨w.heap.size, 1, none⟩ = some (.int .i64 c.pos) ∧ w'.cell? ⟨w.heap.size, 2, none⟩ = some (.int .i64 c.frm) ∧ w'.cell? ⟨w.heap.size, 3, none⟩ = some (.slice A c.cells.length cc))
      (first
        | (with_reducible assumption)
        | (with_reducible exact ⟨s0, s1, s2, s3⟩)
        | (with_reducible exact ⟨q0, q1, q2, q3⟩)
        | (with_reducible exact (let hb := HB3.out; ⟨keepc hb q0, keepc hb q1, keepc hb q2, keepc hb q3⟩))
        | (with_reducible exact (let hb := HB4.out; ⟨keepc hb q0, keepc hb q1, keepc hb q2, keepc hb q3⟩))
        | (with_reducible exact (let hb := HB5.out; ⟨keepc hb q0, keepc hb q1, keepc hb q2, keepc hb q3⟩))
        | (with_reducible exact (let hb := (below1 W _); ⟨keepc hb q0, keepc hb q1, keepc hb q2, keepc hb q3⟩))
        | (with_reducible exact (let hb := (below1 W _).drew; ⟨keepc hb q0, keepc hb q1, keepc hb q2, keepc hb q3⟩))
        | (with_reducible exact (let hb := (below2 W _ _); ⟨keepc hb q0, keepc hb q1, keepc hb q2, keepc hb q3⟩))
        | (with_reducible exact (let hb := HW1.out; ⟨keepc hb q0, keepc hb q1, keepc hb q2, keepc hb q3⟩))
        | (with_reducible exact (let hb := (bnext HW1.out (below1 w1 _)); ⟨keepc hb q0, keepc hb q1, keepc hb q2, keepc hb q3⟩))
        | (with_reducible exact (let hb := ((((HW1.out.setCell (Nat.le_refl W.heap.size) _).setCell (Nat.le_refl W.heap.size) _).setCell (Nat.le_refl W.heap.size) _).setCell (Nat.le_refl W.heap.size) _); ⟨keepc hb q0, keepc hb q1, keepc hb q2, keepc hb q3⟩))
        | (with_reducible exact (let hb := ((((HW1.out.setCell (Nat.le_succ W.heap.size) _).setCell (Nat.le_succ W.heap.size) _).setCell (Nat.le_succ W.heap.size) _).setCell (Nat.le_succ W.heap.size) _); ⟨keepc hb q0, keepc hb q1, keepc hb q2, keepc hb q3⟩))
        | (with_reducible exact (let hb := (Below.refl W.heap.size W).drew; ⟨keepc hb q0, keepc hb q1, keepc hb q2, keepc hb q3⟩))
        | (trace_state; fail))
      (first
        | ((refine step_append_e (by rfl) _ _ 25 (by rfl) 3 i0 (.int .i64 0) 8 Tryd.underlying25 hi hz0 hz1 hz2 rfl (by rfl) (by rfl) HO3.out HT3.out ints_one h63 hby HS3.out ?_; intro v1 w1 hown1 hg1 hat1; have HW1 : Hid (Below W.heap.size W w1) := hid_ (HB3.out.grown hg1 HS3.out (own_lt HO3.out)); have HO1 : Hid (w1.ownsRow W.heap.size 3 1 v1 c.cells.length (ints c.cells)) := hid_ (by have h := hown1; rw [HLD.out] at h; simpa using h); obtain ⟨A9, c9, rfl⟩ := own_form HO1.out; clear hown1 hg1 hat1))
        | ((refine step_append_e (by rfl) _ _ 25 (by rfl) 3 i0 (.int .i64 0) 8 Tryd.underlying25 hi hz0 hz1 hz2 rfl (by rfl) (by rfl) HO4.out HT4.out ints_one h63 hby HS4.out ?_; intro v1 w1 hown1 hg1 hat1; have HW1 : Hid (Below W.heap.size W w1) := hid_ (HB4.out.grown hg1 HS4.out (own_lt HO4.out)); have HO1 : Hid (w1.ownsRow W.heap.size 3 1 v1 c.cells.length (ints c.cells)) := hid_ (by have h := hown1; rw [HLD.out] at h; simpa using h); have HNE : Hid (some (W.heap.size) ≠ v1.ownBlock) := hid_ (fun e => by rcases hat1 with h | h; (rw [h] at e; simp [Value.ownBlock] at e); (rw [h, HZ4.out] at e; injection e with e; omega)); have BK := HK4.out.grownby hg1 (by simp [Value.ownBlock]); have k0 := BK.cell 0; have k1 := BK.cell 1; have k2 := BK.cell 2; have k3 := BK.cell 3; have kf0 := BK.free 0; have kf1 := BK.free 1; have kf2 := BK.free 2; have kf3 := BK.free 3; have HBK := hid_ BK; simp at k0 k1 k2 k3; clear BK; obtain ⟨A9, c9, rfl⟩ := own_form HO1.out; clear hown1 hg1 hat1; have hSB := ((((HW1.out.setCell (p := ⟨W.heap.size, 0, none⟩) (by show W.heap.size ≤ W.heap.size; omega) (.int .i64 c.st)).setCell (p := ⟨W.heap.size, 1, none⟩) (by show W.heap.size ≤ W.heap.size; omega) (.int .i64 (c.pos + k))).setCell (p := ⟨W.heap.size, 2, none⟩) (by show W.heap.size ≤ W.heap.size; omega) (.int .i64 c.frm)).setCell (p := ⟨W.heap.size, 3, none⟩) (by show W.heap.size ≤ W.heap.size; omega) (.slice A9 c.cells.length c9)); have s0 := keepc hSB q0; have s1 := keepc hSB q1; have s2 := keepc hSB q2; have s3 := keepc hSB q3; clear hSB))
        | ((refine step_append_e (by rfl) _ _ 25 (by rfl) 3 i0 (.int .i64 0) 8 Tryd.underlying25 hi hz0 hz1 hz2 rfl (by rfl) (by rfl) HO5.out HT5.out ints_one h63 hby HS5.out ?_; intro v1 w1 hown1 hg1 hat1; have HW1 : Hid (Below W.heap.size W w1) := hid_ (HB5.out.grown hg1 HS5.out (own_lt HO5.out)); have HO1 : Hid (w1.ownsRow W.heap.size 3 1 v1 c.cells.length (ints c.cells)) := hid_ (by have h := hown1; rw [HLD.out] at h; simpa using h); have HNE : Hid (some (W.heap.size + 1) ≠ v1.ownBlock) := hid_ (fun e => by rcases hat1 with h | h; (rw [h] at e; simp [Value.ownBlock] at e); (rw [h, HZ5.out] at e; injection e with e; omega)); have BK := HK5.out.grownby hg1 (by simp [Value.ownBlock]); have k0 := BK.cell 0; have k1 := BK.cell 1; have k2 := BK.cell 2; have k3 := BK.cell 3; have kf0 := BK.free 0; have kf1 := BK.free 1; have kf2 := BK.free 2; have kf3 := BK.free 3; have HBK := hid_ BK; simp at k0 k1 k2 k3; clear BK; obtain ⟨A9, c9, rfl⟩ := own_form HO1.out; clear hown1 hg1 hat1; have hSB := ((((HW1.out.setCell (p := ⟨(W.heap.size + 1), 0, none⟩) (by show W.heap.size ≤ (W.heap.size + 1); omega) (.int .i64 c.st)).setCell (p := ⟨(W.heap.size + 1), 1, none⟩) (by show W.heap.size ≤ (W.heap.size + 1); omega) (.int .i64 (c.pos + k))).setCell (p := ⟨(W.heap.size + 1), 2, none⟩) (by show W.heap.size ≤ (W.heap.size + 1); omega) (.int .i64 c.frm)).setCell (p := ⟨(W.heap.size + 1), 3, none⟩) (by show W.heap.size ≤ (W.heap.size + 1); omega) (.slice A9 c.cells.length c9)); have s0 := keepc hSB q0; have s1 := keepc hSB q1; have s2 := keepc hSB q2; have s3 := keepc hSB q3; clear hSB)))
    all_goals
      go_wp2_with fail
      go_meet
      first
        | exact outc_new HO1.out HW1.out
        | exact outc_set HO1.out HW1.out HBK.out (by omega) HNE.out
  case rest => as_aux_lemma =>
    obtain ⟨a, A9, c9, rfl, hB, ha, hO, hne, hbc⟩ := hcut
    obtain ⟨X, rfl⟩ : ∃ X : World, X = wc := ⟨_, rfl⟩
    have ho1 := HB2.out.lt
    have HB20 := HB2
    have HB1 := hid_ (HB1.out.to hbc)
    have hbW0 := hbW
    have hbX := hbc
    have HA := hid_ hB
    have HG := hid_ (own_elems9 hO ints_len)
    have HOL : Hid (∀ q, (Value.slice A9 c.cells.length c9).ownBlock = some q → W.heap.size ≤ q) := hid_ (own_lt hO)
    have HNE := hid_ hne
    clear hB hO hne hbc HE HB2 hbW q0 q1 q2 q3 HB3 HO3 HT3 HS3 HB4 HO4 HT4 HS4 HB5 HO5 HT5 HS5 HZ4 HZ5 HK4 HK5 hi hz0 hz1 hz2 h63 hby HLD
    obtain ⟨F, hF⟩ : ∃ F, F = (shiftO c k).frm := ⟨_, rfl⟩
    have HF := hid_ hF
    clear hF
    have q2 := HB1.out.cell 2
    have q3 := HB1.out.cell 3
    have y2 := HA.out.cell 2
    have f2 := HA.out.free 2
    simp at q2 q3 y2
    go_upto_if 30 with fail
    go_cut [] (fun wx => Blk wx a 27 #[.int .i64 c.st, .int .i64 (c.pos + k), .int .i64 F, .slice A9 c.cells.length c9] ∧ Elems wx wx.heap.size (.slice A9 c.cells.length c9) (ints c.cells) ∧ Below W.heap.size W wx)
    case first => as_aux_lemma =>
      by_cases hn : c.cells.length = 0
      · have t6 : ¬ (0 : Int) < (c.cells.length : Int) := by omega
        have HFF : F = c.frm := by rw [HF.out, shiftO]; simp [hn]
        clear HF hn
        subst HFF
        go_wp2_with fail
        go_meet
        exact ⟨HA.out, HG.out, hbX⟩
      · have t6 : (0 : Int) < (c.cells.length : Int) := by omega
        have HFF : F = c.frm + k := by rw [HF.out, shiftO]; simp only; rw [if_neg hn]
        clear HF hn
        subst HFF
        go_wp2_with fail
        go_meet
        exact ⟨HA.out.set_ 2 _, elems_off (p := ⟨a, 2, none⟩) (u := .int .i64 (c.frm + k)) HG.out (.inr (fun e => HNE.out e.symm)), hbX.setCell ha _⟩
    case rest => as_aux_lemma =>
      obtain ⟨hB, hEg, hbc⟩ := hcut
      obtain ⟨Y, rfl⟩ : ∃ X : World, X = wc := ⟨_, rfl⟩
      have HB2 := hid_ (HB20.out.to hbc)
      have hbY := bnext hbW0 hbc
      have HA := hid_ hB
      have HG := hid_ hEg
      clear hB hEg hbc q2 q3 y2 f2 HB1 HB20 hbW0 hbX
      obtain ⟨bo, hbo⟩ : ∃ b, b = someC (shiftO c k) := ⟨_, rfl⟩
      have HSC : Hid (rshiftC c k = if bo = true then some (shiftO c k) else none) := hid_ (by rw [hbo]; exact HR.out)
      have HFT : Hid (∀ X, Elems X X.heap.size (.slice A9 c.cells.length c9) (ints c.cells) → Calls Tryd.prog 60 #[.agg #[.int .i64 c.st, .int .i64 (c.pos + k), .int .i64 F, .slice A9 c.cells.length c9]] X fun e w' => e = .returned (.bool bo) ∧ Below X.heap.size X w') := hid_ (fun X h => by rw [hbo, HF.out]; exact rsome_any (shiftO c k) _ X h (by show c.cells.length ≤ _; omega))
      clear hbo HR
      have y0 := HA.out.cell 0
      have y1 := HA.out.cell 1
      have y2 := HA.out.cell 2
      have y3 := HA.out.cell 3
      simp at y0 y1 y2 y3
      go_upto_if 38 with (go_at_call 60; (with_reducible refine (HFT.out Y HG.out).mono ?_); rintro e w5 ⟨rfl, hb5⟩)
      have HB2 := hid_ (HB2.out.to hb5)
      have HA := hid_ (HA.out.to hb5)
      have HG := hid_ (HG.out.to hb5)
      have hbY := bnext hbY hb5
      clear hb5 y0 y1 y2 y3 HFT
      cases bo with
      | false =>
        have HN : Hid (rshiftC c k = none) := hid_ (by rw [HSC.out]; simp)
        have s0 := HB2.out.free 0
        have s1 := HB2.out.free 1
        have s2 := HB2.out.free 2
        have s3 := HB2.out.free 3
        have r0 := HB2.out.cell 0
        have r1 := HB2.out.cell 1
        have r2 := HB2.out.cell 2
        have r3 := HB2.out.cell 3
        simp at r0 r1 r2 r3
        go_wp2_with fail
        have BZ := ((((HB2.out).set_ 0 (.int .i64 0)).set_ 1 (.int .i64 0)).set_ 2 (.int .i64 0)).set_ 3 (.slice none 0 0)
        have e0 := BZ.cell 0
        have e1 := BZ.cell 1
        have e2 := BZ.cell 2
        have e3 := BZ.cell 3
        simp at e0 e1 e2 e3
        refine bodyPost_ret (v := .tuple #[.agg #[.int .i64 0, .int .i64 0, .int .i64 0, .slice none 0 0], .bool false]) (by simp [results, Tryd.results63, go_sem, e0, e1, e2, e3]) rfl ?_
        exact ⟨noC, none, 0, by rw [HN.out]; rfl, by rw [HN.out]; rfl, Elems.nil _ _, ((((hbY).setCell (by simp <;> omega) _).setCell (by simp <;> omega) _).setCell (by simp <;> omega) _).setCell (by simp <;> omega) _⟩
      | true =>
        have HN : Hid (rshiftC c k = some (shiftO c k)) := hid_ (by rw [HSC.out]; simp)
        have y0 := HA.out.cell 0
        have y1 := HA.out.cell 1
        have y2 := HA.out.cell 2
        have y3 := HA.out.cell 3
        simp at y0 y1 y2 y3
        have hno : c.cells = [] ∨ (.slice A9 c.cells.length c9 : Value).ownBlock ≠ some (w.heap.size + 1) := .inr (fun e => by have := HOL.out _ e; omega)
        have s0 := HB2.out.free 0
        have s1 := HB2.out.free 1
        have s2 := HB2.out.free 2
        have s3 := HB2.out.free 3
        have r0 := HB2.out.cell 0
        have r1 := HB2.out.cell 1
        have r2 := HB2.out.cell 2
        have r3 := HB2.out.cell 3
        simp at r0 r1 r2 r3
        go_wp2_with fail
        have BZ := ((((HB2.out).set_ 0 (.int .i64 c.st)).set_ 1 (.int .i64 (c.pos + k))).set_ 2 (.int .i64 F)).set_ 3 (.slice A9 c.cells.length c9)
        have e0 := BZ.cell 0
        have e1 := BZ.cell 1
        have e2 := BZ.cell 2
        have e3 := BZ.cell 3
        simp at e0 e1 e2 e3
        refine bodyPost_ret (v := .tuple #[.agg #[.int .i64 c.st, .int .i64 (c.pos + k), .int .i64 F, .slice A9 c.cells.length c9], .bool true]) (by simp [results, Tryd.results63, go_sem, e0, e1, e2, e3]) rfl ?_
        have hEZ := elems_off (p := ⟨w.heap.size + 1, 3, none⟩) (u := .slice A9 c.cells.length c9) (elems_off (p := ⟨w.heap.size + 1, 2, none⟩) (u := .int .i64 F) (elems_off (p := ⟨w.heap.size + 1, 1, none⟩) (u := .int .i64 (c.pos + k)) (elems_off (p := ⟨w.heap.size + 1, 0, none⟩) (u := .int .i64 c.st) (HG.out) hno) hno) hno) hno
        exact ⟨shiftO c k, A9, c9, by rw [HN.out, HF.out]; rfl, by rw [HN.out]; rfl, hEZ, ((((hbY).setCell (by simp <;> omega) _).setCell (by simp <;> omega) _).setCell (by simp <;> omega) _).setCell (by simp <;> omega) _⟩
end Go.Proofs.YtkbaiegfloajlaaDoor.Tp

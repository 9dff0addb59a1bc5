/- Contracts: Reflect of the specification. -/
import Derived.Test.YtkbaiegfloajlaaDoorYb
namespace Go.Proofs.YtkbaiegfloajlaaDoor.Tp
open Go.RowKit

set_option maxRecDepth 100000 in
set_option maxHeartbeats 8000000 in
theorem rreflect_none (c : CfgS) (v : Value) (w : World) (hE : Elems w w.heap.size v (ints c.cells)) (hl : c.cells.length ≤ 100000) (hp : -1099511627776 ≤ c.pos ∧ c.pos ≤ 1099511627776) (hf : -1099511627776 ≤ c.frm ∧ c.frm ≤ 1099511627776) (h0 : c.cells.length = 0) :
    Calls Tryd.prog 61 #[.agg #[.int .i64 c.st, .int .i64 c.pos, .int .i64 c.frm, v]] w fun e w' => ∃ A d, e = .returned (.agg #[.int .i64 c.st, .int .i64 (-c.pos), .int .i64 (reflectO c).frm, .slice A c.cells.length d]) ∧ Elems w' w'.heap.size (.slice A c.cells.length d) (ints c.cells.reverse) ∧ Below w.heap.size w w' := by
  obtain ⟨A, cc, rfl⟩ := hE.form
  rw [ints_len] at hE ⊢
  have hbW := below2 w (.cells #[.int .i64 c.st, .int .i64 c.pos, .int .i64 c.frm, .slice A c.cells.length cc] 27) (.cells #[.int .i64 0, .int .i64 0, .int .i64 0, .slice none 0 0] 27)
  have HE := hid_ (hE.to hbW)
  have B1 := (Blk.new w 27 #[.int .i64 c.st, .int .i64 c.pos, .int .i64 c.frm, .slice A c.cells.length cc]).alloc (.cells #[.int .i64 0, .int .i64 0, .int .i64 0, .slice none 0 0] 27)
  have B2 := Blk.new (w.alloc (.cells #[.int .i64 c.st, .int .i64 c.pos, .int .i64 c.frm, .slice A c.cells.length cc] 27)) 27 #[.int .i64 0, .int .i64 0, .int .i64 0, .slice none 0 0]
  rw [show (w.alloc (.cells #[.int .i64 c.st, .int .i64 c.pos, .int .i64 c.frm, .slice A c.cells.length cc] 27)).heap.size = w.heap.size + 1 by simp] at B2
  have HB1 := hid_ B1
  have HB2 := hid_ B2
  clear hE B1 B2
  have m1 : IntKind.i64.wrap (-c.pos) = -c.pos := IntWalk.i64_in _ (by omega)
  have HTU : Hid (∀ X, Elems X X.heap.size (.slice A c.cells.length cc) (ints c.cells) → Calls Tryd.prog 75 #[.slice A c.cells.length cc] X fun e w' => ∃ g, e = .returned (.slice none 0 0) ∧ Elems w' w'.heap.size (.slice none 0 0) (ints []) ∧ Below X.heap.size X w' ∧ X.heap.size ≤ g ∧ g ≠ w'.heap.size) := hid_ (fun X h => (turned_any c.cells _ _ h (by omega)).mono (fun e w' h => by
    obtain ⟨A', d', h1, h2, h3, h4⟩ := h
    obtain ⟨rfl, rfl⟩ := h4 h0
    rw [h0] at h1
    exact ⟨w'.heap.size + 1, h1, Elems.nil _ _, h3, by have := h3.size; omega, by omega⟩))
  have HH0 := hid_ h0
  have t6 : ¬ (0 : Int) < (c.cells.length : Int) := by omega
  clear h0
  go_enter Tryd.func61, Tryd.ntmps61
  go_upto_region 1 with fail
  generalize (w.alloc (.cells #[.int .i64 c.st, .int .i64 c.pos, .int .i64 c.frm, .slice A c.cells.length cc] 27)).alloc (.cells #[.int .i64 0, .int .i64 0, .int .i64 0, .slice none 0 0] 27) = W at *
  have q0 := HB1.out.cell 0
  have q1 := HB1.out.cell 1
  have q2 := HB1.out.cell 2
  have q3 := HB1.out.cell 3
  simp at q0 q1 q2 q3
  go_cut [3] (fun s wx => ∃ a, s = .pointer (some ⟨a, 0, none⟩) ∧ Blk wx a 27 #[.int .i64 c.st, .int .i64 (-c.pos), .int .i64 0, .slice none 0 0] ∧ W.heap.size ≤ a ∧ Elems wx wx.heap.size (.slice none 0 0) (ints []) ∧ Below W.heap.size W wx)
  case first => as_aux_lemma =>
    go_region_held3 (fun w' => w'.cell? ⟨w.heap.size, 0, none⟩ = some (.int .i64 c.st) ∧ w'.cell? ⟨w.heap.size, 1, none⟩ = some (.int .i64 c.pos) ∧ w'.cell? ⟨w.heap.size, 3, none⟩ = some (.slice A c.cells.length cc) ∧ Below W.heap.size W w')
      (first | assumption | (with_reducible exact (let hb := H3.out; ⟨keepc hb q0, keepc hb q1, keepc hb q3, hb⟩)) | (with_reducible exact (let hb := H3.out.alloc H3.out.size _; ⟨keepc hb q0, keepc hb q1, keepc hb q3, hb⟩)) | (with_reducible exact (let hb := (H3.out.alloc H3.out.size _).drew; ⟨keepc hb q0, keepc hb q1, keepc hb q3, hb⟩)) | (with_reducible exact (let hb := below1 W _; ⟨keepc hb q0, keepc hb q1, keepc hb q3, hb⟩)) | (with_reducible exact (let hb := (below1 W _).drew; ⟨keepc hb q0, keepc hb q1, keepc hb q3, hb⟩)) | (with_reducible exact (let hb := ((((H3.out.setCell (Nat.le_refl W.heap.size) _).setCell (Nat.le_refl W.heap.size) _).setCell (Nat.le_refl W.heap.size) _).setCell (Nat.le_refl W.heap.size) _); ⟨keepc hb q0, keepc hb q1, keepc hb q3, hb⟩)) | (with_reducible exact (let hb := (((((H3.out.alloc H3.out.size _).setCell H3.out.size _).setCell H3.out.size _).setCell H3.out.size _).setCell H3.out.size _); ⟨keepc hb q0, keepc hb q1, keepc hb q3, hb⟩)) | (with_reducible exact (let hb := (Below.refl W.heap.size W).drew; ⟨keepc hb q0, keepc hb q1, keepc hb q3, hb⟩)) | (go_keep; done) | (with_reducible exact (let hb := Below.refl W.heap.size W; ⟨keepc hb q0, keepc hb q1, keepc hb q3, hb⟩)))
      (first
        | (go_at_call 75; (with_reducible refine (HTU.out _ (HE.out.to ((And.right (And.right (And.right (by assumption))))))).mono ?_); rintro e w3 ⟨g, rfl, hEg, hz3, hg1, hg2⟩; have H3 : Hid (Below W.heap.size W w3) := hid_ (bnext ((And.right (And.right (And.right (by assumption))))) hz3); have B0 : Blk ((W.alloc (.cells #[.int .i64 0, .int .i64 0, .int .i64 0, .slice none 0 0] 27)).drew) W.heap.size 27 #[.int .i64 0, .int .i64 0, .int .i64 0, .slice none 0 0] := Blk.new W 27 #[.int .i64 0, .int .i64 0, .int .i64 0, .slice none 0 0]; have BB : Blk w3 W.heap.size 27 #[.int .i64 0, .int .i64 0, .int .i64 0, .slice none 0 0] := (by with_reducible exact Blk.to B0 hz3); have HBB := hid_ BB; have hgw : W.heap.size ≤ g := Nat.le_trans (Below.size ((And.right (And.right (And.right (by assumption)))))) hg1; have hga : g ≠ W.heap.size := (by rw [size_ad] at hg1; omega); have HG := hid_ hEg; have y0 := BB.cell 0; have y1 := BB.cell 1; have y2 := BB.cell 2; have y3 := BB.cell 3; have f0 := BB.free 0; have f1 := BB.free 1; have f2 := BB.free 2; have f3 := BB.free 3; simp at y0 y1 y2 y3; clear hz3 BB B0 hEg hg1)
        | (go_at_call 75; (with_reducible refine (HTU.out _ (HE.out.to ((And.right (And.right (And.right (by assumption))))))).mono ?_); rintro e w3 ⟨g, rfl, hEg, hz3, hg1, hg2⟩; have H3 : Hid (Below W.heap.size W w3) := hid_ (bnext ((And.right (And.right (And.right (by assumption))))) hz3); have hgw : W.heap.size ≤ g := Nat.le_trans (Below.size ((And.right (And.right (And.right (by assumption)))))) hg1; have hga : g ≠ w3.heap.size := (by omega); have HG := hid_ hEg; clear hz3 hEg hg1; have n0 := World.new_ne w3 _ (keepc H3.out q0); have n1 := World.new_ne w3 _ (keepc H3.out q1); have n2 := World.new_ne w3 _ (keepc H3.out q3); simp only at n0 n1 n2; have z1 : ∀ (cs : Array Value) (t : TypeId) (i : Nat), (w3.alloc (.cells cs t)).cell? ⟨w3.heap.size, i, none⟩ = cs[i]? := fun cs t i => (Blk.new w3 t cs).cell i; have z2 : ∀ (cs : Array Value) (t : TypeId) (i : Nat), (w3.alloc (.cells cs t)).frozen? ⟨w3.heap.size, i, none⟩ = false := fun cs t i => (Blk.new w3 t cs).free i; have z3 : ∀ (cs : Array Value) (t : TypeId) (i : Nat) (u : Value), (w3.alloc (.cells cs t)).setCell ⟨w3.heap.size, i, none⟩ u = w3.alloc (.cells (cs.setIfInBounds i u) t) := fun cs t i u => World.setCell_alloc_at (w := w3) _ _ _ _ _ rfl))
    all_goals
      go_wp2_with fail
      go_meet
      first
        | (with_reducible exact ⟨w3.heap.size, rfl, Blk.new w3 _ _, H3.out.size, HG.out.to (below1 w3 _), H3.out.alloc H3.out.size _⟩)
        | (skip
           with_reducible refine ⟨W.heap.size, rfl, ?_, Nat.le_refl _, ?_, ?_⟩
           · exact ((((HBB.out.set_ 0 _).set_ 1 _).set_ 2 _).set_ 3 _)
           · with_reducible exact (elems_off9 (p := ⟨W.heap.size, 3, none⟩) (u := .slice none 0 0) (elems_off9 (p := ⟨W.heap.size, 2, none⟩) (u := .int .i64 0) (elems_off9 (p := ⟨W.heap.size, 1, none⟩) (u := .int .i64 (-c.pos)) (elems_off9 (p := ⟨W.heap.size, 0, none⟩) (u := .int .i64 c.st) HG.out (.inl rfl)) (.inl rfl)) (.inl rfl)) (.inl rfl))
           · with_reducible exact ((((H3.out.setCell (Nat.le_refl _) _).setCell (Nat.le_refl _) _).setCell (Nat.le_refl _) _).setCell (Nat.le_refl _) _))
  case rest => as_aux_lemma =>
  obtain ⟨a, rfl, hB, ha, hEg, hbc⟩ := hcut
  obtain ⟨X, rfl⟩ : ∃ X : World, X = wc := ⟨_, rfl⟩
  have ho1 := HB2.out.lt
  have HA := hid_ hB
  have HG := hid_ hEg
  have q2 := (HB1.out.to hbc).cell 2
  have q3 := (HB1.out.to hbc).cell 3
  have y0 := HA.out.cell 0
  have f2 := HA.out.free 2
  have y2 := HA.out.cell 2
  simp at q2 q3 y0 y2
  clear hB hEg HTU HE q0 q1
  go_upto_if 16 with fail
  go_cut [] (fun wx => Blk wx a 27 #[.int .i64 c.st, .int .i64 (-c.pos), .int .i64 0, .slice none 0 0] ∧ Elems wx wx.heap.size (.slice none 0 0) (ints []) ∧ Below W.heap.size W wx)
  case first => as_aux_lemma =>
    go_wp2_with fail
    go_meet
    exact ⟨HA.out, HG.out, hbc⟩
  case rest => as_aux_lemma =>
  obtain ⟨hB2, hE2, hb2⟩ := hcut
  obtain ⟨Y, rfl⟩ : ∃ Y : World, Y = wc := ⟨_, rfl⟩
  have HA2 := hid_ hB2
  have HG2 := hid_ hE2
  clear hB2 hE2 HA HG hbc
  have HB2y := hid_ (HB2.out.to hb2)
  have hbY := bnext hbW hb2
  clear q2 q3 y0 y2 f2 HB1 HB2
  have y0 := HA2.out.cell 0
  have y1 := HA2.out.cell 1
  have y2 := HA2.out.cell 2
  have y3 := HA2.out.cell 3
  simp at y0 y1 y2 y3
  have s0 := HB2y.out.free 0
  have s1 := HB2y.out.free 1
  have s2 := HB2y.out.free 2
  have s3 := HB2y.out.free 3
  have r0 := HB2y.out.cell 0
  have r1 := HB2y.out.cell 1
  have r2 := HB2y.out.cell 2
  have r3 := HB2y.out.cell 3
  simp at r0 r1 r2 r3
  go_wp2_with fail
  have BZ := ((((HB2y.out).set_ 0 (.int .i64 c.st)).set_ 1 (.int .i64 (-c.pos))).set_ 2 (.int .i64 0)).set_ 3 (.slice none 0 0)
  have e0 := BZ.cell 0
  have e1 := BZ.cell 1
  have e2 := BZ.cell 2
  have e3 := BZ.cell 3
  simp at e0 e1 e2 e3
  refine bodyPost_ret (v := .agg #[.int .i64 c.st, .int .i64 (-c.pos), .int .i64 0, .slice none 0 0]) (by simp [results, Tryd.results61, go_sem, e0, e1, e2, e3]) rfl ?_
  have hf0 : (reflectO c).frm = 0 := by rw [reflectO]; simp only; rw [if_pos HH0.out]
  have hc0 : c.cells = [] := List.eq_nil_of_length_eq_zero HH0.out
  exact ⟨none, 0, by rw [hf0, HH0.out], by rw [hc0]; exact Elems.nil _ _, ((((hbY).setCell (by simp <;> omega) _).setCell (by simp <;> omega) _).setCell (by simp <;> omega) _).setCell (by simp <;> omega) _⟩

set_option maxRecDepth 100000 in
set_option maxHeartbeats 8000000 in
theorem rreflect_some (c : CfgS) (v : Value) (w : World) (hE : Elems w w.heap.size v (ints c.cells)) (hl : c.cells.length ≤ 100000) (hp : -1099511627776 ≤ c.pos ∧ c.pos ≤ 1099511627776) (hf : -1099511627776 ≤ c.frm ∧ c.frm ≤ 1099511627776) (hpos : 0 < c.cells.length) :
    Calls Tryd.prog 61 #[.agg #[.int .i64 c.st, .int .i64 c.pos, .int .i64 c.frm, v]] w fun e w' => ∃ A d, e = .returned (.agg #[.int .i64 c.st, .int .i64 (-c.pos), .int .i64 (reflectO c).frm, .slice A c.cells.length d]) ∧ Elems w' w'.heap.size (.slice A c.cells.length d) (ints c.cells.reverse) ∧ Below w.heap.size w w' := by
  obtain ⟨A, cc, rfl⟩ := hE.form
  rw [ints_len] at hE ⊢
  have hbW := below2 w (.cells #[.int .i64 c.st, .int .i64 c.pos, .int .i64 c.frm, .slice A c.cells.length cc] 27) (.cells #[.int .i64 0, .int .i64 0, .int .i64 0, .slice none 0 0] 27)
  have HE := hid_ (hE.to hbW)
  have B1 := (Blk.new w 27 #[.int .i64 c.st, .int .i64 c.pos, .int .i64 c.frm, .slice A c.cells.length cc]).alloc (.cells #[.int .i64 0, .int .i64 0, .int .i64 0, .slice none 0 0] 27)
  have B2 := Blk.new (w.alloc (.cells #[.int .i64 c.st, .int .i64 c.pos, .int .i64 c.frm, .slice A c.cells.length cc] 27)) 27 #[.int .i64 0, .int .i64 0, .int .i64 0, .slice none 0 0]
  rw [show (w.alloc (.cells #[.int .i64 c.st, .int .i64 c.pos, .int .i64 c.frm, .slice A c.cells.length cc] 27)).heap.size = w.heap.size + 1 by simp] at B2
  have HB1 := hid_ B1
  have HB2 := hid_ B2
  clear hE B1 B2
  have m1 : IntKind.i64.wrap (-c.pos) = -c.pos := IntWalk.i64_in _ (by omega)
  have HTU : Hid (∀ X, Elems X X.heap.size (.slice A c.cells.length cc) (ints c.cells) → Calls Tryd.prog 75 #[.slice A c.cells.length cc] X fun e w' => ∃ g dd, e = .returned (.slice (some ⟨g, 0, none⟩) c.cells.length dd) ∧ Elems w' w'.heap.size (.slice (some ⟨g, 0, none⟩) c.cells.length dd) (ints c.cells.reverse) ∧ Below X.heap.size X w' ∧ X.heap.size ≤ g ∧ g < w'.heap.size) := hid_ (fun X h => (turned_any c.cells _ _ h (by omega)).mono (fun e w' h => by
    obtain ⟨A', d', h1, h2, h3, _⟩ := h
    obtain ⟨g, rfl, hg⟩ := own_addr h2 hpos
    exact ⟨g, d', h1, own_elems h2, h3, hg, (h2.lt _ rfl).2⟩))
  go_enter Tryd.func61, Tryd.ntmps61
  go_upto_region 1 with fail
  generalize (w.alloc (.cells #[.int .i64 c.st, .int .i64 c.pos, .int .i64 c.frm, .slice A c.cells.length cc] 27)).alloc (.cells #[.int .i64 0, .int .i64 0, .int .i64 0, .slice none 0 0] 27) = W at *
  have q0 := HB1.out.cell 0
  have q1 := HB1.out.cell 1
  have q2 := HB1.out.cell 2
  have q3 := HB1.out.cell 3
  simp at q0 q1 q2 q3
  go_cut [3] (fun s wx => ∃ a g dd, s = .pointer (some ⟨a, 0, none⟩) ∧ Blk wx a 27 #[.int .i64 c.st, .int .i64 (-c.pos), .int .i64 0, .slice (some ⟨g, 0, none⟩) c.cells.length dd] ∧ W.heap.size ≤ a ∧ g ≠ a ∧ W.heap.size ≤ g ∧ Elems wx wx.heap.size (.slice (some ⟨g, 0, none⟩) c.cells.length dd) (ints c.cells.reverse) ∧ Below W.heap.size W wx)
  case first => as_aux_lemma =>
    go_region_held3 (fun w' => w'.cell? ⟨w.heap.size, 0, none⟩ = some (.int .i64 c.st) ∧ w'.cell? ⟨w.heap.size, 1, none⟩ = some (.int .i64 c.pos) ∧ w'.cell? ⟨w.heap.size, 3, none⟩ = some (.slice A c.cells.length cc) ∧ Below W.heap.size W w')
      (first | assumption | (with_reducible exact (let hb := H3.out; ⟨keepc hb q0, keepc hb q1, keepc hb q3, hb⟩)) | (with_reducible exact (let hb := H3.out.alloc H3.out.size _; ⟨keepc hb q0, keepc hb q1, keepc hb q3, hb⟩)) | (with_reducible exact (let hb := (H3.out.alloc H3.out.size _).drew; ⟨keepc hb q0, keepc hb q1, keepc hb q3, hb⟩)) | (with_reducible exact (let hb := below1 W _; ⟨keepc hb q0, keepc hb q1, keepc hb q3, hb⟩)) | (with_reducible exact (let hb := (below1 W _).drew; ⟨keepc hb q0, keepc hb q1, keepc hb q3, hb⟩)) | (with_reducible exact (let hb := ((((H3.out.setCell (Nat.le_refl W.heap.size) _).setCell (Nat.le_refl W.heap.size) _).setCell (Nat.le_refl W.heap.size) _).setCell (Nat.le_refl W.heap.size) _); ⟨keepc hb q0, keepc hb q1, keepc hb q3, hb⟩)) | (with_reducible exact (let hb := (((((H3.out.alloc H3.out.size _).setCell H3.out.size _).setCell H3.out.size _).setCell H3.out.size _).setCell H3.out.size _); ⟨keepc hb q0, keepc hb q1, keepc hb q3, hb⟩)) | (with_reducible exact (let hb := (Below.refl W.heap.size W).drew; ⟨keepc hb q0, keepc hb q1, keepc hb q3, hb⟩)) | (go_keep; done) | (with_reducible exact (let hb := Below.refl W.heap.size W; ⟨keepc hb q0, keepc hb q1, keepc hb q3, hb⟩)))
      (first
        | (go_at_call 75; (with_reducible refine (HTU.out _ (HE.out.to ((And.right (And.right (And.right (by assumption))))))).mono ?_); rintro e w3 ⟨g, dd, rfl, hEg, hz3, hg1, hg2⟩; have H3 : Hid (Below W.heap.size W w3) := hid_ (bnext ((And.right (And.right (And.right (by assumption))))) hz3); have B0 : Blk ((W.alloc (.cells #[.int .i64 0, .int .i64 0, .int .i64 0, .slice none 0 0] 27)).drew) W.heap.size 27 #[.int .i64 0, .int .i64 0, .int .i64 0, .slice none 0 0] := Blk.new W 27 #[.int .i64 0, .int .i64 0, .int .i64 0, .slice none 0 0]; have BB : Blk w3 W.heap.size 27 #[.int .i64 0, .int .i64 0, .int .i64 0, .slice none 0 0] := (by with_reducible exact Blk.to B0 hz3); have HBB := hid_ BB; have hgw : W.heap.size ≤ g := Nat.le_trans (Below.size ((And.right (And.right (And.right (by assumption)))))) hg1; have hga : g ≠ W.heap.size := (by rw [size_ad] at hg1; omega); have HG := hid_ hEg; have y0 := BB.cell 0; have y1 := BB.cell 1; have y2 := BB.cell 2; have y3 := BB.cell 3; have f0 := BB.free 0; have f1 := BB.free 1; have f2 := BB.free 2; have f3 := BB.free 3; simp at y0 y1 y2 y3; clear hz3 BB B0 hEg hg1)
        | (go_at_call 75; (with_reducible refine (HTU.out _ (HE.out.to ((And.right (And.right (And.right (by assumption))))))).mono ?_); rintro e w3 ⟨g, dd, rfl, hEg, hz3, hg1, hg2⟩; have H3 : Hid (Below W.heap.size W w3) := hid_ (bnext ((And.right (And.right (And.right (by assumption))))) hz3); have hgw : W.heap.size ≤ g := Nat.le_trans (Below.size ((And.right (And.right (And.right (by assumption)))))) hg1; have hga : g ≠ w3.heap.size := (by omega); have HG := hid_ hEg; clear hz3 hEg hg1; have n0 := World.new_ne w3 _ (keepc H3.out q0); have n1 := World.new_ne w3 _ (keepc H3.out q1); have n2 := World.new_ne w3 _ (keepc H3.out q3); simp only at n0 n1 n2; have z1 : ∀ (cs : Array Value) (t : TypeId) (i : Nat), (w3.alloc (.cells cs t)).cell? ⟨w3.heap.size, i, none⟩ = cs[i]? := fun cs t i => (Blk.new w3 t cs).cell i; have z2 : ∀ (cs : Array Value) (t : TypeId) (i : Nat), (w3.alloc (.cells cs t)).frozen? ⟨w3.heap.size, i, none⟩ = false := fun cs t i => (Blk.new w3 t cs).free i; have z3 : ∀ (cs : Array Value) (t : TypeId) (i : Nat) (u : Value), (w3.alloc (.cells cs t)).setCell ⟨w3.heap.size, i, none⟩ u = w3.alloc (.cells (cs.setIfInBounds i u) t) := fun cs t i u => World.setCell_alloc_at (w := w3) _ _ _ _ _ rfl))
    all_goals
      go_wp2_with fail
      go_meet
      first
        | (with_reducible exact ⟨w3.heap.size, g, dd, rfl, Blk.new w3 _ _, H3.out.size, hga, hgw, HG.out.to (below1 w3 _), H3.out.alloc H3.out.size _⟩)
        | (have hgx : (Value.slice (some ⟨g, 0, none⟩) c.cells.length dd).ownBlock ≠ some W.heap.size := by simpa [Value.ownBlock] using hga
           with_reducible refine ⟨W.heap.size, g, dd, rfl, ?_, Nat.le_refl _, hga, hgw, ?_, ?_⟩
           · exact ((((HBB.out.set_ 0 _).set_ 1 _).set_ 2 _).set_ 3 _)
           · with_reducible exact (elems_off9 (p := ⟨W.heap.size, 3, none⟩) (u := .slice (some ⟨g, 0, none⟩) c.cells.length dd) (elems_off9 (p := ⟨W.heap.size, 2, none⟩) (u := .int .i64 0) (elems_off9 (p := ⟨W.heap.size, 1, none⟩) (u := .int .i64 (-c.pos)) (elems_off9 (p := ⟨W.heap.size, 0, none⟩) (u := .int .i64 c.st) HG.out (.inr hgx)) (.inr hgx)) (.inr hgx)) (.inr hgx))
           · with_reducible exact ((((H3.out.setCell (Nat.le_refl _) _).setCell (Nat.le_refl _) _).setCell (Nat.le_refl _) _).setCell (Nat.le_refl _) _))
  case rest => as_aux_lemma =>
  obtain ⟨a, g, dd, rfl, hB, ha, hga, hgw, hEg, hbc⟩ := hcut
  have t6 : (0 : Int) < (c.cells.length : Int) := by omega
  obtain ⟨F, hF⟩ : ∃ F, F = (reflectO c).frm := ⟨_, rfl⟩
  have hFF : -(c.frm + (c.cells.length : Int) - 1) = F := by rw [hF, reflectO]; simp only; rw [if_neg (by omega)]
  obtain ⟨Q2, hQ2⟩ : ∃ Q, Q = c.frm + (c.cells.length : Int) := ⟨_, rfl⟩
  obtain ⟨Q1, hQ1⟩ : ∃ Q, Q = Q2 - 1 := ⟨_, rfl⟩
  have m2 : IntKind.i64.wrap (c.frm + (c.cells.length : Int)) = Q2 := by rw [hQ2]; exact IntWalk.i64_in _ (by omega)
  have m3 : IntKind.i64.wrap (Q2 - 1) = Q1 := by rw [hQ1]; exact IntWalk.i64_in _ (by omega)
  have m4 : IntKind.i64.wrap (-Q1) = F := by rw [← hFF, hQ1, hQ2]; exact IntWalk.i64_in _ (by omega)
  clear hQ1 hQ2
  have HF := hid_ hF
  clear hF hFF
  obtain ⟨X, rfl⟩ : ∃ X : World, X = wc := ⟨_, rfl⟩
  have ho1 := HB2.out.lt
  have HA := hid_ hB
  have HG := hid_ hEg
  have q2 := (HB1.out.to hbc).cell 2
  have q3 := (HB1.out.to hbc).cell 3
  have y0 := HA.out.cell 0
  have f2 := HA.out.free 2
  have y2 := HA.out.cell 2
  simp at q2 q3 y0 y2
  clear hB hEg HTU HE q0 q1
  go_upto_if 16 with fail
  go_cut [] (fun wx => Blk wx a 27 #[.int .i64 c.st, .int .i64 (-c.pos), .int .i64 F, .slice (some ⟨g, 0, none⟩) c.cells.length dd] ∧ Elems wx wx.heap.size (.slice (some ⟨g, 0, none⟩) c.cells.length dd) (ints c.cells.reverse) ∧ Below W.heap.size W wx)
  case first => as_aux_lemma =>
    go_wp2_with fail
    go_meet
    exact ⟨HA.out.set_ 2 _, elems_off9 (p := ⟨a, 2, none⟩) (u := .int .i64 F) HG.out (.inr (by simpa [Value.ownBlock] using hga)), hbc.setCell (p := ⟨a, 2, none⟩) ha _⟩
  case rest => as_aux_lemma =>
  obtain ⟨hB2, hE2, hb2⟩ := hcut
  obtain ⟨Y, rfl⟩ : ∃ Y : World, Y = wc := ⟨_, rfl⟩
  have HA2 := hid_ hB2
  have HG2 := hid_ hE2
  clear hB2 hE2 HA HG hbc
  have HB2y := hid_ (HB2.out.to hb2)
  have hbY := bnext hbW hb2
  clear q2 q3 y0 y2 f2 HB1 HB2
  have y0 := HA2.out.cell 0
  have y1 := HA2.out.cell 1
  have y2 := HA2.out.cell 2
  have y3 := HA2.out.cell 3
  simp at y0 y1 y2 y3
  have s0 := HB2y.out.free 0
  have s1 := HB2y.out.free 1
  have s2 := HB2y.out.free 2
  have s3 := HB2y.out.free 3
  have r0 := HB2y.out.cell 0
  have r1 := HB2y.out.cell 1
  have r2 := HB2y.out.cell 2
  have r3 := HB2y.out.cell 3
  simp at r0 r1 r2 r3
  go_wp2_with fail
  have BZ := ((((HB2y.out).set_ 0 (.int .i64 c.st)).set_ 1 (.int .i64 (-c.pos))).set_ 2 (.int .i64 F)).set_ 3 (.slice (some ⟨g, 0, none⟩) c.cells.length dd)
  have e0 := BZ.cell 0
  have e1 := BZ.cell 1
  have e2 := BZ.cell 2
  have e3 := BZ.cell 3
  simp at e0 e1 e2 e3
  refine bodyPost_ret (v := .agg #[.int .i64 c.st, .int .i64 (-c.pos), .int .i64 F, .slice (some ⟨g, 0, none⟩) c.cells.length dd]) (by simp [results, Tryd.results61, go_sem, e0, e1, e2, e3]) rfl ?_
  have hgo : (Value.slice (some ⟨g, 0, none⟩) c.cells.length dd).ownBlock ≠ some (w.heap.size + 1) := by simp [Value.ownBlock]; omega
  exact ⟨some ⟨g, 0, none⟩, dd, by rw [← HF.out], elems_off9 (p := ⟨w.heap.size + 1, 3, none⟩) (u := .slice (some ⟨g, 0, none⟩) c.cells.length dd) (elems_off9 (p := ⟨w.heap.size + 1, 2, none⟩) (u := .int .i64 F) (elems_off9 (p := ⟨w.heap.size + 1, 1, none⟩) (u := .int .i64 (-c.pos)) (elems_off9 (p := ⟨w.heap.size + 1, 0, none⟩) (u := .int .i64 c.st) (HG2.out) (.inr hgo)) (.inr hgo)) (.inr hgo)) (.inr hgo), ((((hbY).setCell (by simp <;> omega) _).setCell (by simp <;> omega) _).setCell (by simp <;> omega) _).setCell (by simp <;> omega) _⟩

theorem rreflect_any (c : CfgS) (v : Value) (w : World) (hE : Elems w w.heap.size v (ints c.cells)) (hl : c.cells.length ≤ 100000) (hp : -1099511627776 ≤ c.pos ∧ c.pos ≤ 1099511627776) (hf : -1099511627776 ≤ c.frm ∧ c.frm ≤ 1099511627776) :
    Calls Tryd.prog 61 #[.agg #[.int .i64 c.st, .int .i64 c.pos, .int .i64 c.frm, v]] w fun e w' => ∃ A d, e = .returned (.agg #[.int .i64 c.st, .int .i64 (-c.pos), .int .i64 (reflectO c).frm, .slice A c.cells.length d]) ∧ Elems w' w'.heap.size (.slice A c.cells.length d) (ints c.cells.reverse) ∧ Below w.heap.size w w' := by
  rcases Nat.eq_zero_or_pos c.cells.length with h | h
  · exact rreflect_none c v w hE hl hp hf h
  · exact rreflect_some c v w hE hl hp hf h
end Go.Proofs.YtkbaiegfloajlaaDoor.Tp

/- Contracts: fitsSome and Shift. -/
import Derived.Test.YtkbaiegfloajlaaDoorWm
namespace Go.Proofs.YtkbaiegfloajlaaDoor.Tp
open Go.RowKit

def someC (c : CfgS) : Bool := withinC c 6 4
/-- A configuration and an error. -/
def ConfRan (r : CfgS × Int) (w : World) (e : Ending) (w' : World) : Prop :=
  ∃ (A : Option Addr) (d : Nat), e = .returned (.tuple #[.agg #[.int .i64 r.1.st, .int .i64 r.1.pos, .int .i64 r.1.frm, .slice A r.1.cells.length d], .int .i64 r.2]) ∧ Elems w' w'.heap.size (.slice A r.1.cells.length d) (ints r.1.cells) ∧ Below w.heap.size w w' ∧ Fresh w A
def shiftO (c : CfgS) (k : Int) : CfgS := ⟨c.st, c.pos + k, if c.cells.length = 0 then c.frm else c.frm + k, c.cells⟩
def shiftC (c : CfgS) (k : Int) : CfgS × Int := if someC c = false then (noC, 1) else if k < -2199023255552 ∨ 2199023255552 < k then (noC, 2) else if someC (shiftO c k) = true then (shiftO c k, 0) else (noC, 2)

theorem fitsSome_any (c : CfgS) (v : Value) (w : World) (hE : Elems w w.heap.size v (ints c.cells)) (hl : c.cells.length ≤ 17592186044416) :
    Calls Tryd.prog 65 #[.agg #[.int .i64 c.st, .int .i64 c.pos, .int .i64 c.frm, v]] w fun e w' => e = .returned (.bool (someC c)) ∧ Below w.heap.size w w' := by
  obtain ⟨A, cc, rfl⟩ := hE.form
  rw [ints_len] at hE ⊢
  have hbW := below1 w (.cells #[.int .i64 c.st, .int .i64 c.pos, .int .i64 c.frm, .slice A c.cells.length cc] 27)
  have HE := hid_ (hE.to hbW)
  have HB := hid_ (Blk.new w 27 #[.int .i64 c.st, .int .i64 c.pos, .int .i64 c.frm, .slice A c.cells.length cc])
  clear hE
  go_enter Tryd.func65, Tryd.ntmps65
  go_upto_region 1 with fail
  generalize w.alloc (.cells #[.int .i64 c.st, .int .i64 c.pos, .int .i64 c.frm, .slice A c.cells.length cc] 27) = W at *
  have q0 := HB.out.cell 0
  have q1 := HB.out.cell 1
  have q2 := HB.out.cell 2
  have q3 := HB.out.cell 3
  simp at q0 q1 q2 q3
  go_wp2_with fail
  refine (fits_any c 6 4 _ W HE.out hl).mono ?_
  rintro e w2 ⟨rfl, hb⟩
  go_wp2_with fail
  go_ret
  exact ⟨rfl, bnext hbW hb⟩

set_option maxRecDepth 100000 in
set_option maxHeartbeats 8000000 in
theorem shift_any (c : CfgS) (k : Int) (v : Value) (w : World) (hE : Elems w w.heap.size v (ints c.cells)) (hl : c.cells.length ≤ 17592186044416) :
    Calls Tryd.prog 39 #[.agg #[.int .i64 c.st, .int .i64 c.pos, .int .i64 c.frm, v], .int .i64 k] w (ConfRan (shiftC c k) w) := by
  obtain ⟨A, cc, rfl⟩ := hE.form
  rw [ints_len] at hE ⊢
  have hbW := below2 w (.cells #[.int .i64 c.st, .int .i64 c.pos, .int .i64 c.frm, .slice A c.cells.length cc] 27) (.cells #[.int .i64 0, .int .i64 0, .int .i64 0, .slice none 0 0] 27)
  have HE := hid_ (hE.to hbW)
  have B1 := (Blk.new w 27 #[.int .i64 c.st, .int .i64 c.pos, .int .i64 c.frm, .slice A c.cells.length cc]).alloc (.cells #[.int .i64 0, .int .i64 0, .int .i64 0, .slice none 0 0] 27)
  have B2 := Blk.new (w.alloc (.cells #[.int .i64 c.st, .int .i64 c.pos, .int .i64 c.frm, .slice A c.cells.length cc] 27)) 27 #[.int .i64 0, .int .i64 0, .int .i64 0, .slice none 0 0]
  rw [show (w.alloc (.cells #[.int .i64 c.st, .int .i64 c.pos, .int .i64 c.frm, .slice A c.cells.length cc] 27)).heap.size = w.heap.size + 1 by simp] at B2
  have HB1 := hid_ B1
  have HB2 := hid_ B2
  clear hE B1 B2
  go_enter Tryd.func39, Tryd.ntmps39
  go_upto_region 1 with fail
  generalize (w.alloc (.cells #[.int .i64 c.st, .int .i64 c.pos, .int .i64 c.frm, .slice A c.cells.length cc] 27)).alloc (.cells #[.int .i64 0, .int .i64 0, .int .i64 0, .slice none 0 0] 27) = W at *
  have q0 := HB1.out.cell 0
  have q1 := HB1.out.cell 1
  have q2 := HB1.out.cell 2
  have q3 := HB1.out.cell 3
  simp at q0 q1 q2 q3
  go_wp2_with fail
  refine (fitsSome_any c _ W HE.out hl).mono ?_
  obtain ⟨bs, hbs⟩ : ∃ b, b = someC c := ⟨_, rfl⟩
  rw [← hbs]
  rintro e w2 ⟨rfl, hb2⟩
  replace HE := hid_ (HE.out.to hb2)
  replace HB1 := hid_ (HB1.out.to hb2)
  replace HB2 := hid_ (HB2.out.to hb2)
  replace hbW := bnext hbW hb2
  clear hb2 q0 q1 q2 q3
  cases bs with
  | false =>
    have HN : Hid (shiftC c k = (noC, 1)) := hid_ (by rw [shiftC, if_pos hbs.symm])
    clear hbs
    have s0 := HB2.out.free 0
    have s1 := HB2.out.free 1
    have s2 := HB2.out.free 2
    have s3 := HB2.out.free 3
    have r0 := HB2.out.cell 0
    have r1 := HB2.out.cell 1
    have r2 := HB2.out.cell 2
    have r3 := HB2.out.cell 3
    simp at r0 r1 r2 r3
    go_wp2_with fail
    have BZ := ((((HB2.out).set_ 0 (.int .i64 0)).set_ 1 (.int .i64 0)).set_ 2 (.int .i64 0)).set_ 3 (.slice none 0 0)
    have e0 := BZ.cell 0
    have e1 := BZ.cell 1
    have e2 := BZ.cell 2
    have e3 := BZ.cell 3
    simp at e0 e1 e2 e3
    refine bodyPost_ret (v := .tuple #[.agg #[.int .i64 0, .int .i64 0, .int .i64 0, .slice none 0 0], .int .i64 1]) (by simp [results, Tryd.results39, go_sem, e0, e1, e2, e3]) rfl ?_
    exact ⟨none, 0, by rw [HN.out]; rfl, by rw [HN.out]; exact Elems.nil _ _, ((((hbW).setCell (by simp <;> omega) _).setCell (by simp <;> omega) _).setCell (by simp <;> omega) _).setCell (by simp <;> omega) _, .inl rfl⟩
  | true =>
    by_cases hk : k < -2199023255552 ∨ 2199023255552 < k
    · have HN : Hid (shiftC c k = (noC, 2)) := hid_ (by rw [shiftC, if_neg (by rw [← hbs]; simp), if_pos hk])
      clear hbs
      rcases hk with h | h
      · have s0 := HB2.out.free 0
        have s1 := HB2.out.free 1
        have s2 := HB2.out.free 2
        have s3 := HB2.out.free 3
        have r0 := HB2.out.cell 0
        have r1 := HB2.out.cell 1
        have r2 := HB2.out.cell 2
        have r3 := HB2.out.cell 3
        simp at r0 r1 r2 r3
        go_wp2_with fail
        have BZ := ((((HB2.out).set_ 0 (.int .i64 0)).set_ 1 (.int .i64 0)).set_ 2 (.int .i64 0)).set_ 3 (.slice none 0 0)
        have e0 := BZ.cell 0
        have e1 := BZ.cell 1
        have e2 := BZ.cell 2
        have e3 := BZ.cell 3
        simp at e0 e1 e2 e3
        refine bodyPost_ret (v := .tuple #[.agg #[.int .i64 0, .int .i64 0, .int .i64 0, .slice none 0 0], .int .i64 2]) (by simp [results, Tryd.results39, go_sem, e0, e1, e2, e3]) rfl ?_
        exact ⟨none, 0, by rw [HN.out]; rfl, by rw [HN.out]; exact Elems.nil _ _, ((((hbW).setCell (by simp <;> omega) _).setCell (by simp <;> omega) _).setCell (by simp <;> omega) _).setCell (by simp <;> omega) _, .inl rfl⟩
      · have h2 : ¬ k < -2199023255552 := by omega
        have s0 := HB2.out.free 0
        have s1 := HB2.out.free 1
        have s2 := HB2.out.free 2
        have s3 := HB2.out.free 3
        have r0 := HB2.out.cell 0
        have r1 := HB2.out.cell 1
        have r2 := HB2.out.cell 2
        have r3 := HB2.out.cell 3
        simp at r0 r1 r2 r3
        go_wp2_with fail
        have BZ := ((((HB2.out).set_ 0 (.int .i64 0)).set_ 1 (.int .i64 0)).set_ 2 (.int .i64 0)).set_ 3 (.slice none 0 0)
        have e0 := BZ.cell 0
        have e1 := BZ.cell 1
        have e2 := BZ.cell 2
        have e3 := BZ.cell 3
        simp at e0 e1 e2 e3
        refine bodyPost_ret (v := .tuple #[.agg #[.int .i64 0, .int .i64 0, .int .i64 0, .slice none 0 0], .int .i64 2]) (by simp [results, Tryd.results39, go_sem, e0, e1, e2, e3]) rfl ?_
        exact ⟨none, 0, by rw [HN.out]; rfl, by rw [HN.out]; exact Elems.nil _ _, ((((hbW).setCell (by simp <;> omega) _).setCell (by simp <;> omega) _).setCell (by simp <;> omega) _).setCell (by simp <;> omega) _, .inl rfl⟩
    · obtain ⟨h1, h2⟩ : ¬ k < -2199023255552 ∧ ¬ 2199023255552 < k := by omega
      obtain ⟨w1, w2', w3, w4, w5, _, _⟩ := within_iff.1 hbs.symm
      have w3 := inR_iff.1 w3
      have w4 := inR_iff.1 w4
      have w3' : -1099511627776 ≤ c.pos ∧ c.pos ≤ 1099511627776 := w3
      have w4' : -1099511627776 ≤ c.frm ∧ c.frm ≤ 1099511627776 := w4
      have m1 : IntKind.i64.wrap (c.pos + k) = c.pos + k := IntWalk.i64_in _ (by omega)
      have m2 : IntKind.i64.wrap (c.frm + k) = c.frm + k := IntWalk.i64_in _ (by omega)
      have HS : Hid (shiftC c k = if someC (shiftO c k) = true then (shiftO c k, 0) else (noC, 2)) := hid_ (by rw [shiftC, if_neg (by rw [← hbs]; simp), if_neg hk])
      clear hbs hk w1 w2' w3 w4 w3' w4'
      have q0 := HB1.out.cell 0
      have q1 := HB1.out.cell 1
      have q2 := HB1.out.cell 2
      have q3 := HB1.out.cell 3
      simp at q0 q1 q2 q3
      have HCP : Hid (∀ X, Elems X X.heap.size (.slice A c.cells.length cc) (ints c.cells) → Calls Tryd.prog 66 #[.slice A c.cells.length cc] X fun e w' => ∃ g, e = .returned (.slice (some ⟨g, 0, none⟩) c.cells.length c.cells.length) ∧ Elems w' w'.heap.size (.slice (some ⟨g, 0, none⟩) c.cells.length c.cells.length) (ints c.cells) ∧ Below X.heap.size X w' ∧ X.heap.size ≤ g ∧ g < w'.heap.size) := hid_ (fun X h => (copied_any c.cells _ _ h (by omega)).mono (fun e w' h => by
        obtain ⟨h1, h2, h3⟩ := h
        exact ⟨_, h1, own_elems h2, h3, Nat.le_refl _, (h2.lt _ rfl).2⟩))
      obtain ⟨W, rfl⟩ : ∃ X : World, X = w2 := ⟨_, rfl⟩
      go_upto_region 5 with fail
      go_cut [6] (fun s wx => ∃ a g, s = .pointer (some ⟨a, 0, none⟩) ∧ Blk wx a 27 #[.int .i64 c.st, .int .i64 (c.pos + k), .int .i64 c.frm, .slice (some ⟨g, 0, none⟩) c.cells.length c.cells.length] ∧ W.heap.size ≤ a ∧ g ≠ a ∧ W.heap.size ≤ g ∧ Elems wx wx.heap.size (.slice (some ⟨g, 0, none⟩) c.cells.length c.cells.length) (ints c.cells) ∧ Below W.heap.size W wx)
      case first => as_aux_lemma =>
        go_region_held3 (fun w' => w'.cell? ⟨w.heap.size, 0, none⟩ = some (.int .i64 c.st) ∧ w'.cell? ⟨w.heap.size, 1, none⟩ = some (.int .i64 c.pos) ∧ w'.cell? ⟨w.heap.size, 2, none⟩ = some (.int .i64 c.frm) ∧ w'.cell? ⟨w.heap.size, 3, none⟩ = some (.slice A c.cells.length cc) ∧ Below W.heap.size W w')
          (first | assumption | (with_reducible exact (let hb := H3.out; ⟨keepc hb q0, keepc hb q1, keepc hb q2, keepc hb q3, hb⟩)) | (with_reducible exact (let hb := H3.out.alloc H3.out.size _; ⟨keepc hb q0, keepc hb q1, keepc hb q2, keepc hb q3, hb⟩)) | (with_reducible exact (let hb := (H3.out.alloc H3.out.size _).drew; ⟨keepc hb q0, keepc hb q1, keepc hb q2, keepc hb q3, hb⟩)) | (with_reducible exact (let hb := below1 W _; ⟨keepc hb q0, keepc hb q1, keepc hb q2, keepc hb q3, hb⟩)) | (with_reducible exact (let hb := (below1 W _).drew; ⟨keepc hb q0, keepc hb q1, keepc hb q2, keepc hb q3, hb⟩)) | (with_reducible exact (let hb := ((((H3.out.setCell (Nat.le_refl W.heap.size) _).setCell (Nat.le_refl W.heap.size) _).setCell (Nat.le_refl W.heap.size) _).setCell (Nat.le_refl W.heap.size) _); ⟨keepc hb q0, keepc hb q1, keepc hb q2, keepc hb q3, hb⟩)) | (with_reducible exact (let hb := (((((H3.out.alloc H3.out.size _).setCell H3.out.size _).setCell H3.out.size _).setCell H3.out.size _).setCell H3.out.size _); ⟨keepc hb q0, keepc hb q1, keepc hb q2, keepc hb q3, hb⟩)) | (with_reducible exact (let hb := (Below.refl W.heap.size W).drew; ⟨keepc hb q0, keepc hb q1, keepc hb q2, keepc hb q3, hb⟩)) | (go_keep; done) | (with_reducible exact (let hb := Below.refl W.heap.size W; ⟨keepc hb q0, keepc hb q1, keepc hb q2, keepc hb q3, hb⟩)))
          (first
            | (go_at_call 66; (with_reducible refine (HCP.out _ (HE.out.to ((And.right (And.right (And.right (And.right (by assumption)))))))).mono ?_); rintro e w3 ⟨g, rfl, hEg, hz3, hg1, hg2⟩; have H3 : Hid (Below W.heap.size W w3) := hid_ (bnext ((And.right (And.right (And.right (And.right (by assumption)))))) hz3); have B0 : Blk ((W.alloc (.cells #[.int .i64 0, .int .i64 0, .int .i64 0, .slice none 0 0] 27)).drew) W.heap.size 27 #[.int .i64 0, .int .i64 0, .int .i64 0, .slice none 0 0] := Blk.new W 27 #[.int .i64 0, .int .i64 0, .int .i64 0, .slice none 0 0]; have BB : Blk w3 W.heap.size 27 #[.int .i64 0, .int .i64 0, .int .i64 0, .slice none 0 0] := (by with_reducible exact Blk.to B0 hz3); have HBB := hid_ BB; have hgw : W.heap.size ≤ g := Nat.le_trans (Below.size ((And.right (And.right (And.right (And.right (by assumption))))))) hg1; have hga : g ≠ W.heap.size := (by rw [size_ad] at hg1; omega); have HG := hid_ hEg; have y0 := BB.cell 0; have y1 := BB.cell 1; have y2 := BB.cell 2; have y3 := BB.cell 3; have f0 := BB.free 0; have f1 := BB.free 1; have f2 := BB.free 2; have f3 := BB.free 3; simp at y0 y1 y2 y3; clear hz3 BB B0 hEg hg1)
            | (go_at_call 66; (with_reducible refine (HCP.out _ (HE.out.to ((And.right (And.right (And.right (And.right (by assumption)))))))).mono ?_); rintro e w3 ⟨g, rfl, hEg, hz3, hg1, hg2⟩; have H3 : Hid (Below W.heap.size W w3) := hid_ (bnext ((And.right (And.right (And.right (And.right (by assumption)))))) hz3); have hgw : W.heap.size ≤ g := Nat.le_trans (Below.size ((And.right (And.right (And.right (And.right (by assumption))))))) hg1; have hga : g ≠ w3.heap.size := (by omega); have HG := hid_ hEg; clear hz3 hEg hg1; have n0 := World.new_ne w3 _ (keepc H3.out q0); have n1 := World.new_ne w3 _ (keepc H3.out q1); have n2 := World.new_ne w3 _ (keepc H3.out q2); have n3 := World.new_ne w3 _ (keepc H3.out q3); simp only at n0 n1 n2 n3; have z1 : ∀ (cs : Array Value) (t : TypeId) (i : Nat), (w3.alloc (.cells cs t)).cell? ⟨w3.heap.size, i, none⟩ = cs[i]? := fun cs t i => (Blk.new w3 t cs).cell i; have z2 : ∀ (cs : Array Value) (t : TypeId) (i : Nat), (w3.alloc (.cells cs t)).frozen? ⟨w3.heap.size, i, none⟩ = false := fun cs t i => (Blk.new w3 t cs).free i; have z3 : ∀ (cs : Array Value) (t : TypeId) (i : Nat) (u : Value), (w3.alloc (.cells cs t)).setCell ⟨w3.heap.size, i, none⟩ u = w3.alloc (.cells (cs.setIfInBounds i u) t) := fun cs t i u => World.setCell_alloc_at (w := w3) _ _ _ _ _ rfl))
        all_goals
          go_wp2_with fail
          go_meet
          first
            | (with_reducible exact ⟨w3.heap.size, g, rfl, Blk.new w3 _ _, H3.out.size, hga, hgw, HG.out.to (below1 w3 _), H3.out.alloc H3.out.size _⟩)
            | (have hgx : (Value.slice (some ⟨g, 0, none⟩) c.cells.length c.cells.length).ownBlock ≠ some W.heap.size := by simpa [Value.ownBlock] using hga
               with_reducible refine ⟨W.heap.size, g, rfl, ?_, Nat.le_refl _, hga, hgw, ?_, ?_⟩
               · exact ((((HBB.out.set_ 0 _).set_ 1 _).set_ 2 _).set_ 3 _)
               · with_reducible exact (elems_off (p := ⟨W.heap.size, 3, none⟩) (u := .slice (some ⟨g, 0, none⟩) c.cells.length c.cells.length) (elems_off (p := ⟨W.heap.size, 2, none⟩) (u := .int .i64 c.frm) (elems_off (p := ⟨W.heap.size, 1, none⟩) (u := .int .i64 (c.pos + k)) (elems_off (p := ⟨W.heap.size, 0, none⟩) (u := .int .i64 c.st) HG.out (.inr hgx)) (.inr hgx)) (.inr hgx)) (.inr hgx))
               · with_reducible exact ((((H3.out.setCell (Nat.le_refl _) _).setCell (Nat.le_refl _) _).setCell (Nat.le_refl _) _).setCell (Nat.le_refl _) _))
      case rest => as_aux_lemma =>
        obtain ⟨a, g, rfl, hB, ha, hga, hgw, hEg, hbc⟩ := hcut
        obtain ⟨X, rfl⟩ : ∃ X : World, X = wc := ⟨_, rfl⟩
        have ho1 := HB2.out.lt
        have HB20 := HB2
        have HB1 := hid_ (HB1.out.to hbc)
        have hbW0 := hbW
        have hbX := hbc
        have HA := hid_ hB
        have HG := hid_ hEg
        clear hB hEg hbc HE HCP HB2 hbW q0 q1 q2 q3
        obtain ⟨F, hF⟩ : ∃ F, F = (shiftO c k).frm := ⟨_, rfl⟩
        have HF := hid_ hF
        clear hF
        have q3 := HB1.out.cell 3
        have y2 := HA.out.cell 2
        have f2 := HA.out.free 2
        simp at q3 y2
        go_upto_if 33 with fail
        go_cut [] (fun wx => Blk wx a 27 #[.int .i64 c.st, .int .i64 (c.pos + k), .int .i64 F, .slice (some ⟨g, 0, none⟩) c.cells.length c.cells.length] ∧ Elems wx wx.heap.size (.slice (some ⟨g, 0, none⟩) c.cells.length c.cells.length) (ints c.cells) ∧ Below W.heap.size W wx)
        case first => as_aux_lemma =>
          by_cases hn : c.cells.length = 0
          · have t6 : ¬ (0 : Int) < (c.cells.length : Int) := by omega
            have HFF : F = c.frm := by rw [HF.out, shiftO]; simp [hn]
            clear HF hn
            subst HFF
            go_wp2_with fail
            go_meet
            exact ⟨HA.out, HG.out, hbX⟩
          · have t6 : (0 : Int) < (c.cells.length : Int) := by omega
            have HFF : F = c.frm + k := by rw [HF.out, shiftO]; simp only; rw [if_neg hn]
            clear HF hn
            subst HFF
            go_wp2_with fail
            go_meet
            exact ⟨HA.out.set_ 2 _, elems_off (p := ⟨a, 2, none⟩) (u := .int .i64 (c.frm + k)) HG.out (.inr (by simpa [Value.ownBlock] using hga)), hbX.setCell ha _⟩
        case rest => as_aux_lemma =>
          obtain ⟨hB, hEg, hbc⟩ := hcut
          obtain ⟨Y, rfl⟩ : ∃ X : World, X = wc := ⟨_, rfl⟩
          have HB2 := hid_ (HB20.out.to hbc)
          have hbY := bnext hbW0 hbc
          have HA := hid_ hB
          have HG := hid_ hEg
          clear hB hEg hbc q3 y2 f2 HB1 HB20 hbW0 hbX
          obtain ⟨bo, hbo⟩ : ∃ b, b = someC (shiftO c k) := ⟨_, rfl⟩
          have HSC : Hid (shiftC c k = if bo = true then (shiftO c k, 0) else (noC, 2)) := hid_ (by rw [hbo]; exact HS.out)
          have HFT : Hid (∀ X, Elems X X.heap.size (.slice (some ⟨g, 0, none⟩) c.cells.length c.cells.length) (ints c.cells) → Calls Tryd.prog 65 #[.agg #[.int .i64 c.st, .int .i64 (c.pos + k), .int .i64 F, .slice (some ⟨g, 0, none⟩) c.cells.length c.cells.length]] X fun e w' => e = .returned (.bool bo) ∧ Below X.heap.size X w') := hid_ (fun X h => by rw [hbo, HF.out]; exact fitsSome_any (shiftO c k) _ X h hl)
          clear hbo HS
          have y0 := HA.out.cell 0
          have y1 := HA.out.cell 1
          have y2 := HA.out.cell 2
          have y3 := HA.out.cell 3
          simp at y0 y1 y2 y3
          go_upto_if 41 with (go_at_call 65; (with_reducible refine (HFT.out Y HG.out).mono ?_); rintro e w5 ⟨rfl, hb5⟩)
          have HB2 := hid_ (HB2.out.to hb5)
          have HA := hid_ (HA.out.to hb5)
          have HG := hid_ (HG.out.to hb5)
          have hbY := bnext hbY hb5
          clear hb5 y0 y1 y2 y3 HFT
          cases bo with
          | false =>
            have HN : Hid (shiftC c k = (noC, 2)) := hid_ (by rw [HSC.out]; simp)
            have s0 := HB2.out.free 0
            have s1 := HB2.out.free 1
            have s2 := HB2.out.free 2
            have s3 := HB2.out.free 3
            have r0 := HB2.out.cell 0
            have r1 := HB2.out.cell 1
            have r2 := HB2.out.cell 2
            have r3 := HB2.out.cell 3
            simp at r0 r1 r2 r3
            go_wp2_with fail
            have BZ := ((((HB2.out).set_ 0 (.int .i64 0)).set_ 1 (.int .i64 0)).set_ 2 (.int .i64 0)).set_ 3 (.slice none 0 0)
            have e0 := BZ.cell 0
            have e1 := BZ.cell 1
            have e2 := BZ.cell 2
            have e3 := BZ.cell 3
            simp at e0 e1 e2 e3
            refine bodyPost_ret (v := .tuple #[.agg #[.int .i64 0, .int .i64 0, .int .i64 0, .slice none 0 0], .int .i64 2]) (by simp [results, Tryd.results39, go_sem, e0, e1, e2, e3]) rfl ?_
            exact ⟨none, 0, by rw [HN.out]; rfl, by rw [HN.out]; exact Elems.nil _ _, ((((hbY).setCell (by simp <;> omega) _).setCell (by simp <;> omega) _).setCell (by simp <;> omega) _).setCell (by simp <;> omega) _, .inl rfl⟩
          | true =>
            have HN : Hid (shiftC c k = (shiftO c k, 0)) := hid_ (by rw [HSC.out]; simp)
            have y0 := HA.out.cell 0
            have y1 := HA.out.cell 1
            have y2 := HA.out.cell 2
            have y3 := HA.out.cell 3
            simp at y0 y1 y2 y3
            have hne : c.cells = [] ∨ (.slice (some ⟨g, 0, none⟩) c.cells.length c.cells.length : Value).ownBlock ≠ some (w.heap.size + 1) := .inr (by simp [Value.ownBlock]; omega)
            have s0 := HB2.out.free 0
            have s1 := HB2.out.free 1
            have s2 := HB2.out.free 2
            have s3 := HB2.out.free 3
            have r0 := HB2.out.cell 0
            have r1 := HB2.out.cell 1
            have r2 := HB2.out.cell 2
            have r3 := HB2.out.cell 3
            simp at r0 r1 r2 r3
            go_wp2_with fail
            have BZ := ((((HB2.out).set_ 0 (.int .i64 c.st)).set_ 1 (.int .i64 (c.pos + k))).set_ 2 (.int .i64 F)).set_ 3 (.slice (some ⟨g, 0, none⟩) c.cells.length c.cells.length)
            have e0 := BZ.cell 0
            have e1 := BZ.cell 1
            have e2 := BZ.cell 2
            have e3 := BZ.cell 3
            simp at e0 e1 e2 e3
            refine bodyPost_ret (v := .tuple #[.agg #[.int .i64 c.st, .int .i64 (c.pos + k), .int .i64 F, .slice (some ⟨g, 0, none⟩) c.cells.length c.cells.length], .int .i64 0]) (by simp [results, Tryd.results39, go_sem, e0, e1, e2, e3]) rfl ?_
            have hEZ := elems_off (p := ⟨w.heap.size + 1, 3, none⟩) (u := .slice (some ⟨g, 0, none⟩) c.cells.length c.cells.length) (elems_off (p := ⟨w.heap.size + 1, 2, none⟩) (u := .int .i64 F) (elems_off (p := ⟨w.heap.size + 1, 1, none⟩) (u := .int .i64 (c.pos + k)) (elems_off (p := ⟨w.heap.size + 1, 0, none⟩) (u := .int .i64 c.st) (HG.out) hne) hne) hne) hne
            rw [HN.out]
            exact ⟨some ⟨g, 0, none⟩, c.cells.length, by rw [HF.out]; rfl, hEZ, ((((hbY).setCell (by simp <;> omega) _).setCell (by simp <;> omega) _).setCell (by simp <;> omega) _).setCell (by simp <;> omega) _, .inr ⟨g, 0, rfl, by omega⟩⟩
end Go.Proofs.YtkbaiegfloajlaaDoor.Tp

/- Contracts: Renamed of the specification. -/
import Derived.Test.YtkbaiegfloajlaaDoorYb
namespace Go.Proofs.YtkbaiegfloajlaaDoor.Tp
open Go.RowKit

theorem own_elems9 {w : World} {base e n c : Nat} {A : Option Addr} {xs : List Value} (h : w.ownsRow base e 1 (.slice A n c) n xs) (hn : xs.length = n) : Elems w w.heap.size (.slice A n c) xs := by
  rcases h.2 with ⟨hv, h0⟩ | ⟨g, cap, cur, hv, _⟩
  · subst hn
    simp only [Value.slice.injEq] at hv
    have hx : xs = [] := List.eq_nil_of_length_eq_zero hv.2.1
    subst hx
    simp only [hv]
    exact Elems.nil _ _
  · simp only [Value.slice.injEq] at hv
    obtain ⟨rfl, _⟩ := hv
    exact own_elems h

set_option maxRecDepth 100000 in
set_option maxHeartbeats 8000000 in
theorem rrenamed_any (c : CfgS) (ss xs : List Int) (v u1 u2 : Value) (w : World) (hE : Elems w w.heap.size v (ints c.cells)) (hS : Elems w w.heap.size u1 (ints ss)) (hX : Elems w w.heap.size u2 (ints xs)) (hl : c.cells.length ≤ 100000) (hst : c.st = -1 ∨ (0 ≤ c.st ∧ c.st < (ss.length : Int))) (hc : c.cells.all (symB (xs.length : Int)) = true) :
    Calls Tryd.prog 62 #[.agg #[.int .i64 c.st, .int .i64 c.pos, .int .i64 c.frm, v], u1, u2] w fun e w' => ∃ A d, e = .returned (.agg #[.int .i64 (renamedO c ss xs).st, .int .i64 c.pos, .int .i64 c.frm, .slice A c.cells.length d]) ∧ Elems w' w'.heap.size (.slice A c.cells.length d) (ints (renamedO c ss xs).cells) ∧ Below w.heap.size w w' := by
  obtain ⟨A, cc, rfl⟩ := hE.form
  obtain ⟨As, cs, rfl⟩ := hS.form
  obtain ⟨Ax, cx, rfl⟩ := hX.form
  rw [ints_len] at hE hS hX ⊢
  rw [ints_len, ints_len]
  have hbW := below2 w (.cells #[.int .i64 c.st, .int .i64 c.pos, .int .i64 c.frm, .slice A c.cells.length cc] 27) (.cells #[.int .i64 0, .int .i64 0, .int .i64 0, .slice none 0 0] 27)
  have HE := hid_ (hE.to hbW)
  have HSS := hid_ (hS.to hbW)
  have HXX := hid_ (hX.to hbW)
  have B1 := (Blk.new w 27 #[.int .i64 c.st, .int .i64 c.pos, .int .i64 c.frm, .slice A c.cells.length cc]).alloc (.cells #[.int .i64 0, .int .i64 0, .int .i64 0, .slice none 0 0] 27)
  have B2 := Blk.new (w.alloc (.cells #[.int .i64 c.st, .int .i64 c.pos, .int .i64 c.frm, .slice A c.cells.length cc] 27)) 27 #[.int .i64 0, .int .i64 0, .int .i64 0, .slice none 0 0]
  rw [show (w.alloc (.cells #[.int .i64 c.st, .int .i64 c.pos, .int .i64 c.frm, .slice A c.cells.length cc] 27)).heap.size = w.heap.size + 1 by simp] at B2
  have HB1 := hid_ B1
  have HB2 := hid_ B2
  clear hE hS hX B1 B2
  obtain ⟨z, hz⟩ : ∃ z, z = nameS ss c.st := ⟨_, rfl⟩
  have HNS : Hid (∀ X, Elems X X.heap.size (.slice As ss.length cs) (ints ss) → Calls Tryd.prog 59 #[.int .i64 c.st, .slice As ss.length cs] X fun e w' => e = .returned (.int .i64 z) ∧ w' = X) := hid_ (fun X h => by rw [hz]; exact named_any ss c.st _ X h hst)
  have HZ := hid_ hz
  have HC := hid_ hc
  clear hz hst hc
  go_enter Tryd.func62, Tryd.ntmps62
  go_upto_region 1 with fail
  generalize (w.alloc (.cells #[.int .i64 c.st, .int .i64 c.pos, .int .i64 c.frm, .slice A c.cells.length cc] 27)).alloc (.cells #[.int .i64 0, .int .i64 0, .int .i64 0, .slice none 0 0] 27) = W at *
  have q0 := HB1.out.cell 0
  have q1 := HB1.out.cell 1
  have q2 := HB1.out.cell 2
  have q3 := HB1.out.cell 3
  simp at q0 q1 q2 q3
  go_cut [7] (fun s wx => ∃ a, s = .pointer (some ⟨a, 0, none⟩) ∧ Blk wx a 27 #[.int .i64 z, .int .i64 c.pos, .int .i64 c.frm, .slice none 0 0] ∧ W.heap.size ≤ a ∧ Below W.heap.size W wx)
  case first => as_aux_lemma =>
    have n0 := World.new_ne W _ q0
    have n1 := World.new_ne W _ q1
    have n2 := World.new_ne W _ q2
    simp only at n0 n1 n2
    have z1 : ∀ (cs : Array Value) (t : TypeId) (i : Nat), (W.alloc (.cells cs t)).cell? ⟨W.heap.size, i, none⟩ = cs[i]? := fun cs t i => (Blk.new W t cs).cell i
    have z2 : ∀ (cs : Array Value) (t : TypeId) (i : Nat), (W.alloc (.cells cs t)).frozen? ⟨W.heap.size, i, none⟩ = false := fun cs t i => (Blk.new W t cs).free i
    have z3 : ∀ (cs : Array Value) (t : TypeId) (i : Nat) (u : Value), (W.alloc (.cells cs t)).setCell ⟨W.heap.size, i, none⟩ u = W.alloc (.cells (cs.setIfInBounds i u) t) := fun cs t i u => World.setCell_alloc_at (w := W) _ _ _ _ _ rfl
    go_region_held3 (fun w' => w'.cell? ⟨w.heap.size, 0, none⟩ = some (.int .i64 c.st) ∧ w'.cell? ⟨w.heap.size, 1, none⟩ = some (.int .i64 c.pos) ∧ w'.cell? ⟨w.heap.size, 2, none⟩ = some (.int .i64 c.frm) ∧ Below W.heap.size W w')
      (first | assumption | (with_reducible exact (let hb := below1 W _; ⟨keepc hb q0, keepc hb q1, keepc hb q2, hb⟩)) | (with_reducible exact (let hb := (below1 W _).drew; ⟨keepc hb q0, keepc hb q1, keepc hb q2, hb⟩)) | (with_reducible exact (let hb := (((((below1 W _).setCell (Nat.le_refl W.heap.size) _).setCell (Nat.le_refl W.heap.size) _).setCell (Nat.le_refl W.heap.size) _).setCell (Nat.le_refl W.heap.size) _); ⟨keepc hb q0, keepc hb q1, keepc hb q2, hb⟩)) | (with_reducible exact (let hb := (((((below1 W _).setCell (Nat.le_refl W.heap.size) _).setCell (Nat.le_refl W.heap.size) _).setCell (Nat.le_refl W.heap.size) _).setCell (Nat.le_refl W.heap.size) _).drew; ⟨keepc hb q0, keepc hb q1, keepc hb q2, hb⟩)) | (with_reducible exact (let hb := (Below.refl W.heap.size W).drew; ⟨keepc hb q0, keepc hb q1, keepc hb q2, hb⟩)) | (go_keep; done) | (with_reducible exact (let hb := Below.refl W.heap.size W; ⟨keepc hb q0, keepc hb q1, keepc hb q2, hb⟩)))
      (first
        | (go_at_call 59; (with_reducible refine (HNS.out _ (HSS.out.to ((And.right (And.right (And.right (by assumption))))))).mono ?_); rintro e w6 ⟨rfl, rfl⟩))
    all_goals
      go_wp2_with fail
      go_meet
      exact ⟨W.heap.size, rfl, Blk.new W _ _, Nat.le_refl _, (below1 W _).drew⟩
  case rest => as_aux_lemma =>
    obtain ⟨a, rfl, hB, ha, hbc⟩ := hcut
    obtain ⟨X, rfl⟩ : ∃ X : World, X = wc := ⟨_, rfl⟩
    have ho1 := HB2.out.lt
    have haX := hB.lt
    have hWX := hbc.size
    have HA := hid_ hB
    obtain ⟨i0, hi, hz0, hz1, hz2⟩ := info_parts Tryd.infoI
    clear hB q0 q1 q2 q3
    go_wp2_with fail
    go_loopw [8] (fun s wr => ∃ (k : Nat) (A8 : Option Addr) (c8 : Nat), s = .int .i64 (k : Int) ∧ k ≤ c.cells.length ∧ Hid (Blk wr a 27 #[.int .i64 z, .int .i64 c.pos, .int .i64 c.frm, .slice A8 k c8]) ∧ Hid (wr.ownsRow X.heap.size 3 1 (.slice A8 k c8) k (ints ((c.cells.take k).map (nameX xs)))) ∧ Below W.heap.size W wr ∧ X.heap.size ≤ wr.heap.size) (fun s _ => c.cells.length - (intOf s).toNat)
    case atStart => exact ⟨0, none, 0, rfl, Nat.zero_le _, HA, hid_ (own_nil _ _ _), hbc, Nat.le_refl _⟩
    case round =>
      obtain ⟨k, A8, c8, rfl, hk, HAr, HU, hbr, hxr⟩ := hrel
      clear HA hbc
      have q3 := (HB1.out.to hbr).cell 3
      have y3 := HAr.out.cell 3
      simp at q3 y3
      by_cases hlt : k < c.cells.length
      · obtain ⟨x, hx⟩ : ∃ x, c.cells[k]? = some x := ⟨_, List.getElem?_eq_getElem hlt⟩
        have hxb := of_symB HC.out hx
        obtain ⟨b1, o1, rfl, _, hc1⟩ := (HE.out.to hbr).at_ (by omega)
        obtain ⟨bx, ox, rfl, _, hcx⟩ := (HXX.out.to hbr).at_ (by omega)
        have i1 := hc1 k _ (ints_at hx)
        obtain ⟨t, rfl⟩ := Int.eq_ofNat_of_zero_le hxb.1
        obtain ⟨y, hy⟩ : ∃ y, xs[t]? = some y := ⟨_, List.getElem?_eq_getElem (by omega)⟩
        have j1 := hcx t _ (ints_at hy)
        have HTK : Hid ((c.cells.take (k + 1)).map (nameX xs) = (c.cells.take k).map (nameX xs) ++ [y]) := hid_ (by
          rw [List.take_add_one, hx, List.map_append]
          simp [nameX, List.getD_eq_getElem?_getD, hy])
        have t0 : 0 ≤ (k : Int) := by omega
        have t1 : 0 ≤ (t : Int) := by omega
        have t2 : (t : Int) < (xs.length : Int) := by omega
        have h63 : k + 1 ≤ maxLen := by unfold maxLen; omega
        have hby : (k + 1) * 8 ≤ 140737488355328 := by omega
        have m1 : IntKind.i64.wrap ((k : Int) + 1) = ((k + 1 : Nat) : Int) := by rw [IntWalk.i64_in _ (by omega)]; omega
        clear hx hc1 hcx hy hxb
        go_upto_region 5 with fail
        have hYa : Below wr.heap.size wr (wr.alloc (.cells #[.int .i64 y] 3)) := below1 wr _
        have HOE : Hid ((wr.alloc (.cells #[.int .i64 y] 3)).drew.ownsRow X.heap.size 3 1 (.slice A8 k c8) k (ints ((c.cells.take k).map (nameX xs)))) := hid_ (own_below HU.out hYa.drew)
        have HQE : Hid (Elems (wr.alloc (.cells #[.int .i64 y] 3)).drew (wr.alloc (.cells #[.int .i64 y] 3)).drew.heap.size (.slice (some ⟨wr.heap.size, 0, none⟩) 1 1) (ints [y])) := hid_ (blk_elems (Blk.new wr _ _) rfl rfl)
        have HSE : Hid (X.heap.size ≤ (wr.alloc (.cells #[.int .i64 y] 3)).drew.heap.size) := hid_ (by rw [size_ad]; omega)
        have HAE : Hid (Blk (wr.alloc (.cells #[.int .i64 y] 3)).drew a 27 #[.int .i64 z, .int .i64 c.pos, .int .i64 c.frm, .slice A8 k c8]) := hid_ (HAr.out.alloc _)
        have HBE : Hid (Below W.heap.size W (wr.alloc (.cells #[.int .i64 y] 3)).drew) := hid_ (hbr.alloc hbr.size _).drew
        have h63b : k + (ints [y]).length ≤ maxLen := h63
        have hbyb : (k + (ints [y]).length) * 8 ≤ 140737488355328 := hby
        have n1 := World.new_ne wr _ q3
        have n2 := World.new_ne wr _ y3
        have n3 := World.new_ne wr _ i1
        have n4 := World.new_ne wr _ j1
        simp only at n1 n2 n3 n4
        have y5 := keepc hYa y3
        have y6 := keepc hYa.drew y3
        clear hYa
        go_region_law ((refine step_append_e (by rfl) _ _ 25 (by rfl) 3 i0 (.int .i64 0) 8 Tryd.underlying25 hi hz0 hz1 hz2 rfl (by rfl) (by rfl) HOE.out HQE.out ints_one h63b hbyb HSE.out ?_; intro v1 Z2 hown1 hg1 _; obtain ⟨A9, c9, rfl⟩ := own_form hown1; have HU3 : Hid (Z2.ownsRow X.heap.size 3 1 (.slice A9 (k + 1) c9) (k + 1) (ints ((c.cells.take (k + 1)).map (nameX xs)))) := hid_ (by rw [HTK.out, ints_snoc]; exact hown1); have hbx2 := hid_ (HBE.out.grown hg1 HBE.out.size (fun k9 hk9 => Nat.le_trans hWX (own_lt HOE.out k9 hk9))); have HAz := hid_ (HAE.out.grownby hg1 (fun e => by have := own_lt HOE.out a e.symm; omega)); have hsz := hid_ (Nat.le_trans HSE.out hg1.size); have k3 := HAz.out.free 3; have l3 := HAz.out.cell 3; simp at l3; clear hown1 hg1))
        all_goals
          go_wp2_with fail
          go_roundw
          case rel =>
            have hne9 : (Value.slice A9 (k + 1) c9).ownBlock ≠ some a := fun e => by have := own_lt HU3.out a e; omega
            first
              | exact ⟨k + 1, A9, c9, by go_num, by omega, hid_ (HAz.out.set_ 3 _), hid_ (ownsRow_setCell_other HU3.out hne9 _), hbx2.out.setCell ha _, by rw [set_size]; exact hsz.out⟩
              | exact ⟨k + 1, A9, c9, by go_num, by omega, hid_ (HAz.out.set_ 3 _), hid_ (ownsRow_setCell_other HU3.out hne9 _), (hbx2.out.setCell ha _).drew, by show _ ≤ (World.setCell _ _ _).heap.size; rw [set_size]; exact hsz.out⟩
          case measure => simp [intOf]; omega
      · obtain rfl : k = c.cells.length := by omega
        have HUn : Hid (wr.ownsRow X.heap.size 3 1 (.slice A8 c.cells.length c8) c.cells.length (ints (c.cells.map (nameX xs)))) := hid_ (by have := HU.out; rwa [List.take_length] at this)
        have HB2r := hid_ (HB2.out.to hbr)
        have hbY := bnext hbW hbr
        have y0 := HAr.out.cell 0
        have y1 := HAr.out.cell 1
        have y2 := HAr.out.cell 2
        have y3 := HAr.out.cell 3
        simp at y0 y1 y2 y3
        have s0 := HB2r.out.free 0
        have s1 := HB2r.out.free 1
        have s2 := HB2r.out.free 2
        have s3 := HB2r.out.free 3
        have r0 := HB2r.out.cell 0
        have r1 := HB2r.out.cell 1
        have r2 := HB2r.out.cell 2
        have r3 := HB2r.out.cell 3
        simp at r0 r1 r2 r3
        go_wp2_with fail
        have BZ := ((((HB2r.out).set_ 0 (.int .i64 z)).set_ 1 (.int .i64 c.pos)).set_ 2 (.int .i64 c.frm)).set_ 3 (.slice A8 c.cells.length c8)
        have e0 := BZ.cell 0
        have e1 := BZ.cell 1
        have e2 := BZ.cell 2
        have e3 := BZ.cell 3
        simp at e0 e1 e2 e3
        refine bodyPost_ret (v := .agg #[.int .i64 z, .int .i64 c.pos, .int .i64 c.frm, .slice A8 c.cells.length c8]) (by simp [results, Tryd.results62, go_sem, e0, e1, e2, e3]) rfl ?_
        have hne8 : (Value.slice A8 c.cells.length c8).ownBlock ≠ some (w.heap.size + 1) := fun e => by have := own_lt HUn.out _ e; omega
        have hE0 := own_elems9 HUn.out (by simp [ints])
        have hE1 := elems_out (p := ⟨w.heap.size + 1, 0, none⟩) (u := .int .i64 z) hE0 hne8
        have hE2 := elems_out (p := ⟨w.heap.size + 1, 1, none⟩) (u := .int .i64 c.pos) hE1 hne8
        have hE3 := elems_out (p := ⟨w.heap.size + 1, 2, none⟩) (u := .int .i64 c.frm) hE2 hne8
        have hE4 := elems_out (p := ⟨w.heap.size + 1, 3, none⟩) (u := .slice A8 c.cells.length c8) hE3 hne8
        exact ⟨A8, c8, by rw [HZ.out]; rfl, hE4, ((((hbY).setCell (by simp <;> omega) _).setCell (by simp <;> omega) _).setCell (by simp <;> omega) _).setCell (by simp <;> omega) _⟩
end Go.Proofs.YtkbaiegfloajlaaDoor.Tp

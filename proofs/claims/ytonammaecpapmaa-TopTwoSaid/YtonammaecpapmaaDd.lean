/- pair.Two. -/
import Derived.Test.YtonammaecpapmaaDc
namespace Go.Proofs.Ytonammaecpapmaa.Pp
open Go.RowKit

theorem WAt.addp {g B : Nat} {pv pv' cv : Value} {pts : List Int} {code : List InstS} {w Z : World} {x : Int} (h : WAt g B pv cv pts code w) (hcv : cv.ownBlock = none) (hg : w.grownBy Z pv.ownBlock) (hown : Z.ownsRow B 3 1 pv' (pts.length + 1) (ints pts ++ [.int .i64 x])) :
    WAt g B pv' cv (pts ++ [x]) code (Z.setCell ⟨g, 0, none⟩ pv') ∧ ∀ W : World, Below W.heap.size W w → W.heap.size ≤ g → Below W.heap.size W (Z.setCell ⟨g, 0, none⟩ pv') := by
  have hlt := h.lt
  have hp : ∀ q, pv.ownBlock = some q → B ≤ q := own_lt h.pts
  have hp' : ∀ q, pv'.ownBlock = some q → B ≤ q := own_lt hown
  refine ⟨⟨?_, ?_, ?_, h.lt, ?_⟩, ?_⟩
  · have := (h.box.grownby hg (fun e => by have := hp _ e.symm; omega)).set_ 0 pv'
    simpa using this
  · have e1 : (pts ++ [x]).length = pts.length + 1 := by simp
    have e2 : ints (pts ++ [x]) = ints pts ++ [.int .i64 x] := by simp [ints]
    rw [e1, e2]
    exact ownsRow_setCell_other (a := ⟨g, 0, none⟩) hown (fun e => by have := hp' _ e; simp only at this; omega) _
  · exact ownsRow_setCell_other (a := ⟨g, 0, none⟩) (h.code.kept hg (.inl hcv)) (fun e => by rw [hcv] at e; cases e) _
  · rw [set_size]; exact Nat.le_trans h.le hg.size
  · intro W hW hWg
    refine ⟨hg.os.trans hW.os, hg.tape.trans hW.tape, hg.output.trans hW.output, by rw [set_size]; exact Nat.le_trans hW.size hg.size, fun k hk => ?_⟩
    have hk2 : k < w.heap.size := Nat.lt_of_lt_of_le hk hW.size
    exact ((Below.heap_setCell Z ⟨g, 0, none⟩ pv' k (by simp only; omega)).trans (hg.block k hk2 (fun e => by have := hp _ e.symm; omega))).trans (hW.block k hk)

/-- What Two returns. -/
structure TwoO where
  regs : Int
  code : List Cn.Ins
  pts : List Int
  err : Int
def twoS (R : Int) (code : List Cn.Ins) : TwoO :=
  if Cn.vCode R code = false then ⟨0, [], [], 1⟩ else if 6 < R then ⟨0, [], [], 2⟩ else if 2000 < sizeL (code.map sOf) then ⟨0, [], [], 4⟩
  else ⟨2, qC (codeL (ptsL 0 (code.map sOf)) [] (code.map sOf)), ptsL 0 (code.map sOf), 0⟩
def TwoRan (o : TwoO) (w : World) (e : Ending) (w' : World) : Prop :=
  ∃ A n c A2 n2 c2, e = .returned (.tuple #[.agg #[.int .i64 o.regs, .slice A n c], .slice A2 n2 c2, .int .i64 o.err]) ∧ Cn.CodeAt w' w'.heap.size A n o.code ∧ Cn.IntsAt w' w'.heap.size A2 n2 o.pts ∧ (∀ k, (Value.slice A2 n2 c2).ownBlock = some k → w.heap.size ≤ k) ∧ Below w.heap.size w w'
theorem boxes2b {w w1 : World} {t t' : TypeId} {a b a' b' : Value} (hb : Below ((w.alloc (.cells #[a, b] t)).alloc (.cells #[a', b'] t')).heap.size ((w.alloc (.cells #[a, b] t)).alloc (.cells #[a', b'] t')) w1) :
    Blk w1 w.heap.size t #[a, b] ∧ Blk w1 (w.heap.size + 1) t' #[a', b'] ∧ w.heap.size + 2 ≤ w1.heap.size ∧ Below w.heap.size w w1 := by
  refine ⟨((Blk.new w t #[a, b]).alloc _).below hb (by simp; omega), ?_, by have := hb.size; simp at this; omega, (below2 w _ _).trans (hb.mono (by simp; omega))⟩
  have := (Blk.new (w.alloc (.cells #[a, b] t)) t' #[a', b']).below hb (by simp)
  simpa using this
theorem res_two {w1 : World} {r : Nat} {t : TypeId} {a b : Value} (B : Blk w1 r t #[a, b]) (x y : Value) :
    ((w1.setCell ⟨r, 0, none⟩ x).setCell ⟨r, 1, none⟩ y).cell? ⟨r, 0, none⟩ = some x ∧ ((w1.setCell ⟨r, 0, none⟩ x).setCell ⟨r, 1, none⟩ y).cell? ⟨r, 1, none⟩ = some y := by
  have h := (B.set_ 0 x).set_ 1 y
  have c0 := h.cell 0
  have c1 := h.cell 1
  simp at c0 c1
  exact ⟨c0, c1⟩
theorem below_two {w w1 : World} {r : Nat} (h : Below w.heap.size w w1) (hr : w.heap.size ≤ r) (x y : Value) : Below w.heap.size w ((w1.setCell ⟨r, 0, none⟩ x).setCell ⟨r, 1, none⟩ y) :=
  ⟨h.os, h.tape, h.output, by rw [set_size, set_size]; exact h.size, fun k hk => ((Below.heap_setCell _ ⟨r, 1, none⟩ y k (by simp only; omega)).trans (Below.heap_setCell _ ⟨r, 0, none⟩ x k (by simp only; omega))).trans (h.block k hk)⟩
theorem CodeAt.nil (w : World) : Cn.CodeAt w w.heap.size none 0 [] := ⟨rfl, fun h => absurd h (Nat.lt_irrefl 0)⟩


set_option maxRecDepth 100000 in
set_option maxHeartbeats 4000000 in
theorem two_form (R : Int) (A : Option Addr) (n c : Nat) (code : List Cn.Ins) (w : World) (hc : Cn.CodeAt w w.heap.size A n code) (hv : Cn.vCode R code = false) :
    Calls Try.prog 6 #[.agg #[.int .i64 R, .slice A n c]] w (TwoRan (twoS R code) w) := by
  have HS : Hid (twoS R code = ⟨0, [], [], 1⟩) := hid_ (by rw [twoS, if_pos hv])
  have HC := hid_ hc; clear hc
  have KV : Hid (∀ Y, Cn.CodeAt Y Y.heap.size A n code → Calls Try.prog 4 #[.agg #[.int .i64 R, .slice A n c]] Y fun e w' => e = .returned (.bool false) ∧ Below Y.heap.size Y w') := hid_ (fun Y h => by rw [← hv]; exact Cn.valid_any R A n c code Y h)
  clear hv
  go_enter Try.func6, Try.ntmps6
  go_wp2_with fail
  refine (KV.out _ (HC.out.to (below2 w _ _))).mono ?_
  rintro e w1 ⟨rfl, hb1⟩
  obtain ⟨B1, B2, hz, hw1⟩ := boxes2b hb1
  clear hb1
  have p0 := B1.cell 0
  have p1 := B1.cell 1
  have x0 := B2.cell 0
  have x1 := B2.cell 1
  have y0 := B2.free 0
  have y1 := B2.free 1
  simp at p0 p1 x0 x1
  have hz0 : w.heap.size < w1.heap.size := by omega
  have hz1 : w.heap.size + 1 < w1.heap.size := by omega
  go_wp2_with fail
  obtain ⟨e0, e1⟩ := res_two B2 (.int .i64 0) (.slice none 0 0)
  refine bodyPost_ret (v := .tuple #[.agg #[.int .i64 0, .slice none 0 0], .slice none 0 0, .int .i64 1]) (by simp [results, Try.results6, go_sem, e0, e1]) rfl ?_
  rw [HS.out]
  exact ⟨none, 0, 0, none, 0, 0, rfl, CodeAt.nil _, Cn.IntsAt.nil _, (fun k hk => by simp [Value.ownBlock] at hk), below_two hw1 (by omega) _ _⟩

set_option maxRecDepth 100000 in
set_option maxHeartbeats 4000000 in
theorem two_arg (R : Int) (A : Option Addr) (n c : Nat) (code : List Cn.Ins) (w : World) (hc : Cn.CodeAt w w.heap.size A n code) (hv : Cn.vCode R code = true) (hR : 6 < R) :
    Calls Try.prog 6 #[.agg #[.int .i64 R, .slice A n c]] w (TwoRan (twoS R code) w) := by
  have HS : Hid (twoS R code = ⟨0, [], [], 2⟩) := hid_ (by rw [twoS, if_neg (by rw [hv]; simp), if_pos hR])
  have HC := hid_ hc; clear hc
  have KV : Hid (∀ Y, Cn.CodeAt Y Y.heap.size A n code → Calls Try.prog 4 #[.agg #[.int .i64 R, .slice A n c]] Y fun e w' => e = .returned (.bool true) ∧ Below Y.heap.size Y w') := hid_ (fun Y h => by rw [← hv]; exact Cn.valid_any R A n c code Y h)
  clear hv
  go_enter Try.func6, Try.ntmps6
  go_wp2_with fail
  refine (KV.out _ (HC.out.to (below2 w _ _))).mono ?_
  rintro e w1 ⟨rfl, hb1⟩
  obtain ⟨B1, B2, hz, hw1⟩ := boxes2b hb1
  clear hb1
  have p0 := B1.cell 0
  have p1 := B1.cell 1
  have x0 := B2.cell 0
  have x1 := B2.cell 1
  have y0 := B2.free 0
  have y1 := B2.free 1
  simp at p0 p1 x0 x1
  have hz0 : w.heap.size < w1.heap.size := by omega
  have hz1 : w.heap.size + 1 < w1.heap.size := by omega
  go_wp2_with fail
  obtain ⟨e0, e1⟩ := res_two B2 (.int .i64 0) (.slice none 0 0)
  refine bodyPost_ret (v := .tuple #[.agg #[.int .i64 0, .slice none 0 0], .slice none 0 0, .int .i64 2]) (by simp [results, Try.results6, go_sem, e0, e1]) rfl ?_
  rw [HS.out]
  exact ⟨none, 0, 0, none, 0, 0, rfl, CodeAt.nil _, Cn.IntsAt.nil _, (fun k hk => by simp [Value.ownBlock] at hk), below_two hw1 (by omega) _ _⟩
end Go.Proofs.Ytonammaecpapmaa.Pp

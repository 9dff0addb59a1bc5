/- The writer: words for memory; emit. -/
import Derived.Test.YtonammaecpapmaaAd
namespace Go.Proofs.Ytonammaecpapmaa.Pp
open Go.RowKit

structure InstS where
  op : Int
  reg : Int
  next : Int
  zero : Int
def icells (i : InstS) : List Value := [.int .i64 i.op, .int .i64 i.reg, .int .i64 i.next, .int .i64 i.zero]
def icellsL (l : List InstS) : List Value := l.flatMap icells
theorem icells_one (i : InstS) : ∀ v ∈ icells i, v.oneCell' = true := by
  intro v hv
  simp only [icells, List.mem_cons, List.not_mem_nil, or_false] at hv
  rcases hv with rfl | rfl | rfl | rfl <;> rfl
theorem icellsL_snoc (l : List InstS) (i : InstS) : icellsL (l ++ [i]) = icellsL l ++ icells i := by simp [icellsL]
theorem icellsL_len (l : List InstS) : (icellsL l).length = l.length * 4 := by
  induction l with
  | nil => rfl
  | cons a l ih =>
    rw [icellsL, List.flatMap_cons, List.length_append]
    have : (List.flatMap icells l).length = l.length * 4 := ih
    rw [this, List.length_cons]
    show 4 + l.length * 4 = _
    omega
theorem Try.infoN : (Try.prog.info? 48).map (fun i => (i.zero, i.size, i.bytes)) = some (some (.agg #[.int .i64 0, .int .i64 0, .int .i64 0, .int .i64 0]), 4, 32) := by kernel_rfl
/-- What a call on the writer at box g leaves alone: all but the box and the block of its code. -/
structure Kw (g : Nat) (c c' : Value) (w w' : World) : Prop where
  os : w'.os = w.os
  tape : w'.tape = w.tape
  output : w'.output = w.output
  size : w.heap.size ≤ w'.heap.size
  block : ∀ b, b < w.heap.size → b ≠ g → c.ownBlock ≠ some b → w'.heap[b]? = w.heap[b]?
  own : c'.ownBlock = c.ownBlock ∨ ∀ k, c'.ownBlock = some k → w.heap.size ≤ k
theorem Kw.refl (g : Nat) (c : Value) (w : World) : Kw g c c w w := ⟨rfl, rfl, rfl, Nat.le_refl _, fun _ _ _ _ => rfl, .inl rfl⟩
theorem Kw.trans {g : Nat} {c1 c2 c3 : Value} {a b c : World} (h : Kw g c1 c2 a b) (h2 : Kw g c2 c3 b c) : Kw g c1 c3 a c := by
  refine ⟨h2.os.trans h.os, h2.tape.trans h.tape, h2.output.trans h.output, Nat.le_trans h.size h2.size, fun k h3 h4 h5 => (h2.block k (Nat.lt_of_lt_of_le h3 h.size) h4 (fun e => ?_)).trans (h.block k h3 h4 h5), ?_⟩
  · rcases h.own with e1 | e1
    · exact h5 (e1.symm.trans e)
    · have := e1 k e; omega
  · rcases h2.own with e2 | e2
    · rw [e2]; exact h.own
    · exact .inr fun k hk => Nat.le_trans h.size (e2 k hk)
theorem Kw.of {g : Nat} {c : Value} {a b : World} (h : Below a.heap.size a b) : Kw g c c a b :=
  ⟨h.os, h.tape, h.output, h.size, fun k h3 _ _ => h.block k h3, .inl rfl⟩
theorem Kw.drew {g : Nat} {c c' : Value} {a b : World} (h : Kw g c c' a b) : Kw g c c' a b.drew := ⟨h.os, h.tape, h.output, h.size, h.block, h.own⟩
theorem Kw.below {g : Nat} {c c' : Value} {w a b : World} (h : Kw g c c' a b) (hw : Below w.heap.size w a) (hg : w.heap.size ≤ g) (hc : ∀ k, c.ownBlock = some k → w.heap.size ≤ k) : Below w.heap.size w b :=
  ⟨h.os.trans hw.os, h.tape.trans hw.tape, h.output.trans hw.output, Nat.le_trans hw.size h.size, fun k hk => (h.block k (Nat.lt_of_lt_of_le hk hw.size) (by omega) (fun e => by have := hc k e; omega)).trans (hw.block k hk)⟩
theorem Kw.blk {g b : Nat} {c c' : Value} {w w' : World} {t : TypeId} {cs : Array Value} (h : Kw g c c' w w') (hb : Blk w b t cs) (hg : b ≠ g) (hc : c.ownBlock ≠ some b) : Blk w' b t cs := (h.block b hb.lt hg hc).trans hb
/-- A writer in memory. -/
structure WAt (g B : Nat) (pv cv : Value) (pts : List Int) (code : List InstS) (w : World) : Prop where
  box : Blk w g 59 #[pv, cv]
  pts : w.ownsRow B 3 1 pv pts.length (ints pts)
  code : w.ownsRow B 48 4 cv code.length (icellsL code)
  lt : g < B
  le : B ≤ w.heap.size
theorem WAt.to {g B : Nat} {pv cv : Value} {pts : List Int} {code : List InstS} {w w' : World} (h : WAt g B pv cv pts code w) (hb : Below w.heap.size w w') : WAt g B pv cv pts code w' :=
  ⟨h.box.to hb, own_below h.pts hb, own_below h.code hb, h.lt, Nat.le_trans h.le hb.size⟩
theorem own_types8 {w : World} {B B' n n' : Nat} {v u : Value} {xs ys : List Value} (h : w.ownsRow B 3 1 v n xs) (h' : w.ownsRow B' 48 4 u n' ys) : v.ownBlock = none ∨ v.ownBlock ≠ u.ownBlock := by
  rcases h.2 with ⟨hn, _⟩ | ⟨q, cap, cu, hvv, _, hq, _⟩
  · left; rw [hn]; rfl
  · right
    rw [hvv]
    rcases h'.2 with ⟨hn, _⟩ | ⟨q', cap', cu', hvv', _, hq', _⟩
    · rw [hn]; simp [Value.ownBlock]
    · rw [hvv']
      simp only [Value.ownBlock, ne_eq, Option.some.injEq]
      intro e
      rw [e, hq'] at hq
      simp at hq
theorem WAt.add {g B : Nat} {pv cv cv' : Value} {pts : List Int} {code : List InstS} {w Z : World} {i : InstS} (h : WAt g B pv cv pts code w) (hg : w.grownBy Z cv.ownBlock) (hat : cv'.ownBlock = cv.ownBlock ∨ cv'.ownBlock = some w.heap.size) (hown : Z.ownsRow B 48 4 cv' (code.length + 1) (icellsL code ++ icells i)) :
    WAt g B pv cv' pts (code ++ [i]) (Z.setCell ⟨g, 1, none⟩ cv') ∧ Kw g cv cv' w (Z.setCell ⟨g, 1, none⟩ cv') := by
  have hlt := h.lt
  have hc : ∀ q, cv.ownBlock = some q → B ≤ q := own_lt h.code
  have hp : ∀ q, pv.ownBlock = some q → B ≤ q := own_lt h.pts
  have hc' : ∀ q, cv'.ownBlock = some q → B ≤ q := own_lt hown
  refine ⟨⟨?_, ?_, ?_, h.lt, ?_⟩, ?_⟩
  · have := (h.box.grownby hg (fun e => by have := hc _ e.symm; omega)).set_ 1 cv'
    simpa using this
  · exact ownsRow_setCell_other (a := ⟨g, 1, none⟩) (h.pts.kept hg (own_types8 h.pts h.code)) (fun e => by have := hp _ e; simp only at this; omega) _
  · have e1 : (code ++ [i]).length = code.length + 1 := by simp
    rw [e1, icellsL_snoc]
    exact ownsRow_setCell_other (a := ⟨g, 1, none⟩) hown (fun e => by have := hc' _ e; simp only at this; omega) _
  · rw [set_size]; exact Nat.le_trans h.le hg.size
  · refine ⟨hg.os, hg.tape, hg.output, by rw [set_size]; exact hg.size, fun k h3 h4 h5 => (Below.heap_setCell Z ⟨g, 1, none⟩ cv' k h4).trans (hg.block k h3 (fun e => h5 e.symm)), ?_⟩
    rcases hat with e | e
    · exact .inl e
    · exact .inr fun k hk => by rw [e] at hk; cases hk; exact Nat.le_refl _

def EmRan (g B : Nat) (pv cv : Value) (pts : List Int) (code : List InstS) (w : World) (e : Ending) (w' : World) : Prop :=
  e = .returned (.tuple #[]) ∧ ∃ cv', WAt g B pv cv' pts code w' ∧ Kw g cv cv' w w'
set_option maxRecDepth 100000 in
set_option maxHeartbeats 4000000 in
theorem emit_any (i : InstS) (b g B : Nat) (pv cv : Value) (pts : List Int) (code : List InstS) (w : World) (h : WAt g B pv cv pts code w) (hcells : ∀ j u, (icells i)[j]? = some u → w.cell? ((⟨b, 0, none⟩ : Addr).add j) = some u) (hl : code.length ≤ 100000) :
    Calls Try.prog 35 #[.pointer (some ⟨g, 0, none⟩), .slice (some ⟨b, 0, none⟩) 1 1] w (EmRan g B pv cv pts (code ++ [i]) w) := by
  obtain ⟨A, c, rfl⟩ := own_form h.code
  obtain ⟨iI, hiI, hz0, hz1, hz2⟩ := info_parts Try.infoN
  have HH := hid_ h
  have HO := hid_ h.code
  have hB := h.le
  have c1 := h.box.cell 1
  simp at c1
  have HC := hid_ hcells
  have h63 : code.length + 1 ≤ maxLen := by unfold maxLen; omega
  have hby : (code.length + 1) * 32 ≤ 140737488355328 := by omega
  clear h hcells
  go_enter Try.func35, Try.ntmps35
  go_wp2_with (at_builtin; refine wpList_append_own_at _ rfl _ _ 22 rfl B 48 iI (.agg #[.int .i64 0, .int .i64 0, .int .i64 0, .int .i64 0]) 4 32 Try.underlying22 hiI hz0 hz1 hz2 rfl (by omega) (.slice A code.length c) code.length _ rfl HO.out ⟨b, 0, none⟩ 1 1 (icells i) rfl rfl HC.out (icells_one i) h63 hby hB ?_; intro u2 Z2 hown2 hg2 _ hat2; have HW := hid_ (HH.out.add (i := i) hg2 hat2 hown2); have BX := HH.out.box.grownby hg2 (fun e => by have := own_lt HO.out _ e.symm; have := HH.out.lt; omega); have k1 := BX.cell 1; have f1 := BX.free 1; simp at k1; obtain ⟨A2, c2, rfl⟩ := own_form hown2; clear hown2 hg2 hat2 BX)
  refine bodyPost_ret (v := .tuple #[]) (by simp [results, Try.results35, go_sem]) rfl ?_
  exact ⟨rfl, _, HW.out.1, HW.out.2⟩
end Go.Proofs.Ytonammaecpapmaa.Pp

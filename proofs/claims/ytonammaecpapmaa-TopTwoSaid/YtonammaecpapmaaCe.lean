/- Contracts: increase, decrease. -/
import Derived.Test.YtonammaecpapmaaCd
namespace Go.Proofs.Ytonammaecpapmaa.Cn
open Go.RowKit

/-- The state of a run in memory: the box go of the state, and the row g of the registers. -/
structure St (w : World) (base go g cap m : Nat) (at_ : Int) (rs : List Int) : Prop where
  box : Blk w go 29 #[.int .i64 at_, .slice (some ⟨g, 0, none⟩) m cap]
  row : w.ownsRow base 3 1 (.slice (some ⟨g, 0, none⟩) m cap) m (ints rs)
  ne : g ≠ go
/-- All blocks but two are as they were. -/
structure But (w w' : World) (go g : Nat) : Prop where
  os : w'.os = w.os
  tape : w'.tape = w.tape
  output : w'.output = w.output
  size : w.heap.size ≤ w'.heap.size
  block : ∀ k, k < w.heap.size → k ≠ go → k ≠ g → w'.heap[k]? = w.heap[k]?
theorem But.below {B go g : Nat} {w w' : World} (h : But w w' go g) (hB : B ≤ w.heap.size) (h1 : B ≤ go) (h2 : B ≤ g) : Below B w w' :=
  ⟨h.os, h.tape, h.output, h.size, fun k hk => h.block k (by omega) (by omega) (by omega)⟩

theorem Blk.set_ {w : World} {g : Nat} {t : TypeId} {cs : Array Value} (h : Blk w g t cs) (i : Nat) (u : Value) : Blk (w.setCell ⟨g, i, none⟩ u) g t (cs.setIfInBounds i u) := by
  unfold Blk at h ⊢
  simp [World.setCell, Array.getElem?_modify, h]
theorem Blk.far {w : World} {g : Nat} {t : TypeId} {cs : Array Value} (h : Blk w g t cs) {p : Addr} (hp : g ≠ p.block) (u : Value) : Blk (w.setCell p u) g t cs := (Below.heap_setCell w p u g hp).trans h
theorem Blk.dN {w : World} {g : Nat} {t : TypeId} {cs : Array Value} (h : Blk w g t cs) (n : Nat) : Blk (w.drewN n) g t cs := h

section
variable {w : World} {base go g cap m : Nat} {at_ : Int} {rs : List Int}
theorem St.alloc (h : St w base go g cap m at_ rs) (o : Obj) : St (w.alloc o) base go g cap m at_ rs := ⟨h.box.alloc o, h.row.alloc o, h.ne⟩
theorem St.dN (h : St w base go g cap m at_ rs) (n : Nat) : St (w.drewN n) base go g cap m at_ rs := ⟨h.box, h.row, h.ne⟩
theorem St.reg (h : St w base go g cap m at_ rs) (j : Nat) (y : Int) : St (w.setCell ⟨g, j, none⟩ (.int .i64 y)) base go g cap m at_ (rs.set j y) :=
  ⟨h.box.far (fun e => h.ne e.symm) _, by
    have := (h.row.stored j (.int .i64 y)).1
    simpa [ints, List.map_set] using this, h.ne⟩
theorem St.goto (h : St w base go g cap m at_ rs) (nx : Int) : St (w.setCell ⟨go, 0, none⟩ (.int .i64 nx)) base go g cap m nx rs :=
  ⟨by simpa using h.box.set_ 0 (.int .i64 nx), ownsRow_setCell_other h.row (by simp [Value.ownBlock]; exact h.ne) _, h.ne⟩
theorem But.refl (w : World) (go g : Nat) : But w w go g := ⟨rfl, rfl, rfl, Nat.le_refl _, fun _ _ _ _ => rfl⟩
theorem But.trans {a b c : World} {go g : Nat} (h : But a b go g) (k : But b c go g) : But a c go g :=
  ⟨k.os.trans h.os, k.tape.trans h.tape, k.output.trans h.output, Nat.le_trans h.size k.size, fun i hi h1 h2 => (k.block i (Nat.lt_of_lt_of_le hi h.size) h1 h2).trans (h.block i hi h1 h2)⟩
theorem But.alloc (w : World) (o : Obj) (go g : Nat) : But w (w.alloc o) go g := ⟨rfl, rfl, rfl, by simp, fun k hk _ _ => Below.heap_alloc _ _ _ hk⟩
theorem But.dN (w : World) (n : Nat) (go g : Nat) : But w (w.drewN n) go g := ⟨rfl, rfl, rfl, Nat.le_refl _, fun _ _ _ _ => rfl⟩
theorem But.set1 (w : World) (go g i : Nat) (u : Value) : But w (w.setCell ⟨go, i, none⟩ u) go g := ⟨rfl, rfl, rfl, by simp [World.setCell], fun k _ h _ => Below.heap_setCell _ _ _ _ h⟩
theorem But.set2 (w : World) (go g i : Nat) (u : Value) : But w (w.setCell ⟨g, i, none⟩ u) go g := ⟨rfl, rfl, rfl, by simp [World.setCell], fun k _ _ h => Below.heap_setCell _ _ _ _ h⟩
end

set_option maxHeartbeats 400000 in
theorem inc_any (base go g cap m j : Nat) (at_ x op nx zr : Int) (rs : List Int) (w : World) (hs : St w base go g cap m at_ rs) (hj : rs[j]? = some x) (hx : x < 1152921504606846976) (hx0 : 0 ≤ x) :
    Calls Try.prog 24 #[.pointer (some ⟨go, 0, none⟩), .agg #[.int .i64 op, .int .i64 j, .int .i64 nx, .int .i64 zr]] w fun e w' =>
      e = .returned (.bool true) ∧ St w' base go g cap m nx (rs.set j (x + 1)) ∧ But w w' go g := by
  have HS := hid_ hs
  obtain ⟨hbox, hrow, hne⟩ := hs
  have c0 := hbox.cell 0
  have c1 := hbox.cell 1
  have f0 := hbox.free 0
  have hgo := hbox.lt
  simp at c0 c1
  have hlen : rs.length = m := by simpa [ints] using hrow.1
  have hjm : j < m := by
    have := (List.getElem?_eq_some_iff.1 hj).1
    omega
  have cj : w.cell? ⟨g, j, none⟩ = some (.int .i64 x) := by
    rw [hrow.cellAt j (by omega)]
    simp [ints, hj]
  have fj := hrow.frozenAt j
  have hg : g < w.heap.size := cell_lt cj
  have hxe : (x == 1152921504606846976) = false := by simp; omega
  clear hj hrow hbox hlen
  go_enter Try.func24, Try.ntmps24
  go_wp2_with fail
  go_quiet (fail)
  go_wp2_with fail
  go_region
  all_goals go_wp2_with fail
  all_goals go_ret
  all_goals exact ⟨rfl, (((HS.out.alloc _).dN _).reg j (x + 1)).goto nx, (((But.alloc _ _ _ _).trans (But.dN _ _ _ _)).trans (But.set2 _ _ _ _ _)).trans (But.set1 _ _ _ _ _)⟩

set_option maxHeartbeats 400000 in
theorem inc_big (base go g cap m j : Nat) (at_ op nx zr : Int) (rs : List Int) (w : World) (hs : St w base go g cap m at_ rs) (hj : rs[j]? = some 1152921504606846976) :
    Calls Try.prog 24 #[.pointer (some ⟨go, 0, none⟩), .agg #[.int .i64 op, .int .i64 j, .int .i64 nx, .int .i64 zr]] w fun e w' =>
      e = .returned (.bool false) ∧ But w w' go g := by
  obtain ⟨hbox, hrow, hne⟩ := hs
  have c1 := hbox.cell 1
  have hgo := hbox.lt
  simp at c1
  have hlen : rs.length = m := by simpa [ints] using hrow.1
  have hjm : j < m := by
    have := (List.getElem?_eq_some_iff.1 hj).1
    omega
  have cj : w.cell? ⟨g, j, none⟩ = some (.int .i64 1152921504606846976) := by
    rw [hrow.cellAt j (by omega)]
    simp [ints, hj]
  have hg : g < w.heap.size := cell_lt cj
  clear hj hrow hbox hlen
  go_enter Try.func24, Try.ntmps24
  go_wp2_with fail
  go_quiet (fail)
  go_wp2_with fail
  go_ret
  exact ⟨rfl, (But.alloc _ _ _ _).trans (But.dN _ _ _ _)⟩

set_option maxHeartbeats 400000 in
theorem dec_any (base go g cap m j : Nat) (at_ x op nx zr : Int) (rs : List Int) (w : World) (hs : St w base go g cap m at_ rs) (hj : rs[j]? = some x) (hx : x ≤ 1152921504606846976) (hx0 : 0 < x) :
    Calls Try.prog 26 #[.pointer (some ⟨go, 0, none⟩), .agg #[.int .i64 op, .int .i64 j, .int .i64 nx, .int .i64 zr]] w fun e w' =>
      e = .returned (.bool true) ∧ St w' base go g cap m nx (rs.set j (x - 1)) ∧ But w w' go g := by
  have HS := hid_ hs
  obtain ⟨hbox, hrow, hne⟩ := hs
  have c0 := hbox.cell 0
  have c1 := hbox.cell 1
  have f0 := hbox.free 0
  have hgo := hbox.lt
  simp at c0 c1
  have hlen : rs.length = m := by simpa [ints] using hrow.1
  have hjm : j < m := by
    have := (List.getElem?_eq_some_iff.1 hj).1
    omega
  have cj : w.cell? ⟨g, j, none⟩ = some (.int .i64 x) := by
    rw [hrow.cellAt j (by omega)]
    simp [ints, hj]
  have fj := hrow.frozenAt j
  have hg : g < w.heap.size := cell_lt cj
  have hxe : (x == 0) = false := by simp; omega
  clear hj hrow hbox hlen
  go_enter Try.func26, Try.ntmps26
  go_wp2_with fail
  go_quiet (fail)
  go_wp2_with fail
  go_region
  all_goals go_wp2_with fail
  all_goals go_ret
  all_goals exact ⟨rfl, (((HS.out.alloc _).dN _).reg j (x - 1)).goto nx, (((But.alloc _ _ _ _).trans (But.dN _ _ _ _)).trans (But.set2 _ _ _ _ _)).trans (But.set1 _ _ _ _ _)⟩

set_option maxHeartbeats 400000 in
theorem dec_zero (base go g cap m j : Nat) (at_ op nx zr : Int) (rs : List Int) (w : World) (hs : St w base go g cap m at_ rs) (hj : rs[j]? = some 0) :
    Calls Try.prog 26 #[.pointer (some ⟨go, 0, none⟩), .agg #[.int .i64 op, .int .i64 j, .int .i64 nx, .int .i64 zr]] w fun e w' =>
      e = .returned (.bool true) ∧ St w' base go g cap m zr rs ∧ But w w' go g := by
  have HS := hid_ hs
  obtain ⟨hbox, hrow, hne⟩ := hs
  have c0 := hbox.cell 0
  have c1 := hbox.cell 1
  have f0 := hbox.free 0
  have hgo := hbox.lt
  simp at c0 c1
  have hlen : rs.length = m := by simpa [ints] using hrow.1
  have hjm : j < m := by
    have := (List.getElem?_eq_some_iff.1 hj).1
    omega
  have cj : w.cell? ⟨g, j, none⟩ = some (.int .i64 0) := by
    rw [hrow.cellAt j (by omega)]
    simp [ints, hj]
  have hg : g < w.heap.size := cell_lt cj
  clear hj hrow hbox hlen
  go_enter Try.func26, Try.ntmps26
  go_wp2_with fail
  go_quiet (fail)
  go_wp2_with fail
  go_ret
  exact ⟨rfl, ((HS.out.alloc _).dN _).goto zr, ((But.alloc _ _ _ _).trans (But.dN _ _ _ _)).trans (But.set1 _ _ _ _ _)⟩
end Go.Proofs.Ytonammaecpapmaa.Cn

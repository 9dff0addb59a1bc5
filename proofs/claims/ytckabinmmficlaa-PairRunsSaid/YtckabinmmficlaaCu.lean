/- Contracts: the specification's Go. -/
import Derived.Test.YtckabinmmficlaaCf
namespace Go.Proofs.Ytckabinmmficlaa.Cn
open Go.RowKit

set_option maxRecDepth 100000 in
set_option maxHeartbeats 2000000 in
theorem rgo_halt (R : Int) (b off n c base go g cap m a : Nat) (rg nx zr : Int) (code : List Ins) (rs : List Int) (w : World) (hc : CodeIn w b off code) (hn : code.length = n) (hi : code[a]? = some ⟨2, rg, nx, zr⟩) (hs : St w base go g cap m (a : Int) rs) :
    Calls Try.prog 32 #[.agg #[.int .i64 R, .slice (some ⟨b, off, none⟩) n c], .pointer (some ⟨go, 0, none⟩)] w fun e w' =>
      e = .returned (.tuple #[.bool true, .bool false]) ∧ But w w' go g ∧ St w' base go g cap m (a : Int) rs := by
  have HS := hid_ hs
  obtain ⟨i0, i1, i2, i3⟩ := hc a _ hi
  have ha : a < n := by
    have := (List.getElem?_eq_some_iff.1 hi).1
    omega
  have hb := cell_lt i0
  have go0 := hs.box.cell 0
  have go1 := hs.box.cell 1
  have gf0 := hs.box.free 0
  simp at go0 go1 hb i0 i1 i2 i3
  have hgo := hs.box.lt
  clear hc hn hi hs
  go_enter Try.func32, Try.ntmps32
  go_wp2_with fail
  go_region
  go_wp2_with fail
  go_ret2
  exact ⟨rfl, (But.alloc _ _ _ _).trans ((But.alloc _ _ _ _).trans (But.dN _ 1 _ _)), ((HS.out.alloc _).alloc _).dN 1⟩

set_option maxRecDepth 100000 in
set_option maxHeartbeats 2000000 in
theorem rgo_big (R : Int) (b off n c base go g cap m a : Nat) (j : Nat) (nx zr : Int) (code : List Ins) (rs : List Int) (w : World) (hc : CodeIn w b off code) (hn : code.length = n) (hi : code[a]? = some ⟨0, (j : Int), nx, zr⟩) (hs : St w base go g cap m (a : Int) rs) (hj : rs[j]? = some 1152921504606846976) :
    Calls Try.prog 32 #[.agg #[.int .i64 R, .slice (some ⟨b, off, none⟩) n c], .pointer (some ⟨go, 0, none⟩)] w fun e w' =>
      e = .returned (.tuple #[.bool false, .bool true]) ∧ But w w' go g := by
  have HS := hid_ hs
  obtain ⟨i0, i1, i2, i3⟩ := hc a _ hi
  have ha : a < n := by
    have := (List.getElem?_eq_some_iff.1 hi).1
    omega
  have hb := cell_lt i0
  have go0 := hs.box.cell 0
  have go1 := hs.box.cell 1
  have gf0 := hs.box.free 0
  simp at go0 go1 hb i0 i1 i2 i3
  have hgo := hs.box.lt
  have hlen : rs.length = m := by simpa [ints] using hs.row.1
  have hjm : j < m := by
    have := (List.getElem?_eq_some_iff.1 hj).1
    omega
  have cj : w.cell? ⟨g, j, none⟩ = some (.int .i64 1152921504606846976) := by
    rw [hs.row.cellAt j (by omega)]
    simp [ints, hj]
  have fj := hs.row.frozenAt j
  have hg : g < w.heap.size := cell_lt cj
  have hne := hs.ne
  clear hlen hj
  clear hc hn hi hs
  go_enter Try.func32, Try.ntmps32
  go_wp2_with fail
  go_region
  go_wp2_with fail
  go_quiet (fail)
  go_wp2_with fail
  go_ret2
  exact ⟨rfl, (But.alloc _ _ _ _).trans ((But.alloc _ _ _ _).trans ((But.dN _ 1 _ _).trans (But.dN _ _ _ _)))⟩

set_option maxRecDepth 100000 in
set_option maxHeartbeats 2000000 in
theorem rgo_inc (R : Int) (b off n c base go g cap m a : Nat) (j : Nat) (nx zr : Int) (code : List Ins) (rs : List Int) (w : World) (hc : CodeIn w b off code) (hn : code.length = n) (hi : code[a]? = some ⟨0, (j : Int), nx, zr⟩) (hs : St w base go g cap m (a : Int) rs) (x : Int) (hj : rs[j]? = some x) (hx : x < 1152921504606846976) (hx0 : 0 ≤ x) :
    Calls Try.prog 32 #[.agg #[.int .i64 R, .slice (some ⟨b, off, none⟩) n c], .pointer (some ⟨go, 0, none⟩)] w fun e w' =>
      e = .returned (.tuple #[.bool false, .bool false]) ∧ St w' base go g cap m nx (rs.set j (x + 1)) ∧ But w w' go g := by
  have HS := hid_ hs
  obtain ⟨i0, i1, i2, i3⟩ := hc a _ hi
  have ha : a < n := by
    have := (List.getElem?_eq_some_iff.1 hi).1
    omega
  have hb := cell_lt i0
  have go0 := hs.box.cell 0
  have go1 := hs.box.cell 1
  have gf0 := hs.box.free 0
  simp at go0 go1 hb i0 i1 i2 i3
  have hgo := hs.box.lt
  have hlen : rs.length = m := by simpa [ints] using hs.row.1
  have hjm : j < m := by
    have := (List.getElem?_eq_some_iff.1 hj).1
    omega
  have cj : w.cell? ⟨g, j, none⟩ = some (.int .i64 x) := by
    rw [hs.row.cellAt j (by omega)]
    simp [ints, hj]
  have fj := hs.row.frozenAt j
  have hg : g < w.heap.size := cell_lt cj
  have hne := hs.ne
  clear hlen hj
  clear hc hn hi hs
  go_enter Try.func32, Try.ntmps32
  go_wp2_with fail
  go_region
  go_wp2_with fail
  go_quiet (fail)
  go_wp2_with fail
  go_region
  all_goals go_wp2_with fail
  all_goals go_ret2
  all_goals exact ⟨rfl, (((((HS.out.alloc _).alloc _).dN _)).reg j (x + 1)).goto nx, ((((But.alloc _ _ _ _).trans (But.alloc _ _ _ _)).trans (But.dN _ _ _ _)).trans (But.set2 _ _ _ _ _)).trans (But.set1 _ _ _ _ _)⟩

set_option maxRecDepth 100000 in
set_option maxHeartbeats 2000000 in
theorem rgo_dec (R : Int) (b off n c base go g cap m a : Nat) (j : Nat) (nx zr : Int) (code : List Ins) (rs : List Int) (w : World) (hc : CodeIn w b off code) (hn : code.length = n) (hi : code[a]? = some ⟨1, (j : Int), nx, zr⟩) (hs : St w base go g cap m (a : Int) rs) (x : Int) (hj : rs[j]? = some x) (hx : x ≤ 1152921504606846976) (hx0 : 0 < x) :
    Calls Try.prog 32 #[.agg #[.int .i64 R, .slice (some ⟨b, off, none⟩) n c], .pointer (some ⟨go, 0, none⟩)] w fun e w' =>
      e = .returned (.tuple #[.bool false, .bool false]) ∧ St w' base go g cap m nx (rs.set j (x - 1)) ∧ But w w' go g := by
  have HS := hid_ hs
  obtain ⟨i0, i1, i2, i3⟩ := hc a _ hi
  have ha : a < n := by
    have := (List.getElem?_eq_some_iff.1 hi).1
    omega
  have hb := cell_lt i0
  have go0 := hs.box.cell 0
  have go1 := hs.box.cell 1
  have gf0 := hs.box.free 0
  simp at go0 go1 hb i0 i1 i2 i3
  have hgo := hs.box.lt
  have hlen : rs.length = m := by simpa [ints] using hs.row.1
  have hjm : j < m := by
    have := (List.getElem?_eq_some_iff.1 hj).1
    omega
  have cj : w.cell? ⟨g, j, none⟩ = some (.int .i64 x) := by
    rw [hs.row.cellAt j (by omega)]
    simp [ints, hj]
  have fj := hs.row.frozenAt j
  have hg : g < w.heap.size := cell_lt cj
  have hne := hs.ne
  clear hlen hj
  have hxe : (x == 0) = false := by simp; omega
  clear hc hn hi hs
  go_enter Try.func32, Try.ntmps32
  go_wp2_with fail
  go_region
  go_wp2_with fail
  go_quiet (fail)
  go_wp2_with fail
  go_region
  all_goals go_wp2_with fail
  all_goals go_ret2
  all_goals exact ⟨rfl, (((((HS.out.alloc _).alloc _).dN _)).reg j (x - 1)).goto nx, ((((But.alloc _ _ _ _).trans (But.alloc _ _ _ _)).trans (But.dN _ _ _ _)).trans (But.set2 _ _ _ _ _)).trans (But.set1 _ _ _ _ _)⟩

set_option maxRecDepth 100000 in
set_option maxHeartbeats 2000000 in
theorem rgo_zero (R : Int) (b off n c base go g cap m a : Nat) (j : Nat) (nx zr : Int) (code : List Ins) (rs : List Int) (w : World) (hc : CodeIn w b off code) (hn : code.length = n) (hi : code[a]? = some ⟨1, (j : Int), nx, zr⟩) (hs : St w base go g cap m (a : Int) rs) (hj : rs[j]? = some 0) :
    Calls Try.prog 32 #[.agg #[.int .i64 R, .slice (some ⟨b, off, none⟩) n c], .pointer (some ⟨go, 0, none⟩)] w fun e w' =>
      e = .returned (.tuple #[.bool false, .bool false]) ∧ St w' base go g cap m zr rs ∧ But w w' go g := by
  have HS := hid_ hs
  obtain ⟨i0, i1, i2, i3⟩ := hc a _ hi
  have ha : a < n := by
    have := (List.getElem?_eq_some_iff.1 hi).1
    omega
  have hb := cell_lt i0
  have go0 := hs.box.cell 0
  have go1 := hs.box.cell 1
  have gf0 := hs.box.free 0
  simp at go0 go1 hb i0 i1 i2 i3
  have hgo := hs.box.lt
  have hlen : rs.length = m := by simpa [ints] using hs.row.1
  have hjm : j < m := by
    have := (List.getElem?_eq_some_iff.1 hj).1
    omega
  have cj : w.cell? ⟨g, j, none⟩ = some (.int .i64 0) := by
    rw [hs.row.cellAt j (by omega)]
    simp [ints, hj]
  have fj := hs.row.frozenAt j
  have hg : g < w.heap.size := cell_lt cj
  have hne := hs.ne
  clear hlen hj
  clear hc hn hi hs
  go_enter Try.func32, Try.ntmps32
  go_wp2_with fail
  go_region
  go_wp2_with fail
  go_quiet (fail)
  go_wp2_with fail
  go_ret2
  exact ⟨rfl, ((((HS.out.alloc _).alloc _).dN _)).goto zr, (((But.alloc _ _ _ _).trans (But.alloc _ _ _ _)).trans (But.dN _ _ _ _)).trans (But.set1 _ _ _ _ _)⟩
end Go.Proofs.Ytckabinmmficlaa.Cn

/- Contracts: start of package standstilltop. -/
import Derived.Test.YtkbaiegfloajlaaTe
namespace Go.Proofs.Ytkbaiegfloajlaa.Tp
open Go.RowKit

/-- A run of package standstilltop: its cells begin at position -zero. -/
structure RunT where
  st : Int
  pos : Int
  zero : Int
  steps : Int
  cells : List Int
/-- Such a run in memory: its box go, from block B on, as its row is. -/
def RAt (w : World) (B go : Nat) (m : MachS) (v : Value) (r : RunT) : Prop :=
  ∃ (A : Option Addr) (c : Nat), Blk w go 37 #[.int .i64 m.states, .int .i64 m.symbols, v, .int .i64 r.st, .int .i64 r.pos, .slice A r.cells.length c, .int .i64 r.zero, .int .i64 r.steps] ∧
    w.ownsRow B 3 1 (.slice A r.cells.length c) r.cells.length (ints r.cells) ∧ B ≤ go ∧ some go ≠ (Value.slice A r.cells.length c).ownBlock
theorem RAt.to {w w' : World} {B go : Nat} {m : MachS} {v : Value} {r : RunT} (h : RAt w B go m v r) (hb : Below w.heap.size w w') : RAt w' B go m v r := by
  obtain ⟨A, c, h1, h2, h3, h4⟩ := h
  exact ⟨A, c, h1.to hb, own_below h2 hb, h3, h4⟩
def startT : RunT := ⟨0, 0, 32, 0, List.replicate 64 0⟩

set_option maxRecDepth 100000 in
set_option maxHeartbeats 2000000 in
theorem start_any (m : MachS) (v : Value) (w : World) :
    Calls Try.prog 6 #[.agg #[.int .i64 m.states, .int .i64 m.symbols, v]] w fun e w' => ∃ go, e = .returned (.pointer (some ⟨go, 0, none⟩)) ∧ RAt w' w.heap.size go m v startT ∧ Below w.heap.size w w' := by
  obtain ⟨i0, hi, hz0, hz1, hz2⟩ := info_parts Try.infoI
  obtain ⟨MC, hMC⟩ : ∃ MC, MC = madeCells (Value.int .i64 0).cells 64 := ⟨_, rfl⟩
  have hmk : ∀ X : World, (Instr.makeSlice 30 (.int .i64 64) (.int .i64 64)).run Try.prog X = .ok (.slice (some ⟨X.heap.size, 0, none⟩) 64 64) (X.alloc (.cells MC 3)) := fun X => by
    have := run_make (P := Try.prog) (w := X) 30 3 i0 (.int .i64 0) Try.underlying30 hi hz0 .i64 .i64 64 64 (by omega) (by omega) (by rw [hz2]; omega) (by omega)
    rw [hMC]
    simpa [hz1] using this
  have hls : MC.toList = ints (List.replicate 64 0) := by
    rw [hMC]
    have := toList_madeCells_one (Value.int .i64 0) 64
    rw [show (madeCells (Value.int .i64 0).cells 64).toList = List.replicate 64 (.int .i64 0) from this]
    simp [ints]
  have hsz : MC.size = 64 := by
    have := congrArg List.length hls
    simpa [ints] using this
  have HSZ := hid_ hsz
  have HLS := hid_ hls
  clear hMC hsz hls
  go_enter Try.func6, Try.ntmps6
  go_upto_region 1 with fail
  have BX := Blk.new w 24 #[.int .i64 m.states, .int .i64 m.symbols, v]
  have hbW := below1 w (.cells #[.int .i64 m.states, .int .i64 m.symbols, v] 24)
  generalize w.alloc (.cells #[.int .i64 m.states, .int .i64 m.symbols, v] 24) = W at *
  have p0 := BX.cell 0
  have p1 := BX.cell 1
  have p2 := BX.cell 2
  simp at p0 p1 p2
  have a0 : ∀ (k : Nat) (o : Obj), ((W.drewN k).alloc o).cell? ⟨w.heap.size, 0, none⟩ = some (.int .i64 m.states) := fun k o => keepa (w := W.drewN k) o p0
  have a1 : ∀ (k : Nat) (o : Obj), ((W.drewN k).alloc o).cell? ⟨w.heap.size, 1, none⟩ = some (.int .i64 m.symbols) := fun k o => keepa (w := W.drewN k) o p1
  have a2 : ∀ (k : Nat) (o : Obj), ((W.drewN k).alloc o).cell? ⟨w.heap.size, 2, none⟩ = some v := fun k o => keepa (w := W.drewN k) o p2
  have d0 : ∀ (o : Obj), (W.alloc o).cell? ⟨w.heap.size, 0, none⟩ = some (.int .i64 m.states) := fun o => keepa o p0
  have d1 : ∀ (o : Obj), (W.alloc o).cell? ⟨w.heap.size, 1, none⟩ = some (.int .i64 m.symbols) := fun o => keepa o p1
  have d2 : ∀ (o : Obj), (W.alloc o).cell? ⟨w.heap.size, 2, none⟩ = some v := fun o => keepa o p2
  go_region
  all_goals
    clear a0 a1 a2 d0 d1 d2 hmk
    go_wp2_with fail
    go_ret
    have hO := own_of (w := W.alloc (.cells MC 3)) (base := W.heap.size) (n := 64) (Nat.le_refl _) (heap_alloc_new W _) HSZ.out (by unfold maxLen; omega)
    rw [HLS.out] at hO
    have hB := Blk.new (W.alloc (.cells MC 3)) 37 #[.int .i64 m.states, .int .i64 m.symbols, v, .int .i64 0, .int .i64 0, .slice (some ⟨W.heap.size, 0, none⟩) 64 64, .int .i64 32, .int .i64 0]
    rw [show (W.alloc (.cells MC 3)).heap.size = W.heap.size + 1 by simp] at hB
    refine ⟨W.heap.size + 1, rfl, ⟨some ⟨W.heap.size, 0, none⟩, 64, hB, own_base (hO.alloc _) hbW.size, by have := hbW.size; omega, by simp [Value.ownBlock]⟩, ?_⟩
    exact bnext hbW (below2 W _ _).drew
end Go.Proofs.Ytkbaiegfloajlaa.Tp

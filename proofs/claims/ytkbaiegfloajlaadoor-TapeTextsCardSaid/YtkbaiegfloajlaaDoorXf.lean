/- Contracts: blankMachine. -/
import Derived.Test.YtkbaiegfloajlaaDoorXe
namespace Go.Proofs.YtkbaiegfloajlaaDoor.Tp
open Go.RowKit

theorem MAt.grow {w : World} {lo a R : Nat} {rb : Nat → Nat} {S X k : Nat} (h : MAt w lo a R rb S X k (fun _ _ => zeroR)) (hk : k < S) (ha : a < w.heap.size) (hlo : lo ≤ w.heap.size) :
    MAt ((w.alloc (.cells (rowCells X (fun _ => zeroR)) 74)).setCell ⟨R, k, none⟩ (.slice (some ⟨w.heap.size, 0, none⟩) X X)).drew lo a R (fun s => if s = k then w.heap.size else rb s) S X (k + 1) (fun _ _ => zeroR) := by
  have hR := h.rules.lt
  have hlt : ∀ s, s < k → rb s < w.heap.size := fun s hs => (h.row s hs).lt
  refine ⟨?_, fun s hs => ?_, fun s t hs ht he => ?_, fun s hs => ?_, ⟨h.low.1, fun s hs => ?_⟩, h.nea⟩
  · have := (h.rules.alloc (.cells (rowCells X (fun _ => zeroR)) 74)).set_ k (.slice (some ⟨w.heap.size, 0, none⟩) X X)
    rw [rowsV_set _ _ hk] at this
    exact this
  · by_cases e : s = k
    · simp only [e, if_true]
      exact (Blk.new w _ _).far (p := ⟨R, k, none⟩) (by simp; omega) _
    · simp only [e, if_false]
      have hs' : s < k := by omega
      exact ((h.row s hs').alloc _).far (p := ⟨R, k, none⟩) (h.ne s hs').1 _
  · by_cases e1 : s = k
    · by_cases e2 : t = k
      · rw [e1, e2]
      · have := hlt t (by omega)
        simp only [e1, e2, if_true, if_false] at he
        omega
    · by_cases e2 : t = k
      · have := hlt s (by omega)
        simp only [e1, e2, if_true, if_false] at he
        omega
      · simp only [e1, e2, if_false] at he
        exact h.inj s t (by omega) (by omega) he
  · by_cases e : s = k
    · simp only [e, if_true]
      omega
    · simp only [e, if_false]
      exact h.ne s (by omega)
  · by_cases e : s = k
    · simp only [e, if_true]
      exact hlo
    · simp only [e, if_false]
      exact h.low.2 s (by omega)
theorem two_old (W : World) (t1 t2 : TypeId) (c1 c2 : Array Value) : Blk ((W.alloc (.cells c1 t1)).alloc (.cells c2 t2)).drew W.heap.size t1 c1 := (Blk.new W t1 c1).alloc _
theorem two_new (W : World) (t1 t2 : TypeId) (c1 c2 : Array Value) : Blk ((W.alloc (.cells c1 t1)).alloc (.cells c2 t2)).drew (W.heap.size + 1) t2 c2 := by
  have h := Blk.new (W.alloc (.cells c1 t1)) t2 c2
  rw [show (W.alloc (.cells c1 t1)).heap.size = W.heap.size + 1 by simp] at h
  exact h

set_option maxRecDepth 100000 in
set_option maxHeartbeats 8000000 in
theorem blank_any (S X n2 c2 : Nat) (A2 : Option Addr) (w : World) (hS : S ≤ 6) (hX : X ≤ 4) :
    Calls Tryd.prog 56 #[.agg #[.int .i64 (S : Int), .int .i64 (X : Int), .slice A2 n2 c2]] w fun e w' => ∃ a R rb, e = .returned (.agg #[.int .i64 (S : Int), .int .i64 (X : Int), .slice (some ⟨R, 0, none⟩) S S]) ∧ MAt w' w.heap.size a R rb S X S (fun _ _ => zeroR) ∧ Below w.heap.size w w' := by
  have hbW := below2 w (.cells #[.int .i64 (S : Int), .int .i64 (X : Int), .slice A2 n2 c2] 24) (.cells #[.int .i64 0, .int .i64 0, .slice none 0 0] 24)
  have B1 := (Blk.new w 24 #[.int .i64 (S : Int), .int .i64 (X : Int), .slice A2 n2 c2]).alloc (.cells #[.int .i64 0, .int .i64 0, .slice none 0 0] 24)
  have B2 := Blk.new (w.alloc (.cells #[.int .i64 (S : Int), .int .i64 (X : Int), .slice A2 n2 c2] 24)) 24 #[.int .i64 0, .int .i64 0, .slice none 0 0]
  rw [show (w.alloc (.cells #[.int .i64 (S : Int), .int .i64 (X : Int), .slice A2 n2 c2] 24)).heap.size = w.heap.size + 1 by simp] at B2
  have HB1 := hid_ B1
  have HB2 := hid_ B2
  clear B1 B2
  obtain ⟨iL, hiL, hzL0, hzL1, hzL2⟩ := info_parts Tryd.infoRL
  obtain ⟨iR, hiR, hzR0, hzR1, hzR2⟩ := info_parts Tryd.infoR
  obtain ⟨M1, hM1⟩ : ∃ M, M = rowsV S X (fun _ => 0) 0 := ⟨_, rfl⟩
  obtain ⟨M2, hM2⟩ : ∃ M, M = rowCells X (fun _ => zeroR) := ⟨_, rfl⟩
  have hm1 : ∀ Y : World, (Instr.makeSlice 22 (.int .i64 (S : Int)) (.int .i64 (S : Int))).run Tryd.prog Y = .ok (.slice (some ⟨Y.heap.size, 0, none⟩) S S) (Y.alloc (.cells M1 72)) := fun Y => by
    have := run_make (P := Tryd.prog) (w := Y) 22 72 iL (.slice none 0 0) Tryd.underlying22 hiL hzL0 .i64 .i64 S S (by omega) (by omega) (by rw [hzL2]; omega) (by omega)
    rw [hzL1, Int.toNat_natCast, rowsV_zero S X (fun _ => 0), ← hM1] at this
    exact this
  have hm2 : ∀ Y : World, (Instr.makeSlice 72 (.int .i64 (X : Int)) (.int .i64 (X : Int))).run Tryd.prog Y = .ok (.slice (some ⟨Y.heap.size, 0, none⟩) X X) (Y.alloc (.cells M2 74)) := fun Y => by
    have := run_make (P := Tryd.prog) (w := Y) 72 74 iR (.agg #[.int .i64 0, .int .i64 0, .int .i64 0]) Tryd.underlying72 hiR hzR0 .i64 .i64 X X (by omega) (by omega) (by rw [hzR2]; omega) (by omega)
    rw [hzR1, Int.toNat_natCast, rowCells_zero, ← hM2] at this
    exact this
  have HM1 := hid_ hM1
  have HM2 := hid_ hM2
  have HMK := hid_ hm2
  clear hM1 hM2 hm2 hiL hzL0 hzL1 hzL2 hiR hzR0 hzR1 hzR2
  go_enter Tryd.func56, Tryd.ntmps56
  go_upto_region 1 with fail
  generalize (w.alloc (.cells #[.int .i64 (S : Int), .int .i64 (X : Int), .slice A2 n2 c2] 24)).alloc (.cells #[.int .i64 0, .int .i64 0, .slice none 0 0] 24) = W at *
  have p0 := HB1.out.cell 0
  have p1 := HB1.out.cell 1
  simp at p0 p1
  go_cut [3] (fun s wx => ∃ a R, s = .pointer (some ⟨a, 0, none⟩) ∧ Blk wx a 24 #[.int .i64 (S : Int), .int .i64 (X : Int), .slice (some ⟨R, 0, none⟩) S S] ∧ Blk wx R 72 M1 ∧ R ≠ a ∧ W.heap.size ≤ a ∧ W.heap.size ≤ R ∧ Below W.heap.size W wx)
  case first => as_aux_lemma =>
    go_region_held3 (fun w' => w'.cell? ⟨w.heap.size, 0, none⟩ = some (.int .i64 (S : Int)) ∧ w'.cell? ⟨w.heap.size, 1, none⟩ = some (.int .i64 (X : Int)))
      (first | assumption | (with_reducible exact (let hb := below1 W _; ⟨keepc hb p0, keepc hb p1⟩)) | (with_reducible exact (let hb := (below1 W _).drew; ⟨keepc hb p0, keepc hb p1⟩)) | (with_reducible exact (let hb := below2 W _ _; ⟨keepc hb p0, keepc hb p1⟩)) | (with_reducible exact (let hb := (below2 W _ _).drew; ⟨keepc hb p0, keepc hb p1⟩)) | (with_reducible exact (let hb := (below1 W _).drew.alloc (by simp [size_ad]) _; ⟨keepc hb p0, keepc hb p1⟩)) | (with_reducible exact (let hb := ((below1 W _).drew.alloc (by simp [size_ad]) _).drew; ⟨keepc hb p0, keepc hb p1⟩)) | (with_reducible exact (let hb := (Below.refl W.heap.size W).drew; ⟨keepc hb p0, keepc hb p1⟩)) | (with_reducible exact (let hb := Below.refl W.heap.size W; ⟨keepc hb p0, keepc hb p1⟩)) | (with_reducible exact (let hb := below_drewN (Below.refl W.heap.size W) _; ⟨keepc hb p0, keepc hb p1⟩)) | (go_keep; done))
      (fail)
    all_goals
      go_wp2_with fail
      go_meet
      first
        | exact ⟨W.heap.size + 1, W.heap.size, rfl, two_new _ _ _ _ _, two_old _ _ _ _ _, by omega, by omega, Nat.le_refl _, (below2 W _ _).drew⟩
        | exact ⟨W.heap.size, W.heap.size + 1, rfl, two_old _ _ _ _ _, two_new _ _ _ _ _, by omega, Nat.le_refl _, by omega, (below2 W _ _).drew⟩
  case rest => as_aux_lemma =>
    obtain ⟨a, R, rfl, hB, hR, hRa, ha, hRl, hbc⟩ := hcut
    obtain ⟨Y, rfl⟩ : ∃ X : World, X = wc := ⟨_, rfl⟩
    have ho1 := HB2.out.lt
    have HA := hid_ hB
    have HR0 : Hid (MAt Y W.heap.size a R (fun _ => 0) S X 0 (fun _ _ => zeroR)) := hid_ ⟨by rw [← HM1.out]; exact hR, fun s h => absurd h (by omega), fun s t h => absurd h (by omega), fun s h => absurd h (by omega), ⟨hRl, fun s h => absurd h (by omega)⟩, hRa⟩
    have y2 := HA.out.cell 2
    simp at y2
    clear hB hR p0 p1 hm1 HM1
    go_wp2_with fail
    go_loopw [16] (fun s wr => ∃ (k : Nat) (rb : Nat → Nat), s = .int .i64 (k : Int) ∧ k ≤ S ∧ Hid (MAt wr W.heap.size a R rb S X k (fun _ _ => zeroR)) ∧ Hid (Blk wr a 24 #[.int .i64 (S : Int), .int .i64 (X : Int), .slice (some ⟨R, 0, none⟩) S S]) ∧ Below W.heap.size W wr) (fun s _ => S - (intOf s).toNat)
    case atStart => exact ⟨0, _, rfl, Nat.zero_le _, HR0, HA, hbc⟩
    case round =>
      obtain ⟨k, rb, rfl, hk, HMr, HAr, hbr⟩ := hrel
      clear y2 HA HR0 hbc
      by_cases hlt : k < S
      · have p1 := (HB1.out.to hbr).cell 1
        have y2 := HAr.out.cell 2
        simp at p1 y2
        have s0 : 0 ≤ (k : Int) := by omega
        have s1 : (k : Int) < (S : Int) := by omega
        have f9 : ∀ o : Obj, (wr.alloc o).frozen? ⟨R, k, none⟩ = false := fun o => (HMr.out.rules.alloc o).free k
        have c9 : ∀ o : Obj, (wr.alloc o).cell? ⟨R, k, none⟩ = some (.slice none 0 0) := fun o => by
          rw [(HMr.out.rules.alloc o).cell k, rowsV_get _ hlt, if_neg (by omega)]
        have hmk := HMK.out
        have hRw : R ≠ w.heap.size := by omega
        go_upto_region 5 with fail
        go_region_held3 (fun w' => w'.cell? ⟨w.heap.size, 1, none⟩ = some (.int .i64 (X : Int)) ∧ w'.cell? ⟨a, 2, none⟩ = some (.slice (some ⟨R, 0, none⟩) S S))
          (first | assumption | (with_reducible exact (let hb := below1 wr _; ⟨keepc hb p1, keepc hb y2⟩)) | (with_reducible exact (let hb := (below1 wr _).drew; ⟨keepc hb p1, keepc hb y2⟩)) | (with_reducible exact (let hb := (Below.refl wr.heap.size wr).drew; ⟨keepc hb p1, keepc hb y2⟩)) | (with_reducible exact (let hb := Below.refl wr.heap.size wr; ⟨keepc hb p1, keepc hb y2⟩)) | (with_reducible exact (let hb := below_drewN (Below.refl wr.heap.size wr) _; ⟨keepc hb p1, keepc hb y2⟩)) | (go_keep; done))
          (fail)
        all_goals
          go_wp2_with fail
          go_roundw
          case rel =>
            have h9 := HMr.out.grow hlt HAr.out.lt hbr.size
            rw [← HM2.out] at h9
            exact ⟨k + 1, _, by go_num, by omega, hid_ h9, hid_ ((HAr.out.alloc _).far (p := ⟨R, k, none⟩) (fun e => hRa e.symm) _), ((hbr.alloc hbr.size _).setCell (p := ⟨R, k, none⟩) hRl _).drew⟩
          case measure => simp [intOf]; omega
      · obtain rfl : k = S := by omega
        have HB2r := hid_ (HB2.out.to hbr)
        have hbY := bnext hbW hbr
        have y0 := HAr.out.cell 0
        have y1 := HAr.out.cell 1
        have y2 := HAr.out.cell 2
        simp at y0 y1 y2
        have s0 := HB2r.out.free 0
        have s1 := HB2r.out.free 1
        have s2 := HB2r.out.free 2
        have r0 := HB2r.out.cell 0
        have r1 := HB2r.out.cell 1
        have r2 := HB2r.out.cell 2
        simp at r0 r1 r2
        go_wp2_with fail
        have BZ := (((HB2r.out).set_ 0 (.int .i64 (k : Int))).set_ 1 (.int .i64 (X : Int))).set_ 2 (.slice (some ⟨R, 0, none⟩) k k)
        have e0 := BZ.cell 0
        have e1 := BZ.cell 1
        have e2 := BZ.cell 2
        simp at e0 e1 e2
        refine bodyPost_ret (v := .agg #[.int .i64 (k : Int), .int .i64 (X : Int), .slice (some ⟨R, 0, none⟩) k k]) (by simp [results, Tryd.results56, go_sem, e0, e1, e2]) rfl ?_
        have hM9 := ((HMr.out.far (p := ⟨w.heap.size + 1, 0, none⟩) ⟨by simp; omega, fun s hs => by have := HMr.out.low.2 s hs; simp; omega⟩ (.int .i64 (k : Int))).far (p := ⟨w.heap.size + 1, 1, none⟩) ⟨by simp; omega, fun s hs => by have := HMr.out.low.2 s hs; simp; omega⟩ (.int .i64 (X : Int))).far (p := ⟨w.heap.size + 1, 2, none⟩) ⟨by simp; omega, fun s hs => by have := HMr.out.low.2 s hs; simp; omega⟩ (.slice (some ⟨R, 0, none⟩) k k)
        exact ⟨a, R, rb, rfl, ⟨hM9.rules, hM9.row, hM9.inj, hM9.ne, ⟨Nat.le_trans hbW.size hM9.low.1, fun s hs => Nat.le_trans hbW.size (hM9.low.2 s hs)⟩, hM9.nea⟩, (((hbY).setCell (by simp <;> omega) _).setCell (by simp <;> omega) _).setCell (by simp <;> omega) _⟩
end Go.Proofs.YtkbaiegfloajlaaDoor.Tp

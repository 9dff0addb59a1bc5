/- Contracts: on of package standstilltop. -/
import Derived.Test.YtkbaiegfloajlaaUc
import Derived.Test.YtkbaiegfloajlaaUa
import Derived.Test.YtkbaiegfloajlaaTn
namespace Go.Proofs.Ytkbaiegfloajlaa.Tp
open Go.RowKit

/-- A run stands for the configuration after k steps. -/
structure Rel (m : MachS) (k : Nat) (d : CfgS) (r : RunT) (lo hi : Int) : Prop where
  st : r.st = d.st
  pos : r.pos = d.pos
  steps : r.steps = k
  zero : 2 * r.zero = r.cells.length
  len : r.cells.length ≤ 64 + 6 * k
  len0 : 64 ≤ r.cells.length
  cells : ∀ p, cellAt (-r.zero) r.cells p = cellAt d.frm d.cells p
  norm : Norm d.frm d.cells
  run : runC m k ⟨0, 0, 0, []⟩ = some (d, k)
  within : withinC d m.states m.symbols = true
  visit : Visit k d lo hi
  near : -r.zero - 1 ≤ r.pos ∧ r.pos + r.zero ≤ r.cells.length
theorem rel_start {m : MachS} (hv : validM m = true) : Rel m 0 ⟨0, 0, 0, []⟩ startT 0 (-1) := by
  obtain ⟨v1, _, _, _, _, _⟩ := validM_parts hv
  refine ⟨rfl, rfl, rfl, by decide, by decide, by decide, fun p => ?_, .inl ⟨rfl, rfl⟩, rfl, within_iff.2 ⟨by simp, by show (0 : Int) < m.states; omega, by decide, by decide, by simp, .inl ⟨rfl, rfl⟩, rfl⟩, visit_zero, by decide⟩
  rw [cellAt_nil]
  exact cellAt_zeros _ _ _
/-- The run with memory under its head. -/
def RunT.wide (r : RunT) : RunT := if r.pos + r.zero < 0 ∨ (r.cells.length : Int) ≤ r.pos + r.zero then { r with zero := r.zero + r.cells.length, cells := List.replicate r.cells.length 0 ++ r.cells ++ List.replicate r.cells.length 0 } else r
theorem wide_ok {m : MachS} {k : Nat} {d : CfgS} {r : RunT} {lo hi : Int} (h : Rel m k d r lo hi) : r.wide.st = d.st ∧ r.wide.pos = d.pos ∧ r.wide.steps = k ∧ 2 * r.wide.zero = r.wide.cells.length ∧ r.wide.cells.length ≤ 64 + 6 * (k + 1) ∧ 64 ≤ r.wide.cells.length ∧ (∀ p, cellAt (-r.wide.zero) r.wide.cells p = cellAt d.frm d.cells p) ∧ 0 ≤ d.pos + r.wide.zero ∧ d.pos + r.wide.zero < r.wide.cells.length := by
  have h1 := h.pos; have h2 := h.zero; have h3 := h.len; have h4 := h.visit.near; have h5 := h.len0; have h6 := h.near
  unfold RunT.wide
  split
  · rename_i hh
    have hl : (List.replicate r.cells.length 0 ++ r.cells ++ List.replicate r.cells.length 0).length = 3 * r.cells.length := by simp; omega
    refine ⟨h.st, h.pos, h.steps, ?_, ?_, ?_, fun p => ?_, ?_, ?_⟩
    · show 2 * (r.zero + r.cells.length) = ((List.replicate r.cells.length 0 ++ r.cells ++ List.replicate r.cells.length 0).length : Int)
      rw [hl]; omega
    · show (List.replicate r.cells.length 0 ++ r.cells ++ List.replicate r.cells.length 0).length ≤ _
      rw [hl]; omega
    · show _ ≤ (List.replicate r.cells.length 0 ++ r.cells ++ List.replicate r.cells.length 0).length
      rw [hl]; omega
    · show cellAt (-(r.zero + r.cells.length)) (List.replicate r.cells.length 0 ++ r.cells ++ List.replicate r.cells.length 0) p = _
      rw [← h.cells p, show -(r.zero + (r.cells.length : Int)) = -r.zero - ((r.cells.length : Nat) : Int) by omega]
      exact cellAt_grown _ _ _ _ _
    · show 0 ≤ d.pos + (r.zero + r.cells.length)
      omega
    · show d.pos + (r.zero + r.cells.length) < ((List.replicate r.cells.length 0 ++ r.cells ++ List.replicate r.cells.length 0).length : Int)
      rw [hl]; omega
  · rename_i hh
    exact ⟨h.st, h.pos, h.steps, h.zero, by omega, h.len0, h.cells, by omega, by omega⟩
/-- A step of the run. -/
def RunT.next (r : RunT) (x : RuleS) : RunT := { st := x.n, pos := r.pos + x.m, zero := r.zero, steps := r.steps + 1, cells := r.cells.set (r.pos + r.zero).toNat x.w }
theorem next_ok {m : MachS} {k : Nat} {d : CfgS} {r : RunT} {lo hi : Int} (hv : validM m = true) (h : Rel m k d r lo hi) (hs : d.st ≠ -1) (hk : k < 100000) :
    ∃ e lo' hi', Rel m (k + 1) e (r.wide.next (ruleAt m d.st (cellAt d.frm d.cells d.pos))) lo' hi' := by
  obtain ⟨w1, w2, w3, w4, w5, w6, w7, w8, w9⟩ := wide_ok h
  obtain ⟨wd1, wd2, _, _, _, _, wd7⟩ := within_iff.1 h.within
  obtain ⟨_, _, v3, _, _, _⟩ := validM_parts hv
  have hcl := (symB_cells (b := d.frm) (by omega)).1 wd7
  have hmr : ∀ r, r = ruleAt m d.st (cellAt d.frm d.cells d.pos) → r.m = -1 ∨ r.m = 1 := fun r hr => by
    obtain ⟨s, hse⟩ := Int.eq_ofNat_of_zero_le (show 0 ≤ d.st by omega)
    obtain ⟨x, hxe⟩ := Int.eq_ofNat_of_zero_le (hcl d.pos).1
    obtain ⟨_, r', _, _, h3, h4, _⟩ := rule_at hv (s := s) (x := x) (by omega) (by have := (hcl d.pos).2; omega)
    rw [hse, hxe, h3] at hr
    subst hr
    exact (ruleB_yes.1 h4).2.2.2.2
  obtain ⟨e, lo', hi', e1, e2, e3, e4, e5, e6⟩ := visit_step h.visit hk hmr
  have hlen : ∀ x, (r.wide.next x).cells.length = r.wide.cells.length := fun x => by
    show (r.wide.cells.set _ _).length = _
    rw [List.length_set]
  refine ⟨e, lo', hi', ⟨e4.symm, ?_, ?_, ?_, ?_, ?_, fun p => ?_, e6, runC_next h.run hs e1, step_within hv h.within hs e1, e2, ?_⟩⟩
  · show r.wide.pos + _ = _
    rw [w2, e5]
  · show r.wide.steps + 1 = _
    rw [w3]; simp
  · rw [hlen]; exact w4
  · rw [hlen]; exact w5
  · rw [hlen]; exact w6
  · show cellAt (-r.wide.zero) (r.wide.cells.set (r.wide.pos + r.wide.zero).toNat _) p = _
    rw [w2, cellAt_set (by omega), e3, w7, show -r.wide.zero + ((d.pos + r.wide.zero).toNat : Int) = d.pos by omega]
  · have hm1 := hmr _ rfl
    rw [hlen]
    show -r.wide.zero - 1 ≤ r.wide.pos + (ruleAt m d.st (cellAt d.frm d.cells d.pos)).m ∧ r.wide.pos + (ruleAt m d.st (cellAt d.frm d.cells d.pos)).m + r.wide.zero ≤ r.wide.cells.length
    rw [w2]
    rcases hm1 with e | e <;> rw [e] <;> omega
end Go.Proofs.Ytkbaiegfloajlaa.Tp

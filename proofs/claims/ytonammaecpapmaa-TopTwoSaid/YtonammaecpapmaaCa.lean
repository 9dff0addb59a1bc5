/- Contracts of the small functions of package counter. -/
import Derived.Test.YtonammaecpapmaaKa
import Derived.WalkKit
import Derived.WalkSpells
import Derived.WalkLawsBesides
import Derived.Deep.QuietTactic
import Derived.BigQuiet
import Derived.Deep.RegionHeld3
import Derived.Deep.DeepCutAuto
import Derived.Laws.EntriesVeiled
namespace Go.Proofs.Ytonammaecpapmaa.Cn
open Go.RowKit

theorem ret_bool {a b : Bool} (h : a = b) : Ending.returned (.bool a) = .returned (.bool b) := by rw [h]

/-- Whether x is an index below n. -/
def inB (x n : Int) : Bool := decide (0 ≤ x ∧ x < n)
theorem inB_true {x n : Int} : inB x n = true ↔ 0 ≤ x ∧ x < n := by simp [inB]
theorem inB_false {x n : Int} : inB x n = false ↔ ¬ (0 ≤ x ∧ x < n) := by simp [inB]

set_option maxHeartbeats 400000 in
theorem isReg_any (R x : Int) (A : Option Addr) (n c : Nat) (w : World) :
    Calls Try.prog 39 #[.agg #[.int .i64 R, .slice A n c], .int .i64 x] w fun e w' => e = .returned (.bool (inB x R)) ∧ Below w.heap.size w w' := by
  go_enter Try.func39, Try.ntmps39
  go_wp2
  all_goals
    go_ret
    exact ⟨ret_bool (by simp [inB]; omega), (Below.refl _ _).alloc (Nat.le_refl _) _⟩

set_option maxHeartbeats 400000 in
theorem isTarget_any (R x : Int) (A : Option Addr) (n c : Nat) (w : World) :
    Calls Try.prog 36 #[.agg #[.int .i64 R, .slice A n c], .int .i64 x] w fun e w' => e = .returned (.bool (inB x n)) ∧ Below w.heap.size w w' := by
  go_enter Try.func36, Try.ntmps36
  go_wp2
  all_goals
    go_ret
    exact ⟨ret_bool (by simp [inB]; omega), (Below.refl _ _).alloc (Nat.le_refl _) _⟩

def vInc (R n rg nx zr : Int) : Bool := inB rg R && inB nx n && zr == 0
def vDec (R n rg nx zr : Int) : Bool := inB rg R && inB nx n && inB zr n
def vHalt (rg nx zr : Int) : Bool := rg == 0 && nx == 0 && zr == 0

theorem bcell {W w1 : World} (hb : Below W.heap.size W w1) : (∀ b o, b < W.heap.size → w1.cell? ⟨b, o, none⟩ = W.cell? ⟨b, o, none⟩) ∧ (∀ b o, b < W.heap.size → w1.frozen? ⟨b, o, none⟩ = W.frozen? ⟨b, o, none⟩) :=
  ⟨fun b o h => hb.cell (p := ⟨b, o, none⟩) h, fun b o h => hb.frozen (p := ⟨b, o, none⟩) h⟩


theorem bsize2 {w w1 : World} {o o' : Obj} (hb : Below ((w.alloc o).alloc o').heap.size ((w.alloc o).alloc o') w1) : w.heap.size + 1 < w1.heap.size := by
  have := hb.size; simp at this; omega

set_option maxHeartbeats 400000 in
theorem validInc_any (R op rg nx zr : Int) (A : Option Addr) (n c : Nat) (w : World) :
    Calls Try.prog 23 #[.agg #[.int .i64 R, .slice A n c], .agg #[.int .i64 op, .int .i64 rg, .int .i64 nx, .int .i64 zr]] w fun e w' =>
      e = .returned (.bool (vInc R n rg nx zr)) ∧ Below w.heap.size w w' := by
  cases h1 : inB rg R <;> cases h2 : inB nx n <;> cases h3 : (zr == 0)
  all_goals
    go_enter Try.func23, Try.ntmps23
    go_wp2_with (first
      | (go_at_call 39; refine (isReg_any _ _ _ _ _ _).mono ?_; rintro e w1 ⟨rfl, hb1⟩; obtain ⟨hc1, hf1⟩ := bcell hb1; have hz := bsize2 hb1)
      | (go_at_call 36; refine (isTarget_any _ _ _ _ _ _).mono ?_; rintro e w2 ⟨rfl, hb2⟩; obtain ⟨hc2, hf2⟩ := bcell hb2))
    go_ret
    refine ⟨ret_bool (by simp [vInc, *]), ?_⟩
    have hb0 := (((Below.refl _ w).alloc (Nat.le_refl _) (.cells #[.int .i64 R, .slice A n c] 24)).alloc (by simp) (.cells #[.int .i64 op, .int .i64 rg, .int .i64 nx, .int .i64 zr] 48)).trans (hb1.mono (by simp; omega))
    first | exact hb0 | exact hb0.trans (hb2.mono (by omega))

set_option maxHeartbeats 400000 in
theorem validDec_any (R op rg nx zr : Int) (A : Option Addr) (n c : Nat) (w : World) :
    Calls Try.prog 25 #[.agg #[.int .i64 R, .slice A n c], .agg #[.int .i64 op, .int .i64 rg, .int .i64 nx, .int .i64 zr]] w fun e w' =>
      e = .returned (.bool (vDec R n rg nx zr)) ∧ Below w.heap.size w w' := by
  cases h1 : inB rg R <;> cases h2 : inB nx n <;> cases h3 : inB zr n
  all_goals
    go_enter Try.func25, Try.ntmps25
    go_wp2_with fail
    refine (isReg_any _ _ _ _ _ _).mono ?_
    rintro e w1 ⟨rfl, hb1⟩
    obtain ⟨hc1, hf1⟩ := bcell hb1
    have hz := bsize2 hb1
    have hz0 : w.heap.size < w1.heap.size := by omega
    have hb0 := (((Below.refl _ w).alloc (Nat.le_refl _) (.cells #[.int .i64 R, .slice A n c] 24)).alloc (by simp) (.cells #[.int .i64 op, .int .i64 rg, .int .i64 nx, .int .i64 zr] 48)).trans (hb1.mono (by simp; omega))
    go_wp2_with fail
    try
      refine (isTarget_any _ _ _ _ _ _).mono ?_
      rintro e w2 ⟨rfl, hb2⟩
      obtain ⟨hc2, hf2⟩ := bcell hb2
      have hz2 : w.heap.size + 1 < w2.heap.size := by have := hb2.size; omega
      replace hb0 := hb0.trans (hb2.mono (by omega))
      go_wp2_with fail
    try
      refine (isTarget_any _ _ _ _ _ _).mono ?_
      rintro e w3 ⟨rfl, hb3⟩
      replace hb0 := hb0.trans (hb3.mono (by omega))
      go_wp2_with fail
    go_ret
    exact ⟨ret_bool (by simp [vDec, *]), hb0⟩

set_option maxHeartbeats 400000 in
theorem validHalt_any (R op rg nx zr : Int) (A : Option Addr) (n c : Nat) (w : World) :
    Calls Try.prog 27 #[.agg #[.int .i64 R, .slice A n c], .agg #[.int .i64 op, .int .i64 rg, .int .i64 nx, .int .i64 zr]] w fun e w' =>
      e = .returned (.bool (vHalt rg nx zr)) ∧ Below w.heap.size w w' := by
  cases h1 : (rg == 0) <;> cases h2 : (nx == 0) <;> cases h3 : (zr == 0)
  all_goals
    go_enter Try.func27, Try.ntmps27
    go_wp2_with fail
    go_ret
    exact ⟨ret_bool (by simp [vHalt, *]), ((Below.refl _ w).alloc (Nat.le_refl _) _).alloc (by simp) _⟩

set_option maxHeartbeats 400000 in
theorem actions_any (w : World) :
    Calls Try.prog 11 #[] w fun e w' => e = .returned (.agg #[.func (.func 23) #[] #[], .func (.func 24) #[] #[], .func (.func 25) #[] #[], .func (.func 26) #[] #[], .func (.func 27) #[] #[], .func (.func 28) #[] #[]]) ∧ Below w.heap.size w w' := by
  go_enter Try.func11, Try.ntmps11
  go_wp2_with fail
  exact bodyPost_ret (v := .agg #[.func (.func 23) #[] #[], .func (.func 24) #[] #[], .func (.func 25) #[] #[], .func (.func 26) #[] #[], .func (.func 27) #[] #[], .func (.func 28) #[] #[]]) (by simp [results, Try.results11, go_sem]) rfl ⟨rfl, (Below.refl _ w).alloc (Nat.le_refl _) _⟩


end Go.Proofs.Ytonammaecpapmaa.Cn

/- Contracts: moved, and the specification's Same. -/
import Derived.Test.YtgpcgjdnehlaeaaAa
namespace Go.Proofs.Ytgpcgjdnehlaeaa
open Go.RowKit

/-- An instruction whose targets are moved. -/
def shiftI (by_ : Int) (i : Ins) : Ins := ⟨i.op, i.rg, if i.op = 2 then i.nx else i.nx + by_, if i.op = 1 then i.zr + by_ else i.zr⟩
def Ins.val (i : Ins) : Value := .agg #[.int .i64 i.op, .int .i64 i.rg, .int .i64 i.nx, .int .i64 i.zr]

set_option maxHeartbeats 1000000 in
theorem moved_any (i : Ins) (d : Int) (w : World) (h1 : 0 ≤ i.nx ∧ i.nx ≤ 5000) (h2 : 0 ≤ i.zr ∧ i.zr ≤ 5000) (hd : 0 ≤ d ∧ d ≤ 5000) :
    Calls Try.prog 39 #[i.val, .int .i64 d] w fun e w' => e = .returned (shiftI d i).val ∧ Below w.heap.size w w' := by
  obtain ⟨op, rg, nx, zr⟩ := i
  simp only at h1 h2
  simp only [shiftI, Ins.val]
  by_cases ho : op = 2
  · subst ho
    go_enter Try.func39, Try.ntmps39
    go_wp2_with fail
    refine bodyPost_ret (v := .agg #[.int .i64 2, .int .i64 rg, .int .i64 nx, .int .i64 zr]) (by simp [results, Try.results39, go_sem]) rfl ?_
    exact ⟨rfl, below2 w _ _⟩
  · by_cases ho1 : op = 1
    · subst ho1
      go_enter Try.func39, Try.ntmps39
      go_wp2_with fail
      refine bodyPost_ret (v := .agg #[.int .i64 1, .int .i64 rg, .int .i64 (nx + d), .int .i64 (zr + d)]) (by simp [results, Try.results39, go_sem]) rfl ?_
      exact ⟨rfl, below2 w _ _⟩
    · go_enter Try.func39, Try.ntmps39
      go_wp2_with fail
      refine bodyPost_ret (v := .agg #[.int .i64 op, .int .i64 rg, .int .i64 (nx + d), .int .i64 zr]) (by simp [results, Try.results39, go_sem]) rfl ?_
      exact ⟨rfl, below2 w _ _⟩

set_option maxRecDepth 100000 in
set_option maxHeartbeats 4000000 in
theorem icode_in (a : Int) (b1 o1 b2 o2 n c1 c2 : Nat) (xs : List Ins) (w : World) (hx : xs.length = n) (hn : n ≤ 5000) (hb1 : b1 < w.heap.size) (hb2 : b2 < w.heap.size) (h1 : CodeIn w b1 o1 xs) (h2 : CodeIn w b2 o2 xs) :
    Calls Try.prog 22 #[.agg #[.int .i64 a, .slice (some ⟨b1, o1, none⟩) n c1], .agg #[.int .i64 a, .slice (some ⟨b2, o2, none⟩) n c2]] w fun e w' => e = .returned (.bool true) ∧ Below w.heap.size w w' := by
  have HX := hid_ hx; clear hx
  have H1 := hid_ h1; clear h1
  have H2 := hid_ h2; clear h2
  go_enter Try.func22, Try.ntmps22
  go_wp2_with fail
  go_loopw [5] (fun s wr => ∃ k nd : Nat, s = .int .i64 ((k : Nat) : Int) ∧ k ≤ n ∧ wr = ((w.alloc (.cells #[.int .i64 a, .slice (some ⟨b1, o1, none⟩) n c1] 24)).alloc (.cells #[.int .i64 a, .slice (some ⟨b2, o2, none⟩) n c2] 24)).drewN nd)
    (fun s _ => n - (intOf s).toNat)
  case atStart => exact ⟨0, 0, rfl, Nat.zero_le _, rfl⟩
  case round =>
    obtain ⟨k, nd, rfl, hk, rfl⟩ := hrel
    have hw2 := below2 w (.cells #[.int .i64 a, .slice (some ⟨b1, o1, none⟩) n c1] 24) (.cells #[.int .i64 a, .slice (some ⟨b2, o2, none⟩) n c2] 24)
    by_cases hlt : k < n
    · obtain ⟨x, hx⟩ : ∃ x, xs[k]? = some x := ⟨_, List.getElem?_eq_getElem (by rw [HX.out]; exact hlt)⟩
      obtain ⟨i0, i1, i2, i3⟩ := (H1.out.below hw2 hb1) k x hx
      obtain ⟨j0, j1, j2, j3⟩ := (H2.out.below hw2 hb2) k x hx
      clear hx
      obtain ⟨x0, x1, x2, x3⟩ := x
      simp only at i0 i1 i2 i3 j0 j1 j2 j3
      go_wp2_with fail
      go_quiet (fail)
      go_wp2_with fail
      go_roundw
      case rel => exact ⟨k + 1, _, by go_num, by omega, rfl⟩
      case measure => simp [intOf]; omega
    · have hkn : k = n := by omega
      go_wp2_with fail
      go_ret
      exact ⟨rfl, below_drewN hw2 _⟩

theorem icode_nil (A : Option Addr) (c : Nat) (w : World) :
    Calls Try.prog 22 #[.agg #[.int .i64 0, .slice A 0 c], .agg #[.int .i64 0, .slice none 0 0]] w fun e w' => e = .returned (.bool true) ∧ Below w.heap.size w w' := by
  go_enter Try.func22, Try.ntmps22
  go_wp2_with fail
  refine wp_loop_rounds 1 ?_
  rw [rounds_succ]
  go_wp2_with fail
  go_ret
  exact ⟨rfl, below2 w _ _⟩
end Go.Proofs.Ytgpcgjdnehlaeaa

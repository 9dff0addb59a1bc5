/- CounterJoins returns true for every input: Join is the specification's. No condition. -/
import Derived.Test.YtgpcgjdnehlaeaaAh
import Derived.Test.YtgpcgjdnehlaeaaQ
namespace Go.Proofs.Ytgpcgjdnehlaeaa
open Go.ChangeShapes Go.WideShapes Go.ChangeAt Go.RowKit Go.Joins

theorem joins_any (R1 R2 : Int) (A1 A2 : Option Addr) (n1 c1 n2 c2 : Nat) (a b : List Ins) (w : World) (h1 : CodeAt w w.heap.size A1 n1 a) (h2 : CodeAt w w.heap.size A2 n2 b) :
    Calls Try.prog 4 #[.agg #[.int .i64 R1, .slice A1 n1 c1], .agg #[.int .i64 R2, .slice A2 n2 c2]] w fun e w' => e = .returned (.bool true) ∧ Below w.heap.size w w' := by
  by_cases hn1 : 4000 < n1
  · exact joins_wide1 R1 R2 A1 A2 n1 c1 n2 c2 w hn1
  · by_cases hn2 : 4000 < n2
    · exact joins_wide2 R1 R2 A1 A2 n1 c1 n2 c2 w (by omega) hn2
    · cases hv1 : vCode R1 a
      · exact joins_bad1 R1 R2 A1 A2 n1 c1 n2 c2 a w h1 (by omega) (by omega) hv1
      · cases hv2 : vCode R2 b
        · exact joins_bad2 R1 R2 A1 A2 n1 c1 n2 c2 a b w h1 h2 (by omega) (by omega) hv1 hv2
        · have hj := vCode_join hv1 hv2
          by_cases hl : (joinC a b).length ≤ 2000
          · rw [decide_eq_true hl] at hj
            exact joins_small R1 R2 A1 A2 n1 c1 n2 c2 a b w h1 h2 (by omega) (by omega) hv1 hv2 hl _ rfl hj
          · rw [decide_eq_false hl] at hj
            exact joins_long R1 R2 A1 A2 n1 c1 n2 c2 a b w h1 h2 (by omega) (by omega) hv1 hv2 (by omega) _ rfl hj

set_option maxRecDepth 100000 in
theorem joins_lifted (os : Os) (started : os.Started) (H : Type) (enc : TypeId × Value → H) :
    ReturnsInHanded {} Try.checked os 4 .any (Rows.counterJoinsSpec.pre6 enc Try.prog Try.f4 Rows.counterJoinsRow.domain false) (Rows.counterJoinsSpec.post enc Try.prog Try.f4 false true false false) := by
  refine returnsInHanded_of_change (C := Try.checked) Try.own started (by kernel_rfl) Try.func4
    (ChangeSpec.witness6 (enc := enc) (C := Try.checked) false ⟨#[], #[.agg #[.int .i64 0, .slice none 0 0], .agg #[.int .i64 0, .slice none 0 0]], []⟩ 8 (by kernel_rfl) (by kernel_rfl) (by kernel_rfl) (by kernel_rfl)) ?_
  intro W base args ds gs before hval0 hW hcnd _
  have hval : ∀ (j : Nat) t v, Try.f4.params[j]? = some t → args[j]? = some v → Value.okWide Try.prog W .any base t v := hval0
  have hW' := hW
  obtain ⟨p, q, hA0, hV, rfl, hfz, hnd⟩ := hW
  have hA : DataW.TrodAll enc Try.prog W 0 (fun _ => true) true Try.f4.params.toList args.toList ds p := hA0
  rw [Try.params4] at hA hval
  obtain ⟨v0, vs0, d0, ds0, p0, q0, hargs, rfl, rfl, h0, r0⟩ := trodAll_cons hA
  obtain ⟨v1, vs1, d1, ds1, p1, q1, rfl, rfl, rfl, h1, r1⟩ := trodAll_cons r0
  obtain ⟨rfl, rfl, rfl⟩ := trodAll_nil r1
  obtain rfl : args = #[v0, v1] := by cases args; simp_all
  obtain ⟨rfl, rfl⟩ := trodVars_none hV
  have k0 := h0
  have k1 := h1
  have lt0 : ∀ x ∈ p0, x.block < W.heap.size := by obtain ⟨m, hm⟩ := k0; exact DataW.trod_lt m _ _ _ hm
  have lt1 : ∀ x ∈ p1, x.block < W.heap.size := by obtain ⟨m, hm⟩ := k1; exact DataW.trod_lt m _ _ _ hm
  obtain ⟨R1, A1, n1, c1, a, rfl, hca⟩ := counter_open (hval 0 24 v0 rfl rfl) h0
  obtain ⟨R2, A2, n2, c2, b, rfl, hcb⟩ := counter_open (hval 1 24 v1 rfl rfl) h1
  clear hA0 hval0
  refine (joins_any R1 R2 A1 A2 n1 c1 n2 c2 a b W hca hcb).mono fun e W' ⟨he, bel⟩ => ?_
  subst he
  exact ⟨_, rfl, _, _, _, [], _, [], hW', trodAll_mk1 (shut_bool Try.underlying4 _),
    (trodAll_cons_mk (Below.trod Try.laidOut (by kernel_rfl) (of_decide_eq_true (by kernel_rfl)) k0 bel lt0)
      (trodAll_cons_mk (Below.trod Try.laidOut (by kernel_rfl) (of_decide_eq_true (by kernel_rfl)) k1 bel lt1) trodAll_mk0)), rfl, bel.frame _, fun h => by cases h⟩

theorem joins_holds : Rows.CounterJoinsSaid :=
  OpenClaim.holds_of_wide 4 Try.f4 rfl rfl rfl rfl rfl rfl rfl ⟨rfl, rfl, rfl, rfl, rfl⟩ rfl rfl rfl rfl rfl (by kernel_rfl) Try.func4 (by kernel_rfl)
    (of_decide_eq_true (by kernel_rfl)) (by unfold Func.isWrapper; first | (rw [if_pos (by decide +kernel)]; kernel_rfl) | (rw [if_neg (by decide +kernel)]; exact ⟨rfl, rfl⟩))
    (fun os started H enc _ => joins_lifted os started H enc)
#print axioms joins_holds
end Go.Proofs.Ytgpcgjdnehlaeaa

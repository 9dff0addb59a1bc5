/- PairSteps returns true for every input: if a state of a register machine is followed by another one, the machine with two registers of package pair leads from the one to the other, with no point in between. No condition. -/
import Derived.Test.YtckabinmmficlaaDo
import Derived.Test.YtckabinmmficlaaDh
namespace Go.Proofs.Ytckabinmmficlaa.Pp
open Go.ChangeShapes Go.WideShapes Go.ChangeAt Go.RowKit Go.Joins

theorem steps_all (R : Int) (A : Option Addr) (n c : Nat) (code : List Cn.Ins) (at_ : Int) (A4 : Option Addr) (m c4 : Nat) (rs : List Int) (w : World) (hc : Cn.CodeAt w w.heap.size A n code) (hr : Cn.IntsAt w w.heap.size A4 m rs) :
    Calls Try.prog 5 #[.agg #[.int .i64 R, .slice A n c], .agg #[.int .i64 at_, .slice A4 m c4]] w fun e w' => e = .returned (.bool true) ∧ Below w.heap.size w w' := by
  by_cases h1 : 4000 < n
  · exact steps_wide R at_ A A4 n c m c4 code rs w hc hr h1
  · have hn : n ≤ 4000 := by omega
    cases hf : Cn.fitsB R code at_ rs with
    | false => exact steps_bad R at_ A A4 n c m c4 code rs w hc hr hn hf
    | true =>
      by_cases hR : 6 < R
      · exact steps_arg R at_ A A4 n c m c4 code rs w hc hr hn hf hR
      · by_cases hs : 2000 < sizeL (code.map sOf)
        · exact steps_size R at_ A A4 n c m c4 code rs w hc hr hn hf hR hs
        · exact steps_ok R at_ A A4 n c m c4 code rs w hc hr hn hf hR hs

set_option maxRecDepth 100000 in
theorem steps_lifted (os : Os) (started : os.Started) (H : Type) (enc : TypeId × Value → H) :
    ReturnsInHanded {} Try.checked os 5 .any (Rows.pairStepsSpec.pre6 enc Try.prog Try.f5 Rows.pairStepsRow.domain false) (Rows.pairStepsSpec.post enc Try.prog Try.f5 false true false false) := by
  refine returnsInHanded_of_change_sized (C := Try.checked) Try.own started (by kernel_rfl) Try.func5
    (ChangeSpec.witness6 (enc := enc) (C := Try.checked) false ⟨#[], #[.agg #[.int .i64 0, .slice none 0 0], .agg #[.int .i64 0, .slice none 0 0]], []⟩ 8 (by kernel_rfl) (by kernel_rfl) (by kernel_rfl) (by kernel_rfl)) ?_
  intro W base args ds gs before hval0 hW hcnd hsz0 _
  have hval : ∀ (j : Nat) t v, Try.f5.params[j]? = some t → args[j]? = some v → Value.okWide Try.prog W .any base t v := hval0
  have hW' := hW
  obtain ⟨p, q, hA0, hV, rfl, hfz, hnd⟩ := hW
  have hA : DataW.TrodAll enc Try.prog W 0 (fun _ => true) true Try.f5.params.toList args.toList ds p := hA0
  have hsz : (DataW.weightsEach Try.prog (Try.f5.params.toList ++ Rows.pairStepsSpec.plain.varTypes Try.prog) (ds ++ gs)).all (fun x => decide (x ≤ reachBytes)) = true := hsz0
  rw [Try.params5] at hA hval hsz
  obtain ⟨v0, vs0, d0, ds0, p0, q0, hargs, rfl, rfl, h0, r0⟩ := trodAll_cons hA
  obtain ⟨v1, vs1, d1, ds1, p1, q1, rfl, rfl, rfl, h1, r1⟩ := trodAll_cons r0
  obtain ⟨rfl, rfl, rfl⟩ := trodAll_nil r1
  obtain rfl : args = #[v0, v1] := by cases args; simp_all
  obtain ⟨rfl, rfl⟩ := trodVars_none hV
  have k0 := h0
  have lt0 : ∀ x ∈ p0, x.block < W.heap.size := by obtain ⟨m, hm⟩ := k0; exact DataW.trod_lt m _ _ _ hm
  have k1 := h1
  have lt1 : ∀ x ∈ p1, x.block < W.heap.size := by obtain ⟨m, hm⟩ := k1; exact DataW.trod_lt m _ _ _ hm
  obtain ⟨R0, A0, n0, c0, code0, rfl, o0⟩ := Cn.counter_open (hval 0 38 v0 rfl rfl) h0
  obtain ⟨R1, A1, n1, c1, rs1, rfl, o1⟩ := Cn.count_open (hval 1 47 v1 rfl rfl) h1
  clear hA0 hval0 hsz0
  refine (steps_all R0 A0 n0 c0 code0 R1 A1 n1 c1 rs1 W o0 o1).mono fun e W' ⟨he, bel⟩ => ?_
  subst he
  exact ⟨_, rfl, _, _, _, [], _, [], hW', trodAll_mk1 (shut_bool Try.underlying4 _),
    (trodAll_cons_mk (Below.trod Try.laidOut (by kernel_rfl) (of_decide_eq_true (by kernel_rfl)) k0 bel lt0) (trodAll_cons_mk (Below.trod Try.laidOut (by kernel_rfl) (of_decide_eq_true (by kernel_rfl)) k1 bel lt1) trodAll_mk0)), rfl, bel.frame _, fun h => by cases h⟩

theorem steps_holds : Rows.PairStepsSaid :=
  OpenClaim.holds_of_wide 5 Try.f5 rfl rfl rfl rfl rfl rfl rfl ⟨rfl, rfl, rfl, rfl, rfl⟩ rfl rfl rfl rfl rfl (by kernel_rfl) Try.func5 (by kernel_rfl)
    (of_decide_eq_true (by kernel_rfl)) (by unfold Func.isWrapper; first | (rw [if_pos (by decide +kernel)]; kernel_rfl) | (rw [if_neg (by decide +kernel)]; exact ⟨rfl, rfl⟩))
    (fun os started H enc _ => steps_lifted os started H enc)
#print axioms steps_holds
end Go.Proofs.Ytckabinmmficlaa.Pp

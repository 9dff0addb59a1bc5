/- TopTwo returns true for every input: a register machine with up to three registers and its simulation with two registers by package pair pass through the same states, from instruction to instruction, and stop together. No condition. -/
import Derived.Test.YtonammaecpapmaaEb
import Derived.Test.YtonammaecpapmaaDh
namespace Go.Proofs.Ytonammaecpapmaa.Pp
open Go.ChangeShapes Go.WideShapes Go.ChangeAt Go.RowKit Go.Joins

theorem toptwo_all (R : Int) (A : Option Addr) (n c : Nat) (code : List Cn.Ins) (l : List Int) (v : Value) (N : Int) (w : World) (hc : Cn.CodeAt w w.heap.size A n code) (hE : Elems w w.heap.size v (ints l)) (hl : l.length ≤ 17592186044416) (_ : ∀ x ∈ l, -9223372036854775808 ≤ x ∧ x ≤ 9223372036854775807) :
    Calls Try.prog 3 #[.agg #[.int .i64 R, .slice A n c], v, .int .i64 N] w fun e w' => e = .returned (.bool true) ∧ Below w.heap.size w w' := by
  obtain ⟨A4, c4, rfl⟩ := hE.form
  rw [ints_len] at hE ⊢
  cases hf : Cn.vCode R code with
  | false => exact two_bad R N A A4 n c l.length c4 code l w hc hE hl hf
  | true =>
    by_cases h3 : 3 < R
    · exact two_regs R N A A4 n c l.length c4 code l w hc hE hl hf h3
    · by_cases h40 : 40 < n
      · exact two_code R N A A4 n c l.length c4 code l w hc hE hl hf h3 h40
      · by_cases hne : (l.length : Int) = R
        · exact two_main R N A A4 n c l.length c4 code l w hc hE hl hf h3 h40 hne
        · exact two_len R N A A4 n c l.length c4 code l w hc hE hl hf h3 h40 hne

set_option maxRecDepth 100000 in
theorem toptwo_lifted (os : Os) (started : os.Started) (H : Type) (enc : TypeId × Value → H) :
    ReturnsInHanded {} Try.checked os 3 .any (Rows.topTwoSpec.pre6 enc Try.prog Try.f3 Rows.topTwoRow.domain false) (Rows.topTwoSpec.post enc Try.prog Try.f3 false true false false) := by
  refine returnsInHanded_of_change_sized (C := Try.checked) Try.own started (by kernel_rfl) Try.func3
    (ChangeSpec.witness6 (enc := enc) (C := Try.checked) false ⟨#[], #[.agg #[.int .i64 0, .slice none 0 0], .slice none 0 0, .int .i64 0], []⟩ 8 (by kernel_rfl) (by kernel_rfl) (by kernel_rfl) (by kernel_rfl)) ?_
  intro W base args ds gs before hval0 hW hcnd hsz0 _
  have hval : ∀ (j : Nat) t v, Try.f3.params[j]? = some t → args[j]? = some v → Value.okWide Try.prog W .any base t v := hval0
  have hW' := hW
  obtain ⟨p, q, hA0, hV, rfl, hfz, hnd⟩ := hW
  have hA : DataW.TrodAll enc Try.prog W 0 (fun _ => true) true Try.f3.params.toList args.toList ds p := hA0
  have hsz : (DataW.weightsEach Try.prog (Try.f3.params.toList ++ Rows.topTwoSpec.plain.varTypes Try.prog) (ds ++ gs)).all (fun x => decide (x ≤ reachBytes)) = true := hsz0
  rw [Try.params3] at hA hval hsz
  obtain ⟨v0, vs0, d0, ds0, p0, q0, hargs, rfl, rfl, h0, r0⟩ := trodAll_cons hA
  obtain ⟨v1, vs1, d1, ds1, p1, q1, rfl, rfl, rfl, h1, r1⟩ := trodAll_cons r0
  obtain ⟨v2, vs2, d2, ds2, p2, q2, rfl, rfl, rfl, h2, r2⟩ := trodAll_cons r1
  obtain ⟨rfl, rfl, rfl⟩ := trodAll_nil r2
  obtain rfl : args = #[v0, v1, v2] := by cases args; simp_all
  obtain ⟨rfl, rfl⟩ := trodVars_none hV
  have k0 := h0
  have lt0 : ∀ x ∈ p0, x.block < W.heap.size := by obtain ⟨m, hm⟩ := k0; exact DataW.trod_lt m _ _ _ hm
  have k1 := h1
  have lt1 : ∀ x ∈ p1, x.block < W.heap.size := by obtain ⟨m, hm⟩ := k1; exact DataW.trod_lt m _ _ _ hm
  obtain ⟨R0, A0, n0, c0, code0, rfl, o0⟩ := Cn.counter_open (hval 0 24 v0 rfl rfl) h0
  obtain ⟨x1, o1, l1, b1⟩ := slice_open (hval 1 25 v1 rfl rfl) h1 (light_arg hsz (j := 1) rfl rfl)
  obtain ⟨x2, rfl, rfl, rfl, w2⟩ := open_int Try.underlying3 (hval 2 3 v2 rfl rfl) h2
  clear hA0 hval0 hsz0
  refine (toptwo_all R0 A0 n0 c0 code0 x1 v1 x2 W o0 o1 l1 b1).mono fun e W' ⟨he, bel⟩ => ?_
  subst he
  exact ⟨_, rfl, _, _, _, [], _, [], hW', trodAll_mk1 (shut_bool Try.underlying4 _),
    (trodAll_cons_mk (Below.trod Try.laidOut (by kernel_rfl) (of_decide_eq_true (by kernel_rfl)) k0 bel lt0) (trodAll_cons_mk (Below.trod Try.laidOut (by kernel_rfl) (of_decide_eq_true (by kernel_rfl)) k1 bel lt1) (trodAll_cons_mk (shut_int Try.underlying3 w2) trodAll_mk0))), rfl, bel.frame _, fun h => by cases h⟩

theorem toptwo_holds : Rows.TopTwoSaid :=
  OpenClaim.holds_of_wide 3 Try.f3 rfl rfl rfl rfl rfl rfl rfl ⟨rfl, rfl, rfl, rfl, rfl⟩ rfl rfl rfl rfl rfl (by kernel_rfl) Try.func3 (by kernel_rfl)
    (of_decide_eq_true (by kernel_rfl)) (by unfold Func.isWrapper; first | (rw [if_pos (by decide +kernel)]; kernel_rfl) | (rw [if_neg (by decide +kernel)]; exact ⟨rfl, rfl⟩))
    (fun os started H enc _ => toptwo_lifted os started H enc)
#print axioms toptwo_holds
end Go.Proofs.Ytonammaecpapmaa.Pp

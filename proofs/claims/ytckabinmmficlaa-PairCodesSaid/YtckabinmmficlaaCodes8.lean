/- PairCodes returns true for every input: Encode and Decode of package pair return what the specification returns, and Decode of Encode are the contents. No condition. -/
import Derived.Test.YtckabinmmficlaaDg
import Derived.Test.YtckabinmmficlaaDh
namespace Go.Proofs.Ytckabinmmficlaa.Pp
open Go.ChangeShapes Go.WideShapes Go.ChangeAt Go.RowKit Go.Joins

theorem codes_all (l : List Int) (v : Value) (N M : Int) (w : World) (hE : Elems w w.heap.size v (ints l)) (hl : l.length ≤ 17592186044416) (hb : ∀ x ∈ l, -9223372036854775808 ≤ x ∧ x ≤ 9223372036854775807) :
    Calls Try.prog 3 #[v, .int .i64 N, .int .i64 M] w fun e w' => e = .returned (.bool true) ∧ Below w.heap.size w w' := by
  obtain ⟨A, c, rfl⟩ := hE.form
  rw [ints_len] at hE ⊢
  have hbi : ∀ x ∈ l, x ≤ 9223372036854775807 := fun x hx => (hb x hx).2
  by_cases h100 : 100 < l.length
  · exact codes_wide l N M A c w hE hl hbi h100
  · have h1 : l.length ≤ 100 := by omega
    have hres : contB l = false ∨ (contB l = true ∧ (∃ x ∈ l, 60 < x)) ∨ (contB l = true ∧ (∀ x ∈ l, x ≤ 60) ∧ encS 0 (natL l) 1 = none) ∨ ∃ n, contB l = true ∧ (∀ x ∈ l, x ≤ 60) ∧ encS 0 (natL l) 1 = some n := by
      cases hr : contB l with
      | false => exact .inl rfl
      | true =>
        by_cases hx : ∃ x ∈ l, 60 < x
        · exact .inr (.inl ⟨rfl, hx⟩)
        · have hx2 : ∀ x ∈ l, x ≤ 60 := fun x h => by
            rcases Int.lt_or_le 60 x with h2 | h2
            · exact absurd ⟨x, h, h2⟩ hx
            · exact h2
          cases hs : encS 0 (natL l) 1 with
          | none => exact .inr (.inr (.inl ⟨rfl, hx2, rfl⟩))
          | some n => exact .inr (.inr (.inr ⟨n, rfl, hx2, rfl⟩))
    by_cases hd : N < 1 ∨ 1152921504606846976 < N ∨ M < 1 ∨ 6 < M
    · rcases hres with hr | ⟨hr, hx⟩ | ⟨hr, hx, hs⟩ | ⟨n, hr, hx, hs⟩
      · exact codes_bad_con l N M A c w hE hl hbi h1 hd hr
      · exact codes_bad_big l N M A c w hE hl hbi h1 hd hr hx
      · exact codes_bad_no l N M A c w hE hl hbi h1 hd hr hx hs
      · exact codes_bad_yes l N M A c w hE hl hbi h1 hd n hr hx hs
    · have hd2 : 1 ≤ N ∧ N ≤ 1152921504606846976 ∧ 1 ≤ M ∧ M ≤ 6 := by omega
      by_cases hk : (decS 0 M.toNat N.toNat).2 = 1
      · rcases hres with hr | ⟨hr, hx⟩ | ⟨hr, hx, hs⟩ | ⟨n, hr, hx, hs⟩
        · exact codes_some_con l N M A c w hE hl hbi h1 hd2 hk hr
        · exact codes_some_big l N M A c w hE hl hbi h1 hd2 hk hr hx
        · exact codes_some_no l N M A c w hE hl hbi h1 hd2 hk hr hx hs
        · exact codes_some_yes l N M A c w hE hl hbi h1 hd2 hk n hr hx hs
      · rcases hres with hr | ⟨hr, hx⟩ | ⟨hr, hx, hs⟩ | ⟨n, hr, hx, hs⟩
        · exact codes_none_con l N M A c w hE hl hbi h1 hd2 hk hr
        · exact codes_none_big l N M A c w hE hl hbi h1 hd2 hk hr hx
        · exact codes_none_no l N M A c w hE hl hbi h1 hd2 hk hr hx hs
        · exact codes_none_yes l N M A c w hE hl hbi h1 hd2 hk n hr hx hs

set_option maxRecDepth 100000 in
theorem codes_lifted (os : Os) (started : os.Started) (H : Type) (enc : TypeId × Value → H) :
    ReturnsInHanded {} Try.checked os 3 .any (Rows.pairCodesSpec.pre6 enc Try.prog Try.f3 Rows.pairCodesRow.domain false) (Rows.pairCodesSpec.post enc Try.prog Try.f3 false true false false) := by
  refine returnsInHanded_of_change_sized (C := Try.checked) Try.own started (by kernel_rfl) Try.func3
    (ChangeSpec.witness6 (enc := enc) (C := Try.checked) false ⟨#[], #[.slice none 0 0, .int .i64 0, .int .i64 0], []⟩ 8 (by kernel_rfl) (by kernel_rfl) (by kernel_rfl) (by kernel_rfl)) ?_
  intro W base args ds gs before hval0 hW hcnd hsz0 _
  have hval : ∀ (j : Nat) t v, Try.f3.params[j]? = some t → args[j]? = some v → Value.okWide Try.prog W .any base t v := hval0
  have hW' := hW
  obtain ⟨p, q, hA0, hV, rfl, hfz, hnd⟩ := hW
  have hA : DataW.TrodAll enc Try.prog W 0 (fun _ => true) true Try.f3.params.toList args.toList ds p := hA0
  have hsz : (DataW.weightsEach Try.prog (Try.f3.params.toList ++ Rows.pairCodesSpec.plain.varTypes Try.prog) (ds ++ gs)).all (fun x => decide (x ≤ reachBytes)) = true := hsz0
  rw [Try.params3] at hA hval hsz
  obtain ⟨v0, vs0, d0, ds0, p0, q0, hargs, rfl, rfl, h0, r0⟩ := trodAll_cons hA
  obtain ⟨v1, vs1, d1, ds1, p1, q1, rfl, rfl, rfl, h1, r1⟩ := trodAll_cons r0
  obtain ⟨v2, vs2, d2, ds2, p2, q2, rfl, rfl, rfl, h2, r2⟩ := trodAll_cons r1
  obtain ⟨rfl, rfl, rfl⟩ := trodAll_nil r2
  obtain rfl : args = #[v0, v1, v2] := by cases args; simp_all
  obtain ⟨rfl, rfl⟩ := trodVars_none hV
  have k0 := h0
  have lt0 : ∀ x ∈ p0, x.block < W.heap.size := by obtain ⟨m, hm⟩ := k0; exact DataW.trod_lt m _ _ _ hm
  obtain ⟨x0, o0, l0, b0⟩ := slice_open (hval 0 22 v0 rfl rfl) h0 (light_arg hsz (j := 0) rfl rfl)
  obtain ⟨x1, rfl, rfl, rfl, w1⟩ := open_int Try.underlying3 (hval 1 3 v1 rfl rfl) h1
  obtain ⟨x2, rfl, rfl, rfl, w2⟩ := open_int Try.underlying3 (hval 2 3 v2 rfl rfl) h2
  clear hA0 hval0 hsz0
  refine (codes_all x0 v0 x1 x2 W o0 l0 b0).mono fun e W' ⟨he, bel⟩ => ?_
  subst he
  exact ⟨_, rfl, _, _, _, [], _, [], hW', trodAll_mk1 (shut_bool Try.underlying4 _),
    (trodAll_cons_mk (Below.trod Try.laidOut (by kernel_rfl) (of_decide_eq_true (by kernel_rfl)) k0 bel lt0) (trodAll_cons_mk (shut_int Try.underlying3 w1) (trodAll_cons_mk (shut_int Try.underlying3 w2) trodAll_mk0))), rfl, bel.frame _, fun h => by cases h⟩

theorem codes_holds : Rows.PairCodesSaid :=
  OpenClaim.holds_of_wide 3 Try.f3 rfl rfl rfl rfl rfl rfl rfl ⟨rfl, rfl, rfl, rfl, rfl⟩ rfl rfl rfl rfl rfl (by kernel_rfl) Try.func3 (by kernel_rfl)
    (of_decide_eq_true (by kernel_rfl)) (by unfold Func.isWrapper; first | (rw [if_pos (by decide +kernel)]; kernel_rfl) | (rw [if_neg (by decide +kernel)]; exact ⟨rfl, rfl⟩))
    (fun os started H enc _ => codes_lifted os started H enc)
#print axioms codes_holds
end Go.Proofs.Ytckabinmmficlaa.Pp

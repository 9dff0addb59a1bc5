/- TagRuns returns true for every input: Valid, Fits, Step and Run of package tag return what the specification returns. No condition. -/
import Derived.Test.YtpnjffdjoacejaaLd
import Derived.Test.YtpnjffdjoacejaaLe
import Derived.Test.YtpnjffdjoacejaaLf
import Derived.Test.YtpnjffdjoacejaaLg
namespace Go.Proofs.Ytpnjffdjoacejaa
open Go.ChangeShapes Go.WideShapes Go.ChangeAt Go.RowKit Go.Joins

theorem runs_all (t : TagS) (q : List Int) (n : Int) (v2 v3 v : Value) (w : World) (hB : TagBig w w.heap.size v2 v3 t) (hq : Elems w w.heap.size v (ints q)) (hl : q.length ≤ 17592186044416) :
    Calls Try.prog 3 #[.agg #[.int .i64 t.del, v2, v3], v, .int .i64 n] w (Yes w) := by
  cases hw : wideB t q with
  | true => exact runs_wide t q n v2 v3 v w hB hq hl hw
  | false =>
    by_cases hn : 300 < n ∧ n ≤ 1000000
    · exact runs_far t q n v2 v3 v w hB hq hl hw hn.1 hn.2
    · cases hf : fitsT t q with
      | false => exact runs_bad t q n v2 v3 v w hB hq hl hw (by omega) hf
      | true =>
        obtain ⟨del, rules, stops⟩ := t
        have hd := (validT_parts (fitsT_parts hf).1).1
        simp only at hd
        obtain ⟨dn, rfl⟩ := Int.eq_ofNat_of_zero_le (show 0 ≤ del by omega)
        cases hs : stoppedT ⟨dn, rules, stops⟩ q with
        | true =>
          by_cases h0 : n < 0
          · exact runs_stop_neg dn rules stops q v2 v3 v w hB hq hl hw hf hs n h0
          · by_cases h1 : 300 < n
            · exact runs_stop_far dn rules stops q v2 v3 v w hB hq hl hw hf hs n h1 (by omega)
            · obtain ⟨N, rfl⟩ := Int.eq_ofNat_of_zero_le (show 0 ≤ n by omega)
              cases ho : runT ⟨dn, rules, stops⟩ N q with
              | none => exact runs_stop_none dn rules stops q v2 v3 v w hB hq hl hw hf hs N (by omega) ho
              | some r => exact runs_stop_some dn rules stops q v2 v3 v w hB hq hl hw hf hs N (by omega) r ho
        | false =>
          by_cases hb : 100000 < (stepT ⟨dn, rules, stops⟩ q).length
          · by_cases h0 : n < 0
            · exact runs_big_neg dn rules stops q v2 v3 v w hB hq hl hw hf hs hb n h0
            · by_cases h1 : 300 < n
              · exact runs_big_far dn rules stops q v2 v3 v w hB hq hl hw hf hs hb n h1 (by omega)
              · obtain ⟨N, rfl⟩ := Int.eq_ofNat_of_zero_le (show 0 ≤ n by omega)
                cases ho : runT ⟨dn, rules, stops⟩ N q with
                | none => exact runs_big_none dn rules stops q v2 v3 v w hB hq hl hw hf hs hb N (by omega) ho
                | some r => exact runs_big_some dn rules stops q v2 v3 v w hB hq hl hw hf hs hb N (by omega) r ho
          · by_cases h0 : n < 0
            · exact runs_on_neg dn rules stops q v2 v3 v w hB hq hl hw hf hs hb n h0
            · by_cases h1 : 300 < n
              · exact runs_on_far dn rules stops q v2 v3 v w hB hq hl hw hf hs hb n h1 (by omega)
              · obtain ⟨N, rfl⟩ := Int.eq_ofNat_of_zero_le (show 0 ≤ n by omega)
                cases ho : runT ⟨dn, rules, stops⟩ N q with
                | none => exact runs_on_none dn rules stops q v2 v3 v w hB hq hl hw hf hs hb N (by omega) ho
                | some r => exact runs_on_some dn rules stops q v2 v3 v w hB hq hl hw hf hs hb N (by omega) r ho

set_option maxRecDepth 100000 in
theorem runs_lifted (os : Os) (started : os.Started) (H : Type) (enc : TypeId × Value → H) :
    ReturnsInHanded {} Try.checked os 3 .any (Rows.tagRunsSpec.pre6 enc Try.prog Try.f3 Rows.tagRunsRow.domain false) (Rows.tagRunsSpec.post enc Try.prog Try.f3 false true false false) := by
  refine returnsInHanded_of_change_sized (C := Try.checked) Try.own started (by kernel_rfl) Try.func3
    (ChangeSpec.witness6 (enc := enc) (C := Try.checked) false ⟨#[], #[.agg #[.int .i64 0, .slice none 0 0, .slice none 0 0], .slice none 0 0, .int .i64 0], []⟩ 8 (by kernel_rfl) (by kernel_rfl) (by kernel_rfl) (by kernel_rfl)) ?_
  intro W base args ds gs before hval0 hW hcnd hsz0 _
  have hval : ∀ (j : Nat) t v, Try.f3.params[j]? = some t → args[j]? = some v → Value.okWide Try.prog W .any base t v := hval0
  have hW' := hW
  obtain ⟨p, q, hA0, hV, rfl, hfz, hnd⟩ := hW
  have hA : DataW.TrodAll enc Try.prog W 0 (fun _ => true) true Try.f3.params.toList args.toList ds p := hA0
  have hsz : (DataW.weightsEach Try.prog (Try.f3.params.toList ++ Rows.tagRunsSpec.plain.varTypes Try.prog) (ds ++ gs)).all (fun x => decide (x ≤ reachBytes)) = true := hsz0
  rw [Try.params3] at hA hval hsz
  obtain ⟨v0, vs0, d0, ds0, p0, q0, hargs, rfl, rfl, h0, r0⟩ := trodAll_cons hA
  obtain ⟨v1, vs1, d1, ds1, p1, q1, rfl, rfl, rfl, h1, r1⟩ := trodAll_cons r0
  obtain ⟨v2, vs2, d2, ds2, p2, q2, rfl, rfl, rfl, h2, r2⟩ := trodAll_cons r1
  obtain ⟨rfl, rfl, rfl⟩ := trodAll_nil r2
  obtain rfl : args = #[v0, v1, v2] := by cases args; simp_all
  obtain ⟨rfl, rfl⟩ := trodVars_none hV
  have k0 := h0
  have k1 := h1
  have lt0 : ∀ x ∈ p0, x.block < W.heap.size := by obtain ⟨m, hm⟩ := k0; exact DataW.trod_lt m _ _ _ hm
  have lt1 : ∀ x ∈ p1, x.block < W.heap.size := by obtain ⟨m, hm⟩ := k1; exact DataW.trod_lt m _ _ _ hm
  obtain ⟨t, c1, c2, rfl, hT⟩ := tag_open (hval 0 25 v0 rfl rfl) h0 (light_arg hsz (j := 0) rfl rfl)
  obtain ⟨qs, hQ, hQl⟩ := slice_open (hval 1 26 v1 rfl rfl) h1 (light_arg hsz (j := 1) rfl rfl)
  obtain ⟨x, rfl, rfl, rfl, wx⟩ := open_int Try.underlying3 (hval 2 3 v2 rfl rfl) h2
  clear hA0 hval0 hsz0
  refine (runs_all t qs x c1 c2 v1 W hT hQ hQl).mono fun e W' ⟨he, bel⟩ => ?_
  subst he
  exact ⟨_, rfl, _, _, _, [], _, [], hW', trodAll_mk1 (shut_bool Try.underlying4 _),
    (trodAll_cons_mk (Below.trod Try.laidOut (by kernel_rfl) (of_decide_eq_true (by kernel_rfl)) k0 bel lt0)
      (trodAll_cons_mk (Below.trod Try.laidOut (by kernel_rfl) (of_decide_eq_true (by kernel_rfl)) k1 bel lt1)
        (trodAll_cons_mk (shut_int Try.underlying3 wx) trodAll_mk0))), rfl, bel.frame _, fun h => by cases h⟩

theorem runs_holds : Rows.TagRunsSaid :=
  OpenClaim.holds_of_wide 3 Try.f3 rfl rfl rfl rfl rfl rfl rfl ⟨rfl, rfl, rfl, rfl, rfl⟩ rfl rfl rfl rfl rfl (by kernel_rfl) Try.func3 (by kernel_rfl)
    (of_decide_eq_true (by kernel_rfl)) (by unfold Func.isWrapper; first | (rw [if_pos (by decide +kernel)]; kernel_rfl) | (rw [if_neg (by decide +kernel)]; exact ⟨rfl, rfl⟩))
    (fun os started H enc _ => runs_lifted os started H enc)
#print axioms runs_holds
end Go.Proofs.Ytpnjffdjoacejaa

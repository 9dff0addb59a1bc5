/- TagCyclic returns true for every input: n steps of a tag system are n times Delete * r steps of its cyclic tag system. No condition. -/
import Derived.Test.YtpnjffdjoacejaaNe
import Derived.Test.YtpnjffdjoacejaaNf
import Derived.Test.YtpnjffdjoacejaaNg
import Derived.Test.YtpnjffdjoacejaaMq
namespace Go.Proofs.Ytpnjffdjoacejaa
open Go.ChangeShapes Go.WideShapes Go.ChangeAt Go.RowKit Go.Joins

theorem u8_bounds {x : Int} (h : (Lit.int .u8 x).wf = true) : 0 ≤ x ∧ x ≤ 255 := by
  simp [Lit.wf, IntKind.min, IntKind.max, IntKind.signed, IntKind.bits] at h
  omega

theorem cyclic_all (t : TagS) (v2 v3 : Value) (q : List Int) (v : Value) (n : Int) (w : World) (hB : TagBig w w.heap.size v2 v3 t) (hq : Elems w w.heap.size v (ints q)) (hl : q.length ≤ 17592186044416) (n0 : 0 ≤ n) (n1 : n ≤ 255) :
    Calls Try.prog 8 #[.agg #[.int .i64 t.del, v2, v3], v, .int .u8 n] w (Yes w) := by
  obtain ⟨N, rfl⟩ := Int.eq_ofNat_of_zero_le n0
  by_cases h1 : 40 < t.rules.length
  · exact cyclic_e0 t q N v2 v3 v w hB hq hl (by omega) h1
  · have h1' : t.rules.length ≤ 40 := by omega
    cases hw : wideB t q with
    | true => exact cyclic_e1 t q N v2 v3 v w hB hq hl (by omega) h1' hw
    | false =>
      cases hf : fitsT t q with
      | false => exact cyclic_e2 t q N v2 v3 v w hB hq hl (by omega) h1' hw hf
      | true =>
        by_cases h4 : 400 < q.length
        · exact cyclic_e3 t q N v2 v3 v w hB hq hl (by omega) h1' hw hf h4
        · by_cases h5 : 16000 < sumL t.rules * t.rules.length
          · exact cyclic_e4 t q N v2 v3 v w hB hq hl (by omega) h1' hw hf (by omega) h5
          · by_cases h6 : 12 < N
            · exact cyclic_e5 t q N v2 v3 v w hB hq hl (by omega) h1' hw hf (by omega) h5 h6
            · obtain ⟨a, k, e1, e2, e3, e4, e5, e6, e7, e8⟩ := cyc_law (n := N) hf h1' (by omega) (by omega)
              obtain ⟨del, rules, stops⟩ := t
              have hd := (validT_parts (fitsT_parts hf).1).1
              simp only at hd
              obtain ⟨dn, rfl⟩ := Int.eq_ofNat_of_zero_le (show 0 ≤ del by omega)
              simp only [Int.toNat_natCast] at e5 e6 e7
              by_cases hk : k = N
              · exact cyclic_full dn rules stops q N v2 v3 v w hB hq hl (by omega) h1' hw hf (by omega) h5 (by omega) a k e1 e2 e3 e4 e5 e6 e7 hk
              · have hst := e8.resolve_left hk
                by_cases hs : (a.length : Int) < dn
                · exact cyclic_short dn rules stops q N v2 v3 v w hB hq hl (by omega) h1' hw hf (by omega) h5 (by omega) a k e1 e2 e3 e4 e5 e6 e7 hk hs
                · exact cyclic_stop dn rules stops q N v2 v3 v w hB hq hl (by omega) h1' hw hf (by omega) h5 (by omega) a k e1 e2 e3 e4 e5 e6 e7 hk hs hst

set_option maxRecDepth 100000 in
theorem cyclic_lifted (os : Os) (started : os.Started) (H : Type) (enc : TypeId × Value → H) :
    ReturnsInHanded {} Try.checked os 8 .any (Rows.tagCyclicSpec.pre6 enc Try.prog Try.f8 Rows.tagCyclicRow.domain false) (Rows.tagCyclicSpec.post enc Try.prog Try.f8 false true false false) := by
  refine returnsInHanded_of_change_sized (C := Try.checked) Try.own started (by kernel_rfl) Try.func8
    (ChangeSpec.witness6 (enc := enc) (C := Try.checked) false ⟨#[], #[.agg #[.int .i64 0, .slice none 0 0, .slice none 0 0], .slice none 0 0, .int .u8 0], []⟩ 8 (by kernel_rfl) (by kernel_rfl) (by kernel_rfl) (by kernel_rfl)) ?_
  intro W base args ds gs before hval0 hW hcnd hsz0 _
  have hval : ∀ (j : Nat) t v, Try.f8.params[j]? = some t → args[j]? = some v → Value.okWide Try.prog W .any base t v := hval0
  have hW' := hW
  obtain ⟨p, q, hA0, hV, rfl, hfz, hnd⟩ := hW
  have hA : DataW.TrodAll enc Try.prog W 0 (fun _ => true) true Try.f8.params.toList args.toList ds p := hA0
  have hsz : (DataW.weightsEach Try.prog (Try.f8.params.toList ++ Rows.tagCyclicSpec.plain.varTypes Try.prog) (ds ++ gs)).all (fun x => decide (x ≤ reachBytes)) = true := hsz0
  rw [Try.params8] at hA hval hsz
  obtain ⟨v0, vs0, d0, ds0, p0, q0, hargs, rfl, rfl, h0, r0⟩ := trodAll_cons hA
  obtain ⟨v1, vs1, d1, ds1, p1, q1, rfl, rfl, rfl, h1, r1⟩ := trodAll_cons r0
  obtain ⟨v2, vs2, d2, ds2, p2, q2, rfl, rfl, rfl, h2, r2⟩ := trodAll_cons r1
  obtain ⟨rfl, rfl, rfl⟩ := trodAll_nil r2
  obtain rfl : args = #[v0, v1, v2] := by cases args; simp_all
  obtain ⟨rfl, rfl⟩ := trodVars_none hV
  have k0 := h0
  have lt0 : ∀ x ∈ p0, x.block < W.heap.size := by obtain ⟨m, hm⟩ := k0; exact DataW.trod_lt m _ _ _ hm
  have k1 := h1
  have lt1 : ∀ x ∈ p1, x.block < W.heap.size := by obtain ⟨m, hm⟩ := k1; exact DataW.trod_lt m _ _ _ hm
  obtain ⟨t0, a0, b0, rfl, o0⟩ := tag_open (hval 0 25 v0 rfl rfl) h0 (light_arg hsz (j := 0) rfl rfl)
  obtain ⟨x1, o1, l1⟩ := slice_open (hval 1 26 v1 rfl rfl) h1 (light_arg hsz (j := 1) rfl rfl)
  obtain ⟨x2, rfl, rfl, rfl, w2⟩ := open_int Try.underlying5 (hval 2 5 v2 rfl rfl) h2
  obtain ⟨g2, i2⟩ := u8_bounds w2
  clear hA0 hval0 hsz0
  refine (cyclic_all t0 a0 b0 x1 v1 x2 W o0 o1 l1 g2 i2).mono fun e W' ⟨he, bel⟩ => ?_
  subst he
  exact ⟨_, rfl, _, _, _, [], _, [], hW', trodAll_mk1 (shut_bool Try.underlying4 _),
    (trodAll_cons_mk (Below.trod Try.laidOut (by kernel_rfl) (of_decide_eq_true (by kernel_rfl)) k0 bel lt0) (trodAll_cons_mk (Below.trod Try.laidOut (by kernel_rfl) (of_decide_eq_true (by kernel_rfl)) k1 bel lt1) (trodAll_cons_mk (shut_int Try.underlying5 w2) trodAll_mk0))), rfl, bel.frame _, fun h => by cases h⟩

theorem cyclic_holds : Rows.TagCyclicSaid :=
  OpenClaim.holds_of_wide 8 Try.f8 rfl rfl rfl rfl rfl rfl rfl ⟨rfl, rfl, rfl, rfl, rfl⟩ rfl rfl rfl rfl rfl (by kernel_rfl) Try.func8 (by kernel_rfl)
    (of_decide_eq_true (by kernel_rfl)) (by unfold Func.isWrapper; first | (rw [if_pos (by decide +kernel)]; kernel_rfl) | (rw [if_neg (by decide +kernel)]; exact ⟨rfl, rfl⟩))
    (fun os started H enc _ => cyclic_lifted os started H enc)
#print axioms cyclic_holds
end Go.Proofs.Ytpnjffdjoacejaa

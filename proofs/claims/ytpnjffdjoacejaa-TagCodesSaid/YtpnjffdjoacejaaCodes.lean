/- TagCodes returns true for every input: Bits, Letters and ToCyclic return the documented results, or the documented errors, and Letters of Bits are the letters. No condition. -/
import Derived.Test.YtpnjffdjoacejaaPj
import Derived.Test.YtpnjffdjoacejaaLg
import Derived.Test.YtpnjffdjoacejaaMq
namespace Go.Proofs.Ytpnjffdjoacejaa
open Go.ChangeShapes Go.WideShapes Go.ChangeAt Go.RowKit Go.Joins


theorem codes_all (t : TagS) (v2 v3 : Value) (q : List Int) (v : Value) (bits : List Int) (vb : Value) (w : World) (hB : TagBig w w.heap.size v2 v3 t) (hq : Elems w w.heap.size v (ints q)) (hl : q.length ≤ 17592186044416) (hbt : Elems w w.heap.size vb (ints bits)) (hbl : bits.length ≤ 17592186044416) (hcap : Capped vb) :
    Calls Try.prog 5 #[.agg #[.int .i64 t.del, v2, v3], v, vb] w (Yes w) := by
  obtain ⟨A, c, rfl⟩ := hbt.form
  rw [ints_len] at hbt hcap ⊢
  have hc : bits.length ≤ c := hcap _ _ _ rfl
  cases hw : wideB t q with
  | true => exact codes_e0 t q bits v2 v3 v A c w hB hq hl hbl hw
  | false =>
    by_cases h1 : 300000 < bits.length
    · exact codes_e1 t q bits v2 v3 v A c w hB hq hl hbl hw h1
    · by_cases h2 : 1200000 < t.rules.length * q.length
      · exact codes_e2 t q bits v2 v3 v A c w hB hq hl hbl hw (by omega) h2
      · cases hv : validT t with
        | false => exact codes_e3 t q bits v2 v3 v A c w hB hq hbt hc hw (by omega) h2 hv
        | true => exact codes_go t q bits v2 v3 v A c w hB hq hbt hc hw (by omega) h2 hv

set_option maxRecDepth 100000 in
theorem codes_lifted (os : Os) (started : os.Started) (H : Type) (enc : TypeId × Value → H) :
    ReturnsInHanded {} Try.checked os 5 .any (Rows.tagCodesSpec.pre6 enc Try.prog Try.f5 Rows.tagCodesRow.domain false) (Rows.tagCodesSpec.post enc Try.prog Try.f5 false true false false) := by
  refine returnsInHanded_of_change_sized (C := Try.checked) Try.own started (by kernel_rfl) Try.func5
    (ChangeSpec.witness6 (enc := enc) (C := Try.checked) false ⟨#[], #[.agg #[.int .i64 0, .slice none 0 0, .slice none 0 0], .slice none 0 0, .slice none 0 0], []⟩ 8 (by kernel_rfl) (by kernel_rfl) (by kernel_rfl) (by kernel_rfl)) ?_
  intro W base args ds gs before hval0 hW hcnd hsz0 _
  have hval : ∀ (j : Nat) t v, Try.f5.params[j]? = some t → args[j]? = some v → Value.okWide Try.prog W .any base t v := hval0
  have hW' := hW
  obtain ⟨p, q, hA0, hV, rfl, hfz, hnd⟩ := hW
  have hA : DataW.TrodAll enc Try.prog W 0 (fun _ => true) true Try.f5.params.toList args.toList ds p := hA0
  have hsz : (DataW.weightsEach Try.prog (Try.f5.params.toList ++ Rows.tagCodesSpec.plain.varTypes Try.prog) (ds ++ gs)).all (fun x => decide (x ≤ reachBytes)) = true := hsz0
  rw [Try.params5] at hA hval hsz
  obtain ⟨v0, vs0, d0, ds0, p0, q0, hargs, rfl, rfl, h0, r0⟩ := trodAll_cons hA
  obtain ⟨v1, vs1, d1, ds1, p1, q1, rfl, rfl, rfl, h1, r1⟩ := trodAll_cons r0
  obtain ⟨v2, vs2, d2, ds2, p2, q2, rfl, rfl, rfl, h2, r2⟩ := trodAll_cons r1
  obtain ⟨rfl, rfl, rfl⟩ := trodAll_nil r2
  obtain rfl : args = #[v0, v1, v2] := by cases args; simp_all
  obtain ⟨rfl, rfl⟩ := trodVars_none hV
  have k0 := h0
  have lt0 : ∀ x ∈ p0, x.block < W.heap.size := by obtain ⟨m, hm⟩ := k0; exact DataW.trod_lt m _ _ _ hm
  have k1 := h1
  have lt1 : ∀ x ∈ p1, x.block < W.heap.size := by obtain ⟨m, hm⟩ := k1; exact DataW.trod_lt m _ _ _ hm
  have k2 := h2
  have lt2 : ∀ x ∈ p2, x.block < W.heap.size := by obtain ⟨m, hm⟩ := k2; exact DataW.trod_lt m _ _ _ hm
  obtain ⟨t0, a0, b0, rfl, o0⟩ := tag_open (hval 0 25 v0 rfl rfl) h0 (light_arg hsz (j := 0) rfl rfl)
  obtain ⟨x1, o1, l1⟩ := slice_open (hval 1 26 v1 rfl rfl) h1 (light_arg hsz (j := 1) rfl rfl)
  obtain ⟨x2, o2, l2⟩ := slice_open (hval 2 26 v2 rfl rfl) h2 (light_arg hsz (j := 2) rfl rfl)
  clear hA0 hval0 hsz0
  have cap2 : Capped v2 := by obtain ⟨m, hm⟩ := k2; obtain ⟨a0, c0, e0⟩ := o2.form; rw [e0] at hm ⊢; exact capped_open (by simpa [Value.cells] using hm)
  refine (codes_all t0 a0 b0 x1 v1 x2 v2 W o0 o1 l1 o2 l2 cap2).mono fun e W' ⟨he, bel⟩ => ?_
  subst he
  exact ⟨_, rfl, _, _, _, [], _, [], hW', trodAll_mk1 (shut_bool Try.underlying4 _),
    (trodAll_cons_mk (Below.trod Try.laidOut (by kernel_rfl) (of_decide_eq_true (by kernel_rfl)) k0 bel lt0) (trodAll_cons_mk (Below.trod Try.laidOut (by kernel_rfl) (of_decide_eq_true (by kernel_rfl)) k1 bel lt1) (trodAll_cons_mk (Below.trod Try.laidOut (by kernel_rfl) (of_decide_eq_true (by kernel_rfl)) k2 bel lt2) trodAll_mk0))), rfl, bel.frame _, fun h => by cases h⟩

theorem codes_holds : Rows.TagCodesSaid :=
  OpenClaim.holds_of_wide 5 Try.f5 rfl rfl rfl rfl rfl rfl rfl ⟨rfl, rfl, rfl, rfl, rfl⟩ rfl rfl rfl rfl rfl (by kernel_rfl) Try.func5 (by kernel_rfl)
    (of_decide_eq_true (by kernel_rfl)) (by unfold Func.isWrapper; first | (rw [if_pos (by decide +kernel)]; kernel_rfl) | (rw [if_neg (by decide +kernel)]; exact ⟨rfl, rfl⟩))
    (fun os started H enc _ => codes_lifted os started H enc)
#print axioms codes_holds
end Go.Proofs.Ytpnjffdjoacejaa

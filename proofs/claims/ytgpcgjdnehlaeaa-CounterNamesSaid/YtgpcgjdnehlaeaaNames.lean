/- CounterNames returns true for every input: a register machine whose registers are renamed one to one, with one more register that it does not name, does the same with the renamed contents, and leaves that register as it is. No condition. -/
import Derived.Test.YtgpcgjdnehlaeaaAm
import Derived.Test.YtgpcgjdnehlaeaaQ
namespace Go.Proofs.Ytgpcgjdnehlaeaa
open Go.ChangeShapes Go.WideShapes Go.ChangeAt Go.RowKit Go.Joins

theorem u16_bounds' {x : Int} (h : (Lit.int .u16 x).wf = true) : 0 ≤ x ∧ x ≤ 65535 := by
  simp [Lit.wf, IntKind.min, IntKind.max, IntKind.signed, IntKind.bits] at h
  omega

theorem names_any (R at_ ex x : Int) (A A' A2 : Option Addr) (n c m d q d2 : Nat) (code : List Ins) (rs tos : List Int) (w : World) (hc : CodeAt w w.heap.size A n code) (hr : IntsAt w w.heap.size A' m rs) (ht : IntsAt w w.heap.size A2 q tos) (hx : 0 ≤ x) :
    Calls Try.prog 7 #[.agg #[.int .i64 R, .slice A n c], .agg #[.int .i64 at_, .slice A' m d], .slice A2 q d2, .int .i64 ex, .int .u16 x] w fun e w' => e = .returned (.bool true) ∧ Below w.heap.size w w' := by
  by_cases hw : 4000 < n ∨ 100 < m
  · exact names_wide R at_ ex x A A' A2 n c m d q d2 w hw
  · cases hf : fitsB R code at_ rs
    · exact names_bad R at_ ex x A A' A2 n c m d q d2 code rs w hc hr hw hf
    · by_cases h : 16 ≤ R ∨ (R < 16 ∧ ex < 0) ∨ (R < 16 ∧ 0 ≤ ex ∧ 1152921504606846976 < ex) ∨ (R < 16 ∧ 0 ≤ ex ∧ ex ≤ 1152921504606846976 ∧ 2000 < x) ∨ (R < 16 ∧ 0 ≤ ex ∧ ex ≤ 1152921504606846976 ∧ x ≤ 2000 ∧ ¬ (q : Int) = R)
      · exact names_early R at_ ex x A A' A2 n c m d q d2 code rs w hc hr hw hf h
      · obtain ⟨hv, hg, hR, _⟩ := fitsB_good hf
        have hm : (m : Int) = R := by have := hr.len; have := hg.len; omega
        have hq : q = m := by omega
        subst hq
        subst hm
        exact names_main at_ ex x A A' A2 n c q d d2 code rs tos w hc hr ht hw hf (by omega) (by omega) (by omega) (by omega) hx

set_option maxRecDepth 100000 in
theorem names_lifted (os : Os) (started : os.Started) (H : Type) (enc : TypeId × Value → H) :
    ReturnsInHanded {} Try.checked os 7 .any (Rows.counterNamesSpec.pre6 enc Try.prog Try.f7 Rows.counterNamesRow.domain false) (Rows.counterNamesSpec.post enc Try.prog Try.f7 false true false false) := by
  refine returnsInHanded_of_change (C := Try.checked) Try.own started (by kernel_rfl) Try.func7
    (ChangeSpec.witness6 (enc := enc) (C := Try.checked) false ⟨#[], #[.agg #[.int .i64 0, .slice none 0 0], .agg #[.int .i64 0, .slice none 0 0], .slice none 0 0, .int .i64 0, .int .u16 0], []⟩ 8 (by kernel_rfl) (by kernel_rfl) (by kernel_rfl) (by kernel_rfl)) ?_
  intro W base args ds gs before hval0 hW hcnd _
  have hval : ∀ (j : Nat) t v, Try.f7.params[j]? = some t → args[j]? = some v → Value.okWide Try.prog W .any base t v := hval0
  have hW' := hW
  obtain ⟨p, q, hA0, hV, rfl, hfz, hnd⟩ := hW
  have hA : DataW.TrodAll enc Try.prog W 0 (fun _ => true) true Try.f7.params.toList args.toList ds p := hA0
  rw [Try.params7] at hA hval
  obtain ⟨v0, vs0, d0, ds0, p0, q0, hargs, rfl, rfl, h0, r0⟩ := trodAll_cons hA
  obtain ⟨v1, vs1, d1, ds1, p1, q1, rfl, rfl, rfl, h1, r1⟩ := trodAll_cons r0
  obtain ⟨v2, vs2, d2, ds2, p2, q2, rfl, rfl, rfl, h2, r2⟩ := trodAll_cons r1
  obtain ⟨v3, vs3, d3, ds3, p3, q3, rfl, rfl, rfl, h3, r3⟩ := trodAll_cons r2
  obtain ⟨v4, vs4, d4, ds4, p4, q4, rfl, rfl, rfl, h4, r4⟩ := trodAll_cons r3
  obtain ⟨rfl, rfl, rfl⟩ := trodAll_nil r4
  obtain rfl : args = #[v0, v1, v2, v3, v4] := by cases args; simp_all
  obtain ⟨rfl, rfl⟩ := trodVars_none hV
  have k0 := h0
  have k1 := h1
  have k2 := h2
  have lt0 : ∀ x ∈ p0, x.block < W.heap.size := by obtain ⟨m, hm⟩ := k0; exact DataW.trod_lt m _ _ _ hm
  have lt1 : ∀ x ∈ p1, x.block < W.heap.size := by obtain ⟨m, hm⟩ := k1; exact DataW.trod_lt m _ _ _ hm
  have lt2 : ∀ x ∈ p2, x.block < W.heap.size := by obtain ⟨m, hm⟩ := k2; exact DataW.trod_lt m _ _ _ hm
  obtain ⟨R, A, n, c, code, rfl, hcode⟩ := counter_open (hval 0 24 v0 rfl rfl) h0
  obtain ⟨a, A', m, d, rs, rfl, hrs⟩ := count_open (hval 1 27 v1 rfl rfl) h1
  obtain ⟨A2, q, d', pts, rfl, hpts⟩ := slice_open (hval 2 25 v2 rfl rfl) h2
  obtain ⟨x, rfl, rfl, rfl, wx⟩ := open_int Try.underlying3 (hval 3 3 v3 rfl rfl) h3
  obtain ⟨y, rfl, rfl, rfl, wy⟩ := open_int Try.underlying46 (hval 4 46 v4 rfl rfl) h4
  clear hA0 hval0
  obtain ⟨y1, y2⟩ := u16_bounds' wy
  refine (names_any R a x y A A' A2 n c m d q d' code rs pts W hcode hrs hpts y1).mono fun e W' ⟨he, bel⟩ => ?_
  subst he
  exact ⟨_, rfl, _, _, _, [], _, [], hW', trodAll_mk1 (shut_bool Try.underlying4 _),
    (trodAll_cons_mk (Below.trod Try.laidOut (by kernel_rfl) (of_decide_eq_true (by kernel_rfl)) k0 bel lt0)
      (trodAll_cons_mk (Below.trod Try.laidOut (by kernel_rfl) (of_decide_eq_true (by kernel_rfl)) k1 bel lt1)
        (trodAll_cons_mk (Below.trod Try.laidOut (by kernel_rfl) (of_decide_eq_true (by kernel_rfl)) k2 bel lt2)
          (trodAll_cons_mk (shut_int Try.underlying3 wx) (trodAll_cons_mk (shut_int Try.underlying46 wy) trodAll_mk0))))), rfl, bel.frame _, fun h => by cases h⟩

theorem names_holds : Rows.CounterNamesSaid :=
  OpenClaim.holds_of_wide 7 Try.f7 rfl rfl rfl rfl rfl rfl rfl ⟨rfl, rfl, rfl, rfl, rfl⟩ rfl rfl rfl rfl rfl (by kernel_rfl) Try.func7 (by kernel_rfl)
    (of_decide_eq_true (by kernel_rfl)) (by unfold Func.isWrapper; first | (rw [if_pos (by decide +kernel)]; kernel_rfl) | (rw [if_neg (by decide +kernel)]; exact ⟨rfl, rfl⟩))
    (fun os started H enc _ => names_lifted os started H enc)
#print axioms names_holds
end Go.Proofs.Ytgpcgjdnehlaeaa

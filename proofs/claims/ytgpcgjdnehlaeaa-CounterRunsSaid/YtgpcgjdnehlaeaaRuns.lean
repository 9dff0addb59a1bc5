/- CounterRuns returns true for every input: Valid, Fits, Step, Run and Until are the specification's. No condition. -/
import Derived.Test.YtgpcgjdnehlaeaaAb
import Derived.Test.YtgpcgjdnehlaeaaO
import Derived.Test.YtgpcgjdnehlaeaaQ
namespace Go.Proofs.Ytgpcgjdnehlaeaa
open Go.ChangeShapes Go.WideShapes Go.ChangeAt Go.RowKit Go.Joins

theorem stepS_len {R at_ : Int} {code : List Ins} {rs : List Int} : (stepS R code at_ rs).rs.length ≤ 16 := by
  unfold stepS
  split
  · simp
  · split
    · simp
    · exact runS_len'
theorem untilS_len {R at_ N : Int} {code : List Ins} {rs pts : List Int} : (untilS R code at_ rs pts N).rs.length ≤ 16 := by
  cases h : fitsB R code at_ rs
  · simp [untilS, h]
  · obtain ⟨hv, hg, hR, _⟩ := fitsB_good h
    obtain ⟨r1, r2, _, _⟩ := vCode_reg hv
    rw [untilS, h, if_neg (by simp)]
    split
    · simp
    · cases hw : walkC code (finP pts) N.toNat at_.toNat rs with
      | none => simp [untilR]
      | some o =>
        have := (walk_good (by rw [hR]; exact hv) hg hw).len
        simp only [untilR]
        split
        · simp only
          omega
        · simp

theorem runs_any (R at_ N : Int) (A A' A2 : Option Addr) (n c m d q d2 : Nat) (code : List Ins) (rs pts : List Int) (w : World) (hc : CodeAt w w.heap.size A n code) (hr : IntsAt w w.heap.size A' m rs) (hp : IntsAt w w.heap.size A2 q pts) :
    Calls Try.prog 3 #[.agg #[.int .i64 R, .slice A n c], .agg #[.int .i64 at_, .slice A' m d], .slice A2 q d2, .int .i64 N] w fun e w' => e = .returned (.bool true) ∧ Below w.heap.size w w' := by
  by_cases hw : 4000 < n ∨ 100 < m ∨ 4000 < q ∨ (5000 < N ∧ N ≤ 1000000)
  · exact runs_wide R at_ N A A' A2 n c m d q d2 w hw
  · have hn : n ≤ 4000 := by omega
    have hm : m ≤ 100 := by omega
    have hq : q ≤ 4000 := by omega
    cases hf : fitsB R code at_ rs
    · have hs : stepS R code at_ rs = ⟨0, [], 0, 1⟩ := by simp [stepS, hf]
      have h1 : runS R code at_ rs N = ⟨0, [], 0, 1⟩ := by simp [runS, hf]
      have h2 : untilS R code at_ rs pts N = ⟨0, [], 0, 1⟩ := by simp [untilS, hf]
      by_cases hN : N ≤ 5000
      · exact runs_bad_lo R at_ N A A' A2 n c m d q d2 code rs pts w hc hr hp hn hm hq hs h1 h2 hf hN
      · exact runs_bad_hi R at_ N A A' A2 n c m d q d2 code rs pts w hc hr hp hn hm hq hs h1 h2 hf (by omega)
    · have b3 := stepS_len (R := R) (at_ := at_) (code := code) (rs := rs)
      have b4 := runS_len' (R := R) (at_ := at_) (code := code) (rs := rs) (n := N)
      have b5 := untilS_len (R := R) (at_ := at_) (code := code) (rs := rs) (pts := pts) (N := N)
      cases hs : stepS R code at_ rs with | mk a3 l3 k3 e3
      cases h1 : runS R code at_ rs N with | mk a4 l4 k4 e4
      cases h2 : untilS R code at_ rs pts N with | mk a5 l5 k5 e5
      rw [hs] at b3
      rw [h1] at b4
      rw [h2] at b5
      simp only at b3 b4 b5
      by_cases hN : N ≤ 5000
      · exact runs_ok_lo R at_ N A A' A2 n c m d q d2 code rs pts w hc hr hp hn hm hq a3 a4 a5 k3 k4 k5 e3 e4 e5 l3 l4 l5 hs h1 h2 hf (by omega) (by omega) (by omega) hN
      · exact runs_ok_hi R at_ N A A' A2 n c m d q d2 code rs pts w hc hr hp hn hm hq a3 a4 a5 k3 k4 k5 e3 e4 e5 l3 l4 l5 hs h1 h2 hf (by omega) (by omega) (by omega) (by omega)

set_option maxRecDepth 100000 in
theorem runs_lifted (os : Os) (started : os.Started) (H : Type) (enc : TypeId × Value → H) :
    ReturnsInHanded {} Try.checked os 3 .any (Rows.counterRunsSpec.pre6 enc Try.prog Try.f3 Rows.counterRunsRow.domain false) (Rows.counterRunsSpec.post enc Try.prog Try.f3 false true false false) := by
  refine returnsInHanded_of_change (C := Try.checked) Try.own started (by kernel_rfl) Try.func3
    (ChangeSpec.witness6 (enc := enc) (C := Try.checked) false ⟨#[], #[.agg #[.int .i64 0, .slice none 0 0], .agg #[.int .i64 0, .slice none 0 0], .slice none 0 0, .int .i64 0], []⟩ 8 (by kernel_rfl) (by kernel_rfl) (by kernel_rfl) (by kernel_rfl)) ?_
  intro W base args ds gs before hval0 hW hcnd _
  have hval : ∀ (j : Nat) t v, Try.f3.params[j]? = some t → args[j]? = some v → Value.okWide Try.prog W .any base t v := hval0
  have hW' := hW
  obtain ⟨p, q, hA0, hV, rfl, hfz, hnd⟩ := hW
  have hA : DataW.TrodAll enc Try.prog W 0 (fun _ => true) true Try.f3.params.toList args.toList ds p := hA0
  rw [Try.params3] at hA hval
  obtain ⟨v0, vs0, d0, ds0, p0, q0, hargs, rfl, rfl, h0, r0⟩ := trodAll_cons hA
  obtain ⟨v1, vs1, d1, ds1, p1, q1, rfl, rfl, rfl, h1, r1⟩ := trodAll_cons r0
  obtain ⟨v2, vs2, d2, ds2, p2, q2, rfl, rfl, rfl, h2, r2⟩ := trodAll_cons r1
  obtain ⟨v3, vs3, d3, ds3, p3, q3, rfl, rfl, rfl, h3, r3⟩ := trodAll_cons r2
  obtain ⟨rfl, rfl, rfl⟩ := trodAll_nil r3
  obtain rfl : args = #[v0, v1, v2, v3] := by cases args; simp_all
  obtain ⟨rfl, rfl⟩ := trodVars_none hV
  have k0 := h0
  have k1 := h1
  have k2 := h2
  have lt0 : ∀ x ∈ p0, x.block < W.heap.size := by obtain ⟨m, hm⟩ := k0; exact DataW.trod_lt m _ _ _ hm
  have lt1 : ∀ x ∈ p1, x.block < W.heap.size := by obtain ⟨m, hm⟩ := k1; exact DataW.trod_lt m _ _ _ hm
  have lt2 : ∀ x ∈ p2, x.block < W.heap.size := by obtain ⟨m, hm⟩ := k2; exact DataW.trod_lt m _ _ _ hm
  obtain ⟨R, A, n, c, code, rfl, hcode⟩ := counter_open (hval 0 24 v0 rfl rfl) h0
  obtain ⟨a, A', m, d, rs, rfl, hrs⟩ := count_open (hval 1 27 v1 rfl rfl) h1
  obtain ⟨A2, q, d', pts, rfl, hpts⟩ := slice_open (hval 2 25 v2 rfl rfl) h2
  obtain ⟨x, rfl, rfl, rfl, wx⟩ := open_int Try.underlying3 (hval 3 3 v3 rfl rfl) h3
  clear hA0 hval0
  refine (runs_any R a x A A' A2 n c m d q d' code rs pts W hcode hrs hpts).mono fun e W' ⟨he, bel⟩ => ?_
  subst he
  exact ⟨_, rfl, _, _, _, [], _, [], hW', trodAll_mk1 (shut_bool Try.underlying4 _),
    (trodAll_cons_mk (Below.trod Try.laidOut (by kernel_rfl) (of_decide_eq_true (by kernel_rfl)) k0 bel lt0)
      (trodAll_cons_mk (Below.trod Try.laidOut (by kernel_rfl) (of_decide_eq_true (by kernel_rfl)) k1 bel lt1)
        (trodAll_cons_mk (Below.trod Try.laidOut (by kernel_rfl) (of_decide_eq_true (by kernel_rfl)) k2 bel lt2)
          (trodAll_cons_mk (shut_int Try.underlying3 wx) trodAll_mk0)))), rfl, bel.frame _, fun h => by cases h⟩

theorem runs_holds : Rows.CounterRunsSaid :=
  OpenClaim.holds_of_wide 3 Try.f3 rfl rfl rfl rfl rfl rfl rfl ⟨rfl, rfl, rfl, rfl, rfl⟩ rfl rfl rfl rfl rfl (by kernel_rfl) Try.func3 (by kernel_rfl)
    (of_decide_eq_true (by kernel_rfl)) (by unfold Func.isWrapper; first | (rw [if_pos (by decide +kernel)]; kernel_rfl) | (rw [if_neg (by decide +kernel)]; exact ⟨rfl, rfl⟩))
    (fun os started H enc _ => runs_lifted os started H enc)
#print axioms runs_holds
end Go.Proofs.Ytgpcgjdnehlaeaa

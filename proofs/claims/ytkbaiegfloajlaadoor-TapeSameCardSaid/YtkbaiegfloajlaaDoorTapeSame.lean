/- TapeSame returns true for every input: the mirrored machine runs in the mirrored way, from a shifted configuration the run is the shifted one, and with other names it is the renamed one. Condition: the listed variables of package unicode/utf8 hold what the program text lays in them (tied). -/
import Derived.Test.YtkbaiegfloajlaaDoorXl
import Derived.Test.YtkbaiegfloajlaaDoorUm
import Derived.Test.YtkbaiegfloajlaaDoorWa
import Derived.Test.YtkbaiegfloajlaaDoorTie
import Derived.Test.YtkbaiegfloajlaaDoorCards
namespace Go.Proofs.YtkbaiegfloajlaaDoor
open Go.ChangeShapes Go.WideShapes Go.ChangeAt Go.RowKit Go.Joins

open Tp
theorem same_all (m : MachS) (v : Value) (c : CfgS) (u : Value) (n : Int) (ss : List Int) (u1 : Value) (xs : List Int) (u2 : Value) (t : Int) (w : World) (mx : Int) (hmx : w.cell? ⟨0, 0, none⟩ = some (.int .i64 mx)) (hm : MachIn w w.heap.size v m) (hE : Elems w w.heap.size u (ints c.cells)) (hl : c.cells.length ≤ 17592186044416) (n0 : 0 ≤ n) (n1 : n ≤ 65535) (hS : Elems w w.heap.size u1 (ints ss)) (_ : ss.length ≤ 17592186044416) (hX : Elems w w.heap.size u2 (ints xs)) (_ : xs.length ≤ 17592186044416) (t0 : -32768 ≤ t) (t1 : t ≤ 32767) :
    Calls Tryd.prog 7 #[.agg #[.int .i64 m.states, .int .i64 m.symbols, v], .agg #[.int .i64 c.st, .int .i64 c.pos, .int .i64 c.frm, u], .int .u16 n, u1, u2, .int .i16 t] w (YesL w) := by
  obtain ⟨N, rfl⟩ := Int.eq_ofNat_of_zero_le n0
  cases hw : wideT m c with
  | true => exact same_e0 m c N ss xs t v u u1 u2 w mx hm hE hS hX hl hmx hw
  | false =>
  cases hf : fitsC m c with
  | false => exact same_e1 m c N ss xs t v u u1 u2 w mx hm hE hS hX hl hmx hw hf
  | true =>
  cases hg : farC c with
  | false => exact same_e2 m c N ss xs t v u u1 u2 w mx hm hE hS hX hl hmx hw hf hg
  | true =>
    by_cases h1 : (100 : Int) < (ss.length : Int)
    · exact same_e3 m c N ss xs t v u u1 u2 w mx hm hE hS hX hl hmx hw hf hg h1
    · by_cases h2 : (100 : Int) < (xs.length : Int)
      · exact same_e4 m c N ss xs t v u u1 u2 w mx hm hE hS hX hl hmx hw hf hg h1 h2
      · exact same_go m c N ss xs t v u u1 u2 w mx hm hE hS hX hl hmx hw hf hg h1 h2 (by omega) ⟨t0, t1⟩

set_option maxRecDepth 100000 in
theorem same_lifted (os : Os) (started : os.Started) (H : Type) (enc : TypeId × Value → H) :
    ReturnsInHanded {} Tryd.checked os 7 .any (fun w args => (Rows.tapeSameSpec.pre enc Tryd.prog Tryd.f7 [] false w args ∧ laidMetH Tryd.prog Rows.tapeSameRow.laid w) ∧ sizedMet enc Tryd.prog Tryd.f7 (OpenSpec.ofChange Rows.tapeSameSpec) false w args) (Rows.tapeSameSpec.post enc Tryd.prog Tryd.f7 false true false false) := by
  refine handed_laid (C := Tryd.checked) (laid := Rows.tapeSameRow.laid) Tryd.own started (by kernel_rfl) Tryd.func7
    (ChangeSpec.witness_shaped (enc := enc) (C := Tryd.checked) (os := os) (X := fun w _ => laidMetH Tryd.prog Rows.tapeSameRow.laid w) false (World.laidAll Tryd.prog os Rows.tapeSameRow.laid) #[.agg #[.int .i64 0, .int .i64 0, .slice none 0 0], .agg #[.int .i64 0, .int .i64 0, .int .i64 0, .slice none 0 0], .int .u16 0, .slice none 0 0, .slice none 0 0, .int .i16 0] 8 (World.laidAll_os _ _ _)
      (World.shaped_of_ZipB (by kernel_rfl) (by kernel_rfl)) (by kernel_rfl) (by kernel_rfl) (by kernel_rfl)
      (by rw [MakeChecks.laidMetH_plain _ _ _ (by kernel_rfl)]; exact laidMet_laidAll _ (by kernel_rfl) (by kernel_rfl))) ?_
  intro W base args ds gs before hval0 hW hsz0 hshape
  obtain ⟨mx, hmx⟩ := maxLen_cell hshape
  have hval : ∀ (j : Nat) t v, Tryd.f7.params[j]? = some t → args[j]? = some v → Value.okWide Tryd.prog W .any base t v := hval0
  have hW' := hW
  obtain ⟨p, q, hA0, hV, rfl, hfz, hnd⟩ := hW
  have hA : DataW.TrodAll enc Tryd.prog W 0 (fun _ => true) true Tryd.f7.params.toList args.toList ds p := hA0
  have hsz : (DataW.weightsEach Tryd.prog (Tryd.f7.params.toList ++ Rows.tapeSameSpec.plain.varTypes Tryd.prog) (ds ++ gs)).all (fun x => decide (x ≤ reachBytes)) = true := hsz0
  rw [Tryd.params7] at hA hval hsz
  obtain ⟨v0, vs0, d0, ds0, p0, q0, hargs, rfl, rfl, h0, r0⟩ := trodAll_cons hA
  obtain ⟨v1, vs1, d1, ds1, p1, q1, rfl, rfl, rfl, h1, r1⟩ := trodAll_cons r0
  obtain ⟨v2, vs2, d2, ds2, p2, q2, rfl, rfl, rfl, h2, r2⟩ := trodAll_cons r1
  obtain ⟨v3, vs3, d3, ds3, p3, q3, rfl, rfl, rfl, h3, r3⟩ := trodAll_cons r2
  obtain ⟨v4, vs4, d4, ds4, p4, q4, rfl, rfl, rfl, h4, r4⟩ := trodAll_cons r3
  obtain ⟨v5, vs5, d5, ds5, p5, q5, rfl, rfl, rfl, h5, r5⟩ := trodAll_cons r4
  obtain ⟨rfl, rfl, rfl⟩ := trodAll_nil r5
  obtain rfl : args = #[v0, v1, v2, v3, v4, v5] := by cases args; simp_all
  obtain ⟨rfl, rfl⟩ := trodVars_none hV
  have k0 := h0
  have lt0 : ∀ x ∈ p0, x.block < W.heap.size := by obtain ⟨m, hm⟩ := k0; exact DataW.trod_lt m _ _ _ hm
  have k1 := h1
  have lt1 : ∀ x ∈ p1, x.block < W.heap.size := by obtain ⟨m, hm⟩ := k1; exact DataW.trod_lt m _ _ _ hm
  have k3 := h3
  have lt3 : ∀ x ∈ p3, x.block < W.heap.size := by obtain ⟨m, hm⟩ := k3; exact DataW.trod_lt m _ _ _ hm
  have k4 := h4
  have lt4 : ∀ x ∈ p4, x.block < W.heap.size := by obtain ⟨m, hm⟩ := k4; exact DataW.trod_lt m _ _ _ hm
  obtain ⟨t0, a0, rfl, o0⟩ := mach_open (hval 0 24 v0 rfl rfl) h0 (light_arg hsz (j := 0) rfl rfl)
  obtain ⟨t1, a1, rfl, o1, l1⟩ := conf_open (hval 1 27 v1 rfl rfl) h1 (light_arg hsz (j := 1) rfl rfl)
  obtain ⟨x2, rfl, rfl, rfl, w2⟩ := open_int Tryd.underlying61 (hval 2 61 v2 rfl rfl) h2
  obtain ⟨g2, i2⟩ := u16_bounds w2
  obtain ⟨x3, o3, l3⟩ := slice_open (hval 3 25 v3 rfl rfl) h3 (light_arg hsz (j := 3) rfl rfl)
  obtain ⟨x4, o4, l4⟩ := slice_open (hval 4 25 v4 rfl rfl) h4 (light_arg hsz (j := 4) rfl rfl)
  obtain ⟨x5, rfl, rfl, rfl, w5⟩ := open_int Tryd.underlying63 (hval 5 63 v5 rfl rfl) h5
  obtain ⟨g5, i5⟩ := i16_bounds w5
  clear hA0 hval0 hsz0
  refine (same_all t0 a0 t1 a1 x2 x3 v3 x4 v4 x5 W mx hmx o0 o1 l1 g2 i2 o3 l3 o4 l4 g5 i5).mono fun e W' ⟨he, bel⟩ => ?_
  subst he
  exact ⟨_, rfl, _, _, _, [], _, [], hW', trodAll_mk1 (shut_bool Tryd.underlying4 _),
    (trodAll_cons_mk (Below.trod Tryd.laidOut (by kernel_rfl) (of_decide_eq_true (by kernel_rfl)) k0 bel lt0) (trodAll_cons_mk (Below.trod Tryd.laidOut (by kernel_rfl) (of_decide_eq_true (by kernel_rfl)) k1 bel lt1) (trodAll_cons_mk (shut_int Tryd.underlying61 w2) (trodAll_cons_mk (Below.trod Tryd.laidOut (by kernel_rfl) (of_decide_eq_true (by kernel_rfl)) k3 bel lt3) (trodAll_cons_mk (Below.trod Tryd.laidOut (by kernel_rfl) (of_decide_eq_true (by kernel_rfl)) k4 bel lt4) (trodAll_cons_mk (shut_int Tryd.underlying63 w5) trodAll_mk0)))))), rfl, bel.frame _, fun h => by cases h⟩

theorem same_holds : Rows.TapeSameSaid :=
  OpenClaim.holds_of_wide 7 Tryd.f7 rfl rfl rfl rfl rfl rfl rfl ⟨rfl, rfl, rfl, rfl, rfl⟩ rfl rfl rfl rfl rfl (by kernel_rfl) Tryd.func7 (by kernel_rfl)
    (of_decide_eq_true (by kernel_rfl)) (by unfold Func.isWrapper; first | (rw [if_pos (by decide +kernel)]; kernel_rfl) | (rw [if_neg (by decide +kernel)]; exact ⟨rfl, rfl⟩))
    (fun os started H enc _ => same_lifted os started H enc)
theorem same_card : Rows.TapeSameCardSaid :=
  Claim7.holds_tied_plain_at .later [] [.data, .pinned] true Rows.tapeSameCard.stood.harness false
    same_holds (fun _ h => by cases h) (by kernel_rfl) (fun _ h => by cases h) tapeSame_row_tie rfl ⟨rfl, rfl⟩ (by kernel_rfl) rfl
    (fun f fn hf hfn => by
      obtain rfl : f = 7 := Option.some.inj ((show Tryd.prog.funcNamed "standstill/standstilllaw01.TapeSame" = some 7 by kernel_rfl).symm.trans hf) |>.symm
      obtain rfl : fn = Tryd.f7 := (Option.some.inj (Tryd.func7.symm.trans hfn)).symm
      exact ⟨by kernel_rfl, fun j t ht => by
        rw [Tryd.params7] at ht
        have hm : t ∈ [24, 27, 61, 25, 25, 63] := by simpa using Array.mem_of_getElem? ht
        have hall : ([24, 27, 61, 25, 25, 63].all fun u => !Tryd.prog.wantsStandIn u) = true := by kernel_rfl
        exact (show Tryd.prog.wantsStandIn t = false by simpa using List.all_eq_true.1 hall t hm)⟩)
    (by kernel_rfl)
#print axioms same_card
end Go.Proofs.YtkbaiegfloajlaaDoor

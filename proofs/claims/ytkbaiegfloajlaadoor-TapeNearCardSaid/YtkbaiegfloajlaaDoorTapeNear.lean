/- TapeNear returns true for every input: the steps of a run depend only on the cells near the head, and change no others. Condition: the listed variables of package unicode/utf8 hold what the program text lays in them (tied). -/
import Derived.Test.YtkbaiegfloajlaaDoorWi
import Derived.Test.YtkbaiegfloajlaaDoorUm
import Derived.Test.YtkbaiegfloajlaaDoorWa
import Derived.Test.YtkbaiegfloajlaaDoorTie
import Derived.Test.YtkbaiegfloajlaaDoorCards
namespace Go.Proofs.YtkbaiegfloajlaaDoor
open Go.ChangeShapes Go.WideShapes Go.ChangeAt Go.RowKit Go.Joins

open Tp
theorem near_all (m : MachS) (v : Value) (c : CfgS) (u : Value) (d : CfgS) (x : Value) (n : Int) (w : World) (mx : Int) (hmx : w.cell? ⟨0, 0, none⟩ = some (.int .i64 mx)) (hm : MachIn w w.heap.size v m) (hE : Elems w w.heap.size u (ints c.cells)) (hlc : c.cells.length ≤ 17592186044416) (hD : Elems w w.heap.size x (ints d.cells)) (hld : d.cells.length ≤ 17592186044416) (n0 : 0 ≤ n) (n1 : n ≤ 65535) :
    Calls Tryd.prog 8 #[.agg #[.int .i64 m.states, .int .i64 m.symbols, v], .agg #[.int .i64 c.st, .int .i64 c.pos, .int .i64 c.frm, u], .agg #[.int .i64 d.st, .int .i64 d.pos, .int .i64 d.frm, x], .int .u16 n] w (YesL w) := by
  obtain ⟨N, rfl⟩ := Int.eq_ofNat_of_zero_le n0
  cases h1 : wideT m c with
  | true => exact near_e0 m c d N v u x w mx hm hE hD hlc hld hmx h1
  | false =>
  cases h2 : wideT m d with
  | true => exact near_e1 m c d N v u x w mx hm hE hD hlc hld hmx h1 h2
  | false =>
  cases h3 : fitsC m c with
  | false => exact near_e2 m c d N v u x w mx hm hE hD hlc hld hmx h1 h2 h3
  | true =>
  cases h4 : fitsC m d with
  | false => exact near_e3 m c d N v u x w mx hm hE hD hlc hld hmx h1 h2 h3 h4
  | true =>
  cases h5 : farC c with
  | false => exact near_e4 m c d N v u x w mx hm hE hD hlc hld hmx h1 h2 h3 h4 h5
  | true =>
  cases h6 : farC d with
  | false => exact near_e5 m c d N v u x w mx hm hE hD hlc hld hmx h1 h2 h3 h4 h5 h6
  | true =>
    by_cases h7 : d.pos = c.pos
    · by_cases h8 : d.st = c.st
      · exact near_go_ m c d N v u x w mx hm hE hD hlc hld hmx h1 h2 h3 h4 h5 h6 h7 h8 (by omega)
      · exact near_e7 m c d N v u x w mx hm hE hD hlc hld hmx h1 h2 h3 h4 h5 h6 h7 h8
    · exact near_e6 m c d N v u x w mx hm hE hD hlc hld hmx h1 h2 h3 h4 h5 h6 h7

set_option maxRecDepth 100000 in
theorem near_lifted (os : Os) (started : os.Started) (H : Type) (enc : TypeId × Value → H) :
    ReturnsInHanded {} Tryd.checked os 8 .any (fun w args => (Rows.tapeNearSpec.pre enc Tryd.prog Tryd.f8 [] false w args ∧ laidMetH Tryd.prog Rows.tapeNearRow.laid w) ∧ sizedMet enc Tryd.prog Tryd.f8 (OpenSpec.ofChange Rows.tapeNearSpec) false w args) (Rows.tapeNearSpec.post enc Tryd.prog Tryd.f8 false true false false) := by
  refine handed_laid (C := Tryd.checked) (laid := Rows.tapeNearRow.laid) Tryd.own started (by kernel_rfl) Tryd.func8
    (ChangeSpec.witness_shaped (enc := enc) (C := Tryd.checked) (os := os) (X := fun w _ => laidMetH Tryd.prog Rows.tapeNearRow.laid w) false (World.laidAll Tryd.prog os Rows.tapeNearRow.laid) #[.agg #[.int .i64 0, .int .i64 0, .slice none 0 0], .agg #[.int .i64 0, .int .i64 0, .int .i64 0, .slice none 0 0], .agg #[.int .i64 0, .int .i64 0, .int .i64 0, .slice none 0 0], .int .u16 0] 8 (World.laidAll_os _ _ _)
      (World.shaped_of_ZipB (by kernel_rfl) (by kernel_rfl)) (by kernel_rfl) (by kernel_rfl) (by kernel_rfl)
      (by rw [MakeChecks.laidMetH_plain _ _ _ (by kernel_rfl)]; exact laidMet_laidAll _ (by kernel_rfl) (by kernel_rfl))) ?_
  intro W base args ds gs before hval0 hW hsz0 hshape
  obtain ⟨mx, hmx⟩ := maxLen_cell hshape
  have hval : ∀ (j : Nat) t v, Tryd.f8.params[j]? = some t → args[j]? = some v → Value.okWide Tryd.prog W .any base t v := hval0
  have hW' := hW
  obtain ⟨p, q, hA0, hV, rfl, hfz, hnd⟩ := hW
  have hA : DataW.TrodAll enc Tryd.prog W 0 (fun _ => true) true Tryd.f8.params.toList args.toList ds p := hA0
  have hsz : (DataW.weightsEach Tryd.prog (Tryd.f8.params.toList ++ Rows.tapeNearSpec.plain.varTypes Tryd.prog) (ds ++ gs)).all (fun x => decide (x ≤ reachBytes)) = true := hsz0
  rw [Tryd.params8] at hA hval hsz
  obtain ⟨v0, vs0, d0, ds0, p0, q0, hargs, rfl, rfl, h0, r0⟩ := trodAll_cons hA
  obtain ⟨v1, vs1, d1, ds1, p1, q1, rfl, rfl, rfl, h1, r1⟩ := trodAll_cons r0
  obtain ⟨v2, vs2, d2, ds2, p2, q2, rfl, rfl, rfl, h2, r2⟩ := trodAll_cons r1
  obtain ⟨v3, vs3, d3, ds3, p3, q3, rfl, rfl, rfl, h3, r3⟩ := trodAll_cons r2
  obtain ⟨rfl, rfl, rfl⟩ := trodAll_nil r3
  obtain rfl : args = #[v0, v1, v2, v3] := by cases args; simp_all
  obtain ⟨rfl, rfl⟩ := trodVars_none hV
  have k0 := h0
  have lt0 : ∀ x ∈ p0, x.block < W.heap.size := by obtain ⟨m, hm⟩ := k0; exact DataW.trod_lt m _ _ _ hm
  have k1 := h1
  have lt1 : ∀ x ∈ p1, x.block < W.heap.size := by obtain ⟨m, hm⟩ := k1; exact DataW.trod_lt m _ _ _ hm
  have k2 := h2
  have lt2 : ∀ x ∈ p2, x.block < W.heap.size := by obtain ⟨m, hm⟩ := k2; exact DataW.trod_lt m _ _ _ hm
  obtain ⟨t0, a0, rfl, o0⟩ := mach_open (hval 0 24 v0 rfl rfl) h0 (light_arg hsz (j := 0) rfl rfl)
  obtain ⟨t1, a1, rfl, o1, l1⟩ := conf_open (hval 1 27 v1 rfl rfl) h1 (light_arg hsz (j := 1) rfl rfl)
  obtain ⟨t2, a2, rfl, o2, l2⟩ := conf_open (hval 2 27 v2 rfl rfl) h2 (light_arg hsz (j := 2) rfl rfl)
  obtain ⟨x3, rfl, rfl, rfl, w3⟩ := open_int Tryd.underlying61 (hval 3 61 v3 rfl rfl) h3
  obtain ⟨g3, i3⟩ := u16_bounds w3
  clear hA0 hval0 hsz0
  refine (near_all t0 a0 t1 a1 t2 a2 x3 W mx hmx o0 o1 l1 o2 l2 g3 i3).mono fun e W' ⟨he, bel⟩ => ?_
  subst he
  exact ⟨_, rfl, _, _, _, [], _, [], hW', trodAll_mk1 (shut_bool Tryd.underlying4 _),
    (trodAll_cons_mk (Below.trod Tryd.laidOut (by kernel_rfl) (of_decide_eq_true (by kernel_rfl)) k0 bel lt0) (trodAll_cons_mk (Below.trod Tryd.laidOut (by kernel_rfl) (of_decide_eq_true (by kernel_rfl)) k1 bel lt1) (trodAll_cons_mk (Below.trod Tryd.laidOut (by kernel_rfl) (of_decide_eq_true (by kernel_rfl)) k2 bel lt2) (trodAll_cons_mk (shut_int Tryd.underlying61 w3) trodAll_mk0)))), rfl, bel.frame _, fun h => by cases h⟩

theorem near_holds : Rows.TapeNearSaid :=
  OpenClaim.holds_of_wide 8 Tryd.f8 rfl rfl rfl rfl rfl rfl rfl ⟨rfl, rfl, rfl, rfl, rfl⟩ rfl rfl rfl rfl rfl (by kernel_rfl) Tryd.func8 (by kernel_rfl)
    (of_decide_eq_true (by kernel_rfl)) (by unfold Func.isWrapper; first | (rw [if_pos (by decide +kernel)]; kernel_rfl) | (rw [if_neg (by decide +kernel)]; exact ⟨rfl, rfl⟩))
    (fun os started H enc _ => near_lifted os started H enc)
theorem near_card : Rows.TapeNearCardSaid :=
  Claim7.holds_tied_plain_at .later [] [.data, .pinned] true Rows.tapeNearCard.stood.harness false
    near_holds (fun _ h => by cases h) (by kernel_rfl) (fun _ h => by cases h) tapeNear_row_tie rfl ⟨rfl, rfl⟩ (by kernel_rfl) rfl
    (fun f fn hf hfn => by
      obtain rfl : f = 8 := Option.some.inj ((show Tryd.prog.funcNamed "standstill/standstilllaw01.TapeNear" = some 8 by kernel_rfl).symm.trans hf) |>.symm
      obtain rfl : fn = Tryd.f8 := (Option.some.inj (Tryd.func8.symm.trans hfn)).symm
      exact ⟨by kernel_rfl, fun j t ht => by
        rw [Tryd.params8] at ht
        have hm : t ∈ [24, 27, 27, 61] := by simpa using Array.mem_of_getElem? ht
        have hall : ([24, 27, 27, 61].all fun u => !Tryd.prog.wantsStandIn u) = true := by kernel_rfl
        exact (show Tryd.prog.wantsStandIn t = false by simpa using List.all_eq_true.1 hall t hm)⟩)
    (by kernel_rfl)
#print axioms near_card
end Go.Proofs.YtkbaiegfloajlaaDoor

/- CounterJoined returns true for every input: if a stops after n steps and b from these contents after k steps, Join of a and b stops after n + k + 2 steps with the same contents. No condition. -/
import Derived.Test.YtgpcgjdnehlaeaaAo
import Derived.Test.YtgpcgjdnehlaeaaQ
namespace Go.Proofs.Ytgpcgjdnehlaeaa
open Go.ChangeShapes Go.WideShapes Go.ChangeAt Go.RowKit Go.Joins

set_option maxRecDepth 1000000 in
set_option maxHeartbeats 4000000 in
theorem joined_big (R1 R2 : Int) (A1 A2 A3 : Option Addr) (n1 c1 n2 c2 q d : Nat) (w : World) (h : 900 < n1 ∨ (n1 ≤ 900 ∧ 900 < n2) ∨ (n1 ≤ 900 ∧ n2 ≤ 900 ∧ 100 < q)) :
    Calls Try.prog 6 #[.agg #[.int .i64 R1, .slice A1 n1 c1], .agg #[.int .i64 R2, .slice A2 n2 c2], .slice A3 q d] w fun e w' => e = .returned (.bool true) ∧ Below w.heap.size w w' := by
  rcases h with h | ⟨h1, h⟩ | ⟨h1, h2, h⟩
  · have t1 : (900 : Int) < n1 := by omega
    go_enter Try.func6, Try.ntmps6
    go_wp2_with fail
    refine (awake_any _).mono ?_
    rintro e w1 ⟨rfl, hb1⟩
    obtain ⟨_, _, _, _, _, hw1⟩ := boxes2 hb1
    go_wp2_with fail
    go_ret
    exact ⟨rfl, hw1⟩
  · have t1 : ¬ (900 : Int) < n1 := by omega
    have t2 : (900 : Int) < n2 := by omega
    go_enter Try.func6, Try.ntmps6
    go_wp2_with fail
    refine (awake_any _).mono ?_
    rintro e w1 ⟨rfl, hb1⟩
    obtain ⟨_, _, _, _, _, hw1⟩ := boxes2 hb1
    go_wp2_with fail
    go_ret
    exact ⟨rfl, hw1⟩
  · have t1 : ¬ (900 : Int) < n1 := by omega
    have t2 : ¬ (900 : Int) < n2 := by omega
    have t3 : (100 : Int) < q := by omega
    go_enter Try.func6, Try.ntmps6
    go_wp2_with fail
    refine (awake_any _).mono ?_
    rintro e w1 ⟨rfl, hb1⟩
    obtain ⟨_, _, _, _, _, hw1⟩ := boxes2 hb1
    go_wp2_with fail
    go_ret
    exact ⟨rfl, hw1⟩

set_option maxRecDepth 1000000 in
set_option maxHeartbeats 4000000 in
theorem joined_bad (R1 R2 : Int) (A1 A2 A3 : Option Addr) (n1 c1 n2 c2 q d : Nat) (a b : List Ins) (w : World) (ha : CodeAt w w.heap.size A1 n1 a) (hb : CodeAt w w.heap.size A2 n2 b) (h1 : n1 ≤ 900) (h2 : n2 ≤ 900) (h3 : q ≤ 100) (hv : vCode R1 a = false ∨ (vCode R1 a = true ∧ vCode R2 b = false)) :
    Calls Try.prog 6 #[.agg #[.int .i64 R1, .slice A1 n1 c1], .agg #[.int .i64 R2, .slice A2 n2 c2], .slice A3 q d] w fun e w' => e = .returned (.bool true) ∧ Below w.heap.size w w' := by
  have t1 : ¬ (900 : Int) < n1 := by omega
  have t2 : ¬ (900 : Int) < n2 := by omega
  have t3 : ¬ (100 : Int) < q := by omega
  have HA := hid_ ha; clear ha
  have HB := hid_ hb; clear hb
  rcases hv with hv | ⟨hv, hv2⟩
  · have V1 := hid_ hv; clear hv
    go_enter Try.func6, Try.ntmps6
    go_wp2_with fail
    refine (rvalid_any R1 A1 n1 c1 a _ (HA.out.to (below2 w _ _))).mono ?_
    rw [V1.out]
    rintro e wa ⟨rfl, hba⟩
    obtain ⟨_, _, _, _, _, hwa⟩ := boxes2 hba
    go_wp2_with fail
    refine (awake_any _).mono ?_
    rintro e w1 ⟨rfl, hb1⟩
    go_wp2_with fail
    go_ret
    exact ⟨rfl, bnext hwa hb1⟩
  · have V1 := hid_ hv; clear hv
    have V2 := hid_ hv2; clear hv2
    go_enter Try.func6, Try.ntmps6
    go_wp2_with fail
    refine (rvalid_any R1 A1 n1 c1 a _ (HA.out.to (below2 w _ _))).mono ?_
    rw [V1.out]
    rintro e wa ⟨rfl, hba⟩
    obtain ⟨p0, p1, q0, q1, hz, hwa⟩ := boxes2 hba
    go_wp2_with fail
    refine (rvalid_any R2 A2 n2 c2 b _ (HB.out.to hwa)).mono ?_
    rw [V2.out]
    rintro e wb ⟨rfl, hbb⟩
    go_wp2_with fail
    refine (awake_any _).mono ?_
    rintro e w1 ⟨rfl, hb1⟩
    go_wp2_with fail
    go_ret
    exact ⟨rfl, bnext (bnext hwa hbb) hb1⟩

theorem joined_any (R1 R2 : Int) (A1 A2 A3 : Option Addr) (n1 c1 n2 c2 q d : Nat) (a b : List Ins) (regs : List Int) (w : World) (ha : CodeAt w w.heap.size A1 n1 a) (hb : CodeAt w w.heap.size A2 n2 b) (hr : IntsAt w w.heap.size A3 q regs) :
    Calls Try.prog 6 #[.agg #[.int .i64 R1, .slice A1 n1 c1], .agg #[.int .i64 R2, .slice A2 n2 c2], .slice A3 q d] w fun e w' => e = .returned (.bool true) ∧ Below w.heap.size w w' := by
  by_cases h : 900 < n1 ∨ (n1 ≤ 900 ∧ 900 < n2) ∨ (n1 ≤ 900 ∧ n2 ≤ 900 ∧ 100 < q)
  · exact joined_big R1 R2 A1 A2 A3 n1 c1 n2 c2 q d w h
  · by_cases hv : vCode R1 a = false ∨ (vCode R1 a = true ∧ vCode R2 b = false)
    · exact joined_bad R1 R2 A1 A2 A3 n1 c1 n2 c2 q d a b w ha hb (by omega) (by omega) (by omega) hv
    · have hv1 : vCode R1 a = true := by
        cases h1 : vCode R1 a with
        | true => rfl
        | false => exact absurd (.inl h1) hv
      have hv2 : vCode R2 b = true := by
        cases h2 : vCode R2 b with
        | true => rfl
        | false => exact absurd (.inr ⟨hv1, h2⟩) hv
      obtain ⟨r1, _, _, _⟩ := vCode_reg hv1
      obtain ⟨r2, _, _, _⟩ := vCode_reg hv2
      obtain ⟨S1, rfl⟩ := Int.eq_ofNat_of_zero_le (show 0 ≤ R1 by omega)
      obtain ⟨S2, rfl⟩ := Int.eq_ofNat_of_zero_le (show 0 ≤ R2 by omega)
      exact joined_main S1 S2 (if S1 < S2 then S2 else S1) A1 A2 A3 n1 c1 n2 c2 q d a b regs w ha hb hr (by omega) (by omega) (by omega) hv1 hv2 (fun h => if_pos h) (fun h => if_neg h)

set_option maxRecDepth 100000 in
theorem joined_lifted (os : Os) (started : os.Started) (H : Type) (enc : TypeId × Value → H) :
    ReturnsInHanded {} Try.checked os 6 .any (Rows.counterJoinedSpec.pre6 enc Try.prog Try.f6 Rows.counterJoinedRow.domain false) (Rows.counterJoinedSpec.post enc Try.prog Try.f6 false true false false) := by
  refine returnsInHanded_of_change (C := Try.checked) Try.own started (by kernel_rfl) Try.func6
    (ChangeSpec.witness6 (enc := enc) (C := Try.checked) false ⟨#[], #[.agg #[.int .i64 0, .slice none 0 0], .agg #[.int .i64 0, .slice none 0 0], .slice none 0 0], []⟩ 8 (by kernel_rfl) (by kernel_rfl) (by kernel_rfl) (by kernel_rfl)) ?_
  intro W base args ds gs before hval0 hW hcnd _
  have hval : ∀ (j : Nat) t v, Try.f6.params[j]? = some t → args[j]? = some v → Value.okWide Try.prog W .any base t v := hval0
  have hW' := hW
  obtain ⟨p, q, hA0, hV, rfl, hfz, hnd⟩ := hW
  have hA : DataW.TrodAll enc Try.prog W 0 (fun _ => true) true Try.f6.params.toList args.toList ds p := hA0
  rw [Try.params6] at hA hval
  obtain ⟨v0, vs0, d0, ds0, p0, q0, hargs, rfl, rfl, h0, r0⟩ := trodAll_cons hA
  obtain ⟨v1, vs1, d1, ds1, p1, q1, rfl, rfl, rfl, h1, r1⟩ := trodAll_cons r0
  obtain ⟨v2, vs2, d2, ds2, p2, q2, rfl, rfl, rfl, h2, r2⟩ := trodAll_cons r1
  obtain ⟨rfl, rfl, rfl⟩ := trodAll_nil r2
  obtain rfl : args = #[v0, v1, v2] := by cases args; simp_all
  obtain ⟨rfl, rfl⟩ := trodVars_none hV
  have k0 := h0
  have k1 := h1
  have k2 := h2
  have lt0 : ∀ x ∈ p0, x.block < W.heap.size := by obtain ⟨m, hm⟩ := k0; exact DataW.trod_lt m _ _ _ hm
  have lt1 : ∀ x ∈ p1, x.block < W.heap.size := by obtain ⟨m, hm⟩ := k1; exact DataW.trod_lt m _ _ _ hm
  have lt2 : ∀ x ∈ p2, x.block < W.heap.size := by obtain ⟨m, hm⟩ := k2; exact DataW.trod_lt m _ _ _ hm
  obtain ⟨R1, A1, n1, c1, a, rfl, ha⟩ := counter_open (hval 0 24 v0 rfl rfl) h0
  obtain ⟨R2, A2, n2, c2, b, rfl, hb⟩ := counter_open (hval 1 24 v1 rfl rfl) h1
  obtain ⟨A3, q, d, regs, rfl, hr⟩ := slice_open (hval 2 25 v2 rfl rfl) h2
  clear hA0 hval0
  refine (joined_any R1 R2 A1 A2 A3 n1 c1 n2 c2 q d a b regs W ha hb hr).mono fun e W' ⟨he, bel⟩ => ?_
  subst he
  exact ⟨_, rfl, _, _, _, [], _, [], hW', trodAll_mk1 (shut_bool Try.underlying4 _),
    (trodAll_cons_mk (Below.trod Try.laidOut (by kernel_rfl) (of_decide_eq_true (by kernel_rfl)) k0 bel lt0)
      (trodAll_cons_mk (Below.trod Try.laidOut (by kernel_rfl) (of_decide_eq_true (by kernel_rfl)) k1 bel lt1)
        (trodAll_cons_mk (Below.trod Try.laidOut (by kernel_rfl) (of_decide_eq_true (by kernel_rfl)) k2 bel lt2) trodAll_mk0))), rfl, bel.frame _, fun h => by cases h⟩

theorem joined_holds : Rows.CounterJoinedSaid :=
  OpenClaim.holds_of_wide 6 Try.f6 rfl rfl rfl rfl rfl rfl rfl ⟨rfl, rfl, rfl, rfl, rfl⟩ rfl rfl rfl rfl rfl (by kernel_rfl) Try.func6 (by kernel_rfl)
    (of_decide_eq_true (by kernel_rfl)) (by unfold Func.isWrapper; first | (rw [if_pos (by decide +kernel)]; kernel_rfl) | (rw [if_neg (by decide +kernel)]; exact ⟨rfl, rfl⟩))
    (fun os started H enc _ => joined_lifted os started H enc)
#print axioms joined_holds
end Go.Proofs.Ytgpcgjdnehlaeaa

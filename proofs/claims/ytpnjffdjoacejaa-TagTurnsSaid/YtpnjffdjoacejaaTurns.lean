/- TagTurns returns true for every input: ValidCyclic, FitsCyclic, Turn and Roll of package tag return what the specification returns. No condition. -/
import Derived.Test.YtpnjffdjoacejaaMn
import Derived.Test.YtpnjffdjoacejaaMo
import Derived.Test.YtpnjffdjoacejaaMp
import Derived.Test.YtpnjffdjoacejaaMq
namespace Go.Proofs.Ytpnjffdjoacejaa
open Go.ChangeShapes Go.WideShapes Go.ChangeAt Go.RowKit Go.Joins

theorem turns_all (ws : List (List Int)) (v : Value) (a : Int) (q : List Int) (v2 : Value) (n : Int) (w : World) (hB : CycBig w w.heap.size v ws) (hqc : Elems w w.heap.size v2 (ints q) ∧ Capped v2) (hl : q.length ≤ 17592186044416) :
    Calls Try.prog 4 #[.agg #[v], .agg #[.int .i64 a, v2], .int .i64 n] w (Yes w) := by
  obtain ⟨hq, hcap⟩ := hqc
  cases hw : wideC ws q with
  | true => exact turns_wide ws a q n v v2 w hB hq hcap hl hw
  | false =>
    by_cases hn : 200 < n ∧ n ≤ 1000000
    · exact turns_far ws a q n v v2 w hB hq hcap hl hw hn.1 hn.2
    · cases hf : fitsC ws a q with
      | false => exact turns_bad ws a q n v v2 w hB hq hcap hl hw (by omega) hf
      | true =>
        obtain ⟨an, rfl⟩ := Int.eq_ofNat_of_zero_le (fitsC_parts hf).2.1
        have hcase : n < 0 ∨ (200 < n ∧ 1000000 < n) ∨ ∃ N : Nat, n = N ∧ N ≤ 200 := by
          by_cases h0 : n < 0
          · exact .inl h0
          · by_cases h1 : 200 < n
            · exact .inr (.inl ⟨h1, by omega⟩)
            · obtain ⟨N, rfl⟩ := Int.eq_ofNat_of_zero_le (show 0 ≤ n by omega)
              exact .inr (.inr ⟨N, rfl, by omega⟩)
        by_cases hz : q = []
        · rcases hcase with h0 | ⟨h1, h2⟩ | ⟨N, rfl, hN⟩
          · exact turns_zero_neg ws an q v v2 w hB hq hcap hl hw hf hz n h0
          · exact turns_zero_far ws an q v v2 w hB hq hcap hl hw hf hz n h1 h2
          · cases ho : rollC ws N an q with
            | none => exact turns_zero_none ws an q v v2 w hB hq hcap hl hw hf hz N hN ho
            | some r => exact turns_zero_some ws an q v v2 w hB hq hcap hl hw hf hz N hN r ho
        · by_cases hb : 1000000 < (turnQ ws an q).length
          · rcases hcase with h0 | ⟨h1, h2⟩ | ⟨N, rfl, hN⟩
            · exact turns_big_neg ws an q v v2 w hB hq hcap hl hw hf hz hb n h0
            · exact turns_big_far ws an q v v2 w hB hq hcap hl hw hf hz hb n h1 h2
            · cases ho : rollC ws N an q with
              | none => exact turns_big_none ws an q v v2 w hB hq hcap hl hw hf hz hb N hN ho
              | some r => exact turns_big_some ws an q v v2 w hB hq hcap hl hw hf hz hb N hN r ho
          · rcases hcase with h0 | ⟨h1, h2⟩ | ⟨N, rfl, hN⟩
            · exact turns_on_neg ws an q v v2 w hB hq hcap hl hw hf hz hb n h0
            · exact turns_on_far ws an q v v2 w hB hq hcap hl hw hf hz hb n h1 h2
            · cases ho : rollC ws N an q with
              | none => exact turns_on_none ws an q v v2 w hB hq hcap hl hw hf hz hb N hN ho
              | some r => exact turns_on_some ws an q v v2 w hB hq hcap hl hw hf hz hb N hN r ho

set_option maxRecDepth 100000 in
theorem turns_lifted (os : Os) (started : os.Started) (H : Type) (enc : TypeId × Value → H) :
    ReturnsInHanded {} Try.checked os 4 .any (Rows.tagTurnsSpec.pre6 enc Try.prog Try.f4 Rows.tagTurnsRow.domain false) (Rows.tagTurnsSpec.post enc Try.prog Try.f4 false true false false) := by
  refine returnsInHanded_of_change_sized (C := Try.checked) Try.own started (by kernel_rfl) Try.func4
    (ChangeSpec.witness6 (enc := enc) (C := Try.checked) false ⟨#[], #[.agg #[.slice none 0 0], .agg #[.int .i64 0, .slice none 0 0], .int .i64 0], []⟩ 8 (by kernel_rfl) (by kernel_rfl) (by kernel_rfl) (by kernel_rfl)) ?_
  intro W base args ds gs before hval0 hW hcnd hsz0 _
  have hval : ∀ (j : Nat) t v, Try.f4.params[j]? = some t → args[j]? = some v → Value.okWide Try.prog W .any base t v := hval0
  have hW' := hW
  obtain ⟨p, q, hA0, hV, rfl, hfz, hnd⟩ := hW
  have hA : DataW.TrodAll enc Try.prog W 0 (fun _ => true) true Try.f4.params.toList args.toList ds p := hA0
  have hsz : (DataW.weightsEach Try.prog (Try.f4.params.toList ++ Rows.tagTurnsSpec.plain.varTypes Try.prog) (ds ++ gs)).all (fun x => decide (x ≤ reachBytes)) = true := hsz0
  rw [Try.params4] at hA hval hsz
  obtain ⟨v0, vs0, d0, ds0, p0, q0, hargs, rfl, rfl, h0, r0⟩ := trodAll_cons hA
  obtain ⟨v1, vs1, d1, ds1, p1, q1, rfl, rfl, rfl, h1, r1⟩ := trodAll_cons r0
  obtain ⟨v2, vs2, d2, ds2, p2, q2, rfl, rfl, rfl, h2, r2⟩ := trodAll_cons r1
  obtain ⟨rfl, rfl, rfl⟩ := trodAll_nil r2
  obtain rfl : args = #[v0, v1, v2] := by cases args; simp_all
  obtain ⟨rfl, rfl⟩ := trodVars_none hV
  have k0 := h0
  have lt0 : ∀ x ∈ p0, x.block < W.heap.size := by obtain ⟨m, hm⟩ := k0; exact DataW.trod_lt m _ _ _ hm
  have k1 := h1
  have lt1 : ∀ x ∈ p1, x.block < W.heap.size := by obtain ⟨m, hm⟩ := k1; exact DataW.trod_lt m _ _ _ hm
  obtain ⟨t0, a0, rfl, o0⟩ := cyc_open (hval 0 43 v0 rfl rfl) h0 (light_arg hsz (j := 0) rfl rfl)
  obtain ⟨x1, q1, a1, rfl, o1, l1⟩ := wheel_open (hval 1 45 v1 rfl rfl) h1 (light_arg hsz (j := 1) rfl rfl)
  obtain ⟨x2, rfl, rfl, rfl, w2⟩ := open_int Try.underlying3 (hval 2 3 v2 rfl rfl) h2
  clear hA0 hval0 hsz0
  refine (turns_all t0 a0 x1 q1 a1 x2 W o0 o1 l1).mono fun e W' ⟨he, bel⟩ => ?_
  subst he
  exact ⟨_, rfl, _, _, _, [], _, [], hW', trodAll_mk1 (shut_bool Try.underlying4 _),
    (trodAll_cons_mk (Below.trod Try.laidOut (by kernel_rfl) (of_decide_eq_true (by kernel_rfl)) k0 bel lt0) (trodAll_cons_mk (Below.trod Try.laidOut (by kernel_rfl) (of_decide_eq_true (by kernel_rfl)) k1 bel lt1) (trodAll_cons_mk (shut_int Try.underlying3 w2) trodAll_mk0))), rfl, bel.frame _, fun h => by cases h⟩

theorem turns_holds : Rows.TagTurnsSaid :=
  OpenClaim.holds_of_wide 4 Try.f4 rfl rfl rfl rfl rfl rfl rfl ⟨rfl, rfl, rfl, rfl, rfl⟩ rfl rfl rfl rfl rfl (by kernel_rfl) Try.func4 (by kernel_rfl)
    (of_decide_eq_true (by kernel_rfl)) (by unfold Func.isWrapper; first | (rw [if_pos (by decide +kernel)]; kernel_rfl) | (rw [if_neg (by decide +kernel)]; exact ⟨rfl, rfl⟩))
    (fun os started H enc _ => turns_lifted os started H enc)
#print axioms turns_holds
end Go.Proofs.Ytpnjffdjoacejaa

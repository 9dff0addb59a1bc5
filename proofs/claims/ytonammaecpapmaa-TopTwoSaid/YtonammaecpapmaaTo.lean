/- Contracts: sameInts, champion, lives of package standstilltop. -/
import Derived.Test.YtonammaecpapmaaTn
namespace Go.Proofs.Ytonammaecpapmaa.Tp
open Go.RowKit

theorem take_eq_step {xs ys : List Int} {k : Nat} {x : Int} (hx : xs[k]? = some x) (hy : ys[k]? = some x) (h : xs.take k = ys.take k) : xs.take (k + 1) = ys.take (k + 1) := by
  rw [List.take_add_one, List.take_add_one, h, hx, hy]

set_option maxHeartbeats 1000000 in
theorem sameInts_any (xs ys : List Int) (v1 v2 : Value) (w : World) (h1 : Elems w w.heap.size v1 (ints xs)) (h2 : Elems w w.heap.size v2 (ints ys)) (hl : xs.length ≤ 1000000) :
    Calls Try.prog 10 #[v1, v2] w fun e w' => e = .returned (.bool (decide (xs = ys))) ∧ ∃ n, w' = w.drewN n := by
  obtain ⟨A1, c1, rfl⟩ := h1.form
  obtain ⟨A2, c2, rfl⟩ := h2.form
  rw [ints_len] at h1 h2 ⊢
  rw [ints_len]
  by_cases hn : xs.length = ys.length
  · rw [← hn] at h2 ⊢
    have H1 := hid_ h1
    have H2 := hid_ h2
    have HN := hid_ hn
    clear h1 h2 hn
    go_enter Try.func10, Try.ntmps10
    go_wp2_with fail
    go_loopw [5] (fun s wr => ∃ k n : Nat, s = .int .i64 ((k : Nat) : Int) ∧ k ≤ xs.length ∧ Hid (xs.take k = ys.take k) ∧ wr = w.drewN n) (fun s _ => xs.length - (intOf s).toNat)
    case atStart => exact ⟨0, 0, rfl, Nat.zero_le _, hid_ rfl, rfl⟩
    case round =>
      obtain ⟨k, n, rfl, hk, HT, rfl⟩ := hrel
      by_cases hlt : k < xs.length
      · obtain ⟨b1, o1, rfl, hb1, hc1⟩ := H1.out.at_ (by omega)
        obtain ⟨b2, o2, rfl, hb2, hc2⟩ := H2.out.at_ (by omega)
        obtain ⟨x, hx⟩ : ∃ x, xs[k]? = some x := ⟨_, List.getElem?_eq_getElem hlt⟩
        obtain ⟨y, hy⟩ : ∃ y, ys[k]? = some y := ⟨_, List.getElem?_eq_getElem (by rw [← HN.out]; exact hlt)⟩
        have i1 := hc1 k _ (ints_at hx)
        have i2 := hc2 k _ (ints_at hy)
        have t0 : 0 ≤ ((k : Nat) : Int) := by omega
        have HX := hid_ hx
        have HY := hid_ hy
        clear hx hy hc1 hc2
        by_cases hxy : x = y
        · subst hxy
          go_wp2_with fail
          go_quiet (fail)
          go_wp2_with fail
          go_roundw
          case rel => exact ⟨k + 1, _, by go_num, by omega, hid_ (take_eq_step HX.out HY.out HT.out), rfl⟩
          case measure => simp [intOf]; omega
        · have hne : (x != y) = true := by simpa using hxy
          have hne2 : (x == y) = false := by simpa using hxy
          have HXY := hid_ hxy
          go_wp2_with fail
          go_quiet (fail)
          go_wp2_with fail
          go_ret
          refine ⟨ret_bool (decide_eq_false fun e => ?_).symm, _, by first | rfl | exact World.drewN_drewN ..⟩
          subst e
          exact HXY.out (Option.some.inj (HX.out.symm.trans HY.out))
      · go_wp2_with fail
        go_ret
        refine ⟨ret_bool (decide_eq_true ?_).symm, _, rfl⟩
        have := HT.out
        rwa [List.take_of_length_le (by omega), List.take_of_length_le (by have := HN.out; omega)] at this
  · rw [decide_eq_false (fun e => hn (by rw [e]))]
    have hne : ((xs.length : Int) != (ys.length : Int)) = true := by simp; omega
    clear h1 h2
    go_enter Try.func10, Try.ntmps10
    go_wp2_with fail
    go_ret
    exact ⟨rfl, 0, rfl⟩

def champM : MachS := ⟨2, 2, [[⟨1, 1, 1⟩, ⟨1, -1, 1⟩], [⟨1, -1, 0⟩, ⟨1, 1, -1⟩]]⟩
theorem champ_run : runS champM noC 100 = ⟨⟨-1, 0, -2, [1, 1, 1, 1]⟩, 6, 0⟩ := by rfl

set_option maxHeartbeats 2000000 in
theorem champion_any (w : World) : Calls Try.prog 13 #[] w fun e w' => ∃ v, e = .returned (.agg #[.int .i64 2, .int .i64 2, v]) ∧ MachIn w' w'.heap.size v champM ∧ Below w.heap.size w w' := by
  go_enter Try.func13, Try.ntmps13
  go_wp2_with fail
  obtain ⟨W, hW⟩ : ∃ W, W = ((((w.alloc (.cells #[.int .i64 2, .int .i64 2, .slice (some ⟨w.heap.size + 1 + 1 + 1, 0, none⟩) 2 2] 55)).alloc (.cells #[.int .i64 1, .int .i64 1, .int .i64 1, .int .i64 1, .int .i64 (-1), .int .i64 1] 78)).alloc (.cells #[.int .i64 1, .int .i64 (-1), .int .i64 0, .int .i64 1, .int .i64 1, .int .i64 (-1)] 78)).alloc (.cells #[.slice (some ⟨w.heap.size + 1, 0, none⟩) 2 2, .slice (some ⟨w.heap.size + 1 + 1, 0, none⟩) 2 2] 79)) := ⟨_, rfl⟩
  rw [← hW]
  have hbw : Below w.heap.size w W := by
    rw [hW]
    exact (((below1 w _).alloc (by simp) _).alloc (by simp; omega) _).alloc (by simp; omega) _
  have B0 : Blk W (w.heap.size) 55 #[.int .i64 2, .int .i64 2, .slice (some ⟨w.heap.size + 1 + 1 + 1, 0, none⟩) 2 2] := by
    rw [hW]
    have := (((Blk.new w 55 #[.int .i64 2, .int .i64 2, .slice (some ⟨w.heap.size + 1 + 1 + 1, 0, none⟩) 2 2]).alloc (.cells #[.int .i64 1, .int .i64 1, .int .i64 1, .int .i64 1, .int .i64 (-1), .int .i64 1] 78)).alloc (.cells #[.int .i64 1, .int .i64 (-1), .int .i64 0, .int .i64 1, .int .i64 1, .int .i64 (-1)] 78)).alloc (.cells #[.slice (some ⟨w.heap.size + 1, 0, none⟩) 2 2, .slice (some ⟨w.heap.size + 1 + 1, 0, none⟩) 2 2] 79)
    simpa using this
  have B1 : Blk W (w.heap.size + 1) 78 #[.int .i64 1, .int .i64 1, .int .i64 1, .int .i64 1, .int .i64 (-1), .int .i64 1] := by
    rw [hW]
    have := ((Blk.new (w.alloc (.cells #[.int .i64 2, .int .i64 2, .slice (some ⟨w.heap.size + 1 + 1 + 1, 0, none⟩) 2 2] 55)) 78 #[.int .i64 1, .int .i64 1, .int .i64 1, .int .i64 1, .int .i64 (-1), .int .i64 1]).alloc (.cells #[.int .i64 1, .int .i64 (-1), .int .i64 0, .int .i64 1, .int .i64 1, .int .i64 (-1)] 78)).alloc (.cells #[.slice (some ⟨w.heap.size + 1, 0, none⟩) 2 2, .slice (some ⟨w.heap.size + 1 + 1, 0, none⟩) 2 2] 79)
    simpa using this
  have B2 : Blk W (w.heap.size + 1 + 1) 78 #[.int .i64 1, .int .i64 (-1), .int .i64 0, .int .i64 1, .int .i64 1, .int .i64 (-1)] := by
    rw [hW]
    have := (Blk.new ((w.alloc (.cells #[.int .i64 2, .int .i64 2, .slice (some ⟨w.heap.size + 1 + 1 + 1, 0, none⟩) 2 2] 55)).alloc (.cells #[.int .i64 1, .int .i64 1, .int .i64 1, .int .i64 1, .int .i64 (-1), .int .i64 1] 78)) 78 #[.int .i64 1, .int .i64 (-1), .int .i64 0, .int .i64 1, .int .i64 1, .int .i64 (-1)]).alloc (.cells #[.slice (some ⟨w.heap.size + 1, 0, none⟩) 2 2, .slice (some ⟨w.heap.size + 1 + 1, 0, none⟩) 2 2] 79)
    simpa using this
  have B3 : Blk W (w.heap.size + 1 + 1 + 1) 79 #[.slice (some ⟨w.heap.size + 1, 0, none⟩) 2 2, .slice (some ⟨w.heap.size + 1 + 1, 0, none⟩) 2 2] := by
    rw [hW]
    have := Blk.new (((w.alloc (.cells #[.int .i64 2, .int .i64 2, .slice (some ⟨w.heap.size + 1 + 1 + 1, 0, none⟩) 2 2] 55)).alloc (.cells #[.int .i64 1, .int .i64 1, .int .i64 1, .int .i64 1, .int .i64 (-1), .int .i64 1] 78)).alloc (.cells #[.int .i64 1, .int .i64 (-1), .int .i64 0, .int .i64 1, .int .i64 1, .int .i64 (-1)] 78)) 79 #[.slice (some ⟨w.heap.size + 1, 0, none⟩) 2 2, .slice (some ⟨w.heap.size + 1 + 1, 0, none⟩) 2 2]
    simpa using this
  clear hW
  have e0 := B0.cell 0
  have e1 := B0.cell 1
  have e2 := B0.cell 2
  simp at e0 e1 e2
  refine bodyPost_ret (v := .agg #[.int .i64 2, .int .i64 2, .slice (some ⟨w.heap.size + 1 + 1 + 1, 0, none⟩) 2 2]) (by simp [results, Try.results13, go_sem, e0, e1, e2]) rfl ?_
  have hrow : ∀ (g : Nat) (x0 x1 x2 x3 x4 x5 : Int), Blk W g 78 #[.int .i64 x0, .int .i64 x1, .int .i64 x2, .int .i64 x3, .int .i64 x4, .int .i64 x5] → RulesIn W W.heap.size (.slice (some ⟨g, 0, none⟩) 2 2) [⟨x0, x1, x2⟩, ⟨x3, x4, x5⟩] := by
    intro g x0 x1 x2 x3 x4 x5 hb
    refine .inr ⟨g, 0, 2, rfl, hb.lt, fun k r hr => ?_⟩
    match k, hr with
    | 0, hr =>
      obtain rfl := Option.some.inj hr
      exact ⟨by simpa using hb.cell 0, by simpa using hb.cell 1, by simpa using hb.cell 2⟩
    | 1, hr =>
      obtain rfl := Option.some.inj hr
      exact ⟨by simpa using hb.cell 3, by simpa using hb.cell 4, by simpa using hb.cell 5⟩
    | k + 2, hr => simp at hr
  refine ⟨_, rfl, ⟨⟨[.slice (some ⟨w.heap.size + 1, 0, none⟩) 2 2, .slice (some ⟨w.heap.size + 1 + 1, 0, none⟩) 2 2], blk_elems B3 rfl, rfl, ?_⟩, by decide⟩, hbw⟩
  intro k u r hu hr
  match k, hu, hr with
  | 0, hu, hr =>
    obtain rfl := Option.some.inj hu
    obtain rfl := Option.some.inj hr
    exact hrow _ _ _ _ _ _ _ B1
  | 1, hu, hr =>
    obtain rfl := Option.some.inj hu
    obtain rfl := Option.some.inj hr
    exact hrow _ _ _ _ _ _ _ B2
  | k + 2, hu, hr => simp [champM] at hr

set_option maxRecDepth 100000 in
set_option maxHeartbeats 2000000 in
theorem lives_any (w : World) : Calls Try.prog 5 #[] w fun e w' => e = .returned (.bool true) ∧ Below w.heap.size w w' := by
  go_enter Try.func5, Try.ntmps5
  go_wp2_with fail
  refine (champion_any w).mono ?_
  rintro e w1 ⟨v, rfl, hm, hb1⟩
  have HM := hid_ hm
  clear hm
  go_wp2_with fail
  refine (run_any champM noC 100 v (.slice none 0 0) w1 HM.out (Elems.nil _ _) (by decide)).mono ?_
  rw [champ_run]
  rintro e w2 ⟨u, rfl, hE, hb2⟩
  obtain ⟨A, c, rfl⟩ := hE.form
  rw [show (ints ([1, 1, 1, 1] : List Int)).length = 4 from rfl] at hE ⊢
  have HE := hid_ hE
  have hw2 := bnext hb1 hb2
  clear hE hb2
  go_wp2_with fail
  have hq5 : Elems ((w2.alloc (.cells #[.int .i64 (-1), .int .i64 0, .int .i64 (-2), .slice A 4 c] 50)).alloc (.cells #[.int .i64 1, .int .i64 1, .int .i64 1, .int .i64 1] 3)) ((w2.alloc (.cells #[.int .i64 (-1), .int .i64 0, .int .i64 (-2), .slice A 4 c] 50)).alloc (.cells #[.int .i64 1, .int .i64 1, .int .i64 1, .int .i64 1] 3)).heap.size (.slice (some ⟨w2.heap.size + 1, 0, none⟩) 4 4) (ints [1, 1, 1, 1]) := by
    have h := Blk.new (w2.alloc (.cells #[.int .i64 (-1), .int .i64 0, .int .i64 (-2), .slice A 4 c] 50)) 3 #[.int .i64 1, .int .i64 1, .int .i64 1, .int .i64 1]
    rw [show (w2.alloc (.cells #[.int .i64 (-1), .int .i64 0, .int .i64 (-2), .slice A 4 c] 50)).heap.size = w2.heap.size + 1 by simp] at h
    exact blk_elems h rfl
  refine (sameInts_any [1, 1, 1, 1] [1, 1, 1, 1] _ _ ((w2.alloc (.cells #[.int .i64 (-1), .int .i64 0, .int .i64 (-2), .slice A 4 c] 50)).alloc (.cells #[.int .i64 1, .int .i64 1, .int .i64 1, .int .i64 1] 3)) (HE.out.to (below2 w2 _ _)) hq5 (by decide)).mono ?_
  rw [show decide (([1, 1, 1, 1] : List Int) = [1, 1, 1, 1]) = true by rfl]
  rintro e w3 ⟨rfl, n1, rfl⟩
  go_wp2_with fail
  go_ret
  exact ⟨rfl, below_drewN (bnext hw2 (below2 w2 _ _)) n1⟩
end Go.Proofs.Ytonammaecpapmaa.Tp

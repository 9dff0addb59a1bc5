/- Contracts: Run of package tag for all arguments; Same; size; the specification's Stopped. -/
import Derived.Test.YtpnjffdjoacejaaKk
namespace Go.Proofs.Ytpnjffdjoacejaa
open Go.RowKit

theorem run_any (t : TagS) (q : List Int) (N : Int) (v2 v3 v : Value) (w : World) (ht : TagIn w w.heap.size v2 v3 t) (hq : Elems w w.heap.size v (ints q)) (hl : q.length ≤ 1000000) :
    Calls Try.prog 17 #[.agg #[.int .i64 t.del, v2, v3], v, .int .i64 N] w (TRan w (runTS t q N)) := by
  cases hf : fitsT t q
  · have := run_bad t q N v2 v3 v w ht hq hl hf
    rw [runTS, if_pos hf]
    exact this
  · by_cases hN : N < 0 ∨ 1000000 < N
    · have := run_arg t q N v2 v3 v w ht hq hl hf (by omega)
      rw [runTS, if_neg (by rw [hf]; simp), if_pos hN]
      exact this
    · rw [runTS, if_neg (by rw [hf]; simp), if_neg hN]
      obtain ⟨del, rules, stops⟩ := t
      have hd := (validT_parts (fitsT_parts hf).1).1
      simp only at hd
      obtain ⟨dn, rfl⟩ := Int.eq_ofNat_of_zero_le (show 0 ≤ del by omega)
      obtain ⟨n, rfl⟩ := Int.eq_ofNat_of_zero_le (show 0 ≤ N by omega)
      rw [Int.toNat_natCast]
      exact run_go dn n rules stops q v2 v3 v w ht hq hl hf (by omega)

theorem take_eq_step {xs ys : List Int} {k : Nat} {x : Int} (hx : xs[k]? = some x) (hy : ys[k]? = some x) (h : xs.take k = ys.take k) : xs.take (k + 1) = ys.take (k + 1) := by
  rw [List.take_add_one, List.take_add_one, h, hx, hy]

set_option maxHeartbeats 1000000 in
theorem same_any (xs ys : List Int) (v1 v2 : Value) (w : World) (h1 : Elems w w.heap.size v1 (ints xs)) (h2 : Elems w w.heap.size v2 (ints ys)) (hl : xs.length ≤ 1000000) :
    Calls Try.prog 21 #[v1, v2] w fun e w' => e = .returned (.bool (decide (xs = ys))) ∧ ∃ n, w' = w.drewN n := by
  obtain ⟨A1, c1, rfl⟩ := h1.form
  obtain ⟨A2, c2, rfl⟩ := h2.form
  rw [ints_len] at h1 h2 ⊢
  rw [ints_len]
  by_cases hn : xs.length = ys.length
  · rw [← hn] at h2 ⊢
    have H1 := hid_ h1
    have H2 := hid_ h2
    have HN := hid_ hn
    clear h1 h2 hn
    go_enter Try.func21, Try.ntmps21
    go_wp2_with fail
    go_loopw [5] (fun s wr => ∃ k n : Nat, s = .int .i64 ((k : Nat) : Int) ∧ k ≤ xs.length ∧ Hid (xs.take k = ys.take k) ∧ wr = w.drewN n) (fun s _ => xs.length - (intOf s).toNat)
    case atStart => exact ⟨0, 0, rfl, Nat.zero_le _, hid_ rfl, rfl⟩
    case round =>
      obtain ⟨k, n, rfl, hk, HT, rfl⟩ := hrel
      by_cases hlt : k < xs.length
      · obtain ⟨b1, o1, rfl, hb1, hc1⟩ := H1.out.at_ (by omega)
        obtain ⟨b2, o2, rfl, hb2, hc2⟩ := H2.out.at_ (by omega)
        obtain ⟨x, hx⟩ : ∃ x, xs[k]? = some x := ⟨_, List.getElem?_eq_getElem hlt⟩
        obtain ⟨y, hy⟩ : ∃ y, ys[k]? = some y := ⟨_, List.getElem?_eq_getElem (by rw [← HN.out]; exact hlt)⟩
        have i1 := hc1 k _ (ints_at hx)
        have i2 := hc2 k _ (ints_at hy)
        have t0 : 0 ≤ ((k : Nat) : Int) := by omega
        have HX := hid_ hx
        have HY := hid_ hy
        clear hx hy hc1 hc2
        by_cases hxy : x = y
        · subst hxy
          go_wp2_with fail
          go_quiet (fail)
          go_wp2_with fail
          go_roundw
          case rel => exact ⟨k + 1, _, by go_num, by omega, hid_ (take_eq_step HX.out HY.out HT.out), rfl⟩
          case measure => simp [intOf]; omega
        · have hne : (x != y) = true := by simpa using hxy
          have hne2 : (x == y) = false := by simpa using hxy
          have HXY := hid_ hxy
          go_wp2_with fail
          go_quiet (fail)
          go_wp2_with fail
          go_ret
          refine ⟨ret_bool (decide_eq_false fun e => ?_).symm, _, by first | rfl | exact World.drewN_drewN ..⟩
          subst e
          exact HXY.out (Option.some.inj (HX.out.symm.trans HY.out))
      · go_wp2_with fail
        go_ret
        refine ⟨ret_bool (decide_eq_true ?_).symm, _, rfl⟩
        have := HT.out
        rwa [List.take_of_length_le (by omega), List.take_of_length_le (by have := HN.out; omega)] at this
  · rw [decide_eq_false (fun e => hn (by rw [e]))]
    have hne : ((xs.length : Int) != (ys.length : Int)) = true := by simp; omega
    clear h1 h2
    go_enter Try.func21, Try.ntmps21
    go_wp2_with fail
    go_ret
    exact ⟨rfl, 0, rfl⟩

set_option maxRecDepth 100000 in
set_option maxHeartbeats 1000000 in
theorem rstopped_any (t : TagS) (l : List Int) (v2 v3 v : Value) (w : World) (ht : TagIn w w.heap.size v2 v3 t) (hq : Elems w w.heap.size v (ints l)) (hf : fitsT t l = true) :
    Calls Try.prog 18 #[.agg #[.int .i64 t.del, v2, v3], v] w fun e w' => e = .returned (.bool (stoppedT t l)) ∧ Below w.heap.size w w' := by
  obtain ⟨A3, c3, rfl⟩ := ht.stops.form
  have HS := hid_ ht.stops
  rw [bools_len] at HS ⊢
  obtain ⟨A, c, rfl⟩ := hq.form
  rw [ints_len] at hq ⊢
  by_cases hs : (l.length : Int) < t.del
  · rw [stoppedT_short hs]
    have hd : decide ((l.length : Int) < t.del) = true := decide_eq_true hs
    clear ht hq hf
    go_enter Try.func18, Try.ntmps18
    go_wp2_with fail
    go_quiet (fail)
    go_wp2_with fail
    go_ret
    exact ⟨rfl, below_drewN (below1 w _) _⟩
  · obtain ⟨j, r, b, hj, hjr, hr, hb⟩ := head_get hf hs
    rw [stoppedT_eq hj hs hb]
    have hd : decide ((l.length : Int) < t.del) = false := decide_eq_false hs
    have hjs : j < t.stops.length := (List.getElem?_eq_some_iff.1 hb).1
    have hl0 : 0 < l.length := (List.getElem?_eq_some_iff.1 hj).1
    obtain ⟨b3, o3, rfl, hb3, hc3⟩ := HS.out.at_ (by omega)
    obtain ⟨b1, o1, rfl, hb1, hc1⟩ := hq.at_ hl0
    have i3 := hc3 j _ (bools_at hb)
    have i1 := hc1 0 _ (ints_at hj)
    simp only [Nat.add_zero] at i1
    have t1 : 0 ≤ (j : Int) := by omega
    have t2 : (j : Int) < t.stops.length := by omega
    have t3 : (0 : Int) < l.length := by omega
    clear ht hq hf hj hr hb hc3 hc1
    go_enter Try.func18, Try.ntmps18
    go_wp2_with fail
    go_quiet (fail)
    go_wp2_with fail
    go_ret
    exact ⟨rfl, below_drewN (below1 w _) _⟩
end Go.Proofs.Ytpnjffdjoacejaa

/- Contracts: Ones of package tape; SameInts, SameConfig of the specification. -/
import Derived.Test.YtkbaiegfloajlaaDoorTa
namespace Go.Proofs.YtkbaiegfloajlaaDoor.Tp
open Go.RowKit

theorem take_eq_step {xs ys : List Int} {k : Nat} {x : Int} (hx : xs[k]? = some x) (hy : ys[k]? = some x) (h : xs.take k = ys.take k) : xs.take (k + 1) = ys.take (k + 1) := by
  rw [List.take_add_one, List.take_add_one, h, hx, hy]

set_option maxHeartbeats 1000000 in
theorem rsameInts_any (xs ys : List Int) (v1 v2 : Value) (w : World) (h1 : Elems w w.heap.size v1 (ints xs)) (h2 : Elems w w.heap.size v2 (ints ys)) (hl : xs.length ≤ 17592186044416) :
    Calls Tryd.prog 48 #[v1, v2] w fun e w' => e = .returned (.bool (decide (xs = ys))) ∧ ∃ n, w' = w.drewN n := by
  obtain ⟨A1, c1, rfl⟩ := h1.form
  obtain ⟨A2, c2, rfl⟩ := h2.form
  rw [ints_len] at h1 h2 ⊢
  rw [ints_len]
  by_cases hn : xs.length = ys.length
  · rw [← hn] at h2 ⊢
    have H1 := hid_ h1
    have H2 := hid_ h2
    have HN := hid_ hn
    clear h1 h2 hn
    go_enter Tryd.func48, Tryd.ntmps48
    go_wp2_with fail
    go_loopw [5] (fun s wr => ∃ k n : Nat, s = .int .i64 ((k : Nat) : Int) ∧ k ≤ xs.length ∧ Hid (xs.take k = ys.take k) ∧ wr = w.drewN n) (fun s _ => xs.length - (intOf s).toNat)
    case atStart => exact ⟨0, 0, rfl, Nat.zero_le _, hid_ rfl, rfl⟩
    case round =>
      obtain ⟨k, n, rfl, hk, HT, rfl⟩ := hrel
      by_cases hlt : k < xs.length
      · obtain ⟨b1, o1, rfl, hb1, hc1⟩ := H1.out.at_ (by omega)
        obtain ⟨b2, o2, rfl, hb2, hc2⟩ := H2.out.at_ (by omega)
        obtain ⟨x, hx⟩ : ∃ x, xs[k]? = some x := ⟨_, List.getElem?_eq_getElem hlt⟩
        obtain ⟨y, hy⟩ : ∃ y, ys[k]? = some y := ⟨_, List.getElem?_eq_getElem (by rw [← HN.out]; exact hlt)⟩
        have i1 := hc1 k _ (ints_at hx)
        have i2 := hc2 k _ (ints_at hy)
        have t0 : 0 ≤ ((k : Nat) : Int) := by omega
        have HX := hid_ hx
        have HY := hid_ hy
        clear hx hy hc1 hc2
        by_cases hxy : x = y
        · subst hxy
          go_wp2_with fail
          go_quiet (fail)
          go_wp2_with fail
          go_roundw
          case rel => exact ⟨k + 1, _, by go_num, by omega, hid_ (take_eq_step HX.out HY.out HT.out), rfl⟩
          case measure => simp [intOf]; omega
        · have hne : (x != y) = true := by simpa using hxy
          have hne2 : (x == y) = false := by simpa using hxy
          have HXY := hid_ hxy
          go_wp2_with fail
          go_quiet (fail)
          go_wp2_with fail
          go_ret
          refine ⟨ret_bool (decide_eq_false fun e => ?_).symm, _, by first | rfl | exact World.drewN_drewN ..⟩
          subst e
          exact HXY.out (Option.some.inj (HX.out.symm.trans HY.out))
      · go_wp2_with fail
        go_ret
        refine ⟨ret_bool (decide_eq_true ?_).symm, _, rfl⟩
        have := HT.out
        rwa [List.take_of_length_le (by omega), List.take_of_length_le (by have := HN.out; omega)] at this
  · rw [decide_eq_false (fun e => hn (by rw [e]))]
    have hne : ((xs.length : Int) != (ys.length : Int)) = true := by simp; omega
    clear h1 h2
    go_enter Tryd.func48, Tryd.ntmps48
    go_wp2_with fail
    go_ret
    exact ⟨rfl, 0, rfl⟩


def onesL (xs : List Int) : Nat := (xs.filter fun x => x != 0).length
theorem onesL_step {xs : List Int} {k : Nat} {x : Int} (h : xs[k]? = some x) : onesL (xs.take (k + 1)) = onesL (xs.take k) + if x = 0 then 0 else 1 := by
  have : xs.take (k + 1) = xs.take k ++ [x] := by
    rw [List.take_add_one, h]; rfl
  rw [this, onesL, onesL, List.filter_append, List.length_append]
  congr 1
  by_cases hx : x = 0
  · subst hx; rfl
  · rw [if_neg hx]; simp [hx]
theorem onesL_le (xs : List Int) : onesL xs ≤ xs.length := List.length_filter_le _ _

set_option maxRecDepth 100000 in
set_option maxHeartbeats 2000000 in
theorem ones_any (c : CfgS) (v : Value) (w : World) (hE : Elems w w.heap.size v (ints c.cells)) (hl : c.cells.length ≤ 17592186044416) :
    Calls Tryd.prog 26 #[.agg #[.int .i64 c.st, .int .i64 c.pos, .int .i64 c.frm, v]] w fun e w' => e = .returned (.int .i64 (onesL c.cells : Int)) ∧ Below w.heap.size w w' := by
  obtain ⟨A, cc, rfl⟩ := hE.form
  rw [ints_len] at hE ⊢
  have HE := hid_ (hE.to (below1 w (.cells #[.int .i64 c.st, .int .i64 c.pos, .int .i64 c.frm, .slice A c.cells.length cc] 27)))
  have hbW := below1 w (.cells #[.int .i64 c.st, .int .i64 c.pos, .int .i64 c.frm, .slice A c.cells.length cc] 27)
  clear hE
  go_enter Tryd.func26, Tryd.ntmps26
  go_wp2_with fail
  generalize w.alloc (.cells #[.int .i64 c.st, .int .i64 c.pos, .int .i64 c.frm, .slice A c.cells.length cc] 27) = W at *
  go_loopw [3, 9] (fun s t wr => ∃ (k n : Nat), s = .int .i64 (n : Int) ∧ t = .int .i64 (k : Int) ∧ k ≤ c.cells.length ∧ n ≤ k ∧ Hid (n = onesL (c.cells.take k)) ∧ wr = W) (fun _ t _ => c.cells.length - (intOf t).toNat)
  case atStart => exact ⟨0, 0, rfl, rfl, Nat.zero_le _, Nat.le_refl _, hid_ rfl, rfl⟩
  case round =>
    obtain ⟨k, n, rfl, rfl, hk, hn, HN, rfl⟩ := hrel
    by_cases hlt : k < c.cells.length
    · obtain ⟨b1, o1, rfl, hb1, hc1⟩ := HE.out.at_ (by omega)
      obtain ⟨x, hx⟩ : ∃ x, c.cells[k]? = some x := ⟨_, List.getElem?_eq_getElem hlt⟩
      have i1 := hc1 k _ (ints_at hx)
      have t0 : 0 ≤ (k : Int) := by omega
      have HX := hid_ (onesL_step hx)
      clear hx hc1
      by_cases hx0 : x = 0
      · subst hx0
        go_wp2_with fail
        go_roundw
        case rel => exact ⟨k + 1, n, rfl, by go_num, by omega, by omega, hid_ (by rw [HX.out, HN.out]; simp), by trivial⟩
        case measure => simp [intOf]; omega
      · have hne : (x != 0) = true := by simpa using hx0
        have hne2 : (x == 0) = false := by simpa using hx0
        have HX0 := hid_ hx0
        have m1 : IntKind.i64.wrap ((n : Int) + 1) = ((n + 1 : Nat) : Int) := by rw [IntWalk.i64_in _ (by omega)]; omega
        go_wp2_with fail
        go_roundw
        case rel => exact ⟨k + 1, n + 1, by go_num, by go_num, by omega, by omega, hid_ (by rw [HX.out, HN.out, if_neg HX0.out]), by trivial⟩
        case measure => simp [intOf]; omega
    · obtain rfl : k = c.cells.length := by omega
      have HN2 : Hid (n = onesL c.cells) := hid_ (by rw [HN.out, List.take_length])
      go_wp2_with fail
      go_ret
      rw [← HN2.out]
      exact ⟨rfl, hbW⟩

def sameC (c d : CfgS) : Bool := decide (c.st = d.st) && decide (c.pos = d.pos) && decide (c.frm = d.frm) && decide (c.cells = d.cells)
theorem sameC_iff {c d : CfgS} : sameC c d = true ↔ c = d := by
  obtain ⟨a1, a2, a3, a4⟩ := c
  obtain ⟨b1, b2, b3, b4⟩ := d
  simp [sameC, and_assoc]

set_option maxRecDepth 100000 in
set_option maxHeartbeats 2000000 in
theorem rsame_any (c d : CfgS) (v u : Value) (w : World) (hv : Elems w w.heap.size v (ints c.cells)) (hu : Elems w w.heap.size u (ints d.cells)) (hl : c.cells.length ≤ 17592186044416) :
    Calls Tryd.prog 17 #[.agg #[.int .i64 c.st, .int .i64 c.pos, .int .i64 c.frm, v], .agg #[.int .i64 d.st, .int .i64 d.pos, .int .i64 d.frm, u]] w fun e w' => e = .returned (.bool (sameC c d)) ∧ Below w.heap.size w w' := by
  obtain ⟨A1, c1, rfl⟩ := hv.form
  obtain ⟨A2, c2, rfl⟩ := hu.form
  have HV := hid_ hv
  have HU := hid_ hu
  obtain ⟨R, hR⟩ : ∃ R, R = sameC c d := ⟨_, rfl⟩
  rw [← hR]
  have HR : Hid (R = (decide (c.st = d.st) && decide (c.pos = d.pos) && decide (c.frm = d.frm) && decide (c.cells = d.cells))) := hid_ hR
  clear hv hu hR
  by_cases h0 : c.st = d.st
  · have t0 : (c.st == d.st) = true := by simpa using h0
    have H0 := hid_ h0
    clear h0
    by_cases h1 : c.pos = d.pos
    · have t1 : (c.pos == d.pos) = true := by simpa using h1
      have H1 := hid_ h1
      clear h1
      by_cases h2 : c.frm = d.frm
      · have t2 : (c.frm == d.frm) = true := by simpa using h2
        have H2 := hid_ h2
        clear h2
        go_enter Tryd.func17, Tryd.ntmps17
        go_wp2_with fail
        refine (rsameInts_any c.cells d.cells _ _ _ (HV.out.to (below2 w _ _)) (HU.out.to (below2 w _ _)) hl).mono ?_
        rintro e w1 ⟨rfl, n1, rfl⟩
        go_wp2_with fail
        go_ret
        exact ⟨ret_bool (by rw [HR.out, decide_eq_true H0.out, decide_eq_true H1.out, decide_eq_true H2.out]; simp), below_drewN (below2 w _ _) n1⟩
      · have t2 : (c.frm == d.frm) = false := by simpa using h2
        have H2 := hid_ h2
        clear h2
        go_enter Tryd.func17, Tryd.ntmps17
        go_wp2_with fail
        go_ret
        exact ⟨ret_bool (by rw [HR.out, decide_eq_true H0.out, decide_eq_true H1.out, decide_eq_false H2.out]; simp), below2 w _ _⟩
    · have t1 : (c.pos == d.pos) = false := by simpa using h1
      have H1 := hid_ h1
      clear h1
      go_enter Tryd.func17, Tryd.ntmps17
      go_wp2_with fail
      go_ret
      exact ⟨ret_bool (by rw [HR.out, decide_eq_true H0.out, decide_eq_false H1.out]; simp), below2 w _ _⟩
  · have t0 : (c.st == d.st) = false := by simpa using h0
    have H0 := hid_ h0
    clear h0
    go_enter Tryd.func17, Tryd.ntmps17
    go_wp2_with fail
    go_ret
    exact ⟨ret_bool (by rw [HR.out, decide_eq_false H0.out]; simp), below2 w _ _⟩
end Go.Proofs.YtkbaiegfloajlaaDoor.Tp

/- Contracts: the specification's SameCyclic. -/
import Derived.Test.YtpnjffdjoacejaaPe
namespace Go.Proofs.Ytpnjffdjoacejaa
open Go.RowKit

theorem same_below (xs ys : List Int) (v1 v2 : Value) (w : World) (h1 : Elems w w.heap.size v1 (ints xs)) (h2 : Elems w w.heap.size v2 (ints ys)) (hl : xs.length ≤ 1000000) :
    Calls Try.prog 21 #[v1, v2] w fun e w' => e = .returned (.bool (decide (xs = ys))) ∧ Below w.heap.size w w' :=
  (same_any xs ys v1 v2 w h1 h2 hl).mono (by
    rintro e w' ⟨rfl, n, rfl⟩
    exact ⟨rfl, below_drewN (Below.refl _ _) n⟩)
theorem take_eq_row {xs ys : List (List Int)} {k : Nat} {x : List Int} (hx : xs[k]? = some x) (hy : ys[k]? = some x) (h : xs.take k = ys.take k) : xs.take (k + 1) = ys.take (k + 1) := by
  rw [List.take_add_one, List.take_add_one, h, hx, hy]

set_option maxRecDepth 100000 in
set_option maxHeartbeats 1000000 in
theorem samecyc_any (xs ys : List (List Int)) (v1 v2 : Value) (w : World) (h1 : Rows2 w w.heap.size v1 xs) (h2 : Rows2 w w.heap.size v2 ys) (hl : xs.length ≤ 1000000) (hr : ∀ (k : Nat) (r : List Int), xs[k]? = some r → r.length ≤ 1000000) :
    Calls Try.prog 38 #[.agg #[v1], .agg #[v2]] w fun e w' => e = .returned (.bool (decide (xs = ys))) ∧ Below w.heap.size w w' := by
  obtain ⟨A1, c1, rfl⟩ := h1.form
  obtain ⟨A2, c2, rfl⟩ := h2.form
  by_cases hn : xs.length = ys.length
  · rw [← hn] at h2 ⊢
    have H1 := hid_ h1
    have H2 := hid_ h2
    have HN := hid_ hn
    have HR := hid_ hr
    clear h1 h2 hn hr
    go_enter Try.func38, Try.ntmps38
    go_wp2_with fail
    have hw1 := below2 w (.cells #[.slice A1 xs.length c1] 43) (.cells #[.slice A2 xs.length c2] 43)
    have p0 : ((w.alloc (.cells #[.slice A1 xs.length c1] 43)).alloc (.cells #[.slice A2 xs.length c2] 43)).cell? ⟨w.heap.size, 0, none⟩ = some (.slice A1 xs.length c1) := by go_simp
    have p1 : ((w.alloc (.cells #[.slice A1 xs.length c1] 43)).alloc (.cells #[.slice A2 xs.length c2] 43)).cell? ⟨w.heap.size + 1, 0, none⟩ = some (.slice A2 xs.length c2) := by go_simp
    have hsz : w.heap.size + 1 < ((w.alloc (.cells #[.slice A1 xs.length c1] 43)).alloc (.cells #[.slice A2 xs.length c2] 43)).heap.size := by simp
    have HR1 := hid_ (H1.out.to hw1)
    have HR2 := hid_ (H2.out.to hw1)
    clear H1 H2
    generalize ((w.alloc (.cells #[.slice A1 xs.length c1] 43)).alloc (.cells #[.slice A2 xs.length c2] 43)) = W at *
    go_loopw [5] (fun s wr => ∃ k : Nat, s = .int .i64 ((k : Nat) : Int) ∧ k ≤ xs.length ∧ Hid (xs.take k = ys.take k) ∧ Below W.heap.size W wr) (fun s _ => xs.length - (intOf s).toNat)
    case atStart => exact ⟨0, rfl, Nat.zero_le _, hid_ rfl, Below.refl _ _⟩
    case round =>
      obtain ⟨k, rfl, hk, HT, hbr⟩ := hrel
      obtain ⟨wo, rfl⟩ : ∃ wo : World, wo = wr := ⟨_, rfl⟩
      have q0 := keepc hbr p0
      have q1 := keepc hbr p1
      by_cases hlt : k < xs.length
      · obtain ⟨b1, o1, rfl, hb1⟩ := HR1.out.addr (by omega)
        obtain ⟨b2, o2, rfl, hb2⟩ := HR2.out.addr (by omega)
        obtain ⟨x, hx⟩ : ∃ x, xs[k]? = some x := ⟨_, List.getElem?_eq_getElem hlt⟩
        obtain ⟨y, hy⟩ : ∃ y, ys[k]? = some y := ⟨_, List.getElem?_eq_getElem (by rw [← HN.out]; exact hlt)⟩
        obtain ⟨B1, d1, i1, hE1⟩ := (HR1.out.to hbr).row hx
        obtain ⟨B2, d2, i2, hE2⟩ := (HR2.out.to hbr).row hy
        have HE1 := hid_ hE1
        have HE2 := hid_ hE2
        have t0 : 0 ≤ ((k : Nat) : Int) := by omega
        have HX := hid_ hx
        have HY := hid_ hy
        have HLX := hid_ (HR.out k x hx)
        clear hx hy hE1 hE2
        go_wp2_with fail
        obtain ⟨m1, m2⟩ : w.heap.size < W.heap.size ∧ w.heap.size + 1 < W.heap.size := ⟨by omega, hsz⟩
        by_cases hxy : x = y
        · subst hxy
          have HD : Hid (decide (x = x) = true) := hid_ (decide_eq_true rfl)
          go_region_held3 (fun w' => w'.cell? ⟨w.heap.size, 0, none⟩ = some (.slice (some ⟨b1, o1, none⟩) xs.length c1) ∧ w'.cell? ⟨w.heap.size + 1, 0, none⟩ = some (.slice (some ⟨b2, o2, none⟩) xs.length c2) ∧ w'.cell? ⟨b1, o1 + k, none⟩ = some (.slice B1 x.length d1) ∧ w'.cell? ⟨b2, o2 + k, none⟩ = some (.slice B2 x.length d2) ∧ Below wo.heap.size wo w')
            (first | assumption | exact ⟨q0, q1, i1, i2, (Below.refl _ _).drew⟩ | exact ⟨q0, q1, i1, i2, Below.refl _ _⟩ | exact ⟨keepc HZ.out q0, keepc HZ.out q1, keepc HZ.out i1, keepc HZ.out i2, HZ.out⟩)
            (first
              | (go_at_call 21; refine (same_below x x _ _ _ (HE1.out.to (And.right (And.right (And.right (And.right (by assumption)))))) (HE2.out.to (And.right (And.right (And.right (And.right (by assumption)))))) HLX.out).mono ?_; rw [HD.out]; rintro e w3 ⟨rfl, hb3⟩; have HZ : Hid (Below wo.heap.size wo w3) := hid_ (bnext (And.right (And.right (And.right (And.right (by assumption))))) hb3)))
          go_wp2_with fail
          go_roundw
          case rel => exact ⟨k + 1, by go_num, by omega, hid_ (take_eq_row HX.out HY.out HT.out), bnext hbr HZ.out⟩
          case measure => simp [intOf]; omega
        · have HD : Hid (decide (x = y) = false) := hid_ (decide_eq_false hxy)
          have HXY := hid_ hxy
          clear hxy
          go_region_held3 (fun w' => w'.cell? ⟨w.heap.size, 0, none⟩ = some (.slice (some ⟨b1, o1, none⟩) xs.length c1) ∧ w'.cell? ⟨w.heap.size + 1, 0, none⟩ = some (.slice (some ⟨b2, o2, none⟩) xs.length c2) ∧ w'.cell? ⟨b1, o1 + k, none⟩ = some (.slice B1 x.length d1) ∧ w'.cell? ⟨b2, o2 + k, none⟩ = some (.slice B2 y.length d2) ∧ Below wo.heap.size wo w')
            (first | assumption | exact ⟨q0, q1, i1, i2, (Below.refl _ _).drew⟩ | exact ⟨q0, q1, i1, i2, Below.refl _ _⟩ | exact ⟨keepc HZ.out q0, keepc HZ.out q1, keepc HZ.out i1, keepc HZ.out i2, HZ.out⟩)
            (first
              | (go_at_call 21; refine (same_below x y _ _ _ (HE1.out.to (And.right (And.right (And.right (And.right (by assumption)))))) (HE2.out.to (And.right (And.right (And.right (And.right (by assumption)))))) HLX.out).mono ?_; rw [HD.out]; rintro e w3 ⟨rfl, hb3⟩; have HZ : Hid (Below wo.heap.size wo w3) := hid_ (bnext (And.right (And.right (And.right (And.right (by assumption))))) hb3)))
          go_wp2_with fail
          go_ret
          refine ⟨ret_bool (decide_eq_false fun e => ?_).symm, bnext hw1 (bnext hbr HZ.out)⟩
          subst e
          exact HXY.out (Option.some.inj (HX.out.symm.trans HY.out))
      · go_wp2_with fail
        go_ret
        refine ⟨ret_bool (decide_eq_true ?_).symm, bnext hw1 hbr⟩
        have := HT.out
        rwa [List.take_of_length_le (by omega), List.take_of_length_le (by have := HN.out; omega)] at this
  · rw [decide_eq_false (fun e => hn (by rw [e]))]
    have hne : ((xs.length : Int) != (ys.length : Int)) = true := by simp; omega
    clear h1 h2 hr
    go_enter Try.func38, Try.ntmps38
    go_wp2_with fail
    go_ret
    exact ⟨rfl, below2 w _ _⟩
end Go.Proofs.Ytpnjffdjoacejaa

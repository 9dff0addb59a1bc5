/- The law CounterParts: every way. -/
import Derived.Test.YtgpcgjdnehlaeaaN
namespace Go.Proofs.Ytgpcgjdnehlaeaa
open Go.RowKit

section
variable {R at_ : Int} {code : List Ins} {rs : List Int}
theorem runS_len {n : Int} (h : fitsB R code at_ rs = true) : (runS R code at_ rs n).rs.length ≤ 16 := by
  obtain ⟨hv, hg, hR, hat⟩ := fitsB_good h
  obtain ⟨r1, r2, _, _⟩ := vCode_reg hv
  rw [runS, h, if_neg (by simp)]
  split
  · simp
  · cases hw : walkC code (fun _ => false) n.toNat at_.toNat rs with
    | none => simp [resOf]
    | some o =>
      have := (walk_good (by rw [hR]; exact hv) hg hw).len
      simp only [resOf]
      omega
theorem runS_len' {n : Int} : (runS R code at_ rs n).rs.length ≤ 16 := by
  cases h : fitsB R code at_ rs
  · simp [runS, h]
  · exact runS_len h
theorem runS_k {n : Int} (h0 : 0 ≤ n) (h1 : n ≤ 2000) : 0 ≤ (runS R code at_ rs n).k ∧ (runS R code at_ rs n).k ≤ 2000 := by
  cases h : fitsB R code at_ rs
  · simp [runS, h]
  · rw [runS_eq h h0 (by omega)]
    cases hw : walkC code ff n.toNat at_.toNat rs with
    | none => simp [resOf]
    | some o =>
      have := (walk_add (k := 0) hw).2.1
      simp only [resOf]
      omega
end

theorem parts_main (R at_ x y : Int) (A A' A2 : Option Addr) (n c m d q d2 : Nat) (code : List Ins) (rs pts : List Int) (w : World) (hc : CodeAt w w.heap.size A n code) (hr : IntsAt w w.heap.size A' m rs) (hp : IntsAt w w.heap.size A2 q pts)
    (hn : n ≤ 4000) (hm : m ≤ 100) (hq : q ≤ 4000) (hx : 0 ≤ x) (hy : 0 ≤ y) (hxy : x + y ≤ 2000) :
    Calls Try.prog 5 #[.agg #[.int .i64 R, .slice A n c], .agg #[.int .i64 at_, .slice A' m d], .slice A2 q d2, .int .u16 x, .int .u16 y] w fun e w' => e = .returned (.bool true) ∧ Below w.heap.size w w' := by
  cases h0 : runS R code at_ rs (x + y) with | mk a0 l0 k0 e0
  cases h1 : runS R code at_ rs x with | mk a1 l1 k1 e1
  by_cases he : e1 = 0
  · subst he
    obtain ⟨p1, p2, p3⟩ := parts_ok (R := R) (at_ := at_) (code := code) (rs := rs) hx hy hxy (by rw [h1])
    rw [h0, h1] at p1 p2 p3
    simp only at p1 p2 p3
    cases h2 : runS R code a1 l1 y with | mk a2 l2 k2 e2
    rw [h2] at p1 p2 p3
    simp only at p1 p2 p3
    subst p1
    have hl : l0.length ≤ 16 := by have := runS_len' (R := R) (at_ := at_) (code := code) (rs := rs) (n := x + y); rw [h0] at this; exact this
    have hk1 : 0 ≤ k1 ∧ k1 ≤ 2000 := by have := runS_k (R := R) (at_ := at_) (code := code) (rs := rs) hx (by omega); rw [h1] at this; exact this
    have hk2 : 0 ≤ k2 ∧ k2 ≤ 2000 := by have := runS_k (R := R) (at_ := a1) (code := code) (rs := l1) hy (by omega); rw [h2] at this; exact this
    by_cases hu : (untilS R code at_ rs pts x).err = 0
    · obtain ⟨t, f, t1, t2, t3, t4, t5, t6⟩ := until_ok (R := R) (at_ := at_) (code := code) (rs := rs) (pts := pts) (n := x) (by omega) hu
      cases hU : untilS R code at_ rs pts x with | mk au lu ku eu
      rw [hU] at hu t1 t4 t5
      simp only at hu t1 t4 t5
      subst hu t1
      have hlu : lu.length ≤ 16 := by have := runS_len' (R := R) (at_ := at_) (code := code) (rs := rs) (n := t); rw [t4] at this; exact this
      by_cases hz : e0 = 0
      · exact parts_three_ok R at_ x y A A' A2 n c m d q d2 code rs pts w hc hr hp hn hm hq hx hy hxy a0 a1 a2 k0 k1 k2 e0 l0 l1 l2 h0 h1 h2 p2 hl hk1 hk2 hz (p3 hz) au t lu f hU t2 t3 t4 hlu t5 t6
      · exact parts_three_no R at_ x y A A' A2 n c m d q d2 code rs pts w hc hr hp hn hm hq hx hy hxy a0 a1 a2 k0 k1 k2 e0 l0 l1 l2 h0 h1 h2 p2 hl hz au t lu f hU t2 t3 t4 hlu t5 t6
    · have hue := until_err (R := R) (at_ := at_) (code := code) (rs := rs) (pts := pts) hx (by omega) (by rw [h1]) hu
      cases hU : untilS R code at_ rs pts x with | mk au lu ku eu
      rw [hU] at hue
      simp only at hue
      by_cases hz : e0 = 0
      · exact parts_two_ok R at_ x y A A' A2 n c m d q d2 code rs pts w hc hr hp hn hm hq hx hy hxy a0 a1 a2 k0 k1 k2 e0 l0 l1 l2 h0 h1 h2 p2 hl hk1 hk2 hz (p3 hz) au ku eu lu hU hue
      · exact parts_two_no R at_ x y A A' A2 n c m d q d2 code rs pts w hc hr hp hn hm hq hx hy hxy a0 a1 a2 k0 k1 k2 e0 l0 l1 l2 h0 h1 h2 p2 hl hz au ku eu lu hU hue
  · have p := parts_err (R := R) (at_ := at_) (code := code) (rs := rs) hx hy hxy (by rw [h1]; exact he)
    rw [h0, h1] at p
    simp only at p
    subst p
    exact parts_one R at_ x y A A' A2 n c m d q d2 code rs pts w hc hr hp hn hm hq hx hy hxy a0 a1 k0 k1 e0 l0 l1 h0 h1 he

set_option maxRecDepth 1000000 in
set_option maxHeartbeats 2000000 in
theorem parts_any (R at_ x y : Int) (A A' A2 : Option Addr) (n c m d q d2 : Nat) (code : List Ins) (rs pts : List Int) (w : World) (hc : CodeAt w w.heap.size A n code) (hr : IntsAt w w.heap.size A' m rs) (hp : IntsAt w w.heap.size A2 q pts)
    (hx : 0 ≤ x) (hy : 0 ≤ y) (hx2 : x ≤ 65535) (hy2 : y ≤ 65535) :
    Calls Try.prog 5 #[.agg #[.int .i64 R, .slice A n c], .agg #[.int .i64 at_, .slice A' m d], .slice A2 q d2, .int .u16 x, .int .u16 y] w fun e w' => e = .returned (.bool true) ∧ Below w.heap.size w w' := by
  by_cases hw : 4000 < n ∨ 100 < m
  · have hwd : decide (4000 < n ∨ 100 < m) = true := decide_eq_true hw
    clear hc hr hp hw
    go_enter Try.func5, Try.ntmps5
    go_wp2_with fail
    refine (wide_any R at_ A A' n c m d _).mono ?_
    rw [hwd]
    clear hwd
    rintro e w1 ⟨rfl, hb1⟩
    obtain ⟨p0, p1, c0, c1, hz, hw1⟩ := boxes2 hb1
    clear hb1
    go_wp2_with fail
    refine (awake_any _).mono ?_
    rintro e w2 ⟨rfl, hb2⟩
    go_wp2_with fail
    go_ret
    exact ⟨rfl, bnext hw1 hb2⟩
  · have hwd : decide (4000 < n ∨ 100 < m) = false := decide_eq_false hw
    by_cases hq : 4000 < q
    · have hq' : (4000 : Int) < q := by omega
      clear hc hr hp hw
      go_enter Try.func5, Try.ntmps5
      go_wp2_with fail
      refine (wide_any R at_ A A' n c m d _).mono ?_
      rw [hwd]
      clear hwd
      rintro e w1 ⟨rfl, hb1⟩
      obtain ⟨p0, p1, c0, c1, hz, hw1⟩ := boxes2 hb1
      clear hb1
      go_wp2_with fail
      refine (awake_any _).mono ?_
      rintro e w2 ⟨rfl, hb2⟩
      go_wp2_with fail
      go_ret
      exact ⟨rfl, bnext hw1 hb2⟩
    · by_cases hxy : 2000 < x + y
      · have hq' : ¬ (4000 : Int) < q := by omega
        clear hc hr hp hw
        go_enter Try.func5, Try.ntmps5
        go_wp2_with fail
        refine (wide_any R at_ A A' n c m d _).mono ?_
        rw [hwd]
        clear hwd
        rintro e w1 ⟨rfl, hb1⟩
        obtain ⟨p0, p1, c0, c1, hz, hw1⟩ := boxes2 hb1
        clear hb1
        go_wp2_with fail
        refine (awake_any _).mono ?_
        rintro e w2 ⟨rfl, hb2⟩
        go_wp2_with fail
        go_ret
        exact ⟨rfl, bnext hw1 hb2⟩
      · exact parts_main R at_ x y A A' A2 n c m d q d2 code rs pts w hc hr hp (by omega) (by omega) (by omega) hx hy (by omega)
end Go.Proofs.Ytgpcgjdnehlaeaa

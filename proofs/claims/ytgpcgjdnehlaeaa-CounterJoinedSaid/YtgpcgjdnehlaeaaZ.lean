/- The law CounterRuns: its three parts. -/
import Derived.Test.YtgpcgjdnehlaeaaX
import Derived.Test.YtgpcgjdnehlaeaaY
import Derived.Test.YtgpcgjdnehlaeaaI
namespace Go.Proofs.Ytgpcgjdnehlaeaa
open Go.RowKit

theorem sameB_self (a : Int) (l : List Int) : sameB a l a l = true := by simp [sameB]
theorem alloc3 (w : World) (o o' o'' : Obj) : Below w.heap.size w (((w.alloc o).alloc o').alloc o'') := (below2 w _ _).alloc (by simp; omega) _

set_option maxRecDepth 100000 in
set_option maxHeartbeats 2000000 in
theorem lrun_bad (R a0 N : Int) (A A' A3 : Option Addr) (n c m d m3 d3 : Nat) (w : World) (h3 : IntsAt w w.heap.size A3 m3 []) (hN : N < 0 ∨ 1000000 < N) :
    Calls Try.prog 19 #[.agg #[.int .i64 R, .slice A n c], .agg #[.int .i64 a0, .slice A' m d], .int .i64 N, .agg #[.int .i64 0, .slice A3 m3 d3], .int .i64 0, .int .i64 2] w fun e w' => e = .returned (.bool true) ∧ Below w.heap.size w w' := by
  have H3 := hid_ h3; clear h3
  obtain rfl : 0 = m3 := H3.out.len
  by_cases hneg : N < 0
  · clear hN
    go_enter Try.func19, Try.ntmps19
    go_wp2_with fail
    refine (same_any 0 0 A3 none 0 0 d3 0 [] [] _ (H3.out.to (alloc3 w _ _ _)) (IntsAt.nil _) (by omega)).mono ?_
    rw [sameB_self]
    rintro e w1 ⟨rfl, hb1⟩
    obtain ⟨B1, B2, B3, hz, hw1⟩ := boxes3 hb1
    go_wp2_with fail
    go_ret
    exact ⟨rfl, hw1⟩
  · have hbig : 1000000 < N := by omega
    clear hN
    go_enter Try.func19, Try.ntmps19
    go_wp2_with fail
    refine (same_any 0 0 A3 none 0 0 d3 0 [] [] _ (H3.out.to (alloc3 w _ _ _)) (IntsAt.nil _) (by omega)).mono ?_
    rw [sameB_self]
    rintro e w1 ⟨rfl, hb1⟩
    obtain ⟨B1, B2, B3, hz, hw1⟩ := boxes3 hb1
    go_wp2_with fail
    go_ret
    exact ⟨rfl, hw1⟩

set_option maxRecDepth 100000 in
set_option maxHeartbeats 2000000 in
theorem lrun_some (R : Nat) (b off n c b2 off2 m d a0 : Nat) (A3 : Option Addr) (m3 d3 : Nat) (N : Nat) (code : List Ins) (rs0 : List Int) (a3 k3 : Nat) (l3 : List Int) (w : World)
    (hv : vCode R code = true) (hg : Good R code a0 rs0) (hn : code.length = n) (hm : m = R) (hb : b < w.heap.size) (hc : CodeIn w b off code) (hb2 : b2 < w.heap.size) (hr : IntsIn w b2 off2 rs0) (h3 : IntsAt w w.heap.size A3 m3 l3) (hm3 : m3 ≤ 4000) (hN2 : N ≤ 1000000)
    (hw : ∃ f, walkC code ff N a0 rs0 = some ⟨a3, l3, k3, f⟩) :
    Calls Try.prog 19 #[.agg #[.int .i64 R, .slice (some ⟨b, off, none⟩) n c], .agg #[.int .i64 a0, .slice (some ⟨b2, off2, none⟩) m d], .int .i64 N, .agg #[.int .i64 a3, .slice A3 m3 d3], .int .i64 k3, .int .i64 0] w fun e w' => e = .returned (.bool true) ∧ Below w.heap.size w w' := by
  obtain ⟨f, hw⟩ := hw
  have HV := hid_ hv; clear hv
  have HG := hid_ hg; clear hg
  have HN := hid_ hn; clear hn
  have HM := hid_ hm; clear hm
  have HC := hid_ hc; clear hc
  have HR := hid_ hr; clear hr
  have H3 := hid_ h3; clear h3
  have HW := hid_ hw; clear hw
  have n0 : ¬ (N : Int) < 0 := by omega
  have n1 : ¬ (1000000 : Int) < N := by omega
  go_enter Try.func19, Try.ntmps19
  go_wp2_with fail
  refine (rrun_any R b off n c b2 off2 m d a0 N code rs0 _ HV.out HG.out HN.out HM.out (by simp; omega) (HC.out.below (alloc3 w _ _ _) hb) (by simp; omega) (HR.out.below (alloc3 w _ _ _) hb2) hN2).mono ?_
  rw [HW.out]
  rintro e w1 ⟨A4, n4, d4, rfl, hi4, hf4, hb1⟩
  have HI4 := hid_ hi4; clear hi4 hf4
  obtain ⟨B1, B2, B3, hz, hw1⟩ := boxes3 hb1
  clear hb1
  have x0 := B3.cell 0
  have x1 := B3.cell 1
  simp at x0 x1
  replace H3 := hid_ (H3.out.to hw1)
  simp only [resOf, Option.isSome]
  go_wp2_with fail
  refine (same_any a3 a3 A3 A4 m3 n4 d3 d4 l3 l3 _ (H3.out.to ((Below.refl _ w1).alloc (Nat.le_refl _) _)) (HI4.out.to ((Below.refl _ w1).alloc (Nat.le_refl _) _)) hm3).mono ?_
  rw [sameB_self]
  rintro e w2 ⟨rfl, hb2'⟩
  have hw2 := bnext hw1 (((Below.refl _ w1).alloc (Nat.le_refl _) _).trans (hb2'.mono (by simp)))
  go_wp2_with fail
  go_ret
  exact ⟨rfl, hw2⟩

set_option maxRecDepth 100000 in
set_option maxHeartbeats 2000000 in
theorem lrun_none (R : Nat) (b off n c b2 off2 m d a0 : Nat) (A3 : Option Addr) (m3 d3 : Nat) (N : Nat) (code : List Ins) (rs0 : List Int) (w : World)
    (hv : vCode R code = true) (hg : Good R code a0 rs0) (hn : code.length = n) (hm : m = R) (hb : b < w.heap.size) (hc : CodeIn w b off code) (hb2 : b2 < w.heap.size) (hr : IntsIn w b2 off2 rs0) (h3 : IntsAt w w.heap.size A3 m3 []) (hm3 : m3 ≤ 4000) (hN2 : N ≤ 1000000)
    (hw : walkC code ff N a0 rs0 = none) :
    Calls Try.prog 19 #[.agg #[.int .i64 R, .slice (some ⟨b, off, none⟩) n c], .agg #[.int .i64 a0, .slice (some ⟨b2, off2, none⟩) m d], .int .i64 N, .agg #[.int .i64 0, .slice A3 m3 d3], .int .i64 0, .int .i64 4] w fun e w' => e = .returned (.bool true) ∧ Below w.heap.size w w' := by
  have HV := hid_ hv; clear hv
  have HG := hid_ hg; clear hg
  have HN := hid_ hn; clear hn
  have HM := hid_ hm; clear hm
  have HC := hid_ hc; clear hc
  have HR := hid_ hr; clear hr
  have H3 := hid_ h3; clear h3
  have HW := hid_ hw; clear hw
  have n0 : ¬ (N : Int) < 0 := by omega
  have n1 : ¬ (1000000 : Int) < N := by omega
  go_enter Try.func19, Try.ntmps19
  go_wp2_with fail
  refine (rrun_any R b off n c b2 off2 m d a0 N code rs0 _ HV.out HG.out HN.out HM.out (by simp; omega) (HC.out.below (alloc3 w _ _ _) hb) (by simp; omega) (HR.out.below (alloc3 w _ _ _) hb2) hN2).mono ?_
  rw [HW.out]
  rintro e w1 ⟨A4, n4, d4, rfl, hi4, hf4, hb1⟩
  have HI4 := hid_ hi4; clear hi4 hf4
  obtain ⟨B1, B2, B3, hz, hw1⟩ := boxes3 hb1
  clear hb1
  have x0 := B3.cell 0
  have x1 := B3.cell 1
  simp at x0 x1
  replace H3 := hid_ (H3.out.to hw1)
  simp only [resOf, Option.isSome]
  go_wp2_with fail
  refine (same_any 0 0 A3 A4 m3 n4 d3 d4 [] [] _ (H3.out.to ((Below.refl _ w1).alloc (Nat.le_refl _) _)) (HI4.out.to ((Below.refl _ w1).alloc (Nat.le_refl _) _)) hm3).mono ?_
  rw [sameB_self]
  rintro e w2 ⟨rfl, hb2'⟩
  have hw2 := bnext hw1 (((Below.refl _ w1).alloc (Nat.le_refl _) _).trans (hb2'.mono (by simp)))
  go_wp2_with fail
  go_ret
  exact ⟨rfl, hw2⟩

set_option maxRecDepth 100000 in
set_option maxHeartbeats 2000000 in
theorem luntil_bad (R a0 N : Int) (A A' A2 A3 : Option Addr) (n c m d q d2 m3 d3 : Nat) (pts : List Int) (w : World) (h3 : IntsAt w w.heap.size A3 m3 []) (hp : IntsAt w w.heap.size A2 q pts) (hq : q ≤ 4000) (hN : N < 1 ∨ 1000000 < N ∨ riseB n pts = false) :
    Calls Try.prog 20 #[.agg #[.int .i64 R, .slice A n c], .agg #[.int .i64 a0, .slice A' m d], .slice A2 q d2, .int .i64 N, .agg #[.int .i64 0, .slice A3 m3 d3], .int .i64 0, .int .i64 2] w fun e w' => e = .returned (.bool true) ∧ Below w.heap.size w w' := by
  have H3 := hid_ h3; clear h3
  have HP := hid_ hp; clear hp
  obtain rfl : 0 = m3 := H3.out.len
  cases hrise : riseB n pts
  · clear hN
    go_enter Try.func20, Try.ntmps20
    go_wp2_with fail
    refine (rpoints_any R A A2 n c q d2 pts _ (HP.out.to (alloc3 w _ _ _)) hq).mono ?_
    rw [hrise]
    rintro e w1 ⟨rfl, hb1⟩
    obtain ⟨B1, B2, B3, hz, hw1⟩ := boxes3 hb1
    clear hb1
    have z0 := B1.cell 0
    have z1 := B1.cell 1
    have y0 := B2.cell 0
    have y1 := B2.cell 1
    have x0 := B3.cell 0
    have x1 := B3.cell 1
    simp at x0 x1 y0 y1 z0 z1
    have hz0 : w.heap.size < w1.heap.size := by omega
    have hz1 : w.heap.size + 1 < w1.heap.size := by omega
    go_wp2_with fail
    refine (same_any 0 0 A3 none 0 0 d3 0 [] [] w1 (H3.out.to hw1) (IntsAt.nil _) (by omega)).mono ?_
    rw [sameB_self]
    rintro e w2 ⟨rfl, hb2'⟩
    have hw2 := bnext hw1 hb2'
    go_wp2_with fail
    go_ret
    exact ⟨rfl, hw2⟩
  · by_cases hneg : N < 1
    · clear hN
      go_enter Try.func20, Try.ntmps20
      go_wp2_with fail
      refine (rpoints_any R A A2 n c q d2 pts _ (HP.out.to (alloc3 w _ _ _)) hq).mono ?_
      rw [hrise]
      rintro e w1 ⟨rfl, hb1⟩
      obtain ⟨B1, B2, B3, hz, hw1⟩ := boxes3 hb1
      clear hb1
      have z0 := B1.cell 0
      have z1 := B1.cell 1
      have y0 := B2.cell 0
      have y1 := B2.cell 1
      have x0 := B3.cell 0
      have x1 := B3.cell 1
      simp at x0 x1 y0 y1 z0 z1
      have hz0 : w.heap.size < w1.heap.size := by omega
      have hz1 : w.heap.size + 1 < w1.heap.size := by omega
      go_wp2_with fail
      refine (same_any 0 0 A3 none 0 0 d3 0 [] [] w1 (H3.out.to hw1) (IntsAt.nil _) (by omega)).mono ?_
      rw [sameB_self]
      rintro e w2 ⟨rfl, hb2'⟩
      have hw2 := bnext hw1 hb2'
      go_wp2_with fail
      go_ret
      exact ⟨rfl, hw2⟩
    · have hbig : 1000000 < N := by
        rcases hN with h | h | h
        · exact absurd h hneg
        · exact h
        · rw [hrise] at h; cases h
      clear hN
      go_enter Try.func20, Try.ntmps20
      go_wp2_with fail
      refine (rpoints_any R A A2 n c q d2 pts _ (HP.out.to (alloc3 w _ _ _)) hq).mono ?_
      rw [hrise]
      rintro e w1 ⟨rfl, hb1⟩
      obtain ⟨B1, B2, B3, hz, hw1⟩ := boxes3 hb1
      clear hb1
      have z0 := B1.cell 0
      have z1 := B1.cell 1
      have y0 := B2.cell 0
      have y1 := B2.cell 1
      have x0 := B3.cell 0
      have x1 := B3.cell 1
      simp at x0 x1 y0 y1 z0 z1
      have hz0 : w.heap.size < w1.heap.size := by omega
      have hz1 : w.heap.size + 1 < w1.heap.size := by omega
      go_wp2_with fail
      refine (same_any 0 0 A3 none 0 0 d3 0 [] [] w1 (H3.out.to hw1) (IntsAt.nil _) (by omega)).mono ?_
      rw [sameB_self]
      rintro e w2 ⟨rfl, hb2'⟩
      have hw2 := bnext hw1 hb2'
      go_wp2_with fail
      go_ret
      exact ⟨rfl, hw2⟩

set_option maxRecDepth 100000 in
set_option maxHeartbeats 2000000 in
theorem luntil_ok (R : Nat) (b off n c b2 off2 m d a0 : Nat) (A2 A3 : Option Addr) (q d2 m3 d3 : Nat) (N : Nat) (code : List Ins) (rs0 pts l3 : List Int) (a3 k3 e3 : Int) (w : World)
    (hv : vCode R code = true) (hg : Good R code a0 rs0) (hn : code.length = n) (hm : m = R) (hb : b < w.heap.size) (hc : CodeIn w b off code) (hb2 : b2 < w.heap.size) (hr : IntsIn w b2 off2 rs0) (h3 : IntsAt w w.heap.size A3 m3 l3) (hm3 : m3 ≤ 4000) (hp : IntsAt w w.heap.size A2 q pts) (hq : q ≤ 4000) (hN1 : 1 ≤ N) (hN2 : N ≤ 1000000) (hrise : riseB n pts = true)
    (hw : untilR (walkC code (finP pts) N a0 rs0) = ⟨a3, l3, k3, e3⟩) :
    Calls Try.prog 20 #[.agg #[.int .i64 R, .slice (some ⟨b, off, none⟩) n c], .agg #[.int .i64 a0, .slice (some ⟨b2, off2, none⟩) m d], .slice A2 q d2, .int .i64 N, .agg #[.int .i64 a3, .slice A3 m3 d3], .int .i64 k3, .int .i64 e3] w fun e w' => e = .returned (.bool true) ∧ Below w.heap.size w w' := by
  have HV := hid_ hv; clear hv
  have HG := hid_ hg; clear hg
  have HN := hid_ hn; clear hn
  have HM := hid_ hm; clear hm
  have HC := hid_ hc; clear hc
  have HR := hid_ hr; clear hr
  have H3 := hid_ h3; clear h3
  have HW := hid_ hw; clear hw
  have HP := hid_ hp; clear hp
  have n0 : ¬ (N : Int) < 1 := by omega
  have n1 : ¬ (1000000 : Int) < N := by omega
  go_enter Try.func20, Try.ntmps20
  go_wp2_with fail
  refine (rpoints_any R _ A2 n c q d2 pts _ (HP.out.to (alloc3 w _ _ _)) hq).mono ?_
  rw [hrise]
  rintro e w1 ⟨rfl, hb1⟩
  obtain ⟨B1, B2, B3, hz, hw1⟩ := boxes3 hb1
  clear hb1
  have z0 := B1.cell 0
  have z1 := B1.cell 1
  have y0 := B2.cell 0
  have y1 := B2.cell 1
  have x0 := B3.cell 0
  have x1 := B3.cell 1
  simp at x0 x1 y0 y1 z0 z1
  have hz0 : w.heap.size < w1.heap.size := by omega
  have hz1 : w.heap.size + 1 < w1.heap.size := by omega
  go_wp2_with fail
  replace H3 := hid_ (H3.out.to hw1)
  replace HP := hid_ (HP.out.to hw1)
  refine (runtil_any R b off n c b2 off2 m d a0 N A2 q d2 code rs0 pts w1 HV.out HG.out HN.out HM.out (by omega) (HC.out.below hw1 hb) (by omega) (HR.out.below hw1 hb2) HP.out hq hN2).mono ?_
  rw [HW.out]
  rintro e w2 ⟨A4, n4, d4, rfl, hi4, hf4, hb2'⟩
  have HI4 := hid_ hi4; clear hi4 hf4
  have hw2 := bnext hw1 hb2'
  replace x0 := keepc hb2' x0
  replace x1 := keepc hb2' x1
  have hz2 : w.heap.size + 1 + 1 < w2.heap.size := by have := hb2'.size; omega
  replace H3 := hid_ (H3.out.to hb2')
  clear hb2'
  go_wp2_with fail
  refine (same_any a3 a3 A3 A4 m3 n4 d3 d4 l3 l3 _ (H3.out.to ((Below.refl _ w2).alloc (Nat.le_refl _) _)) (HI4.out.to ((Below.refl _ w2).alloc (Nat.le_refl _) _)) hm3).mono ?_
  rw [sameB_self]
  rintro e w3 ⟨rfl, hb3⟩
  have hw3 := bnext hw2 (((Below.refl _ w2).alloc (Nat.le_refl _) _).trans (hb3.mono (by simp)))
  go_wp2_with fail
  go_ret
  exact ⟨rfl, hw3⟩

set_option maxRecDepth 100000 in
set_option maxHeartbeats 2000000 in
theorem lstep_halt (R : Nat) (b off n c b2 off2 m d a0 : Nat) (A3 : Option Addr) (m3 d3 : Nat) (code : List Ins) (rs0 : List Int) (rg nx zr : Int) (w : World)
    (hv : vCode R code = true) (hg : Good R code a0 rs0) (hn : code.length = n) (hm : m = R) (hb : b < w.heap.size) (hc : CodeIn w b off code) (hb2 : b2 < w.heap.size) (hr : IntsIn w b2 off2 rs0) (h3 : IntsAt w w.heap.size A3 m3 []) (hm3 : m3 ≤ 4000)
    (hi : code[a0]? = some ⟨2, rg, nx, zr⟩) :
    Calls Try.prog 18 #[.agg #[.int .i64 R, .slice (some ⟨b, off, none⟩) n c], .agg #[.int .i64 a0, .slice (some ⟨b2, off2, none⟩) m d], .agg #[.int .i64 0, .slice A3 m3 d3], .int .i64 5] w fun e w' => e = .returned (.bool true) ∧ Below w.heap.size w w' := by
  obtain ⟨r1, r2, n1, n2⟩ := vCode_reg hv
  have hlen : rs0.length = m := by rw [hg.len, hm]
  have hm1 : 0 < m := by omega
  have hm2 : m ≤ 4000 := by omega
  have HV := hid_ hv; clear hv
  have HG := hid_ hg; clear hg
  have HN := hid_ hn; clear hn
  have HM := hid_ hm; clear hm
  have HC := hid_ hc; clear hc
  have HR := hid_ hr; clear hr
  have H3 := hid_ h3; clear h3
  have HI := hid_ hi; clear hi
  go_enter Try.func18, Try.ntmps18
  go_wp2_with fail
  refine (copy_any a0 b2 off2 m d rs0 _ (HR.out.below (alloc3 w _ _ _) hb2) hlen hm1 hm2 (by simp; omega)).mono ?_
  rintro e w1 ⟨g, cap, rfl, hgg, hown, hb1⟩
  obtain ⟨B1, B2, B3, hz, hw1⟩ := boxes3 hb1
  clear hb1
  have E3 := B3.alloc (.cells #[.int .i64 a0, .slice (some ⟨g, 0, none⟩) m cap] 27)
  have c0 := B1.cell 0
  have c1 := B1.cell 1
  simp at c0 c1 hgg
  have hz0 : w.heap.size < w1.heap.size := by omega
  have hwa := hw1.alloc (o := .cells #[.int .i64 a0, .slice (some ⟨g, 0, none⟩) m cap] 27) (by omega)
  have HST := hid_ (st_new hown (Nat.zero_le _) a0)
  clear hown
  go_wp2_with fail
  refine (rgo_halt R b off n c 0 w1.heap.size g cap m a0 rg nx zr code rs0 _ (HC.out.below hwa hb) HN.out HI.out HST.out).mono ?_
  rintro e w' ⟨rfl, hbut', hs'⟩
  clear hs'
  have F3 := E3.but hbut' (by omega) (by omega)
  have x0 := F3.cell 0
  have x1 := F3.cell 1
  simp at x0 x1
  have hbw : Below w.heap.size w w' := hwa.trans (hbut'.below hwa.size (by omega) (by omega))
  go_wp2_with fail
  refine (same_any 0 0 A3 none m3 0 d3 0 [] [] w' (H3.out.to hbw) (IntsAt.nil _) hm3).mono ?_
  rw [sameB_self]
  rintro e w2 ⟨rfl, hb2'⟩
  have hw2 := bnext hbw hb2'
  go_wp2_with fail
  go_ret
  exact ⟨rfl, hw2⟩

set_option maxRecDepth 100000 in
set_option maxHeartbeats 2000000 in
theorem lstep_big (R : Nat) (b off n c b2 off2 m d a0 : Nat) (A3 : Option Addr) (m3 d3 : Nat) (code : List Ins) (rs0 : List Int) (j : Nat) (nx zr : Int) (w : World)
    (hv : vCode R code = true) (hg : Good R code a0 rs0) (hn : code.length = n) (hm : m = R) (hb : b < w.heap.size) (hc : CodeIn w b off code) (hb2 : b2 < w.heap.size) (hr : IntsIn w b2 off2 rs0) (h3 : IntsAt w w.heap.size A3 m3 []) (hm3 : m3 ≤ 4000)
    (hi : code[a0]? = some ⟨0, (j : Int), nx, zr⟩) (hj : rs0[j]? = some 1152921504606846976) :
    Calls Try.prog 18 #[.agg #[.int .i64 R, .slice (some ⟨b, off, none⟩) n c], .agg #[.int .i64 a0, .slice (some ⟨b2, off2, none⟩) m d], .agg #[.int .i64 0, .slice A3 m3 d3], .int .i64 4] w fun e w' => e = .returned (.bool true) ∧ Below w.heap.size w w' := by
  obtain ⟨r1, r2, n1, n2⟩ := vCode_reg hv
  have hlen : rs0.length = m := by rw [hg.len, hm]
  have hm1 : 0 < m := by omega
  have hm2 : m ≤ 4000 := by omega
  have HV := hid_ hv; clear hv
  have HG := hid_ hg; clear hg
  have HN := hid_ hn; clear hn
  have HM := hid_ hm; clear hm
  have HC := hid_ hc; clear hc
  have HR := hid_ hr; clear hr
  have H3 := hid_ h3; clear h3
  have HI := hid_ hi; clear hi
  have HJ := hid_ hj; clear hj
  go_enter Try.func18, Try.ntmps18
  go_wp2_with fail
  refine (copy_any a0 b2 off2 m d rs0 _ (HR.out.below (alloc3 w _ _ _) hb2) hlen hm1 hm2 (by simp; omega)).mono ?_
  rintro e w1 ⟨g, cap, rfl, hgg, hown, hb1⟩
  obtain ⟨B1, B2, B3, hz, hw1⟩ := boxes3 hb1
  clear hb1
  have E3 := B3.alloc (.cells #[.int .i64 a0, .slice (some ⟨g, 0, none⟩) m cap] 27)
  have c0 := B1.cell 0
  have c1 := B1.cell 1
  simp at c0 c1 hgg
  have hz0 : w.heap.size < w1.heap.size := by omega
  have hwa := hw1.alloc (o := .cells #[.int .i64 a0, .slice (some ⟨g, 0, none⟩) m cap] 27) (by omega)
  have HST := hid_ (st_new hown (Nat.zero_le _) a0)
  clear hown
  go_wp2_with fail
  refine (rgo_big R b off n c 0 w1.heap.size g cap m a0 j nx zr code rs0 _ (HC.out.below hwa hb) HN.out HI.out HST.out HJ.out).mono ?_
  rintro e w' ⟨rfl, hbut'⟩
  have F3 := E3.but hbut' (by omega) (by omega)
  have x0 := F3.cell 0
  have x1 := F3.cell 1
  simp at x0 x1
  have hbw : Below w.heap.size w w' := hwa.trans (hbut'.below hwa.size (by omega) (by omega))
  go_wp2_with fail
  refine (same_any 0 0 A3 none m3 0 d3 0 [] [] w' (H3.out.to hbw) (IntsAt.nil _) hm3).mono ?_
  rw [sameB_self]
  rintro e w2 ⟨rfl, hb2'⟩
  have hw2 := bnext hbw hb2'
  go_wp2_with fail
  go_ret
  exact ⟨rfl, hw2⟩

set_option maxRecDepth 100000 in
set_option maxHeartbeats 2000000 in
theorem lstep_inc (R : Nat) (b off n c b2 off2 m d a0 : Nat) (A3 : Option Addr) (m3 d3 : Nat) (code : List Ins) (rs0 : List Int) (j nx : Nat) (x zr : Int) (w : World)
    (hv : vCode R code = true) (hg : Good R code a0 rs0) (hn : code.length = n) (hm : m = R) (hb : b < w.heap.size) (hc : CodeIn w b off code) (hb2 : b2 < w.heap.size) (hr : IntsIn w b2 off2 rs0) (h3 : IntsAt w w.heap.size A3 m3 (rs0.set j (x + 1))) (hm3 : m3 ≤ 4000)
    (hi : code[a0]? = some ⟨0, (j : Int), (nx : Int), zr⟩) (hj : rs0[j]? = some x) (hx : x < 1152921504606846976) (hx0 : 0 ≤ x) :
    Calls Try.prog 18 #[.agg #[.int .i64 R, .slice (some ⟨b, off, none⟩) n c], .agg #[.int .i64 a0, .slice (some ⟨b2, off2, none⟩) m d], .agg #[.int .i64 nx, .slice A3 m3 d3], .int .i64 0] w fun e w' => e = .returned (.bool true) ∧ Below w.heap.size w w' := by
  obtain ⟨r1, r2, n1, n2⟩ := vCode_reg hv
  have hlen : rs0.length = m := by rw [hg.len, hm]
  have hm1 : 0 < m := by omega
  have hm2 : m ≤ 4000 := by omega
  have HV := hid_ hv; clear hv
  have HG := hid_ hg; clear hg
  have HN := hid_ hn; clear hn
  have HM := hid_ hm; clear hm
  have HC := hid_ hc; clear hc
  have HR := hid_ hr; clear hr
  have H3 := hid_ h3; clear h3
  have HI := hid_ hi; clear hi
  have HJ := hid_ hj; clear hj
  go_enter Try.func18, Try.ntmps18
  go_wp2_with fail
  refine (copy_any a0 b2 off2 m d rs0 _ (HR.out.below (alloc3 w _ _ _) hb2) hlen hm1 hm2 (by simp; omega)).mono ?_
  rintro e w1 ⟨g, cap, rfl, hgg, hown, hb1⟩
  obtain ⟨B1, B2, B3, hz, hw1⟩ := boxes3 hb1
  clear hb1
  have E3 := B3.alloc (.cells #[.int .i64 a0, .slice (some ⟨g, 0, none⟩) m cap] 27)
  have c0 := B1.cell 0
  have c1 := B1.cell 1
  simp at c0 c1 hgg
  have hz0 : w.heap.size < w1.heap.size := by omega
  have hwa := hw1.alloc (o := .cells #[.int .i64 a0, .slice (some ⟨g, 0, none⟩) m cap] 27) (by omega)
  have HST := hid_ (st_new hown (Nat.zero_le _) a0)
  clear hown
  go_wp2_with fail
  refine (rgo_inc R b off n c 0 w1.heap.size g cap m a0 j nx zr code rs0 _ (HC.out.below hwa hb) HN.out HI.out HST.out x HJ.out hx hx0).mono ?_
  rintro e w' ⟨rfl, hs', hbut'⟩
  have s0 := hs'.box.cell 0
  have s1 := hs'.box.cell 1
  simp at s0 s1
  have HS' := hid_ hs'
  clear hs'
  have F3 := E3.but hbut' (by omega) (by omega)
  have x0 := F3.cell 0
  have x1 := F3.cell 1
  simp at x0 x1
  have hbw : Below w.heap.size w w' := hwa.trans (hbut'.below hwa.size (by omega) (by omega))
  go_wp2_with fail
  refine (same_any nx nx A3 (some ⟨g, 0, none⟩) m3 m d3 cap (rs0.set j (x + 1)) (rs0.set j (x + 1)) w' (H3.out.to hbw) (row_ints HS'.out.row) hm3).mono ?_
  rw [sameB_self]
  rintro e w2 ⟨rfl, hb2'⟩
  have hw2 := bnext hbw hb2'
  go_wp2_with fail
  go_ret
  exact ⟨rfl, hw2⟩

set_option maxRecDepth 100000 in
set_option maxHeartbeats 2000000 in
theorem lstep_dec (R : Nat) (b off n c b2 off2 m d a0 : Nat) (A3 : Option Addr) (m3 d3 : Nat) (code : List Ins) (rs0 : List Int) (j nx : Nat) (x zr : Int) (w : World)
    (hv : vCode R code = true) (hg : Good R code a0 rs0) (hn : code.length = n) (hm : m = R) (hb : b < w.heap.size) (hc : CodeIn w b off code) (hb2 : b2 < w.heap.size) (hr : IntsIn w b2 off2 rs0) (h3 : IntsAt w w.heap.size A3 m3 (rs0.set j (x - 1))) (hm3 : m3 ≤ 4000)
    (hi : code[a0]? = some ⟨1, (j : Int), (nx : Int), zr⟩) (hj : rs0[j]? = some x) (hx : x ≤ 1152921504606846976) (hx0 : 0 < x) :
    Calls Try.prog 18 #[.agg #[.int .i64 R, .slice (some ⟨b, off, none⟩) n c], .agg #[.int .i64 a0, .slice (some ⟨b2, off2, none⟩) m d], .agg #[.int .i64 nx, .slice A3 m3 d3], .int .i64 0] w fun e w' => e = .returned (.bool true) ∧ Below w.heap.size w w' := by
  obtain ⟨r1, r2, n1, n2⟩ := vCode_reg hv
  have hlen : rs0.length = m := by rw [hg.len, hm]
  have hm1 : 0 < m := by omega
  have hm2 : m ≤ 4000 := by omega
  have HV := hid_ hv; clear hv
  have HG := hid_ hg; clear hg
  have HN := hid_ hn; clear hn
  have HM := hid_ hm; clear hm
  have HC := hid_ hc; clear hc
  have HR := hid_ hr; clear hr
  have H3 := hid_ h3; clear h3
  have HI := hid_ hi; clear hi
  have HJ := hid_ hj; clear hj
  go_enter Try.func18, Try.ntmps18
  go_wp2_with fail
  refine (copy_any a0 b2 off2 m d rs0 _ (HR.out.below (alloc3 w _ _ _) hb2) hlen hm1 hm2 (by simp; omega)).mono ?_
  rintro e w1 ⟨g, cap, rfl, hgg, hown, hb1⟩
  obtain ⟨B1, B2, B3, hz, hw1⟩ := boxes3 hb1
  clear hb1
  have E3 := B3.alloc (.cells #[.int .i64 a0, .slice (some ⟨g, 0, none⟩) m cap] 27)
  have c0 := B1.cell 0
  have c1 := B1.cell 1
  simp at c0 c1 hgg
  have hz0 : w.heap.size < w1.heap.size := by omega
  have hwa := hw1.alloc (o := .cells #[.int .i64 a0, .slice (some ⟨g, 0, none⟩) m cap] 27) (by omega)
  have HST := hid_ (st_new hown (Nat.zero_le _) a0)
  clear hown
  go_wp2_with fail
  refine (rgo_dec R b off n c 0 w1.heap.size g cap m a0 j nx zr code rs0 _ (HC.out.below hwa hb) HN.out HI.out HST.out x HJ.out hx hx0).mono ?_
  rintro e w' ⟨rfl, hs', hbut'⟩
  have s0 := hs'.box.cell 0
  have s1 := hs'.box.cell 1
  simp at s0 s1
  have HS' := hid_ hs'
  clear hs'
  have F3 := E3.but hbut' (by omega) (by omega)
  have x0 := F3.cell 0
  have x1 := F3.cell 1
  simp at x0 x1
  have hbw : Below w.heap.size w w' := hwa.trans (hbut'.below hwa.size (by omega) (by omega))
  go_wp2_with fail
  refine (same_any nx nx A3 (some ⟨g, 0, none⟩) m3 m d3 cap (rs0.set j (x - 1)) (rs0.set j (x - 1)) w' (H3.out.to hbw) (row_ints HS'.out.row) hm3).mono ?_
  rw [sameB_self]
  rintro e w2 ⟨rfl, hb2'⟩
  have hw2 := bnext hbw hb2'
  go_wp2_with fail
  go_ret
  exact ⟨rfl, hw2⟩

set_option maxRecDepth 100000 in
set_option maxHeartbeats 2000000 in
theorem lstep_zero (R : Nat) (b off n c b2 off2 m d a0 : Nat) (A3 : Option Addr) (m3 d3 : Nat) (code : List Ins) (rs0 : List Int) (j zr : Nat) (nx : Int) (w : World)
    (hv : vCode R code = true) (hg : Good R code a0 rs0) (hn : code.length = n) (hm : m = R) (hb : b < w.heap.size) (hc : CodeIn w b off code) (hb2 : b2 < w.heap.size) (hr : IntsIn w b2 off2 rs0) (h3 : IntsAt w w.heap.size A3 m3 rs0) (hm3 : m3 ≤ 4000)
    (hi : code[a0]? = some ⟨1, (j : Int), nx, (zr : Int)⟩) (hj : rs0[j]? = some 0) :
    Calls Try.prog 18 #[.agg #[.int .i64 R, .slice (some ⟨b, off, none⟩) n c], .agg #[.int .i64 a0, .slice (some ⟨b2, off2, none⟩) m d], .agg #[.int .i64 zr, .slice A3 m3 d3], .int .i64 0] w fun e w' => e = .returned (.bool true) ∧ Below w.heap.size w w' := by
  obtain ⟨r1, r2, n1, n2⟩ := vCode_reg hv
  have hlen : rs0.length = m := by rw [hg.len, hm]
  have hm1 : 0 < m := by omega
  have hm2 : m ≤ 4000 := by omega
  have HV := hid_ hv; clear hv
  have HG := hid_ hg; clear hg
  have HN := hid_ hn; clear hn
  have HM := hid_ hm; clear hm
  have HC := hid_ hc; clear hc
  have HR := hid_ hr; clear hr
  have H3 := hid_ h3; clear h3
  have HI := hid_ hi; clear hi
  have HJ := hid_ hj; clear hj
  go_enter Try.func18, Try.ntmps18
  go_wp2_with fail
  refine (copy_any a0 b2 off2 m d rs0 _ (HR.out.below (alloc3 w _ _ _) hb2) hlen hm1 hm2 (by simp; omega)).mono ?_
  rintro e w1 ⟨g, cap, rfl, hgg, hown, hb1⟩
  obtain ⟨B1, B2, B3, hz, hw1⟩ := boxes3 hb1
  clear hb1
  have E3 := B3.alloc (.cells #[.int .i64 a0, .slice (some ⟨g, 0, none⟩) m cap] 27)
  have c0 := B1.cell 0
  have c1 := B1.cell 1
  simp at c0 c1 hgg
  have hz0 : w.heap.size < w1.heap.size := by omega
  have hwa := hw1.alloc (o := .cells #[.int .i64 a0, .slice (some ⟨g, 0, none⟩) m cap] 27) (by omega)
  have HST := hid_ (st_new hown (Nat.zero_le _) a0)
  clear hown
  go_wp2_with fail
  refine (rgo_zero R b off n c 0 w1.heap.size g cap m a0 j nx zr code rs0 _ (HC.out.below hwa hb) HN.out HI.out HST.out HJ.out).mono ?_
  rintro e w' ⟨rfl, hs', hbut'⟩
  have s0 := hs'.box.cell 0
  have s1 := hs'.box.cell 1
  simp at s0 s1
  have HS' := hid_ hs'
  clear hs'
  have F3 := E3.but hbut' (by omega) (by omega)
  have x0 := F3.cell 0
  have x1 := F3.cell 1
  simp at x0 x1
  have hbw : Below w.heap.size w w' := hwa.trans (hbut'.below hwa.size (by omega) (by omega))
  go_wp2_with fail
  refine (same_any zr zr A3 (some ⟨g, 0, none⟩) m3 m d3 cap rs0 rs0 w' (H3.out.to hbw) (row_ints HS'.out.row) hm3).mono ?_
  rw [sameB_self]
  rintro e w2 ⟨rfl, hb2'⟩
  have hw2 := bnext hbw hb2'
  go_wp2_with fail
  go_ret
  exact ⟨rfl, hw2⟩

end Go.Proofs.Ytgpcgjdnehlaeaa

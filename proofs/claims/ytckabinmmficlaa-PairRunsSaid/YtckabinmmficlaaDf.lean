/- awake of the laws of layer 8. -/
import Derived.Test.YtckabinmmficlaaDe
import Derived.Test.YtckabinmmficlaaCi
import Derived.Test.YtckabinmmficlaaCw
import Derived.Test.YtckabinmmficlaaCx
namespace Go.Proofs.Ytckabinmmficlaa.Pp
open Go.RowKit

def qM : List Cn.Ins := [⟨1, 0, 2, 2⟩, ⟨1, 0, 2, 4⟩, ⟨1, 0, 3, 6⟩, ⟨0, 1, 1, 0⟩, ⟨1, 1, 5, 10⟩, ⟨0, 0, 4, 0⟩, ⟨0, 0, 7, 0⟩, ⟨1, 1, 8, 17⟩, ⟨0, 0, 9, 0⟩, ⟨0, 0, 7, 0⟩, ⟨1, 0, 11, 11⟩, ⟨0, 1, 12, 0⟩, ⟨0, 1, 13, 0⟩, ⟨0, 1, 14, 0⟩, ⟨1, 0, 11, 15⟩, ⟨1, 1, 16, 0⟩, ⟨0, 0, 15, 0⟩, ⟨2, 0, 0, 0⟩]
theorem two_moves : twoS 2 Cn.movesC = ⟨2, qM, [0, 10, 17], 0⟩ := by rfl
theorem qM_valid : Cn.vCode 2 qM = true := by rfl
theorem qM_rise : Cn.riseB 18 [0, 10, 17] = true := by rfl
set_option maxRecDepth 100000 in
theorem qM_run : Cn.walkC qM Cn.ff 100000 0 [8, 0] = some ⟨17, [27, 0], 379, false⟩ := by rfl
theorem encA (v : Value) (w : World) (hE : Elems w w.heap.size v (ints [3, 1])) : Calls Try.prog 8 #[v] w fun e w' => e = .returned (.tuple #[.int .i64 24, .int .i64 0]) ∧ w = w' := by
  have h := encode_any [3, 1] v w hE (by decide) (by intro x hx; simp at hx; omega)
  rw [show encC [3, 1] = (24, 0) by rfl] at h
  exact h.mono fun e w' h => ⟨h.1, h.2.symm⟩
theorem decA (w : World) : Calls Try.prog 9 #[.int .i64 24, .int .i64 2] w fun e w' => ∃ b off c, e = .returned (.tuple #[.slice (some ⟨b, off, none⟩) 2 c, .int .i64 0]) ∧ b < w'.heap.size ∧ w'.cell? ⟨b, off, none⟩ = some (.int .i64 3) ∧ w'.cell? ⟨b, off + 1, none⟩ = some (.int .i64 1) ∧ Below w.heap.size w w' := by
  have h := decode_any 24 2 w
  rw [show decC 24 2 = ([3, 1], 0) by rfl] at h
  refine h.mono ?_
  rintro e w' ⟨v, rfl, hE, hb⟩
  obtain ⟨A, c, rfl⟩ := hE.form
  obtain ⟨b, off, rfl, hlt, hc⟩ := hE.at_ (by decide)
  exact ⟨b, off, c, rfl, hlt, hc 0 _ rfl, hc 1 _ rfl, hb⟩
theorem decB (w : World) : Calls Try.prog 9 #[.int .i64 10, .int .i64 2] w fun e w' => ∃ v, e = .returned (.tuple #[v, .int .i64 6]) ∧ Below w.heap.size w w' := by
  have h := decode_any 10 2 w
  rw [show decC 10 2 = ([], 6) by rfl] at h
  refine h.mono ?_
  rintro e w' ⟨v, rfl, hE, hb⟩
  exact ⟨v, rfl, hb⟩
theorem twoA (A : Option Addr) (c : Nat) (w : World) (hc : Cn.CodeAt w w.heap.size A 3 Cn.movesC) : Calls Try.prog 14 #[.agg #[.int .i64 2, .slice A 3 c]] w fun e w' =>
    ∃ b off c b2 off2 c2, e = .returned (.tuple #[.agg #[.int .i64 2, .slice (some ⟨b, off, none⟩) 18 c], .slice (some ⟨b2, off2, none⟩) 3 c2, .int .i64 0]) ∧ b < w'.heap.size ∧ Cn.CodeIn w' b off qM ∧ b2 < w'.heap.size ∧ Cn.IntsIn w' b2 off2 [0, 10, 17] ∧ Below w.heap.size w w' := by
  have h := two_any 2 A 3 c Cn.movesC w hc
  rw [two_moves] at h
  refine h.mono ?_
  rintro e w' ⟨A, n, c, A2, n2, c2, rfl, h1, h2, hb⟩
  have e1 : n = 18 := h1.len.symm
  have e2 : n2 = 3 := h2.len.symm
  subst e1 e2
  obtain ⟨b, off, rfl, k1, k2⟩ := h1.at_ (by decide)
  obtain ⟨b2, off2, rfl, k3, k4⟩ := h2.at_ (by decide)
  exact ⟨b, off, c, b2, off2, c2, rfl, k1, k2, k3, k4, hb⟩
theorem cvA (b off c : Nat) (w : World) (hb : b < w.heap.size) (hc : Cn.CodeIn w b off qM) : Calls Try.prog 15 #[.agg #[.int .i64 2, .slice (some ⟨b, off, none⟩) 18 c]] w fun e w' => e = .returned (.bool true) ∧ Below w.heap.size w w' := by
  have h := Cn.rvalid_any 2 (some ⟨b, off, none⟩) 18 c qM w ⟨rfl, fun _ => ⟨b, off, rfl, hb, hc⟩⟩
  rw [qM_valid] at h
  exact h
theorem cpA (b off c b2 off2 c2 : Nat) (w : World) (hb : b2 < w.heap.size) (hc : Cn.IntsIn w b2 off2 [0, 10, 17]) : Calls Try.prog 17 #[.agg #[.int .i64 2, .slice (some ⟨b, off, none⟩) 18 c], .slice (some ⟨b2, off2, none⟩) 3 c2] w fun e w' => e = .returned (.bool true) ∧ Below w.heap.size w w' := by
  have h := Cn.rpoints_any 2 (some ⟨b, off, none⟩) (some ⟨b2, off2, none⟩) 18 c 3 c2 [0, 10, 17] w ⟨rfl, fun _ => ⟨b2, off2, rfl, hb, hc⟩⟩ (by decide)
  have h9 := qM_rise
  rw [show Cn.riseB ((18 : Nat) : Int) [0, 10, 17] = true from h9] at h
  exact h
theorem crA (b off c b2 off2 c2 : Nat) (w : World) (hb : b < w.heap.size) (hc : Cn.CodeIn w b off qM) (hb2 : b2 < w.heap.size) (hi : Cn.IntsIn w b2 off2 [8, 0]) : Calls Try.prog 21 #[.agg #[.int .i64 2, .slice (some ⟨b, off, none⟩) 18 c], .agg #[.int .i64 0, .slice (some ⟨b2, off2, none⟩) 2 c2], .int .i64 100000] w fun e w' =>
    ∃ A d, e = .returned (.tuple #[.agg #[.int .i64 17, .slice A 2 d], .int .i64 379, .bool true]) ∧ Elems w' w'.heap.size (.slice A 2 d) (ints [27, 0]) ∧ (∀ q, (Value.slice A 2 d).ownBlock = some q → w.heap.size ≤ q) ∧ Below w.heap.size w w' := by
  have h := Cn.rrun_any 2 b off 18 c b2 off2 2 c2 0 100000 qM [8, 0] w qM_valid ⟨by decide, rfl, by intro x hx; simp at hx; omega⟩ rfl rfl hb hc hb2 hi (by decide)
  rw [qM_run] at h
  refine h.mono ?_
  rintro e w' ⟨A, n, d, rfl, hI, hfr, hbw⟩
  have e1 : n = 2 := hI.len.symm
  subst e1
  obtain ⟨b3, off3, rfl, k1, k2⟩ := hI.at_ (by decide)
  refine ⟨some ⟨b3, off3, none⟩, d, rfl, .inr ⟨b3, off3, d, rfl, k1, fun k u hu => ?_⟩, fun q hq => ?_, hbw⟩
  · obtain ⟨x, hx, rfl⟩ := ints_get hu
    exact k2 k x hx
  · simp only [Value.ownBlock, Option.some.injEq] at hq
    subst hq
    exact hfr _ rfl
theorem scA (A B : Option Addr) (d f : Nat) (w : World) (h1 : Elems w w.heap.size (.slice A 2 d) (ints [27, 0])) (h2 : Elems w w.heap.size (.slice B 2 f) (ints [27, 0])) : Calls Try.prog 22 #[.agg #[.int .i64 17, .slice A 2 d], .agg #[.int .i64 17, .slice B 2 f]] w fun e w' => e = .returned (.bool true) ∧ Below w.heap.size w w' :=
  samecount_any 17 [27, 0] [27, 0] _ _ w h1 h2 (by decide) (by decide)

set_option maxRecDepth 100000 in
set_option maxHeartbeats 4000000 in
theorem awake_any (w : World) : Calls Try.prog 7 #[] w fun e w' => e = .returned (.bool true) ∧ Below w.heap.size w w' := by
  have HE0 : Hid (Elems (w.alloc (.cells #[.int .i64 3, .int .i64 1] 3)) (w.alloc (.cells #[.int .i64 3, .int .i64 1] 3)).heap.size (.slice (some ⟨w.heap.size, 0, none⟩) 2 2) (ints [3, 1])) := hid_ (blk_elems (Blk.new w 3 #[.int .i64 3, .int .i64 1]) rfl)
  have hb0 := below1 w (.cells #[.int .i64 3, .int .i64 1] 3)
  go_enter Try.func7, Try.ntmps7
  go_upto_region 2 with (go_at_call 8; (with_reducible refine (encA _ _ HE0.out).mono ?_); rintro e _ ⟨rfl, rfl⟩)
  clear HE0
  generalize w.alloc (.cells #[.int .i64 3, .int .i64 1] 3) = W0 at *
  go_upto_region 3 with (go_at_call 9; (with_reducible refine (decA _).mono ?_); rintro e w1 ⟨b, off, c, rfl, hb, i0, i1, hb1⟩)
  replace hb1 := bnext hb0 hb1
  clear hb0
  go_upto_region 4 with (go_at_call 9; (with_reducible refine (decB _).mono ?_); rintro e w2 ⟨v, rfl, hb2⟩)
  replace i0 := keepc hb2 i0
  replace i1 := keepc hb2 i1
  replace hb := Nat.lt_of_lt_of_le hb hb2.size
  replace hb1 := bnext hb1 hb2
  clear hb2
  go_upto_region 5 with (first | (go_at_call 20; (with_reducible refine (Cn.moves_any _).mono ?_); rintro e w3 ⟨rfl, hm, hb3⟩; have HM := hid_ hm; clear hm) | (go_at_call 14; (with_reducible refine (twoA _ _ _ HM.out).mono ?_); rintro e w4 ⟨bq, oq, cq, bp, op, cp, rfl, hq1, hq2, hp1, hp2, hb4⟩))
  have HC4 := hid_ (hq2.below (below1 w4 (.cells #[.int .i64 2, .slice (some ⟨bq, oq, none⟩) 18 cq] 38)) hq1)
  have HP4 := hid_ (hp2.below (below1 w4 (.cells #[.int .i64 2, .slice (some ⟨bq, oq, none⟩) 18 cq] 38)) hp1)
  have B4 := hid_ (Blk.new w4 38 #[.int .i64 2, .slice (some ⟨bq, oq, none⟩) 18 cq])
  have hb34 := bnext hb3 hb4
  replace i0 := keepc (below1 w4 (.cells #[.int .i64 2, .slice (some ⟨bq, oq, none⟩) 18 cq] 38)) (keepc hb34 i0)
  replace i1 := keepc (below1 w4 (.cells #[.int .i64 2, .slice (some ⟨bq, oq, none⟩) 18 cq] 38)) (keepc hb34 i1)
  replace hb1 := bnext hb1 (bnext hb34 (below1 w4 (.cells #[.int .i64 2, .slice (some ⟨bq, oq, none⟩) 18 cq] 38)))
  have hs4 : (w4.alloc (.cells #[.int .i64 2, .slice (some ⟨bq, oq, none⟩) 18 cq] 38)).heap.size = w4.heap.size + 1 := by simp
  have hqb : bq < (w4.alloc (.cells #[.int .i64 2, .slice (some ⟨bq, oq, none⟩) 18 cq] 38)).heap.size := by omega
  have hpb : bp < (w4.alloc (.cells #[.int .i64 2, .slice (some ⟨bq, oq, none⟩) 18 cq] 38)).heap.size := by omega
  replace hb : b < (w4.alloc (.cells #[.int .i64 2, .slice (some ⟨bq, oq, none⟩) 18 cq] 38)).heap.size := by have := hb34.size; omega
  have h4b : w4.heap.size < (w4.alloc (.cells #[.int .i64 2, .slice (some ⟨bq, oq, none⟩) 18 cq] 38)).heap.size := by omega
  clear hq1 hq2 hp1 hp2 hb3 hb4 hb34 HM hs4
  generalize w4.alloc (.cells #[.int .i64 2, .slice (some ⟨bq, oq, none⟩) 18 cq] 38) = W4 at *
  have p0 := B4.out.cell 0
  have p1 := B4.out.cell 1
  simp at p0 p1
  go_upto_region 7 with (first
    | (go_at_call 15; (with_reducible refine (cvA bq oq cq _ hqb HC4.out).mono ?_); rintro e w5 ⟨rfl, hb5⟩; replace hb1 := bnext hb1 hb5; have HC5 := hid_ (HC4.out.below hb5 hqb); have HP5 := hid_ (HP4.out.below hb5 hpb); have B5 := hid_ (B4.out.to hb5); replace p0 := keepc hb5 p0; replace p1 := keepc hb5 p1; replace hqb := Nat.lt_of_lt_of_le hqb hb5.size; replace hpb := Nat.lt_of_lt_of_le hpb hb5.size; replace h4b := Nat.lt_of_lt_of_le h4b hb5.size; clear hb5 HC4 HP4 B4)
    | (go_at_call 17; (with_reducible refine (cpA bq oq cq bp op cp _ hpb HP5.out).mono ?_); rintro e w6 ⟨rfl, hb6⟩; replace hb1 := bnext hb1 hb6; have HC6 := hid_ (HC5.out.below hb6 hqb); have HP6 := hid_ (HP5.out.below hb6 hpb); have B6 := hid_ (B5.out.to hb6); replace p0 := keepc hb6 p0; replace p1 := keepc hb6 p1; replace hqb := Nat.lt_of_lt_of_le hqb hb6.size; replace hpb := Nat.lt_of_lt_of_le hpb hb6.size; replace h4b := Nat.lt_of_lt_of_le h4b hb6.size; clear hb6 HC5 HP5 B5))
  have a0 := HP6.out 0 _ rfl
  rw [Nat.add_zero] at a0
  clear i0 i1 hb
  have HC1 : Hid (Cn.CodeIn (w6.alloc (.cells #[.int .i64 8, .int .i64 0] 3)).drew bq oq qM) := hid_ (HC6.out.below (below1 w6 _).drew hqb)
  have HL1 : Hid (bq < (w6.alloc (.cells #[.int .i64 8, .int .i64 0] 3)).drew.heap.size) := hid_ (by rw [size_ad]; omega)
  have HL2 : Hid (w6.heap.size < (w6.alloc (.cells #[.int .i64 8, .int .i64 0] 3)).drew.heap.size) := hid_ (by rw [size_ad]; omega)
  have HI1 : Hid (Cn.IntsIn (w6.alloc (.cells #[.int .i64 8, .int .i64 0] 3)).drew w6.heap.size 0 [8, 0]) := hid_ (fun k x hk => by
    have hB : Blk (w6.alloc (.cells #[.int .i64 8, .int .i64 0] 3)).drew w6.heap.size 3 #[.int .i64 8, .int .i64 0] := Blk.new w6 3 _
    rw [hB.cell]
    match k, hk with
    | 0, hk => simp at hk; subst hk; rfl
    | 1, hk => simp at hk; subst hk; rfl
    | k + 2, hk => simp at hk)
  have hz : 0 ≤ (0 : Int) := by omega
  have hsz2 : ((w6.alloc (.cells #[.int .i64 8, .int .i64 0] 3)).alloc (.cells #[.int .i64 0, .slice none 0 0] 47)).heap.size = w6.heap.size + 2 := by simp
  have HC2 : Hid (Cn.CodeIn ((w6.alloc (.cells #[.int .i64 8, .int .i64 0] 3)).alloc (.cells #[.int .i64 0, .slice none 0 0] 47)).drew bq oq qM) := hid_ (HC6.out.below (below2 w6 _ _).drew hqb)
  have HL3 : Hid (bq < ((w6.alloc (.cells #[.int .i64 8, .int .i64 0] 3)).alloc (.cells #[.int .i64 0, .slice none 0 0] 47)).drew.heap.size) := hid_ (by show bq < ((w6.alloc (.cells #[.int .i64 8, .int .i64 0] 3)).alloc (.cells #[.int .i64 0, .slice none 0 0] 47)).heap.size; omega)
  have HL4 : Hid (w6.heap.size < ((w6.alloc (.cells #[.int .i64 8, .int .i64 0] 3)).alloc (.cells #[.int .i64 0, .slice none 0 0] 47)).drew.heap.size) := hid_ (by show w6.heap.size < ((w6.alloc (.cells #[.int .i64 8, .int .i64 0] 3)).alloc (.cells #[.int .i64 0, .slice none 0 0] 47)).heap.size; omega)
  have HI2 : Hid (Cn.IntsIn ((w6.alloc (.cells #[.int .i64 8, .int .i64 0] 3)).alloc (.cells #[.int .i64 0, .slice none 0 0] 47)).drew w6.heap.size 0 [8, 0]) := hid_ (HI1.out.below ((Below.refl _ _).alloc (Nat.le_refl _) _) HL2.out)
  have HB2 : Hid (Blk ((w6.alloc (.cells #[.int .i64 8, .int .i64 0] 3)).alloc (.cells #[.int .i64 0, .slice none 0 0] 47)).drew (w6.heap.size + 1) 47 #[.int .i64 0, .slice none 0 0]) := hid_ (by
    have := Blk.new (w6.alloc (.cells #[.int .i64 8, .int .i64 0] 3)) 47 #[.int .i64 0, .slice none 0 0]
    rw [show (w6.alloc (.cells #[.int .i64 8, .int .i64 0] 3)).heap.size = w6.heap.size + 1 by simp] at this
    exact this)
  have HLE : Hid (w6.heap.size ≤ w6.heap.size + 1) := hid_ (by omega)
  clear hsz2
  have hsz3 : ((w6.alloc (.cells #[.int .i64 0, .slice none 0 0] 47)).alloc (.cells #[.int .i64 8, .int .i64 0] 3)).heap.size = w6.heap.size + 2 := by simp
  have HC3 : Hid (Cn.CodeIn ((w6.alloc (.cells #[.int .i64 0, .slice none 0 0] 47)).alloc (.cells #[.int .i64 8, .int .i64 0] 3)).drew bq oq qM) := hid_ (HC6.out.below (below2 w6 _ _).drew hqb)
  have HL5 : Hid (bq < ((w6.alloc (.cells #[.int .i64 0, .slice none 0 0] 47)).alloc (.cells #[.int .i64 8, .int .i64 0] 3)).drew.heap.size) := hid_ (by show bq < ((w6.alloc (.cells #[.int .i64 0, .slice none 0 0] 47)).alloc (.cells #[.int .i64 8, .int .i64 0] 3)).heap.size; omega)
  have HL6 : Hid (w6.heap.size + 1 < ((w6.alloc (.cells #[.int .i64 0, .slice none 0 0] 47)).alloc (.cells #[.int .i64 8, .int .i64 0] 3)).drew.heap.size) := hid_ (by show w6.heap.size + 1 < ((w6.alloc (.cells #[.int .i64 0, .slice none 0 0] 47)).alloc (.cells #[.int .i64 8, .int .i64 0] 3)).heap.size; omega)
  have HI3 : Hid (Cn.IntsIn ((w6.alloc (.cells #[.int .i64 0, .slice none 0 0] 47)).alloc (.cells #[.int .i64 8, .int .i64 0] 3)).drew (w6.heap.size + 1) 0 [8, 0]) := hid_ (fun k x hk => by
    have hB : Blk ((w6.alloc (.cells #[.int .i64 0, .slice none 0 0] 47)).alloc (.cells #[.int .i64 8, .int .i64 0] 3)).drew (w6.heap.size + 1) 3 #[.int .i64 8, .int .i64 0] := (by
      have := Blk.new (w6.alloc (.cells #[.int .i64 0, .slice none 0 0] 47)) 3 #[.int .i64 8, .int .i64 0]
      rw [show (w6.alloc (.cells #[.int .i64 0, .slice none 0 0] 47)).heap.size = w6.heap.size + 1 by simp] at this
      exact this)
    rw [hB.cell]
    match k, hk with
    | 0, hk => simp at hk; subst hk; rfl
    | 1, hk => simp at hk; subst hk; rfl
    | k + 2, hk => simp at hk)
  have HB3 : Hid (Blk ((w6.alloc (.cells #[.int .i64 0, .slice none 0 0] 47)).alloc (.cells #[.int .i64 8, .int .i64 0] 3)).drew w6.heap.size 47 #[.int .i64 0, .slice none 0 0]) := hid_ ((Blk.new w6 47 #[.int .i64 0, .slice none 0 0]).alloc _)
  have HLF : Hid (w6.heap.size ≤ w6.heap.size) := hid_ (Nat.le_refl _)
  clear hsz3
  go_cut [10, 12] (fun p t wx => ∃ (gx : Nat) (A : Option Addr) (d : Nat), p = .pointer (some ⟨gx, 0, none⟩) ∧ t = .bool true ∧ Blk wx gx 47 #[.int .i64 17, .slice A 2 d] ∧ Elems wx wx.heap.size (.slice A 2 d) (ints [27, 0]) ∧ Below w6.heap.size w6 wx)
  case first => as_aux_lemma =>
    go_region_held3 (fun w' => w'.cell? ⟨w4.heap.size, 0, none⟩ = some (.int .i64 2) ∧ w'.cell? ⟨w4.heap.size, 1, none⟩ = some (.slice (some ⟨bq, oq, none⟩) 18 cq) ∧ w'.cell? ⟨bp, op, none⟩ = some (.int .i64 0) ∧ Below w6.heap.size w6 w')
      (first
        | (with_reducible assumption)
        | (with_reducible exact (let hb := (Below.refl w6.heap.size w6).drew; ⟨keepc hb p0, keepc hb p1, keepc hb a0, hb⟩))
        | (with_reducible exact (let hb := (below1 w6 _).drew; ⟨keepc hb p0, keepc hb p1, keepc hb a0, hb⟩))
        | (with_reducible exact (let hb := (below2 w6 _ _).drew; ⟨keepc hb p0, keepc hb p1, keepc hb a0, hb⟩))
        | (with_reducible exact (let hb := H7.out; ⟨keepc hb p0, keepc hb p1, keepc hb a0, hb⟩))
        | (with_reducible exact (let hb := H7.out.alloc H7.out.size _; ⟨keepc hb p0, keepc hb p1, keepc hb a0, hb⟩))
        | (with_reducible exact (let hb := (H7.out.alloc H7.out.size _).setCell H7.out.size _; ⟨keepc hb p0, keepc hb p1, keepc hb a0, hb⟩))
        | (with_reducible exact (let hb := ((H7.out.alloc H7.out.size _).setCell H7.out.size _).setCell H7.out.size _; ⟨keepc hb p0, keepc hb p1, keepc hb a0, hb⟩))
        | (with_reducible exact (let hb := H7.out.setCell HLE.out _; ⟨keepc hb p0, keepc hb p1, keepc hb a0, hb⟩))
        | (with_reducible exact (let hb := (H7.out.setCell HLE.out _).setCell HLE.out _; ⟨keepc hb p0, keepc hb p1, keepc hb a0, hb⟩))
        | (with_reducible exact (let hb := H7.out.setCell HLF.out _; ⟨keepc hb p0, keepc hb p1, keepc hb a0, hb⟩))
        | (with_reducible exact (let hb := (H7.out.setCell HLF.out _).setCell HLF.out _; ⟨keepc hb p0, keepc hb p1, keepc hb a0, hb⟩))
        | (go_keep; done)
        | (trace_state; fail))
      (first
        | (go_at_call 21; (with_reducible refine (crA bq oq cq _ _ 2 _ HL1.out HC1.out HL2.out HI1.out).mono ?_); rintro e w7 ⟨A, d, rfl, hE, hfr, hb7⟩; have HFR := hid_ hfr; clear hfr; have H7 : Hid (Below w6.heap.size w6 w7) := hid_ (bnext (below1 w6 _).drew hb7); have HE := hid_ hE; have n0 := World.new_ne w7 _ (keepc H7.out p0); have n1 := World.new_ne w7 _ (keepc H7.out p1); have n2 := World.new_ne w7 _ (keepc H7.out a0); simp only at n0 n1 n2; have z1 : ∀ (cs : Array Value) (t : TypeId) (i : Nat), (w7.alloc (.cells cs t)).cell? ⟨w7.heap.size, i, none⟩ = cs[i]? := fun cs t i => (Blk.new w7 t cs).cell i; have z2 : ∀ (cs : Array Value) (t : TypeId) (i : Nat), (w7.alloc (.cells cs t)).frozen? ⟨w7.heap.size, i, none⟩ = false := fun cs t i => (Blk.new w7 t cs).free i; have z3 : ∀ (cs : Array Value) (t : TypeId) (i : Nat) (u : Value), (w7.alloc (.cells cs t)).setCell ⟨w7.heap.size, i, none⟩ u = w7.alloc (.cells (cs.setIfInBounds i u) t) := fun cs t i u => World.setCell_alloc_at (w := w7) _ _ _ _ _ rfl; clear hE hb7)
        | (go_at_call 21; (with_reducible refine (crA bq oq cq _ _ 2 _ HL3.out HC2.out HL4.out HI2.out).mono ?_); rintro e w7 ⟨A, d, rfl, hE, hfr, hb7⟩; have HFR := hid_ hfr; clear hfr; have H7 : Hid (Below w6.heap.size w6 w7) := hid_ (bnext (below2 w6 _ _).drew hb7); have HE := hid_ hE; have BB := HB2.out.to hb7; have HBB := hid_ BB; have y0 := BB.cell 0; have y1 := BB.cell 1; have f0 := BB.free 0; have f1 := BB.free 1; simp at y0 y1; clear hE hb7 BB)
        | (go_at_call 21; (with_reducible refine (crA bq oq cq _ _ 2 _ HL5.out HC3.out HL6.out HI3.out).mono ?_); rintro e w7 ⟨A, d, rfl, hE, hfr, hb7⟩; have HFR := hid_ hfr; clear hfr; have H7 : Hid (Below w6.heap.size w6 w7) := hid_ (bnext (below2 w6 _ _).drew hb7); have HE := hid_ hE; have BB := HB3.out.to hb7; have HBB := hid_ BB; have y0 := BB.cell 0; have y1 := BB.cell 1; have f0 := BB.free 0; have f1 := BB.free 1; simp at y0 y1; clear hE hb7 BB))
    · go_wp2_with fail
      go_meet
      exact ⟨w7.heap.size, A, d, rfl, rfl, Blk.new w7 _ _, HE.out.to (below1 w7 _), H7.out.alloc H7.out.size _⟩
    · go_wp2_with fail
      go_meet
      have hne : (Value.slice A 2 d).ownBlock ≠ some (w6.heap.size + 1) := fun e => by
        have h1 := HFR.out _ e
        have h2 := HB2.out.lt
        omega
      have hbz := (HBB.out.set_ 0 (.int .i64 17)).set_ 1 (.slice A 2 d)
      simp at hbz
      exact ⟨w6.heap.size + 1, A, d, rfl, rfl, hbz, elems_out (p := ⟨w6.heap.size + 1, 1, none⟩) (elems_out (p := ⟨w6.heap.size + 1, 0, none⟩) HE.out hne) hne, (H7.out.setCell HLE.out _).setCell HLE.out _⟩
    · go_wp2_with fail
      go_meet
      have hne : (Value.slice A 2 d).ownBlock ≠ some w6.heap.size := fun e => by
        have h1 := HFR.out _ e
        have h2 := HB3.out.lt
        omega
      have hbz := (HBB.out.set_ 0 (.int .i64 17)).set_ 1 (.slice A 2 d)
      simp at hbz
      exact ⟨w6.heap.size, A, d, rfl, rfl, hbz, elems_out (p := ⟨w6.heap.size, 1, none⟩) (elems_out (p := ⟨w6.heap.size, 0, none⟩) HE.out hne) hne, (H7.out.setCell HLF.out _).setCell HLF.out _⟩
  case rest => as_aux_lemma =>
    obtain ⟨gx, A, d, rfl, rfl, hB, hE, hbc⟩ := hcut
    obtain ⟨W7, rfl⟩ : ∃ X : World, X = wc := ⟨_, rfl⟩
    have a2 := keepc hbc (HP6.out 2 _ rfl)
    have x0 := hB.cell 0
    have x1 := hB.cell 1
    simp at x0 x1
    replace hb1 := bnext hb1 hbc
    have HEA := hid_ (hE.to (below1 W7 (.cells #[.int .i64 27, .int .i64 0] 3)).drew)
    have HEB : Hid (Elems (W7.alloc (.cells #[.int .i64 27, .int .i64 0] 3)).drew (W7.alloc (.cells #[.int .i64 27, .int .i64 0] 3)).drew.heap.size (.slice (some ⟨W7.heap.size, 0, none⟩) 2 2) (ints [27, 0])) := hid_ (blk_elems (w := (W7.alloc (.cells #[.int .i64 27, .int .i64 0] 3)).drew) (Blk.new W7 3 #[.int .i64 27, .int .i64 0]) rfl)
    have hz2 : 0 ≤ (2 : Int) := by omega
    clear hB hE hbc HC6 HP6 B6 p0 p1 a0 HC1 HL1 HL2 HI1 HC2 HL3 HL4 HI2 HB2 HLE HC3 HL5 HL6 HI3 HB3 HLF hz
    go_upto_region 8 with fail
    go_region_held3 (fun w' => w'.cell? ⟨gx, 0, none⟩ = some (.int .i64 17) ∧ w'.cell? ⟨gx, 1, none⟩ = some (.slice A 2 d) ∧ w'.cell? ⟨bp, op + 2, none⟩ = some (.int .i64 17) ∧ Below W7.heap.size W7 w')
      (first
        | (with_reducible assumption)
        | (with_reducible exact (let hb := (Below.refl W7.heap.size W7).drew; ⟨keepc hb x0, keepc hb x1, keepc hb a2, hb⟩))
        | (with_reducible exact (let hb := (below1 W7 _).drew; ⟨keepc hb x0, keepc hb x1, keepc hb a2, hb⟩))
        | (with_reducible exact (let hb := H8.out; ⟨keepc hb x0, keepc hb x1, keepc hb a2, hb⟩))
        | (go_keep; done)
        | (trace_state; fail))
      (first
        | (go_at_call 22; (with_reducible refine (scA A _ d 2 _ HEA.out HEB.out).mono ?_); rintro e w8 ⟨rfl, hb8⟩; have H8 : Hid (Below W7.heap.size W7 w8) := hid_ (bnext (below1 W7 _).drew hb8); clear hb8))
    go_wp2_with fail
    go_ret
    exact ⟨rfl, bnext hb1 H8.out⟩
end Go.Proofs.Ytckabinmmficlaa.Pp

/- The law PairShapes where Two returns a machine. -/
import Derived.Test.YtckabinmmficlaaDi
namespace Go.Proofs.Ytckabinmmficlaa.Pp
open Go.RowKit

/-- The machine with two registers, and its points. -/
def qOf (code : List Cn.Ins) : List Cn.Ins := qC (codeL (ptsL 0 (code.map sOf)) [] (code.map sOf))
def pOf (code : List Cn.Ins) : List Int := ptsL 0 (code.map sOf)
theorem qOf_len (code : List Cn.Ins) : (qOf code).length = sizeL (code.map sOf) := by rw [qOf, qC, List.length_map, codeL_len]; simp
theorem pOf_len (code : List Cn.Ins) : (pOf code).length = code.length := by rw [pOf, ptsL_len, List.length_map]
theorem pOf_at {code : List Cn.Ins} {k : Nat} (h : k < code.length) : (pOf code)[k]? = some ((sizeL ((code.map sOf).take k) : Nat) : Int) := by
  rw [pOf, pts_at _ 0 k (by rw [List.length_map]; exact h), Nat.zero_add]
theorem twoS_ok {R : Int} {code : List Cn.Ins} (hv : Cn.vCode R code = true) (hR : ¬ 6 < R) (hs : ¬ 2000 < sizeL (code.map sOf)) : twoS R code = ⟨2, qOf code, pOf code, 0⟩ := by
  rw [twoS, if_neg (by rw [hv]; simp), if_neg hR, if_neg hs]; rfl
theorem two_ok (R : Int) (A : Option Addr) (n c : Nat) (code : List Cn.Ins) (w : World) (hc : Cn.CodeAt w w.heap.size A n code) (hv : Cn.vCode R code = true) (hR : ¬ 6 < R) (hs : ¬ 2000 < sizeL (code.map sOf)) :
    Calls Try.prog 14 #[.agg #[.int .i64 R, .slice A n c]] w fun e w' => ∃ b off c1 b2 off2 c2, e = .returned (.tuple #[.agg #[.int .i64 2, .slice (some ⟨b, off, none⟩) (sizeL (code.map sOf)) c1], .slice (some ⟨b2, off2, none⟩) n c2, .int .i64 0]) ∧ b < w'.heap.size ∧ Cn.CodeIn w' b off (qOf code) ∧ b2 < w'.heap.size ∧ Cn.IntsIn w' b2 off2 (pOf code) ∧ Below w.heap.size w w' := by
  have hl := hc.len
  have h2 := two_any R A n c code w hc
  rw [twoS_ok hv hR hs] at h2
  refine h2.mono ?_
  rintro e w' ⟨A1, n1, c1, A2, n2, c2, rfl, k1, k2, hb⟩
  have e1 : n1 = sizeL (code.map sOf) := by rw [← k1.len, qOf_len]
  have e2 : n2 = n := by rw [← k2.len, pOf_len, hl]
  subst e1 e2
  have hpos : 0 < n2 := by
    have := (Cn.vCode_reg hv).2.2.1
    omega
  have hposL : 0 < sizeL (code.map sOf) := by
    have := size_lt (p := code.map sOf) (a := 0) (b := (code.map sOf).length) (by rw [List.length_map]; omega) (by rw [List.length_map]; omega)
    rw [List.take_length] at this
    omega
  obtain ⟨b, off, rfl, h3, h4⟩ := k1.at_ hposL
  obtain ⟨b2, off2, rfl, h5, h6⟩ := k2.at_ hpos
  exact ⟨b, off, c1, b2, off2, c2, rfl, h3, h4, h5, h6, hb⟩
theorem qOf_valid {R : Int} {code : List Cn.Ins} (hv : Cn.vCode R code = true) (hR : ¬ 6 < R) (hs : ¬ 2000 < sizeL (code.map sOf)) : Cn.vCode 2 (qOf code) = true := by
  obtain ⟨r1, _⟩ := Cn.vCode_reg hv
  obtain ⟨RN, rfl⟩ := Int.eq_ofNat_of_zero_le (show 0 ≤ R by omega)
  exact vq hv (by omega) (by omega)

set_option maxRecDepth 100000 in
set_option maxHeartbeats 8000000 in
theorem shapes_ok (R : Int) (A : Option Addr) (n c : Nat) (code : List Cn.Ins) (w : World) (hc : Cn.CodeAt w w.heap.size A n code) (hn : n ≤ 4000) (hv : Cn.vCode R code = true) (hR : ¬ 6 < R) (hs : ¬ 2000 < sizeL (code.map sOf)) :
    Calls Try.prog 4 #[.agg #[.int .i64 R, .slice A n c]] w fun e w' => e = .returned (.bool true) ∧ Below w.heap.size w w' := by
  have hbW := below1 w (.cells #[.int .i64 R, .slice A n c] 38)
  have HC := hid_ (hc.to hbW)
  have HB := hid_ (Blk.new w 38 #[.int .i64 R, .slice A n c])
  have HLN := hid_ hc.len
  have hn2 : ¬ (4000 : Int) < n := by omega
  have hpos : 0 < n := by have := (Cn.vCode_reg hv).2.2.1; have := hc.len; omega
  obtain ⟨b0, o0, hA0, hb0, hin0⟩ := hc.at_ hpos
  subst hA0
  have HCI := hid_ (hin0.below hbW hb0)
  obtain ⟨L, hL⟩ : ∃ L, L = sizeL (code.map sOf) := ⟨_, rfl⟩
  have hL0 : 0 < L ∧ L ≤ 2000 := by
    have := size_lt (p := code.map sOf) (a := 0) (b := (code.map sOf).length) (by rw [List.length_map, hc.len]; omega) (by rw [List.length_map, hc.len]; omega)
    rw [List.take_length] at this
    omega
  have KTW : Hid (∀ Y, Cn.CodeAt Y Y.heap.size (some ⟨b0, o0, none⟩) n code → Calls Try.prog 14 #[.agg #[.int .i64 R, .slice (some ⟨b0, o0, none⟩) n c]] Y fun e w' => ∃ b off c1 b2 off2 c2, e = .returned (.tuple #[.agg #[.int .i64 2, .slice (some ⟨b, off, none⟩) L c1], .slice (some ⟨b2, off2, none⟩) n c2, .int .i64 0]) ∧ b < w'.heap.size ∧ Cn.CodeIn w' b off (qOf code) ∧ b2 < w'.heap.size ∧ Cn.IntsIn w' b2 off2 (pOf code) ∧ Below Y.heap.size Y w') := hid_ (fun Y h => by rw [hL]; exact two_ok R _ n c code Y h hv hR hs)
  have KCV : Hid (∀ Y, Cn.CodeAt Y Y.heap.size (some ⟨b0, o0, none⟩) n code → Calls Try.prog 15 #[.agg #[.int .i64 R, .slice (some ⟨b0, o0, none⟩) n c]] Y fun e w' => e = .returned (.bool true) ∧ Below Y.heap.size Y w') := hid_ (fun Y h => by rw [← hv]; exact Cn.rvalid_any R _ n c code Y h)
  have KCQ : Hid (∀ Y b off c1, b < Y.heap.size → Cn.CodeIn Y b off (qOf code) → Calls Try.prog 15 #[.agg #[.int .i64 2, .slice (some ⟨b, off, none⟩) L c1]] Y fun e w' => e = .returned (.bool true) ∧ Below Y.heap.size Y w') := hid_ (fun Y b off c1 hb h => by rw [← qOf_valid hv hR hs]; exact Cn.rvalid_any 2 _ L c1 (qOf code) Y ⟨by rw [qOf_len, hL], fun _ => ⟨b, off, rfl, hb, h⟩⟩)
  have KCP : Hid (∀ Y b off c1 b2 off2 c2, b2 < Y.heap.size → Cn.IntsIn Y b2 off2 (pOf code) → Calls Try.prog 17 #[.agg #[.int .i64 2, .slice (some ⟨b, off, none⟩) L c1], .slice (some ⟨b2, off2, none⟩) n c2] Y fun e w' => e = .returned (.bool true) ∧ Below Y.heap.size Y w') := hid_ (fun Y b off c1 b2 off2 c2 hb h => by
    have h9 := rise_pts (code.map sOf)
    rw [← hL] at h9
    rw [← h9]
    exact Cn.rpoints_any 2 _ (some ⟨b2, off2, none⟩) L c1 n c2 (pOf code) Y ⟨by rw [pOf_len, HLN.out], fun _ => ⟨b2, off2, rfl, hb, h⟩⟩ hn)
  have KOP : Hid (∀ (k : Nat) (i : Cn.Ins), code[k]? = some i → ∃ (s : Nat) (x : Cn.Ins), (pOf code)[k]? = some (s : Int) ∧ s < L ∧ (qOf code)[s]? = some x ∧ (x.op = 2 ↔ i.op = 2)) := hid_ (fun k i hk => by
    obtain ⟨x, h1, h2⟩ := halt_at hk (Cn.vIns_op (Cn.vCode_ins hv hk))
    have hkl := (List.getElem?_eq_some_iff.1 hk).1
    have h3 := size_lt (p := code.map sOf) (a := k) (b := (code.map sOf).length) (by rw [List.length_map]; exact hkl) (by rw [List.length_map]; exact hkl)
    rw [List.take_length, ← hL] at h3
    exact ⟨_, x, pOf_at hkl, h3, h1, h2⟩)
  have hr2 : ¬ (6 < R) := hR
  have HP0 : Hid ((pOf code)[0]? = some 0) := hid_ (by rw [pOf_at (by rw [HLN.out]; exact hpos)]; simp [sizeL])
  clear hv hs hL hin0
  clear hc
  go_enter Try.func4, Try.ntmps4
  go_upto_region 1 with fail
  generalize w.alloc (.cells #[.int .i64 R, .slice (some ⟨b0, o0, none⟩) n c] 38) = W at *
  have p0 := HB.out.cell 0
  have p1 := HB.out.cell 1
  have pl := HB.out.lt
  simp at p0 p1
  go_upto_region 4 with (go_at_call 14; (with_reducible refine (KTW.out _ HC.out).mono ?_); rintro e w1 ⟨b, off, c1, b2, off2, c2, rfl, hbl, hq, hbl2, hp, hb1⟩)
  have hbx := hb1.alloc hb1.size (.cells #[.int .i64 2, .slice (some ⟨b, off, none⟩) L c1] 38)
  have hs1 : (w1.alloc (.cells #[.int .i64 2, .slice (some ⟨b, off, none⟩) L c1] 38)).heap.size = w1.heap.size + 1 := by simp
  have HC1 := hid_ (HC.out.to hbx)
  have HB1 := hid_ (HB.out.to hbx)
  have HQ1 := hid_ (Blk.new w1 38 #[.int .i64 2, .slice (some ⟨b, off, none⟩) L c1])
  have HI1 := hid_ (HCI.out.below hbx (by have := hbW.size; omega))
  have HQC := hid_ (hq.below (below1 w1 (.cells #[.int .i64 2, .slice (some ⟨b, off, none⟩) L c1] 38)) hbl)
  have HPC := hid_ (hp.below (below1 w1 (.cells #[.int .i64 2, .slice (some ⟨b, off, none⟩) L c1] 38)) hbl2)
  have hb0' : b0 < (w1.alloc (.cells #[.int .i64 2, .slice (some ⟨b, off, none⟩) L c1] 38)).heap.size := by have := hbW.size; have := hbx.size; omega
  replace hbl : b < (w1.alloc (.cells #[.int .i64 2, .slice (some ⟨b, off, none⟩) L c1] 38)).heap.size := by omega
  replace hbl2 : b2 < (w1.alloc (.cells #[.int .i64 2, .slice (some ⟨b, off, none⟩) L c1] 38)).heap.size := by omega
  replace hbW := bnext hbW hbx
  clear hb1 hbx hs1 p0 p1 pl HC HB HCI hq hp hb0
  generalize w1.alloc (.cells #[.int .i64 2, .slice (some ⟨b, off, none⟩) L c1] 38) = W1 at *
  have p0 := HB1.out.cell 0
  have p1 := HB1.out.cell 1
  have q0 := HQ1.out.cell 0
  have q1 := HQ1.out.cell 1
  have a0 := HPC.out 0 _ HP0.out
  have pl := HB1.out.lt
  have ql := HQ1.out.lt
  simp at p0 p1 q0 q1 a0
  have hLi : (0 : Int) ≤ 0 := by omega
  go_upto_region 13 with (first
    | (go_at_call 15; (with_reducible refine (KCV.out _ HC1.out).mono ?_); rintro e w2 ⟨rfl, hb2⟩; replace HC1 := hid_ (HC1.out.to hb2); replace HI1 := hid_ (HI1.out.below hb2 hb0'); replace HQC := hid_ (HQC.out.below hb2 hbl); replace HPC := hid_ (HPC.out.below hb2 hbl2); replace hbW := bnext hbW hb2; replace p0 := keepc hb2 p0; replace p1 := keepc hb2 p1; replace q0 := keepc hb2 q0; replace q1 := keepc hb2 q1; replace a0 := keepc hb2 a0; replace pl := Nat.lt_of_lt_of_le pl hb2.size; replace ql := Nat.lt_of_lt_of_le ql hb2.size; replace hb0' := Nat.lt_of_lt_of_le hb0' hb2.size; replace hbl := Nat.lt_of_lt_of_le hbl hb2.size; replace hbl2 := Nat.lt_of_lt_of_le hbl2 hb2.size; clear hb2)
    | (go_at_call 15; (with_reducible refine (KCQ.out _ _ _ _ hbl HQC.out).mono ?_); rintro e w3 ⟨rfl, hb2⟩; replace HC1 := hid_ (HC1.out.to hb2); replace HI1 := hid_ (HI1.out.below hb2 hb0'); replace HQC := hid_ (HQC.out.below hb2 hbl); replace HPC := hid_ (HPC.out.below hb2 hbl2); replace hbW := bnext hbW hb2; replace p0 := keepc hb2 p0; replace p1 := keepc hb2 p1; replace q0 := keepc hb2 q0; replace q1 := keepc hb2 q1; replace a0 := keepc hb2 a0; replace pl := Nat.lt_of_lt_of_le pl hb2.size; replace ql := Nat.lt_of_lt_of_le ql hb2.size; replace hb0' := Nat.lt_of_lt_of_le hb0' hb2.size; replace hbl := Nat.lt_of_lt_of_le hbl hb2.size; replace hbl2 := Nat.lt_of_lt_of_le hbl2 hb2.size; clear hb2)
    | (go_at_call 17; (with_reducible refine (KCP.out _ _ _ _ _ _ _ hbl2 HPC.out).mono ?_); rintro e w4 ⟨rfl, hb2⟩; replace HC1 := hid_ (HC1.out.to hb2); replace HI1 := hid_ (HI1.out.below hb2 hb0'); replace HQC := hid_ (HQC.out.below hb2 hbl); replace HPC := hid_ (HPC.out.below hb2 hbl2); replace hbW := bnext hbW hb2; replace p0 := keepc hb2 p0; replace p1 := keepc hb2 p1; replace q0 := keepc hb2 q0; replace q1 := keepc hb2 q1; replace a0 := keepc hb2 a0; replace pl := Nat.lt_of_lt_of_le pl hb2.size; replace ql := Nat.lt_of_lt_of_le ql hb2.size; replace hb0' := Nat.lt_of_lt_of_le hb0' hb2.size; replace hbl := Nat.lt_of_lt_of_le hbl hb2.size; replace hbl2 := Nat.lt_of_lt_of_le hbl2 hb2.size; clear hb2))
  obtain ⟨W5, rfl⟩ : ∃ X : World, X = w4 := ⟨_, rfl⟩
  go_wp2_with fail
  go_loopw [7] (fun a wr => ∃ k : Nat, a = .int .i64 (k : Int) ∧ k ≤ n ∧ Below W5.heap.size W5 wr) (fun a _ => n - (intOf a).toNat)
  case atStart => exact ⟨0, rfl, Nat.zero_le _, Below.refl _ _⟩
  case round =>
    obtain ⟨k, rfl, hk, hbr⟩ := hrel
    replace p1 := keepc hbr p1
    replace q1 := keepc hbr q1
    by_cases hlt : k < n
    · obtain ⟨i, hi⟩ : ∃ i, code[k]? = some i := ⟨_, List.getElem?_eq_getElem (by rw [HLN.out]; exact hlt)⟩
      obtain ⟨s, x, h1, h2, h3, h4⟩ := KOP.out k i hi
      have i0 := keepc hbr (HI1.out k i hi).1
      have i1 := keepc hbr (HPC.out k _ h1)
      have i2 := keepc hbr (HQC.out s x h3).1
      clear h1 h3 hi
      have t1 : (s : Int) < (L : Int) := by omega
      have t2 : 0 ≤ (s : Int) := by omega
      have t3 : (k : Int) < (n : Int) := by omega
      have t4 : 0 ≤ (k : Int) := by omega
      have hx : (i.op = 2 ∧ x.op = 2) ∨ (¬ i.op = 2 ∧ ¬ x.op = 2) := by
        by_cases h : i.op = 2
        · exact .inl ⟨h, h4.2 h⟩
        · exact .inr ⟨h, fun e => h (h4.1 e)⟩
      clear h4
      obtain ⟨op, rg, nx, zr⟩ := i
      obtain ⟨op2, rg2, nx2, zr2⟩ := x
      simp only at hx i0 i2
      rcases hx with ⟨rfl, rfl⟩ | ⟨g1, g2⟩
      · go_upto_region 16 with fail
        go_quiet (fail)
        go_wp2_with fail
        go_round
        case rel => exact ⟨k + 1, by go_num, by omega, below_drewN hbr _⟩
        case measure => simp [intOf]; omega
      · have e1 : (op2 == 2) = false := by simpa using g2
        have e2 : (op == 2) = false := by simpa using g1
        go_upto_region 16 with fail
        go_quiet (fail)
        go_wp2_with fail
        go_round
        case rel => exact ⟨k + 1, by go_num, by omega, below_drewN hbr _⟩
        case measure => simp [intOf]; omega
    · have hkn : k = n := by omega
      go_wp2_with (go_at_call 7; (with_reducible refine (awake_any _).mono ?_); rintro e w99 ⟨rfl, hb99⟩)
      go_ret
      exact ⟨rfl, bnext (bnext hbW hbr) hb99⟩
end Go.Proofs.Ytckabinmmficlaa.Pp

/- The law PairShapes, way by way. -/
import Derived.Test.YtckabinmmficlaaDf
namespace Go.Proofs.Ytckabinmmficlaa.Pp
open Go.RowKit


theorem two_nil (R : Int) (A : Option Addr) (n c : Nat) (code : List Cn.Ins) (w : World) (hc : Cn.CodeAt w w.heap.size A n code) (er : Int) (h : twoS R code = ⟨0, [], [], er⟩) :
    Calls Try.prog 14 #[.agg #[.int .i64 R, .slice A n c]] w fun e w' => ∃ B c1 D c2, e = .returned (.tuple #[.agg #[.int .i64 0, .slice B 0 c1], .slice D 0 c2, .int .i64 er]) ∧ Below w.heap.size w w' := by
  have h2 := two_any R A n c code w hc
  rw [h] at h2
  refine h2.mono ?_
  rintro e w' ⟨A1, n1, c1, A2, n2, c2, rfl, k1, k2, hb⟩
  have e1 : n1 = 0 := k1.len.symm
  have e2 : n2 = 0 := k2.len.symm
  subst e1 e2
  exact ⟨A1, c1, A2, c2, rfl, hb⟩
theorem rsame_zero (B : Option Addr) (c : Nat) (w : World) : Calls Try.prog 16 #[.agg #[.int .i64 0, .slice B 0 c], .agg #[.int .i64 0, .slice none 0 0]] w fun e w' => e = .returned (.bool true) ∧ Below w.heap.size w w' := by
  have hz : ¬ (0 : Int) < 0 := by omega
  go_enter Try.func16, Try.ntmps16
  go_wp2_with fail
  refine wp_loop_rounds 1 ?_
  rw [rounds_succ]
  go_wp2_with fail
  go_ret
  exact ⟨rfl, below2 w _ _⟩

set_option maxRecDepth 100000 in
set_option maxHeartbeats 8000000 in
theorem shapes_wide (R : Int) (A : Option Addr) (n c : Nat) (code : List Cn.Ins) (w : World) (hc : Cn.CodeAt w w.heap.size A n code) (hn : 4000 < n) :
    Calls Try.prog 4 #[.agg #[.int .i64 R, .slice A n c]] w fun e w' => e = .returned (.bool true) ∧ Below w.heap.size w w' := by
  have hbW := below1 w (.cells #[.int .i64 R, .slice A n c] 38)
  have HC := hid_ (hc.to hbW)
  have HB := hid_ (Blk.new w 38 #[.int .i64 R, .slice A n c])
  have HLN := hid_ hc.len
  have hn2 : (4000 : Int) < n := by omega
  clear hc
  go_enter Try.func4, Try.ntmps4
  go_upto_region 1 with fail
  generalize w.alloc (.cells #[.int .i64 R, .slice A n c] 38) = W at *
  have p0 := HB.out.cell 0
  have p1 := HB.out.cell 1
  have pl := HB.out.lt
  simp at p0 p1
  go_wp2_with (go_at_call 7; (with_reducible refine (awake_any _).mono ?_); rintro e w99 ⟨rfl, hb99⟩)
  go_ret
  exact ⟨rfl, bnext hbW hb99⟩

set_option maxRecDepth 100000 in
set_option maxHeartbeats 8000000 in
theorem shapes_form (R : Int) (A : Option Addr) (n c : Nat) (code : List Cn.Ins) (w : World) (hc : Cn.CodeAt w w.heap.size A n code) (hn : n ≤ 4000) (hv : Cn.vCode R code = false) :
    Calls Try.prog 4 #[.agg #[.int .i64 R, .slice A n c]] w fun e w' => e = .returned (.bool true) ∧ Below w.heap.size w w' := by
  have hbW := below1 w (.cells #[.int .i64 R, .slice A n c] 38)
  have HC := hid_ (hc.to hbW)
  have HB := hid_ (Blk.new w 38 #[.int .i64 R, .slice A n c])
  have HLN := hid_ hc.len
  have hn2 : ¬ (4000 : Int) < n := by omega
  have KTW : Hid (∀ Y, Cn.CodeAt Y Y.heap.size A n code → Calls Try.prog 14 #[.agg #[.int .i64 R, .slice A n c]] Y fun e w' => ∃ B c1 D c2, e = .returned (.tuple #[.agg #[.int .i64 0, .slice B 0 c1], .slice D 0 c2, .int .i64 1]) ∧ Below Y.heap.size Y w') := hid_ (fun Y h => two_nil R A n c code Y h 1 (by rw [twoS, if_pos hv]))
  have KCV : Hid (∀ Y, Cn.CodeAt Y Y.heap.size A n code → Calls Try.prog 15 #[.agg #[.int .i64 R, .slice A n c]] Y fun e w' => e = .returned (.bool false) ∧ Below Y.heap.size Y w') := hid_ (fun Y h => by rw [← hv]; exact Cn.rvalid_any R A n c code Y h)
  clear hv
  clear hc
  go_enter Try.func4, Try.ntmps4
  go_upto_region 1 with fail
  generalize w.alloc (.cells #[.int .i64 R, .slice A n c] 38) = W at *
  have p0 := HB.out.cell 0
  have p1 := HB.out.cell 1
  have pl := HB.out.lt
  simp at p0 p1
  go_upto_region 4 with (go_at_call 14; (with_reducible refine (KTW.out _ HC.out).mono ?_); rintro e w1 ⟨B, c1, D, c2, rfl, hb1⟩)
  have HC1 := hid_ (HC.out.to (hb1.alloc hb1.size (.cells #[.int .i64 0, .slice B 0 c1] 38)))
  have HB1 := hid_ (HB.out.to (hb1.alloc hb1.size (.cells #[.int .i64 0, .slice B 0 c1] 38)))
  have HQ1 := hid_ (Blk.new w1 38 #[.int .i64 0, .slice B 0 c1])
  replace hbW := bnext hbW (hb1.alloc hb1.size (.cells #[.int .i64 0, .slice B 0 c1] 38))
  clear hb1 p0 p1 pl HC HB
  generalize w1.alloc (.cells #[.int .i64 0, .slice B 0 c1] 38) = W1 at *
  have p0 := HB1.out.cell 0
  have p1 := HB1.out.cell 1
  have q0 := HQ1.out.cell 0
  have q1 := HQ1.out.cell 1
  have pl := HB1.out.lt
  have ql := HQ1.out.lt
  simp at p0 p1 q0 q1
  go_upto_region 7 with (go_at_call 15; (with_reducible refine (KCV.out _ HC1.out).mono ?_); rintro e w2 ⟨rfl, hb2⟩; have HC2 := hid_ (HC1.out.to hb2); have HB2 := hid_ (HB1.out.to hb2); have HQ2 := hid_ (HQ1.out.to hb2); replace hbW := bnext hbW hb2; replace p0 := keepc hb2 p0; replace p1 := keepc hb2 p1; replace q0 := keepc hb2 q0; replace q1 := keepc hb2 q1; replace pl := Nat.lt_of_lt_of_le pl hb2.size; replace ql := Nat.lt_of_lt_of_le ql hb2.size; clear hb2 HC1 HB1 HQ1)
  go_wp2_with (first
    | (go_at_call 15; (with_reducible refine (KCV.out _ HC2.out).mono ?_); rintro e w3 ⟨rfl, hb3⟩; replace hbW := bnext hbW hb3; replace p0 := keepc hb3 p0; replace p1 := keepc hb3 p1; replace q0 := keepc hb3 q0; replace q1 := keepc hb3 q1; replace pl := Nat.lt_of_lt_of_le pl hb3.size; replace ql := Nat.lt_of_lt_of_le ql hb3.size; clear hb3)
    | (go_at_call 16; (with_reducible refine (rsame_zero B c1 _).mono ?_); rintro e w4 ⟨rfl, hb4⟩; replace hbW := bnext hbW hb4)
    | (go_at_call 7; (with_reducible refine (awake_any _).mono ?_); rintro e w99 ⟨rfl, hb99⟩))
  go_ret
  exact ⟨rfl, bnext hbW hb99⟩

set_option maxRecDepth 100000 in
set_option maxHeartbeats 8000000 in
theorem shapes_arg (R : Int) (A : Option Addr) (n c : Nat) (code : List Cn.Ins) (w : World) (hc : Cn.CodeAt w w.heap.size A n code) (hn : n ≤ 4000) (hv : Cn.vCode R code = true) (hR : 6 < R) :
    Calls Try.prog 4 #[.agg #[.int .i64 R, .slice A n c]] w fun e w' => e = .returned (.bool true) ∧ Below w.heap.size w w' := by
  have hbW := below1 w (.cells #[.int .i64 R, .slice A n c] 38)
  have HC := hid_ (hc.to hbW)
  have HB := hid_ (Blk.new w 38 #[.int .i64 R, .slice A n c])
  have HLN := hid_ hc.len
  have hn2 : ¬ (4000 : Int) < n := by omega
  have KTW : Hid (∀ Y, Cn.CodeAt Y Y.heap.size A n code → Calls Try.prog 14 #[.agg #[.int .i64 R, .slice A n c]] Y fun e w' => ∃ B c1 D c2, e = .returned (.tuple #[.agg #[.int .i64 0, .slice B 0 c1], .slice D 0 c2, .int .i64 2]) ∧ Below Y.heap.size Y w') := hid_ (fun Y h => two_nil R A n c code Y h 2 (by rw [twoS, if_neg (by rw [hv]; simp), if_pos hR]))
  have KCV : Hid (∀ Y, Cn.CodeAt Y Y.heap.size A n code → Calls Try.prog 15 #[.agg #[.int .i64 R, .slice A n c]] Y fun e w' => e = .returned (.bool true) ∧ Below Y.heap.size Y w') := hid_ (fun Y h => by rw [← hv]; exact Cn.rvalid_any R A n c code Y h)
  clear hv
  clear hc
  go_enter Try.func4, Try.ntmps4
  go_upto_region 1 with fail
  generalize w.alloc (.cells #[.int .i64 R, .slice A n c] 38) = W at *
  have p0 := HB.out.cell 0
  have p1 := HB.out.cell 1
  have pl := HB.out.lt
  simp at p0 p1
  go_upto_region 4 with (go_at_call 14; (with_reducible refine (KTW.out _ HC.out).mono ?_); rintro e w1 ⟨B, c1, D, c2, rfl, hb1⟩)
  have HC1 := hid_ (HC.out.to (hb1.alloc hb1.size (.cells #[.int .i64 0, .slice B 0 c1] 38)))
  have HB1 := hid_ (HB.out.to (hb1.alloc hb1.size (.cells #[.int .i64 0, .slice B 0 c1] 38)))
  have HQ1 := hid_ (Blk.new w1 38 #[.int .i64 0, .slice B 0 c1])
  replace hbW := bnext hbW (hb1.alloc hb1.size (.cells #[.int .i64 0, .slice B 0 c1] 38))
  clear hb1 p0 p1 pl HC HB
  generalize w1.alloc (.cells #[.int .i64 0, .slice B 0 c1] 38) = W1 at *
  have p0 := HB1.out.cell 0
  have p1 := HB1.out.cell 1
  have q0 := HQ1.out.cell 0
  have q1 := HQ1.out.cell 1
  have pl := HB1.out.lt
  have ql := HQ1.out.lt
  simp at p0 p1 q0 q1
  go_upto_region 7 with (go_at_call 15; (with_reducible refine (KCV.out _ HC1.out).mono ?_); rintro e w2 ⟨rfl, hb2⟩; have HC2 := hid_ (HC1.out.to hb2); have HB2 := hid_ (HB1.out.to hb2); have HQ2 := hid_ (HQ1.out.to hb2); replace hbW := bnext hbW hb2; replace p0 := keepc hb2 p0; replace p1 := keepc hb2 p1; replace q0 := keepc hb2 q0; replace q1 := keepc hb2 q1; replace pl := Nat.lt_of_lt_of_le pl hb2.size; replace ql := Nat.lt_of_lt_of_le ql hb2.size; clear hb2 HC1 HB1 HQ1)
  go_wp2_with (first
    | (go_at_call 15; (with_reducible refine (KCV.out _ HC2.out).mono ?_); rintro e w3 ⟨rfl, hb3⟩; replace hbW := bnext hbW hb3; replace p0 := keepc hb3 p0; replace p1 := keepc hb3 p1; replace q0 := keepc hb3 q0; replace q1 := keepc hb3 q1; replace pl := Nat.lt_of_lt_of_le pl hb3.size; replace ql := Nat.lt_of_lt_of_le ql hb3.size; clear hb3)
    | (go_at_call 16; (with_reducible refine (rsame_zero B c1 _).mono ?_); rintro e w4 ⟨rfl, hb4⟩; replace hbW := bnext hbW hb4)
    | (go_at_call 7; (with_reducible refine (awake_any _).mono ?_); rintro e w99 ⟨rfl, hb99⟩))
  go_ret
  exact ⟨rfl, bnext hbW hb99⟩

set_option maxRecDepth 100000 in
set_option maxHeartbeats 8000000 in
theorem shapes_size (R : Int) (A : Option Addr) (n c : Nat) (code : List Cn.Ins) (w : World) (hc : Cn.CodeAt w w.heap.size A n code) (hn : n ≤ 4000) (hv : Cn.vCode R code = true) (hR : R ≤ 6) (hs : 2000 < sizeL (code.map sOf)) :
    Calls Try.prog 4 #[.agg #[.int .i64 R, .slice A n c]] w fun e w' => e = .returned (.bool true) ∧ Below w.heap.size w w' := by
  have hbW := below1 w (.cells #[.int .i64 R, .slice A n c] 38)
  have HC := hid_ (hc.to hbW)
  have HB := hid_ (Blk.new w 38 #[.int .i64 R, .slice A n c])
  have HLN := hid_ hc.len
  have hn2 : ¬ (4000 : Int) < n := by omega
  have hR2 : ¬ 6 < R := by omega
  have h40 : (40 : Int) < n := by
    have h1 := size40 (code.map sOf)
    have h2 := hc.len
    rw [List.length_map, h2] at h1
    omega
  have HSZ := hid_ hs
  have KTW : Hid (∀ Y, Cn.CodeAt Y Y.heap.size A n code → Calls Try.prog 14 #[.agg #[.int .i64 R, .slice A n c]] Y fun e w' => ∃ B c1 D c2, e = .returned (.tuple #[.agg #[.int .i64 0, .slice B 0 c1], .slice D 0 c2, .int .i64 4]) ∧ Below Y.heap.size Y w') := hid_ (fun Y h => two_nil R A n c code Y h 4 (by rw [twoS, if_neg (by rw [hv]; simp), if_neg hR2, if_pos HSZ.out]))
  have KCV : Hid (∀ Y, Cn.CodeAt Y Y.heap.size A n code → Calls Try.prog 15 #[.agg #[.int .i64 R, .slice A n c]] Y fun e w' => e = .returned (.bool true) ∧ Below Y.heap.size Y w') := hid_ (fun Y h => by rw [← hv]; exact Cn.rvalid_any R A n c code Y h)
  clear hv
  clear hc
  go_enter Try.func4, Try.ntmps4
  go_upto_region 1 with fail
  generalize w.alloc (.cells #[.int .i64 R, .slice A n c] 38) = W at *
  have p0 := HB.out.cell 0
  have p1 := HB.out.cell 1
  have pl := HB.out.lt
  simp at p0 p1
  go_upto_region 4 with (go_at_call 14; (with_reducible refine (KTW.out _ HC.out).mono ?_); rintro e w1 ⟨B, c1, D, c2, rfl, hb1⟩)
  have HC1 := hid_ (HC.out.to (hb1.alloc hb1.size (.cells #[.int .i64 0, .slice B 0 c1] 38)))
  have HB1 := hid_ (HB.out.to (hb1.alloc hb1.size (.cells #[.int .i64 0, .slice B 0 c1] 38)))
  have HQ1 := hid_ (Blk.new w1 38 #[.int .i64 0, .slice B 0 c1])
  replace hbW := bnext hbW (hb1.alloc hb1.size (.cells #[.int .i64 0, .slice B 0 c1] 38))
  clear hb1 p0 p1 pl HC HB
  generalize w1.alloc (.cells #[.int .i64 0, .slice B 0 c1] 38) = W1 at *
  have p0 := HB1.out.cell 0
  have p1 := HB1.out.cell 1
  have q0 := HQ1.out.cell 0
  have q1 := HQ1.out.cell 1
  have pl := HB1.out.lt
  have ql := HQ1.out.lt
  simp at p0 p1 q0 q1
  go_upto_region 7 with (go_at_call 15; (with_reducible refine (KCV.out _ HC1.out).mono ?_); rintro e w2 ⟨rfl, hb2⟩; have HC2 := hid_ (HC1.out.to hb2); have HB2 := hid_ (HB1.out.to hb2); have HQ2 := hid_ (HQ1.out.to hb2); replace hbW := bnext hbW hb2; replace p0 := keepc hb2 p0; replace p1 := keepc hb2 p1; replace q0 := keepc hb2 q0; replace q1 := keepc hb2 q1; replace pl := Nat.lt_of_lt_of_le pl hb2.size; replace ql := Nat.lt_of_lt_of_le ql hb2.size; clear hb2 HC1 HB1 HQ1)
  go_wp2_with (first
    | (go_at_call 15; (with_reducible refine (KCV.out _ HC2.out).mono ?_); rintro e w3 ⟨rfl, hb3⟩; replace hbW := bnext hbW hb3; replace p0 := keepc hb3 p0; replace p1 := keepc hb3 p1; replace q0 := keepc hb3 q0; replace q1 := keepc hb3 q1; replace pl := Nat.lt_of_lt_of_le pl hb3.size; replace ql := Nat.lt_of_lt_of_le ql hb3.size; clear hb3)
    | (go_at_call 16; (with_reducible refine (rsame_zero B c1 _).mono ?_); rintro e w4 ⟨rfl, hb4⟩; replace hbW := bnext hbW hb4)
    | (go_at_call 7; (with_reducible refine (awake_any _).mono ?_); rintro e w99 ⟨rfl, hb99⟩))
  go_ret
  exact ⟨rfl, bnext hbW hb99⟩
end Go.Proofs.Ytckabinmmficlaa.Pp

/- The law PairRuns, way by way. -/
import Derived.Test.YtckabinmmficlaaDo
namespace Go.Proofs.Ytckabinmmficlaa.Pp
open Go.RowKit

set_option maxRecDepth 100000 in
set_option maxHeartbeats 8000000 in
theorem runs_wide (R : Int) (A A4 : Option Addr) (n c m c4 N : Nat) (code : List Cn.Ins) (l : List Int) (w : World) (hc : Cn.CodeAt w w.heap.size A n code) (hr : Cn.IntsAt w w.heap.size A4 m l) (hN : N ≤ 255) (hm : m ≤ 17592186044416) (hn : 4000 < n) :
    Calls Try.prog 6 #[.agg #[.int .i64 R, .slice A n c], .slice A4 m c4, .int .u8 (N : Int)] w fun e w' => e = .returned (.bool true) ∧ Below w.heap.size w w' := by
  have hbW := below1 w (.cells #[.int .i64 R, .slice A n c] 38)
  have HC := hid_ (hc.to hbW)
  have HR := hid_ (hr.to hbW)
  have HB0 := hid_ (Blk.new w 38 #[.int .i64 R, .slice A n c])
  have KCV : Hid (∀ Y, Cn.CodeAt Y Y.heap.size A n code → Calls Try.prog 15 #[.agg #[.int .i64 R, .slice A n c]] Y fun e w' => e = .returned (.bool (Cn.vCode R code)) ∧ Below Y.heap.size Y w') := hid_ (fun Y h1 => (Cn.rvalid_any R A n c code Y h1).mono fun e w' h => by skip; exact h)
  have hn2 : (4000 : Int) < n := by omega
  clear hc hr
  go_enter Try.func6, Try.ntmps6
  go_upto_region 1 with fail
  generalize w.alloc (.cells #[.int .i64 R, .slice A n c] 38) = W at *
  have p0 := HB0.out.cell 0
  have p1 := HB0.out.cell 1
  have pl := HB0.out.lt
  simp at p0 p1
  go_wp2_with (first | (go_at_call 15; (with_reducible refine (KCV.out _ HC.out).mono ?_); rintro e w1 ⟨rfl, hb1⟩; replace hbW := bnext hbW hb1; replace HC := hid_ (HC.out.to hb1); replace HR := hid_ (HR.out.to hb1); replace HB0 := hid_ (HB0.out.to hb1); replace p0 := keepc hb1 p0; replace p1 := keepc hb1 p1; replace pl := Nat.lt_of_lt_of_le pl hb1.size; clear hb1) | (go_at_call 7; (with_reducible refine (awake_any _).mono ?_); rintro e w99 ⟨rfl, hb99⟩))
  go_ret
  exact ⟨rfl, bnext hbW hb99⟩

set_option maxRecDepth 100000 in
set_option maxHeartbeats 8000000 in
theorem runs_bad (R : Int) (A A4 : Option Addr) (n c m c4 N : Nat) (code : List Cn.Ins) (l : List Int) (w : World) (hc : Cn.CodeAt w w.heap.size A n code) (hr : Cn.IntsAt w w.heap.size A4 m l) (hN : N ≤ 255) (hm : m ≤ 17592186044416) (hn : n ≤ 4000) (hf : Cn.vCode R code = false) :
    Calls Try.prog 6 #[.agg #[.int .i64 R, .slice A n c], .slice A4 m c4, .int .u8 (N : Int)] w fun e w' => e = .returned (.bool true) ∧ Below w.heap.size w w' := by
  have hbW := below1 w (.cells #[.int .i64 R, .slice A n c] 38)
  have HC := hid_ (hc.to hbW)
  have HR := hid_ (hr.to hbW)
  have HB0 := hid_ (Blk.new w 38 #[.int .i64 R, .slice A n c])
  have KCV : Hid (∀ Y, Cn.CodeAt Y Y.heap.size A n code → Calls Try.prog 15 #[.agg #[.int .i64 R, .slice A n c]] Y fun e w' => e = .returned (.bool false) ∧ Below Y.heap.size Y w') := hid_ (fun Y h1 => (Cn.rvalid_any R A n c code Y h1).mono fun e w' h => by rw [hf] at h; exact h)
  have hn2 : ¬ (4000 : Int) < n := by omega
  clear hf
  clear hc hr
  go_enter Try.func6, Try.ntmps6
  go_upto_region 1 with fail
  generalize w.alloc (.cells #[.int .i64 R, .slice A n c] 38) = W at *
  have p0 := HB0.out.cell 0
  have p1 := HB0.out.cell 1
  have pl := HB0.out.lt
  simp at p0 p1
  go_wp2_with (first | (go_at_call 15; (with_reducible refine (KCV.out _ HC.out).mono ?_); rintro e w1 ⟨rfl, hb1⟩; replace hbW := bnext hbW hb1; replace HC := hid_ (HC.out.to hb1); replace HR := hid_ (HR.out.to hb1); replace HB0 := hid_ (HB0.out.to hb1); replace p0 := keepc hb1 p0; replace p1 := keepc hb1 p1; replace pl := Nat.lt_of_lt_of_le pl hb1.size; clear hb1) | (go_at_call 7; (with_reducible refine (awake_any _).mono ?_); rintro e w99 ⟨rfl, hb99⟩))
  go_ret
  exact ⟨rfl, bnext hbW hb99⟩

set_option maxRecDepth 100000 in
set_option maxHeartbeats 8000000 in
theorem runs_arg (R : Int) (A A4 : Option Addr) (n c m c4 N : Nat) (code : List Cn.Ins) (l : List Int) (w : World) (hc : Cn.CodeAt w w.heap.size A n code) (hr : Cn.IntsAt w w.heap.size A4 m l) (hN : N ≤ 255) (hm : m ≤ 17592186044416) (hn : n ≤ 4000) (hf : Cn.vCode R code = true) (hR : 6 < R) :
    Calls Try.prog 6 #[.agg #[.int .i64 R, .slice A n c], .slice A4 m c4, .int .u8 (N : Int)] w fun e w' => e = .returned (.bool true) ∧ Below w.heap.size w w' := by
  have hbW := below1 w (.cells #[.int .i64 R, .slice A n c] 38)
  have HC := hid_ (hc.to hbW)
  have HR := hid_ (hr.to hbW)
  have HB0 := hid_ (Blk.new w 38 #[.int .i64 R, .slice A n c])
  have KCV : Hid (∀ Y, Cn.CodeAt Y Y.heap.size A n code → Calls Try.prog 15 #[.agg #[.int .i64 R, .slice A n c]] Y fun e w' => e = .returned (.bool true) ∧ Below Y.heap.size Y w') := hid_ (fun Y h1 => (Cn.rvalid_any R A n c code Y h1).mono fun e w' h => by rw [hf] at h; exact h)
  have hn2 : ¬ (4000 : Int) < n := by omega
  clear hf
  clear hc hr
  go_enter Try.func6, Try.ntmps6
  go_upto_region 1 with fail
  generalize w.alloc (.cells #[.int .i64 R, .slice A n c] 38) = W at *
  have p0 := HB0.out.cell 0
  have p1 := HB0.out.cell 1
  have pl := HB0.out.lt
  simp at p0 p1
  go_wp2_with (first | (go_at_call 15; (with_reducible refine (KCV.out _ HC.out).mono ?_); rintro e w1 ⟨rfl, hb1⟩; replace hbW := bnext hbW hb1; replace HC := hid_ (HC.out.to hb1); replace HR := hid_ (HR.out.to hb1); replace HB0 := hid_ (HB0.out.to hb1); replace p0 := keepc hb1 p0; replace p1 := keepc hb1 p1; replace pl := Nat.lt_of_lt_of_le pl hb1.size; clear hb1) | (go_at_call 7; (with_reducible refine (awake_any _).mono ?_); rintro e w99 ⟨rfl, hb99⟩))
  go_ret
  exact ⟨rfl, bnext hbW hb99⟩

set_option maxRecDepth 100000 in
set_option maxHeartbeats 8000000 in
theorem runs_long (R : Int) (A A4 : Option Addr) (n c m c4 N : Nat) (code : List Cn.Ins) (l : List Int) (w : World) (hc : Cn.CodeAt w w.heap.size A n code) (hr : Cn.IntsAt w w.heap.size A4 m l) (hN : N ≤ 255) (hm : m ≤ 17592186044416) (hn : n ≤ 4000) (hf : Cn.vCode R code = true) (hR : ¬ 6 < R) (hml : 100 < m) :
    Calls Try.prog 6 #[.agg #[.int .i64 R, .slice A n c], .slice A4 m c4, .int .u8 (N : Int)] w fun e w' => e = .returned (.bool true) ∧ Below w.heap.size w w' := by
  have hbW := below1 w (.cells #[.int .i64 R, .slice A n c] 38)
  have HC := hid_ (hc.to hbW)
  have HR := hid_ (hr.to hbW)
  have HB0 := hid_ (Blk.new w 38 #[.int .i64 R, .slice A n c])
  have KCV : Hid (∀ Y, Cn.CodeAt Y Y.heap.size A n code → Calls Try.prog 15 #[.agg #[.int .i64 R, .slice A n c]] Y fun e w' => e = .returned (.bool true) ∧ Below Y.heap.size Y w') := hid_ (fun Y h1 => (Cn.rvalid_any R A n c code Y h1).mono fun e w' h => by rw [hf] at h; exact h)
  have hn2 : ¬ (4000 : Int) < n := by omega
  have hm2 : (100 : Int) < m := by omega
  clear hf
  clear hc hr
  go_enter Try.func6, Try.ntmps6
  go_upto_region 1 with fail
  generalize w.alloc (.cells #[.int .i64 R, .slice A n c] 38) = W at *
  have p0 := HB0.out.cell 0
  have p1 := HB0.out.cell 1
  have pl := HB0.out.lt
  simp at p0 p1
  go_wp2_with (first | (go_at_call 15; (with_reducible refine (KCV.out _ HC.out).mono ?_); rintro e w1 ⟨rfl, hb1⟩; replace hbW := bnext hbW hb1; replace HC := hid_ (HC.out.to hb1); replace HR := hid_ (HR.out.to hb1); replace HB0 := hid_ (HB0.out.to hb1); replace p0 := keepc hb1 p0; replace p1 := keepc hb1 p1; replace pl := Nat.lt_of_lt_of_le pl hb1.size; clear hb1) | (go_at_call 7; (with_reducible refine (awake_any _).mono ?_); rintro e w99 ⟨rfl, hb99⟩))
  go_ret
  exact ⟨rfl, bnext hbW hb99⟩

set_option maxRecDepth 100000 in
set_option maxHeartbeats 8000000 in
theorem runs_size (R : Int) (A A4 : Option Addr) (n c m c4 N : Nat) (code : List Cn.Ins) (l : List Int) (w : World) (hc : Cn.CodeAt w w.heap.size A n code) (hr : Cn.IntsAt w w.heap.size A4 m l) (hN : N ≤ 255) (hm : m ≤ 17592186044416) (hn : n ≤ 4000) (hf : Cn.vCode R code = true) (hR : ¬ 6 < R) (hml : m ≤ 100) (hs : 2000 < sizeL (code.map sOf)) :
    Calls Try.prog 6 #[.agg #[.int .i64 R, .slice A n c], .slice A4 m c4, .int .u8 (N : Int)] w fun e w' => e = .returned (.bool true) ∧ Below w.heap.size w w' := by
  have hbW := below1 w (.cells #[.int .i64 R, .slice A n c] 38)
  have HC := hid_ (hc.to hbW)
  have HR := hid_ (hr.to hbW)
  have HB0 := hid_ (Blk.new w 38 #[.int .i64 R, .slice A n c])
  have KCV : Hid (∀ Y, Cn.CodeAt Y Y.heap.size A n code → Calls Try.prog 15 #[.agg #[.int .i64 R, .slice A n c]] Y fun e w' => e = .returned (.bool true) ∧ Below Y.heap.size Y w') := hid_ (fun Y h1 => (Cn.rvalid_any R A n c code Y h1).mono fun e w' h => by rw [hf] at h; exact h)
  have hn2 : ¬ (4000 : Int) < n := by omega
  have hm2 : ¬ (100 : Int) < m := by omega
  have KTW : Hid (∀ Y, Cn.CodeAt Y Y.heap.size A n code → Calls Try.prog 14 #[.agg #[.int .i64 R, .slice A n c]] Y fun e w' => ∃ B c1 D c2, e = .returned (.tuple #[.agg #[.int .i64 0, .slice B 0 c1], .slice D 0 c2, .int .i64 4]) ∧ Below Y.heap.size Y w') := hid_ (fun Y h => two_nil R A n c code Y h 4 (by rw [twoS, if_neg (by rw [hf]; simp), if_neg hR, if_pos hs]))
  clear hf hs
  clear hc hr
  go_enter Try.func6, Try.ntmps6
  go_upto_region 1 with fail
  generalize w.alloc (.cells #[.int .i64 R, .slice A n c] 38) = W at *
  have p0 := HB0.out.cell 0
  have p1 := HB0.out.cell 1
  have pl := HB0.out.lt
  simp at p0 p1
  go_wp2_with (first | (go_at_call 15; (with_reducible refine (KCV.out _ HC.out).mono ?_); rintro e w1 ⟨rfl, hb1⟩; replace hbW := bnext hbW hb1; replace HC := hid_ (HC.out.to hb1); replace HR := hid_ (HR.out.to hb1); replace HB0 := hid_ (HB0.out.to hb1); replace p0 := keepc hb1 p0; replace p1 := keepc hb1 p1; replace pl := Nat.lt_of_lt_of_le pl hb1.size; clear hb1) | (go_at_call 14; (with_reducible refine (KTW.out _ HC.out).mono ?_); rintro e w2 ⟨B, c1, D, c2, rfl, hb2⟩; replace hbW := bnext hbW hb2) | (go_at_call 7; (with_reducible refine (awake_any _).mono ?_); rintro e w99 ⟨rfl, hb99⟩))
  go_ret
  exact ⟨rfl, bnext hbW (bnext (below1 _ _) hb99)⟩

set_option maxRecDepth 100000 in
set_option maxHeartbeats 8000000 in
theorem runs_ok (R : Int) (A A4 : Option Addr) (n c m c4 N : Nat) (code : List Cn.Ins) (l : List Int) (w : World) (hc : Cn.CodeAt w w.heap.size A n code) (hr : Cn.IntsAt w w.heap.size A4 m l) (hN : N ≤ 255) (hm : m ≤ 17592186044416) (hn : n ≤ 4000) (hf : Cn.vCode R code = true) (hR : ¬ 6 < R) (hml : m ≤ 100) (hs : ¬ 2000 < sizeL (code.map sOf)) :
    Calls Try.prog 6 #[.agg #[.int .i64 R, .slice A n c], .slice A4 m c4, .int .u8 (N : Int)] w fun e w' => e = .returned (.bool true) ∧ Below w.heap.size w w' := by
  have hbW := below1 w (.cells #[.int .i64 R, .slice A n c] 38)
  have HC := hid_ (hc.to hbW)
  have HR := hid_ (hr.to hbW)
  have HB0 := hid_ (Blk.new w 38 #[.int .i64 R, .slice A n c])
  have KCV : Hid (∀ Y, Cn.CodeAt Y Y.heap.size A n code → Calls Try.prog 15 #[.agg #[.int .i64 R, .slice A n c]] Y fun e w' => e = .returned (.bool true) ∧ Below Y.heap.size Y w') := hid_ (fun Y h1 => (Cn.rvalid_any R A n c code Y h1).mono fun e w' h => by rw [hf] at h; exact h)
  have hn2 : ¬ (4000 : Int) < n := by omega
  have hm2 : ¬ (100 : Int) < m := by omega
  have hlm := hr.len
  have hlc := hc.len
  obtain ⟨hr1, _, hn1, _⟩ := Cn.vCode_reg hf
  have hn0 : 0 < n := by omega
  obtain ⟨Q, hQ⟩ : ∃ Q : Nat, Q = R.toNat := ⟨_, rfl⟩
  have hRQ : R = (Q : Int) := by omega
  subst hRQ
  obtain ⟨L, hL⟩ : ∃ L, L = sizeL (code.map sOf) := ⟨_, rfl⟩
  obtain ⟨i0, hi, hz0, hz1, hz2⟩ := info_parts Try.infoI
  have HLM := hid_ hlm
  have HLC := hid_ hlc
  have KTW : Hid (∀ Y, Cn.CodeAt Y Y.heap.size A n code → Calls Try.prog 14 #[.agg #[.int .i64 (Q : Int), .slice A n c]] Y fun e w' => ∃ b off c1 b2 off2 c2, e = .returned (.tuple #[.agg #[.int .i64 2, .slice (some ⟨b, off, none⟩) L c1], .slice (some ⟨b2, off2, none⟩) n c2, .int .i64 0]) ∧ b < w'.heap.size ∧ Cn.CodeIn w' b off (qOf code) ∧ b2 < w'.heap.size ∧ Cn.IntsIn w' b2 off2 (pOf code) ∧ Below Y.heap.size Y w') := hid_ (fun Y h => by rw [hL]; exact two_ok (Q : Int) _ n c code Y h hf hR hs)
  have KNE : Hid (∀ Y b off c1 b2 off2 c2 b4 o4 c4 a rs, Cn.Good Q code a rs → Cn.CodeAt Y Y.heap.size A n code → b4 < Y.heap.size → Cn.IntsIn Y b4 o4 rs → b < Y.heap.size → Cn.CodeIn Y b off (qOf code) → b2 < Y.heap.size → Cn.IntsIn Y b2 off2 (pOf code) → Calls Try.prog 19 #[.agg #[.int .i64 (Q : Int), .slice A n c], .agg #[.int .i64 2, .slice (some ⟨b, off, none⟩) L c1], .slice (some ⟨b2, off2, none⟩) n c2, .agg #[.int .i64 (a : Int), .slice (some ⟨b4, o4, none⟩) Q c4], .int .i64 3000] Y fun e w' => ∃ (a' : Nat) (rs' : List Int) (b' o' c' : Nat) (dn : Bool), e = .returned (.tuple #[.agg #[.int .i64 (a' : Int), .slice (some ⟨b', o', none⟩) Q c'], .bool dn, .bool true]) ∧ Cn.Good Q code a' rs' ∧ b' < w'.heap.size ∧ Cn.IntsIn w' b' o' rs' ∧ (b' = b4 ∨ Y.heap.size ≤ b') ∧ Below Y.heap.size Y w') := hid_ (fun Y b off c1 b2 off2 c2 b4 o4 c4 a rs hg h1 h2 h2' h3 h4 h5 h6 => by
    obtain ⟨b0, o0, rfl, k1, k2⟩ := h1.at_ hn0
    have h := next_any (Q : Int) b0 o0 n c b off c1 b2 off2 c2 b4 o4 Q c4 a L code rs 3000 Y (by omega) hf hR hs hL.symm (by rw [Int.toNat_natCast]; exact hg) (by omega) hlc k1 k2 h3 h4 h5 h6 h2 h2'
    unfold NextRan at h
    rw [Int.toNat_natCast] at h
    exact h)
  have KOP : Hid (∀ (k : Nat) (i : Cn.Ins), code[k]? = some i → ∃ (s : Nat) (x : Cn.Ins), (pOf code)[k]? = some (s : Int) ∧ s < L ∧ (qOf code)[s]? = some x ∧ (x.op = 2 ↔ i.op = 2)) := hid_ (fun k i hk => by
    obtain ⟨x, h1, h2⟩ := halt_at hk (Cn.vIns_op (Cn.vCode_ins hf hk))
    have hkl := (List.getElem?_eq_some_iff.1 hk).1
    have h3 := size_lt (p := code.map sOf) (a := k) (b := (code.map sOf).length) (by rw [List.length_map]; exact hkl) (by rw [List.length_map]; exact hkl)
    rw [List.take_length, ← hL] at h3
    exact ⟨_, x, pOf_at hkl, h3, h1, h2⟩)
  have hQ6 : 1 ≤ Q ∧ Q ≤ 6 := by omega
  have HCL : Hid (0 < code.length) := hid_ (by omega)
  clear hf hs hL hlm hlc hQ hr1
  clear hc hr
  go_enter Try.func6, Try.ntmps6
  go_upto_region 1 with fail
  generalize w.alloc (.cells #[.int .i64 (Q : Int), .slice A n c] 38) = W at *
  have p0 := HB0.out.cell 0
  have p1 := HB0.out.cell 1
  have pl := HB0.out.lt
  simp at p0 p1
  go_upto_region 4 with (first | (go_at_call 15; (with_reducible refine (KCV.out _ HC.out).mono ?_); rintro e w1 ⟨rfl, hb1⟩; replace hbW := bnext hbW hb1; replace HC := hid_ (HC.out.to hb1); replace HR := hid_ (HR.out.to hb1); replace HB0 := hid_ (HB0.out.to hb1); replace p0 := keepc hb1 p0; replace p1 := keepc hb1 p1; replace pl := Nat.lt_of_lt_of_le pl hb1.size; clear hb1) | (go_at_call 14; (with_reducible refine (KTW.out _ HC.out).mono ?_); rintro e w2 ⟨b, off, c1, b2, off2, c2, rfl, hbl, hq, hbl2, hp, hb2⟩))
  have hbx := hb2.alloc hb2.size (.cells #[.int .i64 2, .slice (some ⟨b, off, none⟩) L c1] 38)
  have HQ := hid_ (hq.below (below1 w2 (.cells #[.int .i64 2, .slice (some ⟨b, off, none⟩) L c1] 38)) hbl)
  have HP := hid_ (hp.below (below1 w2 (.cells #[.int .i64 2, .slice (some ⟨b, off, none⟩) L c1] 38)) hbl2)
  have HBQ := hid_ (Blk.new w2 38 #[.int .i64 2, .slice (some ⟨b, off, none⟩) L c1])
  have hs2 : (w2.alloc (.cells #[.int .i64 2, .slice (some ⟨b, off, none⟩) L c1] 38)).heap.size = w2.heap.size + 1 := by simp
  replace hbl : b < (w2.alloc (.cells #[.int .i64 2, .slice (some ⟨b, off, none⟩) L c1] 38)).heap.size := by omega
  replace hbl2 : b2 < (w2.alloc (.cells #[.int .i64 2, .slice (some ⟨b, off, none⟩) L c1] 38)).heap.size := by omega
  replace hbW := bnext hbW hbx
  replace HC := hid_ (HC.out.to hbx)
  replace HR := hid_ (HR.out.to hbx)
  replace HB0 := hid_ (HB0.out.to hbx)
  replace p0 := keepc hbx p0
  replace p1 := keepc hbx p1
  replace pl := Nat.lt_of_lt_of_le pl hbx.size
  clear hs2 hq hp hb2 hbx
  generalize w2.alloc (.cells #[.int .i64 2, .slice (some ⟨b, off, none⟩) L c1] 38) = W2 at *
  have z0 := HBQ.out.cell 0
  have z1 := HBQ.out.cell 1
  have zl := HBQ.out.lt
  simp at z0 z1
  have hmk : ∀ Y : World, (Instr.makeSlice 22 (.int .i64 (Q : Int)) (.int .i64 (Q : Int))).run Try.prog Y = .ok (.slice (some ⟨Y.heap.size, 0, none⟩) Q Q) (Y.alloc (.cells (cells8 [] Q) 3)) := fun Y => by
    have := run_make (P := Try.prog) (w := Y) 22 3 i0 (.int .i64 0) Try.underlying22 hi hz0 .i64 .i64 Q Q (by omega) (by omega) (by rw [hz2]; omega) (by omega)
    rw [hz1, Int.toNat_natCast, show madeCells (Value.int .i64 0).cells (Q * 1) = cells8 [] Q from Array.ext' ((made_ints Q).trans (by simp [cells8]))] at this
    exact this
  go_upto_region 7 with fail
  have HG0 : Hid (Blk ((W2.alloc (.cells (cells8 [] Q) 3)).alloc (.cells #[.int .i64 0, .slice (some ⟨W2.heap.size, 0, none⟩) Q Q] 47)) W2.heap.size 3 (ints (List.replicate Q 0)).toArray) := hid_ (by
    have h := (Blk.new W2 3 (cells8 [] Q)).alloc (.cells #[.int .i64 0, .slice (some ⟨W2.heap.size, 0, none⟩) Q Q] 47)
    rw [show cells8 [] Q = (ints (List.replicate Q 0)).toArray by simp [cells8]] at h ⊢
    exact h)
  have HC0 : Hid (Blk ((W2.alloc (.cells (cells8 [] Q) 3)).alloc (.cells #[.int .i64 0, .slice (some ⟨W2.heap.size, 0, none⟩) Q Q] 47)) (W2.heap.size + 1) 47 #[.int .i64 0, .slice (some ⟨W2.heap.size, 0, none⟩) Q Q]) := hid_ (by
    have h := Blk.new (W2.alloc (.cells (cells8 [] Q) 3)) 47 #[.int .i64 0, .slice (some ⟨W2.heap.size, 0, none⟩) Q Q]
    rw [show (W2.alloc (.cells (cells8 [] Q) 3)).heap.size = W2.heap.size + 1 by simp] at h
    exact h)
  have hbX := below2 W2 (.cells (cells8 [] Q) 3) (.cells #[.int .i64 0, .slice (some ⟨W2.heap.size, 0, none⟩) Q Q] 47)
  clear hmk
  generalize (W2.alloc (.cells (cells8 [] Q) 3)).alloc (.cells #[.int .i64 0, .slice (some ⟨W2.heap.size, 0, none⟩) Q Q] 47) = X0 at *
  go_upto_block 0 with fail
  go_cut [] (fun wx => ∃ rs : List Int, rs.length = Q ∧ Hid (∀ x ∈ rs, 0 ≤ x ∧ x ≤ 60) ∧ Hid (Blk wx W2.heap.size 3 (ints rs).toArray) ∧ Hid (Blk wx (W2.heap.size + 1) 47 #[.int .i64 0, .slice (some ⟨W2.heap.size, 0, none⟩) Q Q]) ∧ Below W2.heap.size W2 wx)
  case first => as_aux_lemma =>
    go_wp2_with fail
    go_loopw [11] (fun a wr => ∃ (k : Nat) (rs : List Int), a = .int .i64 (k : Int) ∧ k ≤ Q ∧ rs.length = Q ∧ Hid (∀ x ∈ rs, 0 ≤ x ∧ x ≤ 60) ∧ Hid (Blk wr W2.heap.size 3 (ints rs).toArray) ∧ Hid (Blk wr (W2.heap.size + 1) 47 #[.int .i64 0, .slice (some ⟨W2.heap.size, 0, none⟩) Q Q]) ∧ Below W2.heap.size W2 wr) (fun a _ => Q - (intOf a).toNat)
    case atStart => exact ⟨0, List.replicate Q 0, rfl, Nat.zero_le _, by simp, hid_ (fun x hx => by rw [List.mem_replicate] at hx; omega), HG0, HC0, hbX⟩
    case round =>
      clear HG0 HC0 hbX
      obtain ⟨k, rs, rfl, hk, hlr, HX, HG, HCB, hbr⟩ := hrel
      have r0 := keepc hbr p0
      have g1 := HCB.out.cell 1
      simp at g1
      have HBR := hid_ hbr
      have hgl := HG.out.lt
      have hcl := HCB.out.lt
      by_cases hk1 : k < Q
      · by_cases hk2 : k < m
        · obtain ⟨x, hx⟩ : ∃ x, l[k]? = some x := ⟨_, List.getElem?_eq_getElem (by rw [HLM.out]; exact hk2)⟩
          obtain ⟨b5, o5, hA5, hb5, hin⟩ := HR.out.at_ (by omega)
          have l0 := keepc hbr (hin k x hx)
          have hb5r : b5 < wr.heap.size := Nat.lt_of_lt_of_le hb5 hbr.size
          subst hA5
          clear hx hin hbr
          have t1 : 0 ≤ (k : Int) := by omega
          by_cases hx0 : x < 0
          · go_wp2_with (go_at_call 7; (with_reducible refine (awake_any _).mono ?_); rintro e w99 ⟨rfl, hb99⟩)
            go_ret
            exact ⟨rfl, bnext hbW (bnext HBR.out hb99)⟩
          · by_cases hx6 : 60 < x
            · go_wp2_with (go_at_call 7; (with_reducible refine (awake_any _).mono ?_); rintro e w99 ⟨rfl, hb99⟩)
              go_ret
              exact ⟨rfl, bnext hbW (bnext HBR.out hb99)⟩
            · have gk := HG.out.cell k
              have fk := HG.out.free k
              obtain ⟨y, hy⟩ : ∃ y, rs[k]? = some y := ⟨_, List.getElem?_eq_getElem (by omega)⟩
              rw [show (ints rs).toArray[k]? = some (.int .i64 y) by simp [ints, hy]] at gk
              clear hy
              go_upto_region 12 with fail
              go_region
              go_wp2_with fail
              go_round
              case rel =>
                refine ⟨k + 1, rs.set k x, by go_num, by omega, by rw [List.length_set]; exact hlr, hid_ (fun z hz => by
                  rcases List.mem_or_eq_of_mem_set hz with h | h
                  · exact HX.out z h
                  · omega), hid_ ?_, hid_ (HCB.out.far (p := ⟨W2.heap.size, k, none⟩) (by simp only; omega) _), ?_⟩
                · have h := HG.out.set_ k (.int .i64 x)
                  rw [show (ints rs).toArray.setIfInBounds k (.int .i64 x) = (ints (rs.set k x)).toArray by simp [← ints_set]] at h
                  exact h
                · have h : Below W2.heap.size W2 (wr.setCell ⟨W2.heap.size, k, none⟩ (.int .i64 x)) := HBR.out.setCell (Nat.le_refl _) _
                  exact h.drew
              case measure => simp [intOf]; omega
        · go_wp2_with fail
          go_meet
          exact ⟨rs, hlr, HX, HG, HCB, HBR.out⟩
      · go_wp2_with fail
        go_meet
        exact ⟨rs, hlr, HX, HG, HCB, HBR.out⟩
  case rest => as_aux_lemma =>
    obtain ⟨rs, hlr, HX, HG, HCB, hbr⟩ := hcut
    obtain ⟨X1, rfl⟩ : ∃ X : World, X = wc := ⟨_, rfl⟩
    have HIN : Hid (Cn.IntsIn X1 W2.heap.size 0 rs) := hid_ (fun j z hj => by
      rw [HG.out.cell]
      simp [ints, hj])
    have HGD : Hid (Cn.Good Q code 0 rs) := hid_ ⟨HCL.out, hlr, fun z hz => by have := HX.out z hz; omega⟩
    have HWX := hid_ hbr
    have hgl := HG.out.lt
    clear HG0 HC0 hbX hbr HG HX hlr
    obtain ⟨K, hK⟩ : ∃ K, K = N % 61 := ⟨_, rfl⟩
    have w1x : IntKind.i64.wrap (N : Int) = (N : Int) := IntWalk.i64_in _ (by omega)
    have w2x : (N : Int).tmod 61 = (K : Int) := by rw [hK]; rfl
    have hK60 : K ≤ 60 := by omega
    clear hK
    go_upto_block 2 with fail
    go_cut [] (fun wx => ∃ (a0 b4 o4 c4 : Nat) (rs : List Int), Cn.Good Q code a0 rs ∧ Hid (Blk wx (W2.heap.size + 1) 47 #[.int .i64 (a0 : Int), .slice (some ⟨b4, o4, none⟩) Q c4]) ∧ Below W2.heap.size W2 wx)
    case first => as_aux_lemma =>
      go_wp2_with fail
      go_loopw [12] (fun a wr => ∃ (k a0 b4 o4 c4 : Nat) (rs : List Int), a = .int .i64 (k : Int) ∧ k ≤ K ∧ Hid (Cn.Good Q code a0 rs) ∧ b4 < wr.heap.size ∧ b4 ≠ W2.heap.size + 1 ∧ Hid (Cn.IntsIn wr b4 o4 rs) ∧ Hid (Blk wr (W2.heap.size + 1) 47 #[.int .i64 (a0 : Int), .slice (some ⟨b4, o4, none⟩) Q c4]) ∧ Below W2.heap.size W2 wr) (fun a _ => K - (intOf a).toNat)
      case atStart => exact ⟨0, 0, W2.heap.size, 0, Q, rs, rfl, Nat.zero_le _, HGD, hgl, by omega, HIN, HCB, HWX.out⟩
      case round =>
        clear HGD HIN HCB hgl
        obtain ⟨k, a0, b4, o4, c4', rs', rfl, hk, HGD, hb4, hne, HIN, HCB, hbr⟩ := hrel
        have HBR := hid_ hbr
        have p0' := keepc hbr p0
        have p1' := keepc hbr p1
        have z0' := keepc hbr z0
        have z1' := keepc hbr z1
        have g0 := HCB.out.cell 0
        have g1 := HCB.out.cell 1
        have f0 := HCB.out.free 0
        have f1 := HCB.out.free 1
        have gl := HCB.out.lt
        have hpl : w.heap.size < wr.heap.size := Nat.lt_of_lt_of_le pl hbr.size
        have hzl : w2.heap.size < wr.heap.size := Nat.lt_of_lt_of_le zl hbr.size
        simp at g0 g1
        have HNE := hid_ hne
        clear hne
        by_cases hlt : k < K
        · have KN : Hid (∃ Z : World, Z = wr) := hid_ ⟨_, rfl⟩
          clear KN
          go_upto_region 17 with (go_at_call 19; (with_reducible refine (KNE.out _ _ _ _ _ _ _ _ _ _ _ _ HGD.out (HC.out.to hbr) hb4 HIN.out (Nat.lt_of_lt_of_le hbl hbr.size) (HQ.out.below hbr hbl) (Nat.lt_of_lt_of_le hbl2 hbr.size) (HP.out.below hbr hbl2)).mono ?_); rintro e w5 ⟨a5, rs5, b5, o5, c5, dn, rfl, hg5, hb5, hi5, hn5, hbb⟩)
          have hx6 := hbb.alloc hbb.size (.cells #[.int .i64 (a5 : Int), .slice (some ⟨b5, o5, none⟩) Q c5] 47)
          have HD := hid_ (Blk.new w5 47 #[.int .i64 (a5 : Int), .slice (some ⟨b5, o5, none⟩) Q c5])
          have HI5 := hid_ (hi5.below (below1 w5 (.cells #[.int .i64 (a5 : Int), .slice (some ⟨b5, o5, none⟩) Q c5] 47)) hb5)
          have hs5 : (w5.alloc (.cells #[.int .i64 (a5 : Int), .slice (some ⟨b5, o5, none⟩) Q c5] 47)).heap.size = w5.heap.size + 1 := by simp
          have HB5 : Hid (b5 < (w5.alloc (.cells #[.int .i64 (a5 : Int), .slice (some ⟨b5, o5, none⟩) Q c5] 47)).heap.size ∧ b5 ≠ W2.heap.size + 1) := hid_ ⟨by omega, by have := HNE.out; omega⟩
          have HG5 := hid_ hg5
          have HC6 := hid_ (HCB.out.to hx6)
          have HB6 := hid_ (bnext hbr hx6)
          clear hx6 hi5 hs5 hb5 hn5 hbb hg5 g0 g1 f0 f1 gl p0' p1' z0' z1' hpl hzl hbr
          generalize w5.alloc (.cells #[.int .i64 (a5 : Int), .slice (some ⟨b5, o5, none⟩) Q c5] 47) = W6 at *
          have g0 := HC6.out.cell 0
          have g1 := HC6.out.cell 1
          have f0 := HC6.out.free 0
          have f1 := HC6.out.free 1
          have d0 := HD.out.cell 0
          have d1 := HD.out.cell 1
          simp at g0 g1 d0 d1
          cases dn with
          | true =>
            go_wp2_with fail
            go_meet
            exact ⟨a0, b4, o4, c4', rs', HGD.out, HC6, HB6.out⟩
          | false =>
            go_wp2_with fail
            go_round
            case rel =>
              have hbz := (HC6.out.set_ 0 (.int .i64 (a5 : Int))).set_ 1 (.slice (some ⟨b5, o5, none⟩) Q c5)
              simp at hbz
              exact ⟨k + 1, a5, b5, o5, c5, rs5, by go_num, by omega, HG5, by rw [set_size, set_size]; exact HB5.out.1, HB5.out.2, hid_ (ints_two HI5.out HB5.out.2 _ _), hid_ hbz, below_two HB6.out (by omega) _ _⟩
            case measure => simp [intOf]; omega
        · go_wp2_with fail
          go_meet
          exact ⟨a0, b4, o4, c4', rs', HGD.out, HCB, HBR.out⟩
    case rest => as_aux_lemma =>
      obtain ⟨a0, b4, o4, c4', rs', hgd, HCB, hbr⟩ := hcut
      obtain ⟨X2, rfl⟩ : ∃ X : World, X = wc := ⟨_, rfl⟩
      obtain ⟨i, hi⟩ : ∃ i, code[a0]? = some i := ⟨_, List.getElem?_eq_getElem hgd.lt⟩
      obtain ⟨s, x, h1, h2, h3, h4⟩ := KOP.out a0 i hi
      have hal : a0 < n := by have := hgd.lt; have := HLC.out; omega
      obtain ⟨b0, o0, hA0, hb0, hin0⟩ := HC.out.at_ (by omega)
      subst hA0
      have p1' := keepc hbr p1
      have z1' := keepc hbr z1
      have i0 := keepc hbr (hin0 a0 i hi).1
      have i1 := keepc hbr (HP.out a0 _ h1)
      have i2 := keepc hbr (HQ.out s x h3).1
      have g0 := HCB.out.cell 0
      simp at g0
      have HBR := hid_ hbr
      have hx : (i.op = 2 ∧ x.op = 2) ∨ (¬ i.op = 2 ∧ ¬ x.op = 2) := by
        by_cases h : i.op = 2
        · exact .inl ⟨h, h4.2 h⟩
        · exact .inr ⟨h, fun e => h (h4.1 e)⟩
      have t1 : (s : Int) < (L : Int) := by omega
      have t2 : 0 ≤ (s : Int) := by omega
      have t3 : (a0 : Int) < (n : Int) := by omega
      have t4 : 0 ≤ (a0 : Int) := by omega
      have t5 : ¬ (a0 : Int) < 0 := by omega
      have t6 : ¬ (n : Int) ≤ (a0 : Int) := by omega
      have t7 : ¬ (s : Int) < 0 := by omega
      have t8 : ¬ (L : Int) ≤ (s : Int) := by omega
      obtain ⟨op, rg, nx, zr⟩ := i
      obtain ⟨op2, rg2, nx2, zr2⟩ := x
      simp only at hx i0 i2
      have HX := hid_ hx
      clear h1 h3 h4 hgd hbr HC HR HQ HP HBQ HB0 HIN HGD HCB p0 z0 hx hin0
      go_upto_region 21 with fail
      go_quiet (fail)
      rcases HX.out with ⟨rfl, rfl⟩ | ⟨g1, g2⟩
      · go_upto_region 23 with fail
        go_region_held3 (fun w' => w'.cell? ⟨w.heap.size, 1, none⟩ = some (.slice (some ⟨b0, o0, none⟩) n c) ∧ w'.cell? ⟨w2.heap.size, 1, none⟩ = some (.slice (some ⟨b, off, none⟩) L c1) ∧ w'.cell? ⟨W2.heap.size + 1, 0, none⟩ = some (.int .i64 (a0 : Int)) ∧ w'.cell? ⟨b2, off2 + a0, none⟩ = some (.int .i64 (s : Int)) ∧ w'.cell? ⟨b0, o0 + a0 * 4, none⟩ = some (.int .i64 2) ∧ w'.cell? ⟨b, off + s * 4, none⟩ = some (.int .i64 2))
          (first
            | (with_reducible assumption)
            | (with_reducible exact (let hb := below_drewN (Below.refl X2.heap.size X2) _; ⟨keepc hb p1', keepc hb z1', keepc hb g0, keepc hb i1, keepc hb i0, keepc hb i2⟩))
            | (with_reducible exact (let hb := (below_drewN (Below.refl X2.heap.size X2) _).drew; ⟨keepc hb p1', keepc hb z1', keepc hb g0, keepc hb i1, keepc hb i0, keepc hb i2⟩))
            | (with_reducible exact (let hb := H9.out; ⟨keepc hb p1', keepc hb z1', keepc hb g0, keepc hb i1, keepc hb i0, keepc hb i2⟩))
            | (go_keep; done))
          (first
            | (go_at_call 7; (with_reducible refine (awake_any _).mono ?_); rintro e w99 ⟨rfl, hb99⟩; have H9 : Hid (Below X2.heap.size X2 w99) := hid_ (hb99.drewNl); clear hb99))
        go_wp2_with fail
        go_ret
        exact ⟨rfl, bnext hbW (bnext HBR.out H9.out)⟩
      · have e1 : (op2 == 2) = false := by simpa using g2
        have e2 : (op == 2) = false := by simpa using g1
        go_upto_region 23 with fail
        go_region_held3 (fun w' => w'.cell? ⟨w.heap.size, 1, none⟩ = some (.slice (some ⟨b0, o0, none⟩) n c) ∧ w'.cell? ⟨w2.heap.size, 1, none⟩ = some (.slice (some ⟨b, off, none⟩) L c1) ∧ w'.cell? ⟨W2.heap.size + 1, 0, none⟩ = some (.int .i64 (a0 : Int)) ∧ w'.cell? ⟨b2, off2 + a0, none⟩ = some (.int .i64 (s : Int)) ∧ w'.cell? ⟨b0, o0 + a0 * 4, none⟩ = some (.int .i64 op) ∧ w'.cell? ⟨b, off + s * 4, none⟩ = some (.int .i64 op2))
          (first
            | (with_reducible assumption)
            | (with_reducible exact (let hb := below_drewN (Below.refl X2.heap.size X2) _; ⟨keepc hb p1', keepc hb z1', keepc hb g0, keepc hb i1, keepc hb i0, keepc hb i2⟩))
            | (with_reducible exact (let hb := (below_drewN (Below.refl X2.heap.size X2) _).drew; ⟨keepc hb p1', keepc hb z1', keepc hb g0, keepc hb i1, keepc hb i0, keepc hb i2⟩))
            | (with_reducible exact (let hb := H9.out; ⟨keepc hb p1', keepc hb z1', keepc hb g0, keepc hb i1, keepc hb i0, keepc hb i2⟩))
            | (go_keep; done))
          (first
            | (go_at_call 7; (with_reducible refine (awake_any _).mono ?_); rintro e w99 ⟨rfl, hb99⟩; have H9 : Hid (Below X2.heap.size X2 w99) := hid_ (hb99.drewNl); clear hb99))
        go_wp2_with fail
        go_ret
        exact ⟨rfl, bnext hbW (bnext HBR.out H9.out)⟩
end Go.Proofs.Ytckabinmmficlaa.Pp

/- The law TopTwo, way by way. -/
import Derived.Test.YtonammaecpapmaaEa
import Derived.Test.YtonammaecpapmaaTo
namespace Go.Proofs.Ytonammaecpapmaa.Pp
open Go.RowKit

theorem step_three {R : Int} {code : List Cn.Ins} {a : Nat} {rs : List Int} (hv : Cn.vCode R code = true) (hg : Cn.Good R.toNat code a rs) :
    (Cn.stp code a rs = none ∧ Cn.stepS R code a rs = ⟨0, [], 0, 5⟩) ∨ Cn.stepS R code a rs = ⟨0, [], 0, 4⟩ ∨ ∃ a' rs', Cn.stp code a rs = some (some (a', rs')) ∧ Cn.Good R.toNat code a' rs' ∧ Cn.stepS R code a rs = ⟨(a' : Int), rs', 1, 0⟩ := by
  have hR := Cn.vCode_reg hv
  have hf := Cn.good_fits (R := R.toNat) (by rw [Int.toNat_of_nonneg (by omega)]; exact hv) hg
  rw [Int.toNat_of_nonneg (by omega)] at hf
  cases hs : Cn.stp code a rs with
  | none =>
    left
    exact ⟨rfl, by rw [Cn.stepS, hf, if_neg (by simp), Int.toNat_natCast, if_pos hs]⟩
  | some o =>
    cases o with
    | none =>
      right; left
      rw [Cn.stepS, hf, if_neg (by simp), Int.toNat_natCast, hs, if_neg (by simp), Cn.runS_eq hf (by omega) (by omega), Int.toNat_natCast]
      simp [Cn.walkC, hs, Cn.resOf]
    | some s =>
      right; right
      exact ⟨s.1, s.2, rfl, hg.step (by rw [Int.toNat_of_nonneg (by omega)]; exact hv) hs, Cn.stepS_of hv hg hs⟩

theorem code_two {w1 : World} {b o r : Nat} {xs : List Cn.Ins} (h : Cn.CodeIn w1 b o xs) (hne : b ≠ r) (x y : Value) : Cn.CodeIn ((w1.setCell ⟨r, 0, none⟩ x).setCell ⟨r, 1, none⟩ y) b o xs := fun k z hk => by
  obtain ⟨h0, h1, h2, h3⟩ := h k z hk
  exact ⟨cell_two h0 hne _ _, cell_two h1 hne _ _, cell_two h2 hne _ _, cell_two h3 hne _ _⟩
theorem blk_two {w : World} {g r : Nat} {t : TypeId} {cs : Array Value} (h : Blk w g t cs) (hne : g ≠ r) (x y : Value) : Blk ((w.setCell ⟨r, 0, none⟩ x).setCell ⟨r, 1, none⟩ y) g t cs := (h.far (p := ⟨r, 0, none⟩) hne x).far (p := ⟨r, 1, none⟩) hne y
theorem encode_nil (A : Option Addr) (d : Nat) (w : World) : Calls Try.prog 7 #[.slice A 0 d] w fun e w' => e = .returned (.tuple #[.int .i64 0, .int .i64 2]) ∧ w = w' := by
  have hz : (0 : Int) < 1 := by omega
  go_enter Try.func7, Try.ntmps7
  go_wp2_with fail
  refine bodyPost_ret (v := .tuple #[.int .i64 0, .int .i64 2]) (by simp [results, Try.results7, go_sem]) rfl ?_
  exact ⟨rfl, rfl⟩
def encO : Option Nat → Int × Int
  | some n => ((n : Int), 0)
  | none => (0, 4)
theorem no_two {a x : Int} {v : Value} {o : Nat} (h : (#[Value.int .i64 a, v] : Array Value)[o + 1]? = some (.int .i64 x)) (hv : ∀ y, v ≠ .int .i64 y := by intro y e; cases e) : False := by
  match o with
  | 0 => simp at h; exact hv _ h
  | o + 1 => simp at h
/-- What stands still: the two machines, the points. -/
structure FF (P QB b0 o0 n c b off L c1 b2 off2 Q : Nat) (code : List Cn.Ins) (w : World) : Prop where
  bp : Blk w P 24 #[.int .i64 (Q : Int), .slice (some ⟨b0, o0, none⟩) n c]
  bq : Blk w QB 24 #[.int .i64 2, .slice (some ⟨b, off, none⟩) L c1]
  l0 : b0 < w.heap.size
  c0 : Cn.CodeIn w b0 o0 code
  l1 : b < w.heap.size
  cq : Cn.CodeIn w b off (qOf code)
  l2 : b2 < w.heap.size
  cp : Cn.IntsIn w b2 off2 (pOf code)
section
variable {P QB b0 o0 n c b off L c1 b2 off2 Q : Nat} {code : List Cn.Ins} {w w' : World}
theorem FF.to (h : FF P QB b0 o0 n c b off L c1 b2 off2 Q code w) (hb : Below w.heap.size w w') : FF P QB b0 o0 n c b off L c1 b2 off2 Q code w' :=
  ⟨h.bp.to hb, h.bq.to hb, Nat.lt_of_lt_of_le h.l0 hb.size, h.c0.below hb h.l0, Nat.lt_of_lt_of_le h.l1 hb.size, h.cq.below hb h.l1, Nat.lt_of_lt_of_le h.l2 hb.size, h.cp.below hb h.l2⟩
/-- None of its blocks is r. -/
structure Off (P QB b0 b b2 r : Nat) : Prop where
  p : P ≠ r
  q : QB ≠ r
  o0 : b0 ≠ r
  o1 : b ≠ r
  o2 : b2 ≠ r
theorem FF.two (h : FF P QB b0 o0 n c b off L c1 b2 off2 Q code w) {r : Nat} (ho : Off P QB b0 b b2 r) (x y : Value) : FF P QB b0 o0 n c b off L c1 b2 off2 Q code ((w.setCell ⟨r, 0, none⟩ x).setCell ⟨r, 1, none⟩ y) :=
  ⟨blk_two h.bp ho.p x y, blk_two h.bq ho.q x y, by rw [set_size, set_size]; exact h.l0, code_two h.c0 ho.o0 x y, by rw [set_size, set_size]; exact h.l1, code_two h.cq ho.o1 x y, by rw [set_size, set_size]; exact h.l2, ints_two h.cp ho.o2 x y⟩
end
/-- The two states: of the machine, and of the one with two registers. -/
structure SS (gc gd b4 o4 c4 d a Q n0 : Nat) (A : Option Addr) (code : List Cn.Ins) (rs : List Int) (w : World) : Prop where
  good : Cn.Good Q code a rs
  enc : encS 0 (natL rs) 1 = some n0
  small : n0 ≤ 9000
  bc : Blk w gc 29 #[.int .i64 (a : Int), .slice (some ⟨b4, o4, none⟩) Q c4]
  l4 : b4 < w.heap.size
  n4 : b4 ≠ gc ∧ b4 ≠ gd
  ir : Cn.IntsIn w b4 o4 rs
  bd : Blk w gd 29 #[.int .i64 ((sizeL ((code.map sOf).take a) : Nat) : Int), .slice A 2 d]
  ed : Elems w w.heap.size (.slice A 2 d) (ints [(n0 : Int), 0])
  nd : (Value.slice A 2 d).ownBlock ≠ some gc ∧ (Value.slice A 2 d).ownBlock ≠ some gd
theorem SS.to {gc gd b4 o4 c4 d a Q n0 : Nat} {A : Option Addr} {code : List Cn.Ins} {rs : List Int} {w w' : World} (h : SS gc gd b4 o4 c4 d a Q n0 A code rs w) (hb : Below w.heap.size w w') : SS gc gd b4 o4 c4 d a Q n0 A code rs w' :=
  ⟨h.good, h.enc, h.small, h.bc.to hb, Nat.lt_of_lt_of_le h.l4 hb.size, h.n4, h.ir.below hb h.l4, h.bd.to hb, h.ed.to hb, h.nd⟩

set_option maxRecDepth 100000 in
set_option maxHeartbeats 8000000 in
theorem two_bad (R N : Int) (A A4 : Option Addr) (n c m c4 : Nat) (code : List Cn.Ins) (l : List Int) (w : World) (hc : Cn.CodeAt w w.heap.size A n code) (hE : Elems w w.heap.size (.slice A4 m c4) (ints l)) (hm : m ≤ 17592186044416) (hf : Cn.vCode R code = false) :
    Calls Try.prog 3 #[.agg #[.int .i64 R, .slice A n c], .slice A4 m c4, .int .i64 N] w fun e w' => e = .returned (.bool true) ∧ Below w.heap.size w w' := by
  have hbW := below1 w (.cells #[.int .i64 R, .slice A n c] 24)
  have HC := hid_ (hc.to hbW)
  have HE := hid_ (hE.to hbW)
  have HB0 := hid_ (Blk.new w 24 #[.int .i64 R, .slice A n c])
  have KVA : Hid (∀ Y, Cn.CodeAt Y Y.heap.size A n code → Calls Try.prog 4 #[.agg #[.int .i64 R, .slice A n c]] Y fun e w' => e = .returned (.bool false) ∧ Below Y.heap.size Y w') := hid_ (fun Y h1 => (Cn.valid_any R A n c code Y h1).mono fun e w' h => by rw [hf] at h; exact h)
  clear hf
  clear hc hE
  go_enter Try.func3, Try.ntmps3
  go_upto_region 1 with fail
  generalize w.alloc (.cells #[.int .i64 R, .slice A n c] 24) = W at *
  have p0 := HB0.out.cell 0
  have p1 := HB0.out.cell 1
  have pl := HB0.out.lt
  simp at p0 p1
  go_wp2_with (first | (go_at_call 4; (with_reducible refine (KVA.out _ HC.out).mono ?_); rintro e w1 ⟨rfl, hb1⟩; replace hbW := bnext hbW hb1; replace HC := hid_ (HC.out.to hb1); replace HE := hid_ (HE.out.to hb1); replace HB0 := hid_ (HB0.out.to hb1); replace p0 := keepc hb1 p0; replace p1 := keepc hb1 p1; replace pl := Nat.lt_of_lt_of_le pl hb1.size; clear hb1) | (go_at_call 5; (with_reducible refine (Tp.lives_any _).mono ?_); rintro e w99 ⟨rfl, hb99⟩))
  go_ret
  exact ⟨rfl, bnext hbW hb99⟩

set_option maxRecDepth 100000 in
set_option maxHeartbeats 8000000 in
theorem two_regs (R N : Int) (A A4 : Option Addr) (n c m c4 : Nat) (code : List Cn.Ins) (l : List Int) (w : World) (hc : Cn.CodeAt w w.heap.size A n code) (hE : Elems w w.heap.size (.slice A4 m c4) (ints l)) (hm : m ≤ 17592186044416) (hf : Cn.vCode R code = true) (h3 : 3 < R) :
    Calls Try.prog 3 #[.agg #[.int .i64 R, .slice A n c], .slice A4 m c4, .int .i64 N] w fun e w' => e = .returned (.bool true) ∧ Below w.heap.size w w' := by
  have hbW := below1 w (.cells #[.int .i64 R, .slice A n c] 24)
  have HC := hid_ (hc.to hbW)
  have HE := hid_ (hE.to hbW)
  have HB0 := hid_ (Blk.new w 24 #[.int .i64 R, .slice A n c])
  have KVA : Hid (∀ Y, Cn.CodeAt Y Y.heap.size A n code → Calls Try.prog 4 #[.agg #[.int .i64 R, .slice A n c]] Y fun e w' => e = .returned (.bool true) ∧ Below Y.heap.size Y w') := hid_ (fun Y h1 => (Cn.valid_any R A n c code Y h1).mono fun e w' h => by rw [hf] at h; exact h)
  clear hf
  clear hc hE
  go_enter Try.func3, Try.ntmps3
  go_upto_region 1 with fail
  generalize w.alloc (.cells #[.int .i64 R, .slice A n c] 24) = W at *
  have p0 := HB0.out.cell 0
  have p1 := HB0.out.cell 1
  have pl := HB0.out.lt
  simp at p0 p1
  go_wp2_with (first | (go_at_call 4; (with_reducible refine (KVA.out _ HC.out).mono ?_); rintro e w1 ⟨rfl, hb1⟩; replace hbW := bnext hbW hb1; replace HC := hid_ (HC.out.to hb1); replace HE := hid_ (HE.out.to hb1); replace HB0 := hid_ (HB0.out.to hb1); replace p0 := keepc hb1 p0; replace p1 := keepc hb1 p1; replace pl := Nat.lt_of_lt_of_le pl hb1.size; clear hb1) | (go_at_call 5; (with_reducible refine (Tp.lives_any _).mono ?_); rintro e w99 ⟨rfl, hb99⟩))
  go_ret
  exact ⟨rfl, bnext hbW hb99⟩

set_option maxRecDepth 100000 in
set_option maxHeartbeats 8000000 in
theorem two_code (R N : Int) (A A4 : Option Addr) (n c m c4 : Nat) (code : List Cn.Ins) (l : List Int) (w : World) (hc : Cn.CodeAt w w.heap.size A n code) (hE : Elems w w.heap.size (.slice A4 m c4) (ints l)) (hm : m ≤ 17592186044416) (hf : Cn.vCode R code = true) (h3 : ¬ 3 < R) (h40 : 40 < n) :
    Calls Try.prog 3 #[.agg #[.int .i64 R, .slice A n c], .slice A4 m c4, .int .i64 N] w fun e w' => e = .returned (.bool true) ∧ Below w.heap.size w w' := by
  have hbW := below1 w (.cells #[.int .i64 R, .slice A n c] 24)
  have HC := hid_ (hc.to hbW)
  have HE := hid_ (hE.to hbW)
  have HB0 := hid_ (Blk.new w 24 #[.int .i64 R, .slice A n c])
  have KVA : Hid (∀ Y, Cn.CodeAt Y Y.heap.size A n code → Calls Try.prog 4 #[.agg #[.int .i64 R, .slice A n c]] Y fun e w' => e = .returned (.bool true) ∧ Below Y.heap.size Y w') := hid_ (fun Y h1 => (Cn.valid_any R A n c code Y h1).mono fun e w' h => by rw [hf] at h; exact h)
  clear hf
  have h40i : (40 : Int) < n := by omega
  clear hc hE
  go_enter Try.func3, Try.ntmps3
  go_upto_region 1 with fail
  generalize w.alloc (.cells #[.int .i64 R, .slice A n c] 24) = W at *
  have p0 := HB0.out.cell 0
  have p1 := HB0.out.cell 1
  have pl := HB0.out.lt
  simp at p0 p1
  go_wp2_with (first | (go_at_call 4; (with_reducible refine (KVA.out _ HC.out).mono ?_); rintro e w1 ⟨rfl, hb1⟩; replace hbW := bnext hbW hb1; replace HC := hid_ (HC.out.to hb1); replace HE := hid_ (HE.out.to hb1); replace HB0 := hid_ (HB0.out.to hb1); replace p0 := keepc hb1 p0; replace p1 := keepc hb1 p1; replace pl := Nat.lt_of_lt_of_le pl hb1.size; clear hb1) | (go_at_call 5; (with_reducible refine (Tp.lives_any _).mono ?_); rintro e w99 ⟨rfl, hb99⟩))
  go_ret
  exact ⟨rfl, bnext hbW hb99⟩

set_option maxRecDepth 100000 in
set_option maxHeartbeats 8000000 in
theorem two_len (R N : Int) (A A4 : Option Addr) (n c m c4 : Nat) (code : List Cn.Ins) (l : List Int) (w : World) (hc : Cn.CodeAt w w.heap.size A n code) (hE : Elems w w.heap.size (.slice A4 m c4) (ints l)) (hm : m ≤ 17592186044416) (hf : Cn.vCode R code = true) (h3 : ¬ 3 < R) (h40 : ¬ 40 < n) (hne : (m : Int) ≠ R) :
    Calls Try.prog 3 #[.agg #[.int .i64 R, .slice A n c], .slice A4 m c4, .int .i64 N] w fun e w' => e = .returned (.bool true) ∧ Below w.heap.size w w' := by
  have hbW := below1 w (.cells #[.int .i64 R, .slice A n c] 24)
  have HC := hid_ (hc.to hbW)
  have HE := hid_ (hE.to hbW)
  have HB0 := hid_ (Blk.new w 24 #[.int .i64 R, .slice A n c])
  have KVA : Hid (∀ Y, Cn.CodeAt Y Y.heap.size A n code → Calls Try.prog 4 #[.agg #[.int .i64 R, .slice A n c]] Y fun e w' => e = .returned (.bool true) ∧ Below Y.heap.size Y w') := hid_ (fun Y h1 => (Cn.valid_any R A n c code Y h1).mono fun e w' h => by rw [hf] at h; exact h)
  clear hf
  have h40i : ¬ (40 : Int) < n := by omega
  have hbe : ((m : Int) != R) = true := by simpa using hne
  clear hne
  clear hc hE
  go_enter Try.func3, Try.ntmps3
  go_upto_region 1 with fail
  generalize w.alloc (.cells #[.int .i64 R, .slice A n c] 24) = W at *
  have p0 := HB0.out.cell 0
  have p1 := HB0.out.cell 1
  have pl := HB0.out.lt
  simp at p0 p1
  go_wp2_with (first | (go_at_call 4; (with_reducible refine (KVA.out _ HC.out).mono ?_); rintro e w1 ⟨rfl, hb1⟩; replace hbW := bnext hbW hb1; replace HC := hid_ (HC.out.to hb1); replace HE := hid_ (HE.out.to hb1); replace HB0 := hid_ (HB0.out.to hb1); replace p0 := keepc hb1 p0; replace p1 := keepc hb1 p1; replace pl := Nat.lt_of_lt_of_le pl hb1.size; clear hb1) | (go_at_call 5; (with_reducible refine (Tp.lives_any _).mono ?_); rintro e w99 ⟨rfl, hb99⟩))
  go_ret
  exact ⟨rfl, bnext hbW hb99⟩

set_option maxRecDepth 100000 in
set_option maxHeartbeats 8000000 in
theorem two_main (R N : Int) (A A4 : Option Addr) (n c m c4 : Nat) (code : List Cn.Ins) (l : List Int) (w : World) (hc : Cn.CodeAt w w.heap.size A n code) (hE : Elems w w.heap.size (.slice A4 m c4) (ints l)) (hm : m ≤ 17592186044416) (hf : Cn.vCode R code = true) (h3 : ¬ 3 < R) (h40 : ¬ 40 < n) (hne : (m : Int) = R) :
    Calls Try.prog 3 #[.agg #[.int .i64 R, .slice A n c], .slice A4 m c4, .int .i64 N] w fun e w' => e = .returned (.bool true) ∧ Below w.heap.size w w' := by
  have hbW := below1 w (.cells #[.int .i64 R, .slice A n c] 24)
  have HC := hid_ (hc.to hbW)
  have HE := hid_ (hE.to hbW)
  have HB0 := hid_ (Blk.new w 24 #[.int .i64 R, .slice A n c])
  have KVA : Hid (∀ Y, Cn.CodeAt Y Y.heap.size A n code → Calls Try.prog 4 #[.agg #[.int .i64 R, .slice A n c]] Y fun e w' => e = .returned (.bool true) ∧ Below Y.heap.size Y w') := hid_ (fun Y h1 => (Cn.valid_any R A n c code Y h1).mono fun e w' h => by rw [hf] at h; exact h)
  have h40i : ¬ (40 : Int) < n := by omega
  obtain ⟨hr1, _, hn1, _⟩ := Cn.vCode_reg hf
  have hlc := hc.len
  have hn0 : 0 < n := by omega
  obtain ⟨Q, hQ⟩ : ∃ Q : Nat, Q = m := ⟨_, rfl⟩
  subst hQ
  subst hne
  have hlm : l.length = Q := by have := hE.len; rw [ints_len] at this; exact this
  have hs : ¬ 2000 < sizeL (code.map sOf) := by
    have := size40 (code.map sOf) (by rw [List.length_map]; omega)
    omega
  have hR : ¬ 6 < (Q : Int) := by omega
  obtain ⟨L, hL⟩ : ∃ L, L = sizeL (code.map sOf) := ⟨_, rfl⟩
  obtain ⟨i0, hi, hz0, hz1, hz2⟩ := info_parts Try.infoI
  have HLM := hid_ hlm
  have HLC := hid_ hlc
  have HVC := hid_ hf
  have HSZ := hid_ hs
  have HLL := hid_ hL
  have hQ3 : 1 ≤ Q ∧ Q ≤ 3 := by omega
  have KTW : Hid (∀ Y, Cn.CodeAt Y Y.heap.size A n code → Calls Try.prog 6 #[.agg #[.int .i64 (Q : Int), .slice A n c]] Y fun e w' => ∃ b off c1 b2 off2 c2, e = .returned (.tuple #[.agg #[.int .i64 2, .slice (some ⟨b, off, none⟩) L c1], .slice (some ⟨b2, off2, none⟩) n c2, .int .i64 0]) ∧ b < w'.heap.size ∧ Cn.CodeIn w' b off (qOf code) ∧ b2 < w'.heap.size ∧ Cn.IntsIn w' b2 off2 (pOf code) ∧ Y.heap.size ≤ b2 ∧ Below Y.heap.size Y w') := hid_ (fun Y h => by rw [hL]; exact two_ok (Q : Int) _ n c code Y h hf hR hs)
  have HL0 : Hid (0 < code.length ∧ 0 < L) := hid_ ⟨by omega, by
    have := size_lt (p := code.map sOf) (a := 0) (b := (code.map sOf).length) (by rw [List.length_map]; omega) (by rw [List.length_map]; omega)
    rw [List.take_length] at this
    omega⟩
  have hbe : ((Q : Int) == (Q : Int)) = true := by simp
  clear hf hs hL hlm hlc hr1 hbe
  clear hc hE
  go_enter Try.func3, Try.ntmps3
  go_upto_region 1 with fail
  generalize w.alloc (.cells #[.int .i64 (Q : Int), .slice A n c] 24) = W at *
  have p0 := HB0.out.cell 0
  have p1 := HB0.out.cell 1
  have pl := HB0.out.lt
  simp at p0 p1
  go_upto_region 3 with (go_at_call 4; (with_reducible refine (KVA.out _ HC.out).mono ?_); rintro e w1 ⟨rfl, hb1⟩; replace hbW := bnext hbW hb1; replace HC := hid_ (HC.out.to hb1); replace HE := hid_ (HE.out.to hb1); replace HB0 := hid_ (HB0.out.to hb1); replace p0 := keepc hb1 p0; replace p1 := keepc hb1 p1; replace pl := Nat.lt_of_lt_of_le pl hb1.size; clear hb1)
  obtain ⟨W1, rfl⟩ : ∃ X : World, X = w1 := ⟨_, rfl⟩
  go_cut [7] (fun s wx => ∃ (gc b4 c4' : Nat), s = .pointer (some ⟨gc, 0, none⟩) ∧ Hid (Blk wx gc 29 #[.int .i64 0, .slice (some ⟨b4, 0, none⟩) Q c4']) ∧ Hid (Cn.IntsIn wx b4 0 l) ∧ b4 < wx.heap.size ∧ b4 ≠ gc ∧ W1.heap.size ≤ gc ∧ Below W1.heap.size W1 wx)
  case first => as_aux_lemma =>
    obtain ⟨b9, o9, hA9, hb9, hin9⟩ := HE.out.at_ (by omega)
    subst hA9
    have own0 : (W1.alloc (.cells #[] 3)).ownsRow W1.heap.size 3 1 (.slice (some ⟨W1.heap.size, 0, none⟩) 0 0) 0 [] := own_empty W1 3
    have HIN9 := hid_ hin9
    clear hin9
    go_wp2_with (at_builtin; refine wpList_append_own _ rfl _ _ 25 rfl W1.heap.size 3 i0 (.int .i64 0) 1 8 Try.underlying25 hi hz0 hz1 hz2 rfl (by decide) _ _ _ rfl own0 ⟨b9, o9, none⟩ Q c4 (ints l) rfl (by rw [ints_len, HLM.out]; simp) (fun j u hu => by rw [addr_add]; exact keepa _ (HIN9.out j u hu)) ints_one (by unfold maxLen; omega) (by omega) (by simp) ?_; intro v' w' hown hg hnil; obtain ⟨A', c', hv'⟩ := own_form hown; subst hv'; rw [Nat.zero_add] at hown; obtain ⟨g, hg', hgB⟩ := own_addr hown (by omega); subst hg'; have HOWN := hid_ hown; have HBL : Hid (Below W1.heap.size W1 w') := hid_ (((Below.refl _ W1).alloc (Nat.le_refl _) _).grown hg (by simp) (fun k hk => own_lt own0 k hk)); clear hown hg hnil)
    go_meet
    have hin : Cn.IntsIn w' g 0 l := fun k x hk => by
      have hkl := (List.getElem?_eq_some_iff.1 hk).1
      rw [Nat.zero_add, HOWN.out.cellAt k (by have := HLM.out; omega)]
      simp [ints, hk]
    have hgl := (HOWN.out.lt g rfl).2
    exact ⟨w'.heap.size, g, c', rfl, hid_ (Blk.new w' _ _), hid_ (hin.below (below1 w' _) hgl), by simp; omega, by omega, HBL.out.size, HBL.out.alloc HBL.out.size _⟩
  case rest => as_aux_lemma =>
    obtain ⟨gc, b4, c4', rfl, HCB, HIN, hb4, hne4, hgc, hbc⟩ := hcut
    obtain ⟨X1, rfl⟩ : ∃ X : World, X = wc := ⟨_, rfl⟩
    replace HC := hid_ (HC.out.to hbc)
    replace HE := hid_ (HE.out.to hbc)
    replace HB0 := hid_ (HB0.out.to hbc)
    replace p0 := keepc hbc p0
    replace p1 := keepc hbc p1
    have hpl : w.heap.size < X1.heap.size := Nat.lt_of_lt_of_le pl hbc.size
    replace hbW := bnext hbW hbc
    have HGC : Hid (w.heap.size < gc ∧ b4 ≠ gc ∧ b4 < X1.heap.size) := hid_ ⟨by omega, hne4, hb4⟩
    clear hbc hgc hne4 hb4 pl
    obtain ⟨b9, o9, hA9, hb9, hin9⟩ := HE.out.at_ (by omega)
    subst hA9
    have HIN9 := hid_ hin9
    clear hin9
    go_upto_block 0 with fail
    go_cut [] (fun wx => Hid (∀ x ∈ l, 0 ≤ x ∧ x ≤ 6) ∧ X1 = wx)
    case first => as_aux_lemma =>
      go_wp2_with fail
      go_loopw [8] (fun a wr => ∃ k : Nat, a = .int .i64 (k : Int) ∧ k ≤ Q ∧ Hid (∀ j, j < k → ∀ x, l[j]? = some x → 0 ≤ x ∧ x ≤ 6) ∧ X1 = wr) (fun a _ => Q - (intOf a).toNat)
      case atStart => exact ⟨0, rfl, Nat.zero_le _, hid_ (fun j hj => by omega), rfl⟩
      case round =>
        obtain ⟨k, rfl, hk, HT, rfl⟩ := hrel
        by_cases hlt : k < Q
        · obtain ⟨x, hx⟩ : ∃ x, l[k]? = some x := ⟨_, List.getElem?_eq_getElem (by rw [HLM.out]; exact hlt)⟩
          have i9 := HIN9.out k _ (ints_at hx)
          have HX := hid_ hx
          clear hx
          by_cases hx0 : x < 0
          · go_wp2_with (go_at_call 5; (with_reducible refine (Tp.lives_any _).mono ?_); rintro e w99 ⟨rfl, hb99⟩)
            go_ret
            exact ⟨rfl, bnext hbW hb99⟩
          · by_cases hx6 : 6 < x
            · go_wp2_with (go_at_call 5; (with_reducible refine (Tp.lives_any _).mono ?_); rintro e w99 ⟨rfl, hb99⟩)
              go_ret
              exact ⟨rfl, bnext hbW hb99⟩
            · go_wp2_with fail
              go_round
              case rel => exact ⟨k + 1, by go_num, by omega, hid_ (fun j hj y hy => by
                rcases Nat.lt_or_ge j k with h | h
                · exact HT.out j h y hy
                · obtain rfl : j = k := by omega
                  rw [HX.out] at hy
                  obtain rfl := Option.some.inj hy
                  omega), (by first | rfl | trivial)⟩
              case measure => simp [intOf]; omega
        · have hkn : k = Q := by omega
          go_wp2_with fail
          go_meet
          exact ⟨hid_ (fun x hx => by
            obtain ⟨j, hj⟩ := List.mem_iff_getElem?.1 hx
            have hjl := (List.getElem?_eq_some_iff.1 hj).1
            exact HT.out j (by have := HLM.out; omega) x hj), rfl⟩
    case rest => as_aux_lemma =>
      obtain ⟨HX6, rfl⟩ := hcut
      have hcb : contB l = true := by
        rw [contB, Bool.and_eq_true, Bool.and_eq_true, List.all_eq_true]
        exact ⟨⟨fun x hx => by simpa using (HX6.out x hx).1, by have := HLM.out; simp; omega⟩, by have := HLM.out; simp; omega⟩
      obtain ⟨n0, hn0e⟩ := enc_small (l := l) (by have := HLM.out; omega) HX6.out
      have HN0 := hid_ hn0e
      have KEN : Hid (∀ Y, Elems Y Y.heap.size (.slice (some ⟨b4, 0, none⟩) Q c4') (ints l) → Calls Try.prog 7 #[.slice (some ⟨b4, 0, none⟩) Q c4'] Y fun e w' => e = .returned (.tuple #[.int .i64 (n0 : Int), .int .i64 0]) ∧ Y = w') := hid_ (fun Y h => (encode_any l _ Y h (by have := HLM.out; omega) (fun x hx => by have := HX6.out x hx; omega)).mono fun e w' h => by rw [encC, if_pos hcb, hn0e] at h; exact ⟨h.1, h.2.symm⟩)
      clear hn0e hcb
      have q0 := HCB.out.cell 1
      simp at q0
      go_upto_region 10 with (go_at_call 6; (with_reducible refine (KTW.out _ HC.out).mono ?_); rintro e w2 ⟨b, off, c1, b2, off2, c2, rfl, hbl, hq, hbl2, hp, hf2, hb2⟩)
      have hbx := hb2.alloc hb2.size (.cells #[.int .i64 2, .slice (some ⟨b, off, none⟩) L c1] 24)
      obtain ⟨b0, o0, hA0, hb0, hin0⟩ := HC.out.at_ hn0
      subst hA0
      have hs2 : (w2.alloc (.cells #[.int .i64 2, .slice (some ⟨b, off, none⟩) L c1] 24)).heap.size = w2.heap.size + 1 := by simp
      have HF0 : Hid (FF w.heap.size w2.heap.size b0 o0 n c b off L c1 b2 off2 Q code (w2.alloc (.cells #[.int .i64 2, .slice (some ⟨b, off, none⟩) L c1] 24))) := hid_ ⟨HB0.out.to hbx, Blk.new w2 24 _, by have := hbx.size; omega, hin0.below hbx hb0, by omega, hq.below (below1 w2 (.cells #[.int .i64 2, .slice (some ⟨b, off, none⟩) L c1] 24)) hbl, by omega, hp.below (below1 w2 (.cells #[.int .i64 2, .slice (some ⟨b, off, none⟩) L c1] 24)) hbl2⟩
      have HGC2 : Hid (Off w.heap.size w2.heap.size b0 b b2 gc) := hid_ ⟨by have := HGC.out.1; omega, by have h1 := HCB.out.lt; have h2 := hb2.size; omega, fun e => by
        obtain ⟨i, hi'⟩ : ∃ i, code[0]? = some i := ⟨_, List.getElem?_eq_getElem HL0.out.1⟩
        have h1 := (hin0 0 i hi').2.1
        subst e
        rw [HCB.out.cell] at h1
        exact no_two h1, fun e => by
        obtain ⟨i, hi'⟩ : ∃ i, (qOf code)[0]? = some i := ⟨_, List.getElem?_eq_getElem (by rw [qOf_len, ← HLL.out]; exact HL0.out.2)⟩
        have h1 := (hq 0 i hi').2.1
        have h2 := HCB.out.to hb2
        subst e
        rw [h2.cell] at h1
        exact no_two h1, by have h1 := HCB.out.lt; omega⟩
      replace hbW := bnext hbW hbx
      have HCB2 := hid_ (HCB.out.to hbx)
      have HIN2 := hid_ (HIN.out.below hbx HGC.out.2.2)
      have h4l : b4 < (w2.alloc (.cells #[.int .i64 2, .slice (some ⟨b, off, none⟩) L c1] 24)).heap.size := Nat.lt_of_lt_of_le HGC.out.2.2 hbx.size
      replace q0 := keepc hbx q0
      replace p1 := keepc hbx p1
      have hgl : gc < (w2.alloc (.cells #[.int .i64 2, .slice (some ⟨b, off, none⟩) L c1] 24)).heap.size := HCB2.out.lt
      clear hs2 hq hp hb2 hbx hbl hbl2 hb0 hin0 HC HE HB0 p0 HIN9 hb9 hpl
      generalize w2.alloc (.cells #[.int .i64 2, .slice (some ⟨b, off, none⟩) L c1] 24) = W2 at *
      have HEc : Hid (Elems W2 W2.heap.size (.slice (some ⟨b4, 0, none⟩) Q c4') (ints l)) := hid_ (ints_elems ⟨HLM.out, fun _ => ⟨b4, 0, rfl, h4l, HIN2.out⟩⟩ (by omega))
      go_upto_region 11 with (go_at_call 7; (with_reducible refine (KEN.out _ HEc.out).mono ?_); rintro e _ ⟨rfl, rfl⟩)
      by_cases hbig : 9000 < n0
      · have hbigi : (9000 : Int) < (n0 : Int) := by omega
        go_wp2_with (go_at_call 5; (with_reducible refine (Tp.lives_any _).mono ?_); rintro e w99 ⟨rfl, hb99⟩)
        go_ret
        exact ⟨rfl, bnext hbW hb99⟩
      · have hbigi : ¬ (9000 : Int) < (n0 : Int) := by omega
        have hnn : ((n : Int) == (n : Int)) = true := by simp
        have i1 := HF0.out.cp 0 0 (by rw [pOf_at HL0.out.1]; simp [sizeL])
        rw [Nat.add_zero] at i1
        have hz9 : 0 ≤ (0 : Int) := by omega
        go_upto_region 16 with fail
        have hb3 := below2 W2 (.cells #[.int .i64 (n0 : Int), .int .i64 0] 3) (.cells #[.int .i64 0, .slice (some ⟨W2.heap.size, 0, none⟩) 2 2] 29)
        obtain ⟨gd, hgd⟩ : ∃ gd, gd = W2.heap.size + 1 := ⟨_, rfl⟩
        rw [← hgd]
        have HBD : Blk ((W2.alloc (.cells #[.int .i64 (n0 : Int), .int .i64 0] 3)).alloc (.cells #[.int .i64 0, .slice (some ⟨W2.heap.size, 0, none⟩) 2 2] 29)) gd 29 #[.int .i64 0, .slice (some ⟨W2.heap.size, 0, none⟩) 2 2] := by
          have h := Blk.new (W2.alloc (.cells #[.int .i64 (n0 : Int), .int .i64 0] 3)) 29 #[.int .i64 0, .slice (some ⟨W2.heap.size, 0, none⟩) 2 2]
          rw [show (W2.alloc (.cells #[.int .i64 (n0 : Int), .int .i64 0] 3)).heap.size = W2.heap.size + 1 by simp, ← hgd] at h
          exact h
        have HED : Elems (W2.alloc (.cells #[.int .i64 (n0 : Int), .int .i64 0] 3)) (W2.alloc (.cells #[.int .i64 (n0 : Int), .int .i64 0] 3)).heap.size (.slice (some ⟨W2.heap.size, 0, none⟩) 2 2) (ints [(n0 : Int), 0]) := blk_elems (Blk.new W2 3 #[.int .i64 (n0 : Int), .int .i64 0]) rfl
        have HF3 := hid_ (HF0.out.to hb3)
        have HO2 : Hid (Off w.heap.size w2.heap.size b0 b b2 gd) := hid_ ⟨by have := HF0.out.bp.lt; omega, by have := HF0.out.bq.lt; omega, by have := HF0.out.l0; omega, by have := HF0.out.l1; omega, by have := HF0.out.l2; omega⟩
        have HS3 : Hid (SS gc gd b4 0 c4' 2 0 Q n0 (some ⟨W2.heap.size, 0, none⟩) code l ((W2.alloc (.cells #[.int .i64 (n0 : Int), .int .i64 0] 3)).alloc (.cells #[.int .i64 0, .slice (some ⟨W2.heap.size, 0, none⟩) 2 2] 29))) := hid_ ⟨⟨HL0.out.1, HLM.out, fun x hx => by have := HX6.out x hx; omega⟩, HN0.out, by omega, HCB2.out.to hb3, Nat.lt_of_lt_of_le h4l hb3.size, ⟨HGC.out.2.1, by omega⟩, HIN2.out.below hb3 h4l, by simpa [sizeL] using HBD, HED.to (below1 _ _), ⟨by simp [Value.ownBlock]; omega, by simp [Value.ownBlock]; omega⟩⟩
        have HGG : Hid (gc ≠ gd ∧ w.heap.size ≤ gc ∧ w.heap.size ≤ gd) := hid_ ⟨by omega, by have := HGC.out.1; omega, by have := HF0.out.bp.lt; omega⟩
        have hsz3 : ((W2.alloc (.cells #[.int .i64 (n0 : Int), .int .i64 0] 3)).alloc (.cells #[.int .i64 0, .slice (some ⟨W2.heap.size, 0, none⟩) 2 2] 29)).heap.size = W2.heap.size + 2 := by simp
        replace hbW := bnext hbW hb3
        clear HED HBD hb3 HCB2 HIN2 h4l q0 p1 hgl HEc KEN hsz3 hgd
        generalize (W2.alloc (.cells #[.int .i64 (n0 : Int), .int .i64 0] 3)).alloc (.cells #[.int .i64 0, .slice (some ⟨W2.heap.size, 0, none⟩) 2 2] 29) = W3 at *
        obtain ⟨T, hT⟩ : ∃ T, T = N.tmod 20 := ⟨_, rfl⟩
        have hTb : -20 < T ∧ T < 20 := by rw [hT]; exact ⟨Int.lt_tmod_of_pos N (by decide), Int.tmod_lt_of_pos N (by decide)⟩
        have e16 : N.tmod 20 = T := hT.symm
        obtain ⟨S, hS⟩ : ∃ S : Nat, (S : Int) = (T + 20).tmod 20 := ⟨((T + 20).tmod 20).toNat, Int.toNat_of_nonneg (Int.tmod_nonneg _ (by omega))⟩
        have hSb : S < 20 := by have := Int.tmod_lt_of_pos (T + 20) (show (0 : Int) < 20 by decide); omega
        have e17 : (T + 20).tmod 20 = (S : Int) := hS.symm
        have e18 : IntKind.i64.wrap (T + 20) = T + 20 := IntWalk.i64_in _ (by omega)
        clear hT hS
        go_upto_region 17 with fail
        go_wp2_with fail
        go_loopw [15] (fun a wr => ∃ (k a0 b4 o4 c4 d n0 : Nat) (A : Option Addr) (rs : List Int), a = .int .i64 (k : Int) ∧ k ≤ S ∧ Hid (SS gc gd b4 o4 c4 d a0 Q n0 A code rs wr) ∧ Hid (FF w.heap.size w2.heap.size b0 o0 n c b off L c1 b2 off2 Q code wr) ∧ Hid (Below w.heap.size w wr)) (fun a _ => S - (intOf a).toNat)
        case atStart => exact ⟨0, 0, b4, 0, c4', 2, n0, _, l, rfl, Nat.zero_le _, HS3, HF3, hid_ hbW⟩
        case round =>
          clear HS3 HF3 HF0 HN0 HX6 HIN HCB hbigi hbig i1 hbW
          obtain ⟨k, a0, b5, o5, c5, d, n1, D, rs, rfl, hk, HS, HFW, HBW⟩ := hrel
          by_cases hlt : k < S
          · rcases step_three HVC.out (R := (Q : Int)) (by rw [Int.toNat_natCast]; exact HS.out.good) with ⟨hst, hsp⟩ | hsp | ⟨a1, rs1, hst, hg1, hsp⟩
            · have KS1 : Hid (∀ Y, FF w.heap.size w2.heap.size b0 o0 n c b off L c1 b2 off2 Q code Y → SS gc gd b5 o5 c5 d a0 Q n1 D code rs Y → Calls Try.prog 8 #[.agg #[.int .i64 (Q : Int), .slice (some ⟨b0, o0, none⟩) n c], .agg #[.int .i64 (a0 : Int), .slice (some ⟨b5, o5, none⟩) Q c5]] Y (fun e w' => ∃ A k dd, e = .returned (.tuple #[.agg #[.int .i64 0, .slice A k dd], .int .i64 5]) ∧ Below Y.heap.size Y w')) := hid_ (fun Y hF hS => (Cn.step_any (Q : Int) a0 _ _ n c Q c5 code rs Y ⟨HLC.out, fun _ => ⟨b0, o0, rfl, hF.l0, hF.c0⟩⟩ ⟨hS.good.len, fun _ => ⟨b5, o5, rfl, hS.l4, hS.ir⟩⟩).mono fun e w' h => by
                obtain ⟨A, k, dd, e1, hI, hF9, e2⟩ := h
                rw [hsp] at e1 hI
                simp only at e1 hI
                exact ⟨A, k, dd, e1, e2⟩)
              have hh := halt_two HVC.out (by omega) HSZ.out (by rw [Int.toNat_natCast]; exact HS.out.good) hst HS.out.small
              have KS2 : Hid (∀ Y, FF w.heap.size w2.heap.size b0 o0 n c b off L c1 b2 off2 Q code Y → SS gc gd b5 o5 c5 d a0 Q n1 D code rs Y → Calls Try.prog 8 #[.agg #[.int .i64 2, .slice (some ⟨b, off, none⟩) L c1], .agg #[.int .i64 ((sizeL ((code.map sOf).take a0) : Nat) : Int), .slice D 2 d]] Y fun e w' => ∃ x A k dd, e = .returned (.tuple #[.agg #[.int .i64 x, .slice A k dd], .int .i64 5]) ∧ Below Y.heap.size Y w') := hid_ (fun Y hF hS => (Cn.step_any 2 _ _ _ L c1 2 d (qOf code) [(n1 : Int), 0] Y ⟨by rw [qOf_len, HLL.out], fun _ => ⟨b, off, rfl, hF.l1, hF.cq⟩⟩ (elems_ints hS.ed)).mono fun e w' h => by
                obtain ⟨A, k, dd, e1, _, _, e2⟩ := h
                rw [hh] at e1
                exact ⟨_, A, k, dd, e1, e2⟩)
              clear hst hsp hh
              have p0 := HFW.out.bp.cell 0
              have p1 := HFW.out.bp.cell 1
              have q0 := HFW.out.bq.cell 0
              have q1 := HFW.out.bq.cell 1
              have v0 := HS.out.bc.cell 0
              have v1 := HS.out.bc.cell 1
              have u0 := HS.out.bd.cell 0
              have u1 := HS.out.bd.cell 1
              have lp := HFW.out.bp.lt
              have lq := HFW.out.bq.lt
              have lc := HS.out.bc.lt
              have ld := HS.out.bd.lt
              simp at p0 p1 q0 q1 v0 v1 u0 u1
              go_upto_region 21 with (go_at_call 8; (with_reducible refine (KS1.out _ HFW.out HS.out).mono ?_); rintro e w5 ⟨A6, k6, d6, rfl, hb5⟩)
              have hx6 := hb5.alloc hb5.size (.cells #[.int .i64 0, .slice A6 k6 d6] 29)
              replace HS := hid_ (HS.out.to hx6)
              replace HFW := hid_ (HFW.out.to hx6)
              replace HBW := hid_ (bnext HBW.out hx6)
              clear p0 p1 q0 q1 v0 v1 u0 u1 lp lq lc ld
              clear hx6 hb5
              generalize w5.alloc (.cells #[.int .i64 0, .slice A6 k6 d6] 29) = W6 at *
              have p0 := HFW.out.bp.cell 0
              have p1 := HFW.out.bp.cell 1
              have q0 := HFW.out.bq.cell 0
              have q1 := HFW.out.bq.cell 1
              have v0 := HS.out.bc.cell 0
              have v1 := HS.out.bc.cell 1
              have u0 := HS.out.bd.cell 0
              have u1 := HS.out.bd.cell 1
              have lp := HFW.out.bp.lt
              have lq := HFW.out.bq.lt
              have lc := HS.out.bc.lt
              have ld := HS.out.bd.lt
              simp at p0 p1 q0 q1 v0 v1 u0 u1
              go_wp2_with (first | (go_at_call 8; (with_reducible refine (KS2.out _ HFW.out HS.out).mono ?_); rintro e w7 ⟨x7, A7, k7, d7, rfl, hb7⟩; have hx7 := hb7.alloc hb7.size (.cells #[.int .i64 x7, .slice A7 k7 d7] 29)) | (go_at_call 5; (with_reducible refine (Tp.lives_any _).mono ?_); rintro e w99 ⟨rfl, hb99⟩))
              go_ret
              exact ⟨rfl, bnext HBW.out (bnext hx7 hb99)⟩
            · have KS1 : Hid (∀ Y, FF w.heap.size w2.heap.size b0 o0 n c b off L c1 b2 off2 Q code Y → SS gc gd b5 o5 c5 d a0 Q n1 D code rs Y → Calls Try.prog 8 #[.agg #[.int .i64 (Q : Int), .slice (some ⟨b0, o0, none⟩) n c], .agg #[.int .i64 (a0 : Int), .slice (some ⟨b5, o5, none⟩) Q c5]] Y (fun e w' => ∃ A dd, e = .returned (.tuple #[.agg #[.int .i64 0, .slice A 0 dd], .int .i64 4]) ∧ Below Y.heap.size Y w')) := hid_ (fun Y hF hS => (Cn.step_any (Q : Int) a0 _ _ n c Q c5 code rs Y ⟨HLC.out, fun _ => ⟨b0, o0, rfl, hF.l0, hF.c0⟩⟩ ⟨hS.good.len, fun _ => ⟨b5, o5, rfl, hS.l4, hS.ir⟩⟩).mono fun e w' h => by
                obtain ⟨A, k, dd, e1, hI, hF9, e2⟩ := h
                rw [hsp] at e1 hI
                simp only at e1 hI
                have e3 : k = 0 := hI.len.symm; subst e3; exact ⟨A, dd, e1, e2⟩)
              clear hsp
              have p0 := HFW.out.bp.cell 0
              have p1 := HFW.out.bp.cell 1
              have q0 := HFW.out.bq.cell 0
              have q1 := HFW.out.bq.cell 1
              have v0 := HS.out.bc.cell 0
              have v1 := HS.out.bc.cell 1
              have u0 := HS.out.bd.cell 0
              have u1 := HS.out.bd.cell 1
              have lp := HFW.out.bp.lt
              have lq := HFW.out.bq.lt
              have lc := HS.out.bc.lt
              have ld := HS.out.bd.lt
              simp at p0 p1 q0 q1 v0 v1 u0 u1
              go_upto_region 21 with (go_at_call 8; (with_reducible refine (KS1.out _ HFW.out HS.out).mono ?_); rintro e w5 ⟨A6, d6, rfl, hb5⟩)
              have hx6 := hb5.alloc hb5.size (.cells #[.int .i64 0, .slice A6 0 d6] 29)
              replace HS := hid_ (HS.out.to hx6)
              replace HFW := hid_ (HFW.out.to hx6)
              replace HBW := hid_ (bnext HBW.out hx6)
              have HN6 := hid_ (Blk.new w5 29 #[.int .i64 0, .slice A6 0 d6])
              clear p0 p1 q0 q1 v0 v1 u0 u1 lp lq lc ld
              clear hx6 hb5
              generalize w5.alloc (.cells #[.int .i64 0, .slice A6 0 d6] 29) = W6 at *
              have x0 := HN6.out.cell 0
              have x1 := HN6.out.cell 1
              simp at x0 x1
              go_wp2_with (first | (go_at_call 7; (with_reducible refine (encode_nil _ _ _).mono ?_); rintro e _ ⟨rfl, rfl⟩) | (go_at_call 5; (with_reducible refine (Tp.lives_any _).mono ?_); rintro e w99 ⟨rfl, hb99⟩))
              go_ret
              exact ⟨rfl, bnext HBW.out hb99⟩
            · have KS1 : Hid (∀ Y, FF w.heap.size w2.heap.size b0 o0 n c b off L c1 b2 off2 Q code Y → SS gc gd b5 o5 c5 d a0 Q n1 D code rs Y → Calls Try.prog 8 #[.agg #[.int .i64 (Q : Int), .slice (some ⟨b0, o0, none⟩) n c], .agg #[.int .i64 (a0 : Int), .slice (some ⟨b5, o5, none⟩) Q c5]] Y fun e w' => ∃ b6 o6 c6, e = .returned (.tuple #[.agg #[.int .i64 (a1 : Int), .slice (some ⟨b6, o6, none⟩) Q c6], .int .i64 0]) ∧ b6 < w'.heap.size ∧ Cn.IntsIn w' b6 o6 rs1 ∧ Y.heap.size ≤ b6 ∧ Below Y.heap.size Y w') := hid_ (fun Y hF hS => (Cn.step_any (Q : Int) a0 _ _ n c Q c5 code rs Y ⟨HLC.out, fun _ => ⟨b0, o0, rfl, hF.l0, hF.c0⟩⟩ ⟨hS.good.len, fun _ => ⟨b5, o5, rfl, hS.l4, hS.ir⟩⟩).mono fun e w' h => by
                obtain ⟨A, k, dd, e1, hI, hF9, e2⟩ := h
                rw [hsp] at e1 hI
                simp only at e1 hI
                have e3 : k = Q := by rw [← hI.len, hg1.len, Int.toNat_natCast]
                subst e3
                obtain ⟨b6, o6, rfl, h5, h6⟩ := hI.at_ (by omega)
                exact ⟨b6, o6, dd, e1, h5, h6, hF9 _ rfl, e2⟩)
              obtain ⟨hcb1, hbi1, hln1⟩ := good_cont HVC.out (by omega) hg1
              have HGD1 : Hid (Cn.Good Q code a1 rs1) := hid_ (by rw [Int.toNat_natCast] at hg1; exact hg1)
              obtain ⟨oe, hoe⟩ : ∃ x, x = encS 0 (natL rs1) 1 := ⟨_, rfl⟩
              have KE6 : Hid (∀ Y b6 o6 c6, Elems Y Y.heap.size (.slice (some ⟨b6, o6, none⟩) Q c6) (ints rs1) → Calls Try.prog 7 #[.slice (some ⟨b6, o6, none⟩) Q c6] Y fun e w' => e = .returned (.tuple #[.int .i64 (encC rs1).1, .int .i64 (encC rs1).2]) ∧ Y = w') := hid_ (fun Y b6 o6 c6 h => (encode_any rs1 _ Y h (by omega) hbi1).mono fun e w' h => ⟨h.1, h.2.symm⟩)
              have HEC : Hid (encC rs1 = encO oe) := hid_ (by rw [encC, if_pos hcb1, hoe]; cases encS 0 (natL rs1) 1 <;> rfl)
              have HST := hid_ hst
              have HOE := hid_ hoe
              clear hsp hst hcb1 hbi1 hln1 hoe
              have p0 := HFW.out.bp.cell 0
              have p1 := HFW.out.bp.cell 1
              have q0 := HFW.out.bq.cell 0
              have q1 := HFW.out.bq.cell 1
              have v0 := HS.out.bc.cell 0
              have v1 := HS.out.bc.cell 1
              have u0 := HS.out.bd.cell 0
              have u1 := HS.out.bd.cell 1
              have lp := HFW.out.bp.lt
              have lq := HFW.out.bq.lt
              have lc := HS.out.bc.lt
              have ld := HS.out.bd.lt
              simp at p0 p1 q0 q1 v0 v1 u0 u1
              go_upto_region 21 with (go_at_call 8; (with_reducible refine (KS1.out _ HFW.out HS.out).mono ?_); rintro e w5 ⟨b6, o6, c6, rfl, hb6, hi6, hf6, hb5⟩)
              have hx6 := hb5.alloc hb5.size (.cells #[.int .i64 (a1 : Int), .slice (some ⟨b6, o6, none⟩) Q c6] 29)
              have hwr6 := hb5.size
              have hs6 : (w5.alloc (.cells #[.int .i64 (a1 : Int), .slice (some ⟨b6, o6, none⟩) Q c6] 29)).heap.size = w5.heap.size + 1 := by simp
              replace HS := hid_ (HS.out.to hx6)
              replace HFW := hid_ (HFW.out.to hx6)
              replace HBW := hid_ (bnext HBW.out hx6)
              have HN6 := hid_ (Blk.new w5 29 #[.int .i64 (a1 : Int), .slice (some ⟨b6, o6, none⟩) Q c6])
              have HI6 := hid_ (hi6.below (below1 w5 (.cells #[.int .i64 (a1 : Int), .slice (some ⟨b6, o6, none⟩) Q c6] 29)) hb6)
              have HL6 : Hid (b6 < (w5.alloc (.cells #[.int .i64 (a1 : Int), .slice (some ⟨b6, o6, none⟩) Q c6] 29)).heap.size ∧ b6 ≠ gc ∧ b6 ≠ gd ∧ w5.heap.size ≠ gc ∧ w5.heap.size ≠ gd) := hid_ ⟨by omega, by omega, by omega, by omega, by omega⟩
              clear p0 p1 q0 q1 v0 v1 u0 u1 lp lq lc ld
              clear hx6 hb5 hi6 hb6 hf6 hs6 hwr6
              generalize w5.alloc (.cells #[.int .i64 (a1 : Int), .slice (some ⟨b6, o6, none⟩) Q c6] 29) = W6 at *
              have p0 := HFW.out.bp.cell 0
              have p1 := HFW.out.bp.cell 1
              have q0 := HFW.out.bq.cell 0
              have q1 := HFW.out.bq.cell 1
              have v0 := HS.out.bc.cell 0
              have v1 := HS.out.bc.cell 1
              have u0 := HS.out.bd.cell 0
              have u1 := HS.out.bd.cell 1
              have lp := HFW.out.bp.lt
              have lq := HFW.out.bq.lt
              have lc := HS.out.bc.lt
              have ld := HS.out.bd.lt
              simp at p0 p1 q0 q1 v0 v1 u0 u1
              have x0 := HN6.out.cell 0
              have x1 := HN6.out.cell 1
              have lx := HN6.out.lt
              simp at x0 x1
              have HE6 : Hid (Elems W6 W6.heap.size (.slice (some ⟨b6, o6, none⟩) Q c6) (ints rs1)) := hid_ (ints_elems ⟨HGD1.out.len, fun _ => ⟨b6, o6, rfl, HL6.out.1, HI6.out⟩⟩ (by omega))
              cases oe with
              | none =>
                go_wp2_with (first | (go_at_call 7; (with_reducible refine (KE6.out _ _ _ _ HE6.out).mono ?_); rw [show encC rs1 = (0, 4) from HEC.out]; rintro e _ ⟨rfl, rfl⟩) | (go_at_call 5; (with_reducible refine (Tp.lives_any _).mono ?_); rintro e w99 ⟨rfl, hb99⟩))
                go_ret
                exact ⟨rfl, bnext HBW.out hb99⟩
              | some n2 =>
                by_cases hb9 : 9000 < n2
                · have hb9i : (9000 : Int) < (n2 : Int) := by omega
                  go_wp2_with (first | (go_at_call 7; (with_reducible refine (KE6.out _ _ _ _ HE6.out).mono ?_); rw [show encC rs1 = ((n2 : Int), 0) from HEC.out]; rintro e _ ⟨rfl, rfl⟩) | (go_at_call 5; (with_reducible refine (Tp.lives_any _).mono ?_); rintro e w99 ⟨rfl, hb99⟩))
                  go_ret
                  exact ⟨rfl, bnext HBW.out hb99⟩
                · have hb9i : ¬ (9000 : Int) < (n2 : Int) := by omega
                  obtain ⟨k0, hun⟩ := until_big HVC.out (by omega) HSZ.out (by rw [Int.toNat_natCast]; exact HS.out.good) HST.out HS.out.enc HOE.out.symm ⟨HS.out.small, by omega⟩
                  have KUN : Hid (∀ Y, FF w.heap.size w2.heap.size b0 o0 n c b off L c1 b2 off2 Q code Y → SS gc gd b5 o5 c5 d a0 Q n1 D code rs Y → Calls Try.prog 9 #[.agg #[.int .i64 2, .slice (some ⟨b, off, none⟩) L c1], .agg #[.int .i64 ((sizeL ((code.map sOf).take a0) : Nat) : Int), .slice D 2 d], .slice (some ⟨b2, off2, none⟩) n c2, .int .i64 1000000] Y fun e w' => ∃ A' d', e = .returned (.tuple #[.agg #[.int .i64 ((sizeL ((code.map sOf).take a1) : Nat) : Int), .slice A' 2 d'], .int .i64 k0, .int .i64 0]) ∧ Elems w' w'.heap.size (.slice A' 2 d') (ints [(n2 : Int), 0]) ∧ (∀ q, (Value.slice A' 2 d').ownBlock = some q → Y.heap.size ≤ q) ∧ Below Y.heap.size Y w') := hid_ (fun Y hF hS => (Cn.until_any 2 _ _ _ _ (some ⟨b2, off2, none⟩) L c1 2 d n c2 (qOf code) [(n1 : Int), 0] (pOf code) Y ⟨by rw [qOf_len, HLL.out], fun _ => ⟨b, off, rfl, hF.l1, hF.cq⟩⟩ (elems_ints hS.ed) ⟨by rw [pOf_len, HLC.out], fun _ => ⟨b2, off2, rfl, hF.l2, hF.cp⟩⟩ (by omega)).mono fun e w' h => by
                    obtain ⟨A', k, dd, e1, hI, hF9, e2⟩ := h
                    rw [hun] at e1 hI
                    simp only at e1 hI
                    have e3 : k = 2 := hI.len.symm
                    subst e3
                    refine ⟨A', dd, e1, ints_elems hI (by omega), fun q hq => ?_, e2⟩
                    obtain ⟨b9, o9, rfl, _, _⟩ := hI.at_ (by omega)
                    simp only [Value.ownBlock, Option.some.injEq] at hq
                    subst hq
                    exact hF9 _ rfl)
                  obtain ⟨pb, hpb⟩ : ∃ x, x = sizeL ((code.map sOf).take a1) := ⟨_, rfl⟩
                  rw [← hpb] at KUN
                  have HPB := hid_ hpb
                  clear hun hpb
                  go_upto_region 28 with (first | (go_at_call 7; (with_reducible refine (KE6.out _ _ _ _ HE6.out).mono ?_); rw [show encC rs1 = ((n2 : Int), 0) from HEC.out]; rintro e _ ⟨rfl, rfl⟩) | (go_at_call 9; (with_reducible refine (KUN.out _ HFW.out HS.out).mono ?_); rintro e w7 ⟨A', d', rfl, hE7, hf7, hb7⟩; have HE7 := hid_ hE7; have HF7 := hid_ hf7; have HB7 := hid_ hb7; have HS7 := hid_ (HS.out.to hb7); have r0 := HS7.out.bd.cell 0; have r1 := HS7.out.bd.cell 1; have f0 := HS7.out.bd.free 0; have f1 := HS7.out.bd.free 1; have lr := HS7.out.bd.lt; simp at r0 r1; clear hE7 hf7 hb7))
                  have hn9 : (Value.slice A' 2 d').ownBlock ≠ some gd := fun e => by have := HF7.out _ e; omega
                  have hn8 : (Value.slice A' 2 d').ownBlock ≠ some gc := fun e => by have := HF7.out _ e; omega
                  have HX8 := hid_ (elems_out (p := ⟨gd, 1, none⟩) (u := .slice A' 2 d') (elems_out (p := ⟨gd, 0, none⟩) (u := .int .i64 (pb : Int)) HE7.out hn9) hn9)
                  have HF8 := hid_ ((HFW.out.to HB7.out).two HO2.out (.int .i64 (pb : Int)) (.slice A' 2 d'))
                  have HC8 := hid_ (blk_two HS7.out.bc HGG.out.1 (.int .i64 (pb : Int)) (.slice A' 2 d'))
                  have HN8 := hid_ (blk_two (HN6.out.to HB7.out) HL6.out.2.2.2.2 (.int .i64 (pb : Int)) (.slice A' 2 d'))
                  have HI8 := hid_ (ints_two (HI6.out.below HB7.out HL6.out.1) HL6.out.2.2.1 (.int .i64 (pb : Int)) (.slice A' 2 d'))
                  have HD8 : Hid (Blk ((w7.setCell ⟨gd, 0, none⟩ (.int .i64 (pb : Int))).setCell ⟨gd, 1, none⟩ (.slice A' 2 d')) gd 29 #[.int .i64 (pb : Int), .slice A' 2 d']) := hid_ (by
                    have h := (HS7.out.bd.set_ 0 (.int .i64 (pb : Int))).set_ 1 (.slice A' 2 d')
                    simp at h
                    exact h)
                  have HB8 := hid_ (below_two (bnext HBW.out HB7.out) HGG.out.2.2 (.int .i64 (pb : Int)) (.slice A' 2 d'))
                  have hL8 : b6 < ((w7.setCell ⟨gd, 0, none⟩ (.int .i64 (pb : Int))).setCell ⟨gd, 1, none⟩ (.slice A' 2 d')).heap.size := by rw [set_size, set_size]; exact Nat.lt_of_lt_of_le HL6.out.1 HB7.out.size
                  have HNN := hid_ (And.intro hn8 hn9)
                  clear p0 p1 q0 q1 v0 v1 u0 u1 lp lq lc ld x0 x1 lx r0 r1 f0 f1 lr hn8 hn9 HE7 HS7 HB7 HF7 HE6 HN6 HI6 HFW HS KUN KE6 KS1 HBW
                  generalize (w7.setCell ⟨gd, 0, none⟩ (.int .i64 (pb : Int))).setCell ⟨gd, 1, none⟩ (.slice A' 2 d') = W8 at *
                  have g0 := HD8.out.cell 0
                  have g1 := HD8.out.cell 1
                  have x0 := HN8.out.cell 0
                  simp at g0 g1 x0
                  have i2 := HF8.out.cp a1 (pb : Int) (by rw [HPB.out]; exact pOf_at HGD1.out.lt)
                  have ta : (a1 : Int) < (n : Int) := by have := HGD1.out.lt; have := HLC.out; omega
                  have tb : 0 ≤ (a1 : Int) := by omega
                  have HEA := hid_ (HX8.out.to (below1 W8 (.cells #[.int .i64 (n2 : Int), .int .i64 0] 3)).drew)
                  have HEB : Hid (Elems (W8.alloc (.cells #[.int .i64 (n2 : Int), .int .i64 0] 3)).drew (W8.alloc (.cells #[.int .i64 (n2 : Int), .int .i64 0] 3)).drew.heap.size (.slice (some ⟨W8.heap.size, 0, none⟩) 2 2) (ints [(n2 : Int), 0])) := hid_ (blk_elems (w := (W8.alloc (.cells #[.int .i64 (n2 : Int), .int .i64 0] 3)).drew) (Blk.new W8 3 #[.int .i64 (n2 : Int), .int .i64 0]) rfl)
                  have KSI : Hid (∀ Y B9 f9, Elems Y Y.heap.size (.slice A' 2 d') (ints [(n2 : Int), 0]) → Elems Y Y.heap.size (.slice B9 2 f9) (ints [(n2 : Int), 0]) → Calls Try.prog 10 #[.slice A' 2 d', .slice B9 2 f9] Y fun e w' => e = .returned (.bool true) ∧ Below Y.heap.size Y w') := hid_ (fun Y B9 f9 h1 h2 => (Tp.sameInts_any [(n2 : Int), 0] [(n2 : Int), 0] _ _ Y h1 h2 (by simp)).mono fun e w' h => by
                    obtain ⟨h3, nn, rfl⟩ := h
                    rw [decide_eq_true rfl] at h3
                    exact ⟨h3, below_drewN (Below.refl _ _) _⟩)
                  go_region_held3 (fun w' => w'.cell? ⟨gd, 0, none⟩ = some (.int .i64 (pb : Int)) ∧ w'.cell? ⟨gd, 1, none⟩ = some (.slice A' 2 d') ∧ w'.cell? ⟨w5.heap.size, 0, none⟩ = some (.int .i64 (a1 : Int)) ∧ w'.cell? ⟨b2, off2 + a1, none⟩ = some (.int .i64 (pb : Int)) ∧ Below W8.heap.size W8 w')
                    (first
                      | (with_reducible assumption)
                      | (with_reducible exact (let hb := (Below.refl W8.heap.size W8).drew; ⟨keepc hb g0, keepc hb g1, keepc hb x0, keepc hb i2, hb⟩))
                      | (with_reducible exact (let hb := (below1 W8 _); ⟨keepc hb g0, keepc hb g1, keepc hb x0, keepc hb i2, hb⟩))
                      | (with_reducible exact (let hb := (below1 W8 _).drew; ⟨keepc hb g0, keepc hb g1, keepc hb x0, keepc hb i2, hb⟩))
                      | (with_reducible exact (let hb := H9.out; ⟨keepc hb g0, keepc hb g1, keepc hb x0, keepc hb i2, hb⟩))
                      | (go_keep; done))
                    (first
                      | (go_at_call 10; (with_reducible refine (KSI.out _ _ _ HEA.out HEB.out).mono ?_); rintro e w9 ⟨rfl, hb9x⟩; have H9 : Hid (Below W8.heap.size W8 w9) := hid_ (bnext (below1 W8 _).drew hb9x); clear hb9x))
                  go_upto_region 30 with fail
                  have HF9 := hid_ (HF8.out.to H9.out)
                  have HC9 := hid_ (HC8.out.to H9.out)
                  have HN9 := hid_ (HN8.out.to H9.out)
                  have HD9 := hid_ (HD8.out.to H9.out)
                  have HI9 := hid_ (HI8.out.below H9.out hL8)
                  have HX9 := hid_ (HX8.out.to H9.out)
                  have HB9 := hid_ (bnext HB8.out H9.out)
                  have hL9 : b6 < w9.heap.size := Nat.lt_of_lt_of_le hL8 H9.out.size
                  clear g0 g1 x0 i2 HF8 HC8 HN8 HD8 HI8 HX8 HB8 H9 HEA HEB KSI
                  have v0 := HC9.out.cell 0
                  have v1 := HC9.out.cell 1
                  have f0 := HC9.out.free 0
                  have f1 := HC9.out.free 1
                  have lv := HC9.out.lt
                  have x0 := HN9.out.cell 0
                  have x1 := HN9.out.cell 1
                  simp at v0 v1 x0 x1
                  go_wp2_with fail
                  go_round
                  case rel =>
                    have hbc := (HC9.out.set_ 0 (.int .i64 (a1 : Int))).set_ 1 (.slice (some ⟨b6, o6, none⟩) Q c6)
                    simp at hbc
                    refine ⟨k + 1, a1, b6, o6, c6, d', n2, A', rs1, by go_num, by omega, hid_ ⟨HGD1.out, HOE.out.symm, by omega, hbc, by rw [set_size, set_size]; exact hL9, ⟨HL6.out.2.1, HL6.out.2.2.1⟩, ints_two HI9.out HL6.out.2.1 _ _, ?_, elems_out (p := ⟨gc, 1, none⟩) (elems_out (p := ⟨gc, 0, none⟩) HX9.out HNN.out.1) HNN.out.1, HNN.out⟩, hid_ (HF9.out.two HGC2.out _ _), hid_ (below_two HB9.out HGG.out.2.1 _ _)⟩
                    rw [← HPB.out]
                    exact blk_two HD9.out (fun e => HGG.out.1 e.symm) _ _
                  case measure => simp [intOf]; omega
          · go_wp2_with (go_at_call 5; (with_reducible refine (Tp.lives_any _).mono ?_); rintro e w99 ⟨rfl, hb99⟩)
            go_ret
            exact ⟨rfl, bnext HBW.out hb99⟩
end Go.Proofs.Ytonammaecpapmaa.Pp

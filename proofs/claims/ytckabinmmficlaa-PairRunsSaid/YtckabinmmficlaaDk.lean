/- The laws' next: plainly; a simulated step where it is not made. -/
import Derived.Test.YtckabinmmficlaaDj
import Derived.Test.YtckabinmmficlaaCm
namespace Go.Proofs.Ytckabinmmficlaa.Pp
open Go.RowKit

theorem step_two {R : Int} {code : List Cn.Ins} {a : Nat} {rs : List Int} (hv : Cn.vCode R code = true) (hg : Cn.Good R.toNat code a rs) :
    ((Cn.stepS R code a rs).err = 5 ∨ (Cn.stepS R code a rs).err = 4) ∨ ∃ a' rs', Cn.stp code a rs = some (some (a', rs')) ∧ Cn.Good R.toNat code a' rs' ∧ Cn.stepS R code a rs = ⟨(a' : Int), rs', 1, 0⟩ := by
  have hR := Cn.vCode_reg hv
  have hf := Cn.good_fits (R := R.toNat) (by rw [Int.toNat_of_nonneg (by omega)]; exact hv) hg
  rw [Int.toNat_of_nonneg (by omega)] at hf
  cases hs : Cn.stp code a rs with
  | none =>
    left; left
    rw [Cn.stepS, hf, if_neg (by simp), Int.toNat_natCast, if_pos hs]
  | some o =>
    cases o with
    | none =>
      left; right
      rw [Cn.stepS, hf, if_neg (by simp), Int.toNat_natCast, hs, if_neg (by simp), Cn.runS_eq hf (by omega) (by omega), Int.toNat_natCast]
      simp [Cn.walkC, hs, Cn.resOf]
    | some s =>
      right
      exact ⟨s.1, s.2, rfl, hg.step (by rw [Int.toNat_of_nonneg (by omega)]; exact hv) hs, Cn.stepS_of hv hg hs⟩
theorem good_cont {R : Int} {code : List Cn.Ins} {a : Nat} {rs : List Int} (hv : Cn.vCode R code = true) (hR : ¬ 6 < R) (hg : Cn.Good R.toNat code a rs) : contB rs = true ∧ (∀ x ∈ rs, x ≤ 9223372036854775807) ∧ rs.length ≤ 6 := by
  have h1 := Cn.vCode_reg hv
  have h2 := hg.len
  refine ⟨?_, fun x hx => by have := (hg.ok x hx).2; omega, by omega⟩
  rw [contB, Bool.and_eq_true, Bool.and_eq_true, List.all_eq_true]
  exact ⟨⟨fun x hx => by simpa using (hg.ok x hx).1, by simp; omega⟩, by simp; omega⟩
/-- P8.1, P8.4: Until, on the machine with two registers. -/
theorem until_two {R : Int} {code : List Cn.Ins} (hv : Cn.vCode R code = true) (hR : ¬ 6 < R) (hs : ¬ 2000 < sizeL (code.map sOf)) {a a' : Nat} {rs rs' : List Int} (hg : Cn.Good R.toNat code a rs) (hst : Cn.stp code a rs = some (some (a', rs'))) {n m : Nat} (hn : encS 0 (natL rs) 1 = some n) (hm : encS 0 (natL rs') 1 = some m) (hx : (max n m : Nat) ≤ 5000) :
    ∃ k : Int, k ≤ 100 + 100 * (max n m : Nat) ∧ Cn.untilS 2 (qOf code) ((sizeL ((code.map sOf).take a) : Nat) : Int) [(n : Int), 0] (pOf code) (100 + 100 * (max n m : Nat)) = ⟨((sizeL ((code.map sOf).take a') : Nat) : Int), [(m : Int), 0], k, 0⟩ := by
  have hR1 := Cn.vCode_reg hv
  have hv' : Cn.vCode (R.toNat : Int) code = true := by rw [Int.toNat_of_nonneg (by omega)]; exact hv
  obtain ⟨k, k1, k2, k3⟩ := sim_step hv' (by omega) hg hst hn hm
  have hq := qOf_valid hv hR hs
  have hal : a < (code.map sOf).length := by rw [List.length_map]; exact hg.lt
  have hsl := size_lt (p := code.map sOf) (a := a) (b := (code.map sOf).length) hal hal
  rw [List.take_length] at hsl
  have hgq : Cn.Good 2 (qOf code) (sizeL ((code.map sOf).take a)) [(n : Int), 0] := ⟨by rw [qOf_len]; exact hsl, rfl, fun x h => by
    simp at h
    omega⟩
  have hf : Cn.fitsB 2 (qOf code) ((sizeL ((code.map sOf).take a) : Nat) : Int) [(n : Int), 0] = true := Cn.good_fits (R := 2) hq hgq
  have hr := rise_pts (code.map sOf)
  have e1 : (100 + 100 * ((max n m : Nat) : Int)).toNat = k + ((100 + 100 * max n m) - k) := by omega
  refine ⟨k, by omega, ?_⟩
  have h9 := k3 ((100 + 100 * max n m) - k) 0
  rw [Cn.bump_zero, Nat.zero_add] at h9
  rw [Cn.untilS, hf, if_neg (by simp), if_neg (by
    rw [qOf_len, pOf, hr]
    simp
    omega), e1, Int.toNat_natCast]
  have h10 : Cn.walkC (qOf code) (Cn.finP (pOf code)) (k + ((100 + 100 * max n m) - k)) (sizeL ((code.map sOf).take a)) [(n : Int), 0] = some ⟨sizeL ((code.map sOf).take a'), [(m : Int), 0], k, true⟩ := h9
  rw [h10]
  rfl
theorem ints_elems {w : World} {A : Option Addr} {n c : Nat} {xs : List Int} (h : Cn.IntsAt w w.heap.size A n xs) (hn : 0 < n) : Elems w w.heap.size (.slice A n c) (ints xs) := by
  obtain ⟨b, off, rfl, hb, hc⟩ := h.at_ hn
  refine .inr ⟨b, off, c, by rw [ints_len, h.len], hb, fun k u hu => ?_⟩
  obtain ⟨x, hx, rfl⟩ := ints_get hu
  exact hc k x hx
theorem elems_ints {w : World} {A : Option Addr} {n c : Nat} {xs : List Int} (h : Elems w w.heap.size (.slice A n c) (ints xs)) : Cn.IntsAt w w.heap.size A n xs := by
  have hl := h.len
  rw [ints_len] at hl
  refine ⟨hl, fun hn => ?_⟩
  obtain ⟨b, off, rfl, hb, hc⟩ := h.at_ hn
  exact ⟨b, off, rfl, hb, fun k x hk => hc k _ (ints_at hk)⟩
theorem ints_two {w1 : World} {b o r : Nat} {xs : List Int} (h : Cn.IntsIn w1 b o xs) (hne : b ≠ r) (x y : Value) : Cn.IntsIn ((w1.setCell ⟨r, 0, none⟩ x).setCell ⟨r, 1, none⟩ y) b o xs := fun k z hk => by
  rw [World.cell?_of_block (a := ⟨b, o + k, none⟩) ((Below.heap_setCell _ ⟨r, 1, none⟩ y _ hne).trans (Below.heap_setCell _ ⟨r, 0, none⟩ x _ hne))]
  exact h k z hk
theorem cell_two {w1 : World} {r : Nat} {p : Addr} {v : Value} (h : w1.cell? p = some v) (hne : p.block ≠ r) (x y : Value) : ((w1.setCell ⟨r, 0, none⟩ x).setCell ⟨r, 1, none⟩ y).cell? p = some v := by
  rw [World.cell?_of_block (a := p) ((Below.heap_setCell _ ⟨r, 1, none⟩ y _ hne).trans (Below.heap_setCell _ ⟨r, 0, none⟩ x _ hne))]
  exact h
/-- What next leaves: a state of the machine. -/
def NextRan (R : Int) (code : List Cn.Ins) (m b4 : Nat) (w : World) (e : Ending) (w' : World) : Prop :=
  ∃ (a' : Nat) (rs' : List Int) (b' o' c' : Nat) (dn : Bool), e = .returned (.tuple #[.agg #[.int .i64 (a' : Int), .slice (some ⟨b', o', none⟩) m c'], .bool dn, .bool true]) ∧ Cn.Good R.toNat code a' rs' ∧ b' < w'.heap.size ∧ Cn.IntsIn w' b' o' rs' ∧ (b' = b4 ∨ w.heap.size ≤ b') ∧ Below w.heap.size w w'

set_option maxRecDepth 100000 in
set_option maxHeartbeats 8000000 in
theorem next_end (R : Int) (b0 o0 n c b off c1 b2 off2 c2 b4 o4 m c4 a L : Nat) (code : List Cn.Ins) (rs : List Int) (M : Nat) (w : World) (hM : M ≤ 5000) (hv : Cn.vCode R code = true) (hR : ¬ 6 < R) (hs : ¬ 2000 < sizeL (code.map sOf)) (hL : sizeL (code.map sOf) = L) (hg : Cn.Good R.toNat code a rs) (hm : m = R.toNat) (hn : code.length = n)
    (hb0 : b0 < w.heap.size) (hc0 : Cn.CodeIn w b0 o0 code) (hb : b < w.heap.size) (hq : Cn.CodeIn w b off (qOf code)) (hb2 : b2 < w.heap.size) (hp : Cn.IntsIn w b2 off2 (pOf code)) (hb4 : b4 < w.heap.size) (hr : Cn.IntsIn w b4 o4 rs) (he : (Cn.stepS R code a rs).err = 5 ∨ (Cn.stepS R code a rs).err = 4) :
    Calls Try.prog 19 #[.agg #[.int .i64 R, .slice (some ⟨b0, o0, none⟩) n c], .agg #[.int .i64 2, .slice (some ⟨b, off, none⟩) L c1], .slice (some ⟨b2, off2, none⟩) n c2, .agg #[.int .i64 (a : Int), .slice (some ⟨b4, o4, none⟩) m c4], .int .i64 (M : Int)] w (NextRan R code m b4 w) := by
  have hm0 : 0 < m := by have := Cn.vCode_reg hv; omega
  have hn0 : 0 < n := by have := hg.lt; omega
  have hlr : rs.length = m := by rw [hg.len, hm]
  obtain ⟨x0, hx0⟩ : ∃ x, x = (Cn.stepS R code a rs).at_ := ⟨_, rfl⟩
  obtain ⟨er, her⟩ : ∃ x, x = (Cn.stepS R code a rs).err := ⟨_, rfl⟩
  have KST : Hid (∀ Y, b0 < Y.heap.size → Cn.CodeIn Y b0 o0 code → b4 < Y.heap.size → Cn.IntsIn Y b4 o4 rs → Calls Try.prog 29 #[.agg #[.int .i64 R, .slice (some ⟨b0, o0, none⟩) n c], .agg #[.int .i64 (a : Int), .slice (some ⟨b4, o4, none⟩) m c4]] Y fun e w' => ∃ A k d, e = .returned (.tuple #[.agg #[.int .i64 x0, .slice A k d], .int .i64 er]) ∧ Below Y.heap.size Y w') := hid_ (fun Y h1 h2 h3 h4 => (Cn.step_any R a _ _ n c m c4 code rs Y ⟨hn, fun _ => ⟨b0, o0, rfl, h1, h2⟩⟩ ⟨hlr, fun _ => ⟨b4, o4, rfl, h3, h4⟩⟩).mono fun e w' h => by
    obtain ⟨A, k, d, e1, _, _, e2⟩ := h
    rw [hx0, her]
    exact ⟨A, k, d, e1, e2⟩)
  rw [← her] at he
  clear hx0 her
  have hbW : Below w.heap.size w ((((w.alloc (.cells #[.int .i64 R, .slice (some ⟨b0, o0, none⟩) n c] 38)).alloc (.cells #[.int .i64 2, .slice (some ⟨b, off, none⟩) L c1] 38)).alloc (.cells #[.int .i64 (a : Int), .slice (some ⟨b4, o4, none⟩) m c4] 47)).alloc (.cells #[.int .i64 0, .slice none 0 0] 47)) := (((below1 w (.cells #[.int .i64 R, .slice (some ⟨b0, o0, none⟩) n c] 38)).alloc (by simp <;> omega) (.cells #[.int .i64 2, .slice (some ⟨b, off, none⟩) L c1] 38)).alloc (by simp <;> omega) (.cells #[.int .i64 (a : Int), .slice (some ⟨b4, o4, none⟩) m c4] 47)).alloc (by simp <;> omega) (.cells #[.int .i64 0, .slice none 0 0] 47)
  have HC0 := hid_ (hc0.below hbW hb0)
  have HCQ := hid_ (hq.below hbW hb)
  have HP := hid_ (hp.below hbW hb2)
  have HR := hid_ (hr.below hbW hb4)
  have hsz : ((((w.alloc (.cells #[.int .i64 R, .slice (some ⟨b0, o0, none⟩) n c] 38)).alloc (.cells #[.int .i64 2, .slice (some ⟨b, off, none⟩) L c1] 38)).alloc (.cells #[.int .i64 (a : Int), .slice (some ⟨b4, o4, none⟩) m c4] 47)).alloc (.cells #[.int .i64 0, .slice none 0 0] 47)).heap.size = w.heap.size + 1 + 1 + 1 + 1 := by simp
  have HB0 : Hid (Blk ((((w.alloc (.cells #[.int .i64 R, .slice (some ⟨b0, o0, none⟩) n c] 38)).alloc (.cells #[.int .i64 2, .slice (some ⟨b, off, none⟩) L c1] 38)).alloc (.cells #[.int .i64 (a : Int), .slice (some ⟨b4, o4, none⟩) m c4] 47)).alloc (.cells #[.int .i64 0, .slice none 0 0] 47)) w.heap.size 38 #[.int .i64 R, .slice (some ⟨b0, o0, none⟩) n c]) := hid_ ((((Blk.new w 38 #[.int .i64 R, .slice (some ⟨b0, o0, none⟩) n c]).alloc _).alloc _).alloc _)
  have HB1 : Hid (Blk ((((w.alloc (.cells #[.int .i64 R, .slice (some ⟨b0, o0, none⟩) n c] 38)).alloc (.cells #[.int .i64 2, .slice (some ⟨b, off, none⟩) L c1] 38)).alloc (.cells #[.int .i64 (a : Int), .slice (some ⟨b4, o4, none⟩) m c4] 47)).alloc (.cells #[.int .i64 0, .slice none 0 0] 47)) (w.heap.size + 1) 38 #[.int .i64 2, .slice (some ⟨b, off, none⟩) L c1]) := hid_ (by
    have h := ((Blk.new (w.alloc (.cells #[.int .i64 R, .slice (some ⟨b0, o0, none⟩) n c] 38)) 38 #[.int .i64 2, .slice (some ⟨b, off, none⟩) L c1]).alloc (.cells #[.int .i64 (a : Int), .slice (some ⟨b4, o4, none⟩) m c4] 47)).alloc (.cells #[.int .i64 0, .slice none 0 0] 47)
    rw [show (w.alloc (.cells #[.int .i64 R, .slice (some ⟨b0, o0, none⟩) n c] 38)).heap.size = w.heap.size + 1 by simp] at h
    exact h)
  have HB2 : Hid (Blk ((((w.alloc (.cells #[.int .i64 R, .slice (some ⟨b0, o0, none⟩) n c] 38)).alloc (.cells #[.int .i64 2, .slice (some ⟨b, off, none⟩) L c1] 38)).alloc (.cells #[.int .i64 (a : Int), .slice (some ⟨b4, o4, none⟩) m c4] 47)).alloc (.cells #[.int .i64 0, .slice none 0 0] 47)) (w.heap.size + 1 + 1) 47 #[.int .i64 (a : Int), .slice (some ⟨b4, o4, none⟩) m c4]) := hid_ (by
    have h := (Blk.new ((w.alloc (.cells #[.int .i64 R, .slice (some ⟨b0, o0, none⟩) n c] 38)).alloc (.cells #[.int .i64 2, .slice (some ⟨b, off, none⟩) L c1] 38)) 47 #[.int .i64 (a : Int), .slice (some ⟨b4, o4, none⟩) m c4]).alloc (.cells #[.int .i64 0, .slice none 0 0] 47)
    rw [show ((w.alloc (.cells #[.int .i64 R, .slice (some ⟨b0, o0, none⟩) n c] 38)).alloc (.cells #[.int .i64 2, .slice (some ⟨b, off, none⟩) L c1] 38)).heap.size = w.heap.size + 1 + 1 by simp] at h
    exact h)
  have HB3 : Hid (Blk ((((w.alloc (.cells #[.int .i64 R, .slice (some ⟨b0, o0, none⟩) n c] 38)).alloc (.cells #[.int .i64 2, .slice (some ⟨b, off, none⟩) L c1] 38)).alloc (.cells #[.int .i64 (a : Int), .slice (some ⟨b4, o4, none⟩) m c4] 47)).alloc (.cells #[.int .i64 0, .slice none 0 0] 47)) (w.heap.size + 1 + 1 + 1) 47 #[.int .i64 0, .slice none 0 0]) := hid_ (by
    have h := Blk.new (((w.alloc (.cells #[.int .i64 R, .slice (some ⟨b0, o0, none⟩) n c] 38)).alloc (.cells #[.int .i64 2, .slice (some ⟨b, off, none⟩) L c1] 38)).alloc (.cells #[.int .i64 (a : Int), .slice (some ⟨b4, o4, none⟩) m c4] 47)) 47 #[.int .i64 0, .slice none 0 0]
    rw [show (((w.alloc (.cells #[.int .i64 R, .slice (some ⟨b0, o0, none⟩) n c] 38)).alloc (.cells #[.int .i64 2, .slice (some ⟨b, off, none⟩) L c1] 38)).alloc (.cells #[.int .i64 (a : Int), .slice (some ⟨b4, o4, none⟩) m c4] 47)).heap.size = w.heap.size + 1 + 1 + 1 by simp] at h
    exact h)
  have HB4N := hid_ hb4
  have HB2N := hid_ hb2
  have HG := hid_ hg
  have HV := hid_ hv
  have HLR := hid_ hlr
  have HLC := hid_ hn
  have hLI : (0 : Int) ≤ 0 := by omega
  replace hb0 : b0 < ((((w.alloc (.cells #[.int .i64 R, .slice (some ⟨b0, o0, none⟩) n c] 38)).alloc (.cells #[.int .i64 2, .slice (some ⟨b, off, none⟩) L c1] 38)).alloc (.cells #[.int .i64 (a : Int), .slice (some ⟨b4, o4, none⟩) m c4] 47)).alloc (.cells #[.int .i64 0, .slice none 0 0] 47)).heap.size := by omega
  replace hb : b < ((((w.alloc (.cells #[.int .i64 R, .slice (some ⟨b0, o0, none⟩) n c] 38)).alloc (.cells #[.int .i64 2, .slice (some ⟨b, off, none⟩) L c1] 38)).alloc (.cells #[.int .i64 (a : Int), .slice (some ⟨b4, o4, none⟩) m c4] 47)).alloc (.cells #[.int .i64 0, .slice none 0 0] 47)).heap.size := by omega
  replace hb2 : b2 < ((((w.alloc (.cells #[.int .i64 R, .slice (some ⟨b0, o0, none⟩) n c] 38)).alloc (.cells #[.int .i64 2, .slice (some ⟨b, off, none⟩) L c1] 38)).alloc (.cells #[.int .i64 (a : Int), .slice (some ⟨b4, o4, none⟩) m c4] 47)).alloc (.cells #[.int .i64 0, .slice none 0 0] 47)).heap.size := by omega
  replace hb4 : b4 < ((((w.alloc (.cells #[.int .i64 R, .slice (some ⟨b0, o0, none⟩) n c] 38)).alloc (.cells #[.int .i64 2, .slice (some ⟨b, off, none⟩) L c1] 38)).alloc (.cells #[.int .i64 (a : Int), .slice (some ⟨b4, o4, none⟩) m c4] 47)).alloc (.cells #[.int .i64 0, .slice none 0 0] 47)).heap.size := by omega
  have HWZ := hid_ hsz
  clear hc0 hq hp hr hsz hg hv hlr hn hs hm hL
  go_enter Try.func19, Try.ntmps19
  go_upto_region 1 with fail
  generalize (((w.alloc (.cells #[.int .i64 R, .slice (some ⟨b0, o0, none⟩) n c] 38)).alloc (.cells #[.int .i64 2, .slice (some ⟨b, off, none⟩) L c1] 38)).alloc (.cells #[.int .i64 (a : Int), .slice (some ⟨b4, o4, none⟩) m c4] 47)).alloc (.cells #[.int .i64 0, .slice none 0 0] 47) = W at *
  have p0 := HB0.out.cell 0
  have p1 := HB0.out.cell 1
  have q0 := HB1.out.cell 0
  have q1 := HB1.out.cell 1
  have v0 := HB2.out.cell 0
  have v1 := HB2.out.cell 1
  have r0 := HB3.out.cell 0
  have r1 := HB3.out.cell 1
  simp at p0 p1 q0 q1 v0 v1 r0 r1
  have s0 := HB3.out.free 0
  have s1 := HB3.out.free 1
  clear s0 s1
  go_upto_region 2 with (go_at_call 29; (with_reducible refine (KST.out _ hb0 HC0.out hb4 HR.out).mono ?_); rintro e w1 ⟨A1, k1, d1, rfl, hb1⟩)
  have hbx := hb1.alloc hb1.size (.cells #[.int .i64 x0, .slice A1 k1 d1] 47)
  clear p0 p1 q0 q1 v0 v1 r0 r1
  replace hbW := bnext hbW hbx; replace HC0 := hid_ (HC0.out.below hbx hb0); replace HCQ := hid_ (HCQ.out.below hbx hb); replace HP := hid_ (HP.out.below hbx hb2); replace HR := hid_ (HR.out.below hbx hb4); replace HB0 := hid_ (HB0.out.to hbx); replace HB1 := hid_ (HB1.out.to hbx); replace HB2 := hid_ (HB2.out.to hbx); replace HB3 := hid_ (HB3.out.to hbx); replace hb0 := Nat.lt_of_lt_of_le hb0 hbx.size; replace hb := Nat.lt_of_lt_of_le hb hbx.size; replace hb2 := Nat.lt_of_lt_of_le hb2 hbx.size; replace hb4 := Nat.lt_of_lt_of_le hb4 hbx.size; 
  clear hb1 hbx
  generalize w1.alloc (.cells #[.int .i64 x0, .slice A1 k1 d1] 47) = W2 at *
  have p0 := HB0.out.cell 0
  have p1 := HB0.out.cell 1
  have q0 := HB1.out.cell 0
  have q1 := HB1.out.cell 1
  have v0 := HB2.out.cell 0
  have v1 := HB2.out.cell 1
  have r0 := HB3.out.cell 0
  have r1 := HB3.out.cell 1
  simp at p0 p1 q0 q1 v0 v1 r0 r1
  have s0 := HB3.out.free 0
  have s1 := HB3.out.free 1
  have l3 := HB3.out.lt
  have l2 := HB2.out.lt
  obtain ⟨e0, e1⟩ := res_two HB3.out (.int .i64 (a : Int)) (.slice (some ⟨b4, o4, none⟩) m c4)
  rcases he with rfl | rfl
  all_goals
    go_wp2_with fail
    refine bodyPost_ret (v := .tuple #[.agg #[.int .i64 (a : Int), .slice (some ⟨b4, o4, none⟩) m c4], .bool true, .bool true]) (by simp [results, Try.results19, go_sem, e0, e1]) rfl ?_
    exact ⟨a, rs, b4, o4, c4, true, rfl, HG.out, by rw [set_size, set_size]; exact hb4, ints_two HR.out (by have := HB4N.out; omega) _ _, .inl rfl, below_two hbW (by omega) _ _⟩
end Go.Proofs.Ytckabinmmficlaa.Pp

/- Contracts: Fits. -/
import Derived.Test.YtonammaecpapmaaCb
namespace Go.Proofs.Ytonammaecpapmaa.Cn
open Go.RowKit

def IntsIn (w : World) (b off : Nat) (xs : List Int) : Prop := ∀ k x, xs[k]? = some x → w.cell? ⟨b, off + k, none⟩ = some (.int .i64 x)
theorem IntsIn.below {w w' : World} {b off B : Nat} {xs : List Int} (h : IntsIn w b off xs) (hb : Below B w w') (hg : b < B) : IntsIn w' b off xs :=
  fun k x hk => (hb.cell (p := ⟨b, off + k, none⟩) hg).trans (h k x hk)
/-- A slice of integers: nil or empty, or cells below block B. -/
structure IntsAt (w : World) (B : Nat) (A : Option Addr) (n : Nat) (xs : List Int) : Prop where
  len : xs.length = n
  at_ : 0 < n → ∃ b off, A = some ⟨b, off, none⟩ ∧ b < B ∧ IntsIn w b off xs
theorem IntsAt.below {w w' : World} {B B' : Nat} {A : Option Addr} {n : Nat} {xs : List Int} (h : IntsAt w B A n xs) (hb : Below B' w w') (hB : B ≤ B') : IntsAt w' B A n xs :=
  ⟨h.len, fun hn => by
    obtain ⟨b, off, e, hlt, hc⟩ := h.at_ hn
    exact ⟨b, off, e, hlt, hc.below hb (by omega)⟩⟩

theorem CodeAt.to {w w' : World} {A : Option Addr} {n : Nat} {code : List Ins} (h : CodeAt w w.heap.size A n code) (hb : Below w.heap.size w w') : CodeAt w' w'.heap.size A n code :=
  ⟨h.len, fun hn => by
    obtain ⟨b, off, e, hlt, hc⟩ := h.at_ hn
    exact ⟨b, off, e, Nat.lt_of_lt_of_le hlt hb.size, hc.below hb hlt⟩⟩
theorem IntsAt.to {w w' : World} {A : Option Addr} {n : Nat} {xs : List Int} (h : IntsAt w w.heap.size A n xs) (hb : Below w.heap.size w w') : IntsAt w' w'.heap.size A n xs :=
  ⟨h.len, fun hn => by
    obtain ⟨b, off, e, hlt, hc⟩ := h.at_ hn
    exact ⟨b, off, e, Nat.lt_of_lt_of_le hlt hb.size, hc.below hb hlt⟩⟩
/-- The world behind two parameters' boxes. -/
theorem below2 (w : World) (o o' : Obj) : Below w.heap.size w ((w.alloc o).alloc o') := ((Below.refl _ w).alloc (Nat.le_refl _) o).alloc (by simp) o'
theorem bnext {w w1 w2 : World} (h : Below w.heap.size w w1) (h2 : Below w1.heap.size w1 w2) : Below w.heap.size w w2 := h.trans (h2.mono h.size)

/-- Two boxes of two cells each, behind a call. -/
theorem boxes2 {w w1 : World} {t t' : TypeId} {a b a' b' : Value} (hb : Below ((w.alloc (.cells #[a, b] t)).alloc (.cells #[a', b'] t')).heap.size ((w.alloc (.cells #[a, b] t)).alloc (.cells #[a', b'] t')) w1) :
    w1.cell? ⟨w.heap.size, 0, none⟩ = some a ∧ w1.cell? ⟨w.heap.size, 1, none⟩ = some b ∧ w1.cell? ⟨w.heap.size + 1, 0, none⟩ = some a' ∧ w1.cell? ⟨w.heap.size + 1, 1, none⟩ = some b' ∧ w.heap.size + 1 < w1.heap.size ∧ Below w.heap.size w w1 := by
  have b1 : Blk w1 w.heap.size t #[a, b] := ((Blk.new w t #[a, b]).alloc _).below hb (by simp; omega)
  have b2 : Blk w1 (w.heap.size + 1) t' #[a', b'] := by
    have := (Blk.new (w.alloc (.cells #[a, b] t)) t' #[a', b']).below hb (by simp)
    simpa using this
  exact ⟨b1.cell 0, b1.cell 1, b2.cell 0, b2.cell 1, by have := hb.size; simp at this; omega, (below2 w _ _).trans (hb.mono (by simp; omega))⟩
/-- One box of two cells, behind a call. -/
theorem boxes1 {w w1 : World} {t : TypeId} {a b : Value} (hb : Below (w.alloc (.cells #[a, b] t)).heap.size (w.alloc (.cells #[a, b] t)) w1) :
    w1.cell? ⟨w.heap.size, 0, none⟩ = some a ∧ w1.cell? ⟨w.heap.size, 1, none⟩ = some b ∧ w.heap.size < w1.heap.size ∧ Below w.heap.size w w1 := by
  have b1 : Blk w1 w.heap.size t #[a, b] := (Blk.new w t #[a, b]).below hb (by simp)
  exact ⟨b1.cell 0, b1.cell 1, by have := hb.size; simp at this; omega, ((Below.refl _ w).alloc (Nat.le_refl _) _).trans (hb.mono (by simp))⟩

/-- A register's content. -/
def okR (x : Int) : Bool := decide (0 ≤ x ∧ x ≤ 1152921504606846976)
def fitsB (R : Int) (code : List Ins) (at_ : Int) (rs : List Int) : Bool := vCode R code && inB at_ code.length && decide ((rs.length : Int) = R) && rs.all okR

theorem all_step' {α : Type} {code : List α} {p : α → Bool} {k : Nat} {i : α} (hi : code[k]? = some i) (ht : (code.take k).all p = true) (hp : p i = true) : (code.take (k + 1)).all p = true := by
  rw [List.take_add_one, hi, List.all_append, ht]
  simp [hp]
theorem all_not' {α : Type} {code : List α} {p : α → Bool} {k : Nat} {i : α} (hi : code[k]? = some i) (hp : p i = false) : code.all p = false := by
  rw [List.all_eq_false]
  exact ⟨i, List.mem_of_getElem? hi, by simp [hp]⟩

set_option maxHeartbeats 1000000 in
theorem fits_in (R at_ : Int) (A : Option Addr) (n c : Nat) (code : List Ins) (b off m d : Nat) (rs : List Int) (w : World) (hc : CodeAt w w.heap.size A n code) (hl : rs.length = m) (hm : 0 < m) (hm2 : m ≤ 16) (hb : b < w.heap.size) (hr : IntsIn w b off rs)
    (hv : vCode R code = true) (hat : inB at_ n = true) (hR : (m : Int) = R) :
    Calls Try.prog 17 #[.agg #[.int .i64 R, .slice A n c], .agg #[.int .i64 at_, .slice (some ⟨b, off, none⟩) m d]] w fun e w' => e = .returned (.bool (rs.all okR)) ∧ Below w.heap.size w w' := by
  subst hR
  have HR := hid_ hr; clear hr
  have HL := hid_ hl; clear hl
  have HC := hid_ hc; clear hc
  go_enter Try.func17, Try.ntmps17
  go_wp2_with fail
  refine (valid_any _ _ _ _ code _ (HC.out.to (below2 w _ _))).mono ?_
  rintro e w1 ⟨rfl, hb1⟩
  obtain ⟨c0, c1, c2, c3, hz, hw1⟩ := boxes2 hb1
  clear hb1
  go_wp2_with fail
  refine (isTarget_any _ _ _ _ _ _).mono ?_
  rintro e w2 ⟨rfl, hb2⟩
  replace c0 := keepc hb2 c0
  replace c1 := keepc hb2 c1
  replace c2 := keepc hb2 c2
  replace c3 := keepc hb2 c3
  have hw2 := bnext hw1 hb2
  go_wp2_with fail
  go_loopw [28] (fun s wr => ∃ k : Nat, s = .int .i64 k ∧ k ≤ m ∧ Hid (((rs.take k).all okR) = true) ∧ wr = w2) (fun s _ => m - (intOf s).toNat)
  case atStart => exact ⟨0, rfl, Nat.zero_le _, hid_ (by simp), rfl⟩
  case round =>
    obtain ⟨k, rfl, hk, HT, rfl⟩ := hrel
    by_cases hlt : k < m
    · obtain ⟨x, hx⟩ : ∃ x, rs[k]? = some x := ⟨_, List.getElem?_eq_getElem (by rw [HL.out]; exact hlt)⟩
      have i0 := (HR.out.below hw2 hb) k x hx
      have HX := hid_ hx
      clear hx
      by_cases hx0 : x < 0
      · go_wp2_with fail
        go_ret
        exact ⟨ret_bool (all_not' HX.out (by simp [okR]; omega)).symm, hw2⟩
      · by_cases hx1 : 1152921504606846976 < x
        · go_wp2_with fail
          go_ret
          exact ⟨ret_bool (all_not' HX.out (by simp [okR]; omega)).symm, hw2⟩
        · go_wp2_with fail
          go_roundw
          case rel => exact ⟨k + 1, by go_num, by omega, hid_ (all_step' HX.out HT.out (by simp [okR]; omega)), trivial⟩
          case measure => simp [intOf]; omega
    · have hkn : k = m := by omega
      go_wp2_with fail
      go_ret
      refine ⟨ret_bool ?_, hw2⟩
      have := HT.out
      rw [hkn, ← HL.out, List.take_length] at this
      exact this.symm

theorem vCode_reg {R : Int} {code : List Ins} (h : vCode R code = true) : 1 ≤ R ∧ R ≤ 16 ∧ 1 ≤ code.length ∧ code.length ≤ 2000 := by
  simp [vCode] at h; omega

set_option maxHeartbeats 1000000 in
theorem fits_any (R at_ : Int) (A A' : Option Addr) (n c m d : Nat) (code : List Ins) (rs : List Int) (w : World) (hc : CodeAt w w.heap.size A n code) (hr : IntsAt w w.heap.size A' m rs) :
    Calls Try.prog 17 #[.agg #[.int .i64 R, .slice A n c], .agg #[.int .i64 at_, .slice A' m d]] w fun e w' => e = .returned (.bool (fitsB R code at_ rs)) ∧ Below w.heap.size w w' := by
  have hl := hr.len
  have hn := hc.len
  cases hv : vCode R code
  · have HF : Hid (fitsB R code at_ rs = false) := by simp [fitsB, hv, Hid]
    have HC := hid_ hc; clear hc hr hl hn
    go_enter Try.func17, Try.ntmps17
    go_wp2_with fail
    refine (valid_any _ _ _ _ code _ (HC.out.to (below2 w _ _))).mono ?_
    rintro e w1 ⟨rfl, hb1⟩
    obtain ⟨c0, c1, c2, c3, hz, hw1⟩ := boxes2 hb1
    clear hb1
    go_wp2_with fail
    go_ret
    exact ⟨ret_bool HF.out.symm, hw1⟩
  · obtain ⟨r1, r2, n1, n2⟩ := vCode_reg hv
    cases ht : inB at_ n
    · have HF : Hid (fitsB R code at_ rs = false) := by rw [← hn] at ht; simp [fitsB, ht, Hid]
      have HC := hid_ hc; clear hc hr hl hn
      go_enter Try.func17, Try.ntmps17
      go_wp2_with fail
      refine (valid_any _ _ _ _ code _ (HC.out.to (below2 w _ _))).mono ?_
      rintro e w1 ⟨rfl, hb1⟩
      obtain ⟨c0, c1, c2, c3, hz, hw1⟩ := boxes2 hb1
      clear hb1
      go_wp2_with fail
      refine (isTarget_any _ _ _ _ _ _).mono ?_
      rintro e w2 ⟨rfl, hb2⟩
      have hw2 := bnext hw1 hb2
      go_wp2_with fail
      go_ret
      exact ⟨ret_bool HF.out.symm, hw2⟩
    · by_cases hm : (m : Int) = R
      · subst hm
        obtain ⟨b, off, rfl, hlt, hin⟩ := hr.at_ (by omega)
        refine (fits_in m at_ A n c code b off m d rs w hc hl (by omega) (by omega) hlt hin hv ht rfl).mono ?_
        rintro e w' ⟨rfl, hb⟩
        refine ⟨ret_bool ?_, hb⟩
        rw [← hn] at ht
        simp [fitsB, hv, ht, hl]
      · have HF : Hid (fitsB R code at_ rs = false) := by simp [fitsB, hl, hm, Hid]
        have hm' : ((m : Int) != R) = true := by simpa using hm
        have HC := hid_ hc; clear hc hr hl hn hm
        go_enter Try.func17, Try.ntmps17
        go_wp2_with fail
        refine (valid_any _ _ _ _ code _ (HC.out.to (below2 w _ _))).mono ?_
        rintro e w1 ⟨rfl, hb1⟩
        obtain ⟨c0, c1, c2, c3, hz, hw1⟩ := boxes2 hb1
        clear hb1
        go_wp2_with fail
        refine (isTarget_any _ _ _ _ _ _).mono ?_
        rintro e w2 ⟨rfl, hb2⟩
        replace c0 := keepc hb2 c0
        replace c1 := keepc hb2 c1
        replace c2 := keepc hb2 c2
        replace c3 := keepc hb2 c3
        have hw2 := bnext hw1 hb2
        go_wp2_with fail
        go_ret
        exact ⟨ret_bool HF.out.symm, hw2⟩
end Go.Proofs.Ytonammaecpapmaa.Cn

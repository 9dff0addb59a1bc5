/- Contracts: the specification's Valid and Fits. -/
import Derived.Test.YtckabinmmficlaaCc
namespace Go.Proofs.Ytckabinmmficlaa.Cn
open Go.RowKit

set_option maxHeartbeats 400000 in
theorem index_any (R x : Int) (A : Option Addr) (n c : Nat) (w : World) :
    Calls Try.prog 28 #[.agg #[.int .i64 R, .slice A n c], .int .i64 x] w fun e w' => e = .returned (.bool (inB x n)) ∧ Below w.heap.size w w' := by
  go_enter Try.func28, Try.ntmps28
  go_wp2
  all_goals
    go_ret
    exact ⟨ret_bool (by simp [inB]; omega), (Below.refl _ _).alloc (Nat.le_refl _) _⟩

theorem box4_keep {w w' : World} {t : TypeId} {a b c d : Value} (hb : Below (w.alloc (.cells #[a, b, c, d] t)).heap.size (w.alloc (.cells #[a, b, c, d] t)) w') :
    w'.cell? ⟨w.heap.size, 0, none⟩ = some a ∧ w'.cell? ⟨w.heap.size, 1, none⟩ = some b ∧ w'.cell? ⟨w.heap.size, 2, none⟩ = some c ∧ w'.cell? ⟨w.heap.size, 3, none⟩ = some d ∧ w.heap.size < w'.heap.size := by
  have b1 : Blk w' w.heap.size t #[a, b, c, d] := (Blk.new w t _).below hb (by simp)
  exact ⟨b1.cell 0, b1.cell 1, b1.cell 2, b1.cell 3, by have := hb.size; simp at this; omega⟩
theorem below_call1 {B : Nat} {w wr w' : World} {o : Obj} (h : Below B w wr) (hB : B ≤ wr.heap.size) (hb : Below (wr.alloc o).heap.size (wr.alloc o) w') : Below B w w' :=
  (h.alloc hB o).trans (hb.mono (by simp; omega))

set_option maxRecDepth 100000 in
set_option maxHeartbeats 4000000 in
theorem rvalid_in (R : Int) (b off : Nat) (n c : Nat) (code : List Ins) (w : World) (h1 : 1 ≤ R) (h2 : R ≤ 16) (h3 : 1 ≤ n) (h4 : n ≤ 2000) (hlen : code.length = n) (hb : b < w.heap.size)
    (hc : CodeIn w b off code) :
    Calls Try.prog 15 #[.agg #[.int .i64 R, .slice (some ⟨b, off, none⟩) n c]] w fun e w' =>
      e = .returned (.bool (code.all (vIns R code.length))) ∧ Below w.heap.size w w' := by
  have HC := hid_ hc; clear hc
  have HL := hid_ hlen; clear hlen
  go_enter Try.func15, Try.ntmps15
  go_wp2_with fail
  go_loopw [3] (fun s wr => ∃ k : Nat, s = .int .i64 k ∧ k ≤ n ∧ Hid (((code.take k).all (vIns R code.length)) = true) ∧ Below (w.heap.size + 1) (w.alloc (.cells #[.int .i64 R, .slice (some ⟨b, off, none⟩) n c] 38)) wr)
    (fun s _ => n - (intOf s).toNat)
  case atStart => exact ⟨0, rfl, Nat.zero_le _, hid_ (by simp), Below.refl _ _⟩
  case round =>
    obtain ⟨k, rfl, hk, HT, hbr⟩ := hrel
    have B1 : Blk wr w.heap.size 38 #[.int .i64 R, .slice (some ⟨b, off, none⟩) n c] := (Blk.new w 38 _).below hbr (by omega)
    have hbw : Below w.heap.size w wr := ((Below.refl _ w).alloc (Nat.le_refl _) _).trans (hbr.mono (by omega))
    have hC := (HC.out).below hbw hb
    have c1 := B1.cell 0
    have c2 := B1.cell 1
    simp at c1 c2
    have hbz := B1.lt
    by_cases hlt : k < n
    · obtain ⟨i, hi⟩ : ∃ i, code[k]? = some i := ⟨_, List.getElem?_eq_getElem (by rw [HL.out]; exact hlt)⟩
      obtain ⟨i0, i1, i2, i3⟩ := hC k i hi
      have HI := hid_ hi
      clear hi hC
      obtain ⟨op, rg, nx, zr⟩ := i
      simp only at i0 i1 i2 i3
      by_cases ho0 : op = 0
      · subst ho0
        by_cases hr1 : rg < 0
        · go_wp2_with fail
          go_ret
          refine ⟨ret_bool ?_, hbw.alloc (by omega) _⟩
          rw [all_not HI.out (by rw [HL.out]; simp [vIns, vInc, inB]; omega)]
        · by_cases hr2 : R ≤ rg
          · go_wp2_with fail
            go_ret
            refine ⟨ret_bool ?_, hbw.alloc (by omega) _⟩
            rw [all_not HI.out (by rw [HL.out]; simp [vIns, vInc, inB]; omega)]
          · have hrg : inB rg R = true := inB_true.2 (by omega)
            cases hnx : inB nx n
            · go_wp2_with fail
              refine (index_any _ _ _ _ _ _).mono ?_
              rintro e w2 ⟨rfl, hb2⟩
              obtain ⟨x0, x1, x2, x3, hz2⟩ := box4_keep hb2
              replace c1 := keepc hb2 (keepa _ c1)
              replace c2 := keepc hb2 (keepa _ c2)
              have hw2 := below_call1 hbw (by omega) hb2
              have hr2 := below_call1 hbr (by omega) hb2
              have hz2' : w.heap.size < w2.heap.size := by omega
              go_wp2_with fail
              go_ret
              refine ⟨ret_bool ?_, hw2⟩
              rw [all_not HI.out (by rw [HL.out]; simp [vIns, vInc, hnx])]
            · by_cases hzr : zr = 0
              · subst hzr
                go_wp2_with fail
                refine (index_any _ _ _ _ _ _).mono ?_
                rintro e w2 ⟨rfl, hb2⟩
                obtain ⟨x0, x1, x2, x3, hz2⟩ := box4_keep hb2
                replace c1 := keepc hb2 (keepa _ c1)
                replace c2 := keepc hb2 (keepa _ c2)
                have hw2 := below_call1 hbw (by omega) hb2
                have hr2 := below_call1 hbr (by omega) hb2
                have hz2' : w.heap.size < w2.heap.size := by omega
                go_wp2_with fail
                go_roundw
                case rel => exact ⟨k + 1, by go_num, by omega, hid_ (all_step HI.out HT.out (by rw [HL.out]; simp [vIns, vInc, hrg, hnx])), hr2⟩
                case measure => simp [intOf]; omega
              · have hzr' : (zr != 0) = true := by simpa using hzr
                go_wp2_with fail
                refine (index_any _ _ _ _ _ _).mono ?_
                rintro e w2 ⟨rfl, hb2⟩
                obtain ⟨x0, x1, x2, x3, hz2⟩ := box4_keep hb2
                replace c1 := keepc hb2 (keepa _ c1)
                replace c2 := keepc hb2 (keepa _ c2)
                have hw2 := below_call1 hbw (by omega) hb2
                have hr2 := below_call1 hbr (by omega) hb2
                have hz2' : w.heap.size < w2.heap.size := by omega
                go_wp2_with fail
                go_ret
                refine ⟨ret_bool ?_, hw2⟩
                rw [all_not HI.out (by rw [HL.out]; simp [vIns, vInc, hzr])]
      · by_cases ho1 : op = 1
        · subst ho1
          by_cases hr1 : rg < 0
          · go_wp2_with fail
            go_ret
            refine ⟨ret_bool ?_, hbw.alloc (by omega) _⟩
            rw [all_not HI.out (by rw [HL.out]; simp [vIns, vDec, inB]; omega)]
          · by_cases hr2 : R ≤ rg
            · go_wp2_with fail
              go_ret
              refine ⟨ret_bool ?_, hbw.alloc (by omega) _⟩
              rw [all_not HI.out (by rw [HL.out]; simp [vIns, vDec, inB]; omega)]
            · have hrg : inB rg R = true := inB_true.2 (by omega)
              cases hnx : inB nx n
              · go_wp2_with fail
                refine (index_any _ _ _ _ _ _).mono ?_
                rintro e w2 ⟨rfl, hb2⟩
                obtain ⟨x0, x1, x2, x3, hz2⟩ := box4_keep hb2
                replace c1 := keepc hb2 (keepa _ c1)
                replace c2 := keepc hb2 (keepa _ c2)
                have hw2 := below_call1 hbw (by omega) hb2
                have hr2 := below_call1 hbr (by omega) hb2
                have hz2' : w.heap.size < w2.heap.size := by omega
                go_wp2_with fail
                go_ret
                refine ⟨ret_bool ?_, hw2⟩
                rw [all_not HI.out (by rw [HL.out]; simp [vIns, vDec, hnx])]
              · cases hzr : inB zr n
                · go_wp2_with fail
                  refine (index_any _ _ _ _ _ _).mono ?_
                  rintro e w2 ⟨rfl, hb2⟩
                  obtain ⟨x0, x1, x2, x3, hz2⟩ := box4_keep hb2
                  replace c1 := keepc hb2 (keepa _ c1)
                  replace c2 := keepc hb2 (keepa _ c2)
                  have hw2 := below_call1 hbw (by omega) hb2
                  have hr2 := below_call1 hbr (by omega) hb2
                  have hz2' : w.heap.size < w2.heap.size := by omega
                  go_wp2_with fail
                  refine (index_any _ _ _ _ _ _).mono ?_
                  rintro e w3 ⟨rfl, hb3⟩
                  have hw3 := bnext hw2 hb3
                  have hr3 := hr2.trans (hb3.mono (by omega))
                  go_wp2_with fail
                  go_ret
                  refine ⟨ret_bool ?_, hw3⟩
                  rw [all_not HI.out (by rw [HL.out]; simp [vIns, vDec, hzr])]
                · go_wp2_with fail
                  refine (index_any _ _ _ _ _ _).mono ?_
                  rintro e w2 ⟨rfl, hb2⟩
                  obtain ⟨x0, x1, x2, x3, hz2⟩ := box4_keep hb2
                  replace c1 := keepc hb2 (keepa _ c1)
                  replace c2 := keepc hb2 (keepa _ c2)
                  have hw2 := below_call1 hbw (by omega) hb2
                  have hr2 := below_call1 hbr (by omega) hb2
                  have hz2' : w.heap.size < w2.heap.size := by omega
                  go_wp2_with fail
                  refine (index_any _ _ _ _ _ _).mono ?_
                  rintro e w3 ⟨rfl, hb3⟩
                  have hw3 := bnext hw2 hb3
                  have hr3 := hr2.trans (hb3.mono (by omega))
                  go_wp2_with fail
                  go_roundw
                  case rel => exact ⟨k + 1, by go_num, by omega, hid_ (all_step HI.out HT.out (by rw [HL.out]; simp [vIns, vDec, hrg, hnx, hzr])), hr3⟩
                  case measure => simp [intOf]; omega
        · have h0' : (op == 0) = false := by simpa using ho0
          have h1' : (op == 1) = false := by simpa using ho1
          by_cases ho2 : op = 2
          · subst ho2
            by_cases hr : rg = 0
            · subst hr
              by_cases hx : nx = 0
              · subst hx
                by_cases hz : zr = 0
                · subst hz
                  go_wp2_with fail
                  go_roundw
                  case rel => exact ⟨k + 1, by go_num, by omega, hid_ (all_step HI.out HT.out (by rw [HL.out]; rfl)), hbr.alloc (by omega) _⟩
                  case measure => simp [intOf]; omega
                · have hz' : (zr == 0) = false := by simpa using hz
                  go_wp2_with fail
                  go_ret
                  refine ⟨ret_bool ?_, hbw.alloc (by omega) _⟩
                  rw [all_not HI.out (by rw [HL.out]; simp [vIns, vHalt, hz])]
              · have hx' : (nx == 0) = false := by simpa using hx
                go_wp2_with fail
                go_ret
                refine ⟨ret_bool ?_, hbw.alloc (by omega) _⟩
                rw [all_not HI.out (by rw [HL.out]; simp [vIns, vHalt, hx])]
            · have hr' : (rg == 0) = false := by simpa using hr
              go_wp2_with fail
              go_ret
              refine ⟨ret_bool ?_, hbw.alloc (by omega) _⟩
              rw [all_not HI.out (by rw [HL.out]; simp [vIns, vHalt, hr])]
          · have h2' : (op == 2) = false := by simpa using ho2
            go_wp2_with fail
            go_ret
            refine ⟨ret_bool ?_, hbw.alloc (by omega) _⟩
            rw [all_not HI.out (by rw [HL.out]; simp [vIns, ho0, ho1, ho2])]
    · have hkn : k = n := by omega
      go_wp2_with fail
      go_ret
      refine ⟨ret_bool ?_, hbw⟩
      have := HT.out
      rw [hkn, ← HL.out, List.take_length, HL.out] at this
      rw [HL.out]
      exact this.symm

set_option maxRecDepth 100000 in
set_option maxHeartbeats 1000000 in
theorem rvalid_any (R : Int) (A : Option Addr) (n c : Nat) (code : List Ins) (w : World) (hc : CodeAt w w.heap.size A n code) :
    Calls Try.prog 15 #[.agg #[.int .i64 R, .slice A n c]] w fun e w' => e = .returned (.bool (vCode R code)) ∧ Below w.heap.size w w' := by
  have hl := hc.len
  by_cases hok : 1 ≤ R ∧ R ≤ 16 ∧ 1 ≤ n ∧ n ≤ 2000
  · obtain ⟨r1, r2, n1, n2⟩ := hok
    obtain ⟨b, off, rfl, hlt, hin⟩ := hc.at_ (by omega)
    refine (rvalid_in R b off n c code w r1 r2 n1 n2 hl hlt hin).mono ?_
    rintro e w' ⟨rfl, hb⟩
    refine ⟨ret_bool ?_, hb⟩
    have e1 : decide (1 ≤ R ∧ R ≤ 16) = true := by simp [r1, r2]
    have e2 : decide (1 ≤ code.length ∧ code.length ≤ 2000) = true := by simp; omega
    rw [vCode, e1, e2]
    rfl
  · have hv : vCode R code = false := by
      rw [vCode, hl]
      by_cases h1 : 1 ≤ R ∧ R ≤ 16
      · have : decide (1 ≤ n ∧ n ≤ 2000) = false := by simp; omega
        rw [this]; simp
      · rw [decide_eq_false h1]; rfl
    have HV := hid_ hv
    clear hv hl hc
    by_cases h1 : R < 1
    · go_enter Try.func15, Try.ntmps15
      go_wp2_with fail
      go_ret
      exact ⟨ret_bool HV.out.symm, (Below.refl _ w).alloc (Nat.le_refl _) _⟩
    · by_cases h2 : 16 < R
      · go_enter Try.func15, Try.ntmps15
        go_wp2_with fail
        go_ret
        exact ⟨ret_bool HV.out.symm, (Below.refl _ w).alloc (Nat.le_refl _) _⟩
      · by_cases h3 : n < 1
        · have h3' : (n : Int) < 1 := by omega
          go_enter Try.func15, Try.ntmps15
          go_wp2_with fail
          go_ret
          exact ⟨ret_bool HV.out.symm, (Below.refl _ w).alloc (Nat.le_refl _) _⟩
        · have h3' : ¬ (n : Int) < 1 := by omega
          have h4' : 2000 < (n : Int) := by omega
          go_enter Try.func15, Try.ntmps15
          go_wp2_with fail
          go_ret
          exact ⟨ret_bool HV.out.symm, (Below.refl _ w).alloc (Nat.le_refl _) _⟩

set_option maxHeartbeats 1000000 in
theorem rfits_in (R at_ : Int) (A : Option Addr) (n c : Nat) (code : List Ins) (b off m d : Nat) (rs : List Int) (w : World) (hc : CodeAt w w.heap.size A n code) (hl : rs.length = m) (hm : 0 < m) (hm2 : m ≤ 16) (hb : b < w.heap.size) (hr : IntsIn w b off rs)
    (hv : vCode R code = true) (hat : inB at_ n = true) (hR : (m : Int) = R) :
    Calls Try.prog 18 #[.agg #[.int .i64 R, .slice A n c], .agg #[.int .i64 at_, .slice (some ⟨b, off, none⟩) m d]] w fun e w' => e = .returned (.bool (rs.all okR)) ∧ Below w.heap.size w w' := by
  subst hR
  have HR := hid_ hr; clear hr
  have HL := hid_ hl; clear hl
  have HC := hid_ hc; clear hc
  go_enter Try.func18, Try.ntmps18
  go_wp2_with fail
  refine (rvalid_any _ _ _ _ code _ (HC.out.to (below2 w _ _))).mono ?_
  rintro e w1 ⟨rfl, hb1⟩
  obtain ⟨c0, c1, c2, c3, hz, hw1⟩ := boxes2 hb1
  clear hb1
  go_wp2_with fail
  refine (index_any _ _ _ _ _ _).mono ?_
  rintro e w2 ⟨rfl, hb2⟩
  replace c0 := keepc hb2 c0
  replace c1 := keepc hb2 c1
  replace c2 := keepc hb2 c2
  replace c3 := keepc hb2 c3
  have hw2 := bnext hw1 hb2
  go_wp2_with fail
  go_loopw [5] (fun s wr => ∃ k : Nat, s = .int .i64 k ∧ k ≤ m ∧ Hid (((rs.take k).all okR) = true) ∧ wr = w2) (fun s _ => m - (intOf s).toNat)
  case atStart => exact ⟨0, rfl, Nat.zero_le _, hid_ (by simp), rfl⟩
  case round =>
    obtain ⟨k, rfl, hk, HT, rfl⟩ := hrel
    by_cases hlt : k < m
    · obtain ⟨x, hx⟩ : ∃ x, rs[k]? = some x := ⟨_, List.getElem?_eq_getElem (by rw [HL.out]; exact hlt)⟩
      have i0 := (HR.out.below hw2 hb) k x hx
      have HX := hid_ hx
      clear hx
      by_cases hx0 : x < 0
      · go_wp2_with fail
        go_ret
        exact ⟨ret_bool (all_not' HX.out (by simp [okR]; omega)).symm, hw2⟩
      · by_cases hx1 : 1152921504606846976 < x
        · go_wp2_with fail
          go_ret
          exact ⟨ret_bool (all_not' HX.out (by simp [okR]; omega)).symm, hw2⟩
        · go_wp2_with fail
          go_roundw
          case rel => exact ⟨k + 1, by go_num, by omega, hid_ (all_step' HX.out HT.out (by simp [okR]; omega)), trivial⟩
          case measure => simp [intOf]; omega
    · have hkn : k = m := by omega
      go_wp2_with fail
      go_ret
      refine ⟨ret_bool ?_, hw2⟩
      have := HT.out
      rw [hkn, ← HL.out, List.take_length] at this
      exact this.symm


set_option maxHeartbeats 1000000 in
theorem rfits_any (R at_ : Int) (A A' : Option Addr) (n c m d : Nat) (code : List Ins) (rs : List Int) (w : World) (hc : CodeAt w w.heap.size A n code) (hr : IntsAt w w.heap.size A' m rs) :
    Calls Try.prog 18 #[.agg #[.int .i64 R, .slice A n c], .agg #[.int .i64 at_, .slice A' m d]] w fun e w' => e = .returned (.bool (fitsB R code at_ rs)) ∧ Below w.heap.size w w' := by
  have hl := hr.len
  have hn := hc.len
  cases hv : vCode R code
  · have HF : Hid (fitsB R code at_ rs = false) := by simp [fitsB, hv, Hid]
    have HC := hid_ hc; clear hc hr hl hn
    go_enter Try.func18, Try.ntmps18
    go_wp2_with fail
    refine (rvalid_any _ _ _ _ code _ (HC.out.to (below2 w _ _))).mono ?_
    rintro e w1 ⟨rfl, hb1⟩
    obtain ⟨c0, c1, c2, c3, hz, hw1⟩ := boxes2 hb1
    clear hb1
    go_wp2_with fail
    go_ret
    exact ⟨ret_bool HF.out.symm, hw1⟩
  · obtain ⟨r1, r2, n1, n2⟩ := vCode_reg hv
    cases ht : inB at_ n
    · have HF : Hid (fitsB R code at_ rs = false) := by rw [← hn] at ht; simp [fitsB, ht, Hid]
      have HC := hid_ hc; clear hc hr hl hn
      go_enter Try.func18, Try.ntmps18
      go_wp2_with fail
      refine (rvalid_any _ _ _ _ code _ (HC.out.to (below2 w _ _))).mono ?_
      rintro e w1 ⟨rfl, hb1⟩
      obtain ⟨c0, c1, c2, c3, hz, hw1⟩ := boxes2 hb1
      clear hb1
      go_wp2_with fail
      refine (index_any _ _ _ _ _ _).mono ?_
      rintro e w2 ⟨rfl, hb2⟩
      have hw2 := bnext hw1 hb2
      go_wp2_with fail
      go_ret
      exact ⟨ret_bool HF.out.symm, hw2⟩
    · by_cases hm : (m : Int) = R
      · subst hm
        obtain ⟨b, off, rfl, hlt, hin⟩ := hr.at_ (by omega)
        refine (rfits_in m at_ A n c code b off m d rs w hc hl (by omega) (by omega) hlt hin hv ht rfl).mono ?_
        rintro e w' ⟨rfl, hb⟩
        refine ⟨ret_bool ?_, hb⟩
        rw [← hn] at ht
        simp [fitsB, hv, ht, hl]
      · have HF : Hid (fitsB R code at_ rs = false) := by simp [fitsB, hl, hm, Hid]
        have hm' : ((m : Int) != R) = true := by simpa using hm
        have HC := hid_ hc; clear hc hr hl hn hm
        go_enter Try.func18, Try.ntmps18
        go_wp2_with fail
        refine (rvalid_any _ _ _ _ code _ (HC.out.to (below2 w _ _))).mono ?_
        rintro e w1 ⟨rfl, hb1⟩
        obtain ⟨c0, c1, c2, c3, hz, hw1⟩ := boxes2 hb1
        clear hb1
        go_wp2_with fail
        refine (index_any _ _ _ _ _ _).mono ?_
        rintro e w2 ⟨rfl, hb2⟩
        replace c0 := keepc hb2 c0
        replace c1 := keepc hb2 c1
        replace c2 := keepc hb2 c2
        replace c3 := keepc hb2 c3
        have hw2 := bnext hw1 hb2
        go_wp2_with fail
        go_ret
        exact ⟨ret_bool HF.out.symm, hw2⟩
end Go.Proofs.Ytckabinmmficlaa.Cn

/- The law CounterRuns: its three parts, said of what the counter functions return. -/
import Derived.Test.YtgpcgjdnehlaeaaZ
namespace Go.Proofs.Ytgpcgjdnehlaeaa
open Go.RowKit

/-- What a state that fits gives: numbers, and where the code and the registers lie. -/
theorem fits_open {R at_ : Int} {A A' : Option Addr} {n m : Nat} {code : List Ins} {rs : List Int} {w : World} (hf : fitsB R code at_ rs = true) (hc : CodeAt w w.heap.size A n code) (hr : IntsAt w w.heap.size A' m rs) :
    ∃ (Rn an b off b2 off2 : Nat), R = Rn ∧ at_ = an ∧ A = some ⟨b, off, none⟩ ∧ A' = some ⟨b2, off2, none⟩ ∧ vCode Rn code = true ∧ Good Rn code an rs ∧ code.length = n ∧ m = Rn ∧ b < w.heap.size ∧ CodeIn w b off code ∧ b2 < w.heap.size ∧ IntsIn w b2 off2 rs := by
  obtain ⟨hv, hg, hR, hat⟩ := fitsB_good hf
  obtain ⟨r1, r2, n1, n2⟩ := vCode_reg hv
  have hlm := hr.len
  have hln := hc.len
  have hgl := hg.len
  obtain ⟨b, off, rfl, hbl, hin⟩ := hc.at_ (by omega)
  obtain ⟨b2, off2, rfl, hbl2, hin2⟩ := hr.at_ (by omega)
  exact ⟨R.toNat, at_.toNat, b, off, b2, off2, hR.symm, hat.symm, rfl, rfl, by rw [hR]; exact hv, hg, hln, by omega, hbl, hin, hbl2, hin2⟩

theorem lstep_main {R at_ a3 e3 k3 : Int} {A A' A3 : Option Addr} {n m m3 : Nat} (c d d3 : Nat) {code : List Ins} {rs l3 : List Int} {w : World} (hf : fitsB R code at_ rs = true) (hc : CodeAt w w.heap.size A n code) (hr : IntsAt w w.heap.size A' m rs)
    (h3 : IntsAt w w.heap.size A3 m3 l3) (hm3 : m3 ≤ 4000) (hs : stepS R code at_ rs = ⟨a3, l3, k3, e3⟩) :
    Calls Try.prog 18 #[.agg #[.int .i64 R, .slice A n c], .agg #[.int .i64 at_, .slice A' m d], .agg #[.int .i64 a3, .slice A3 m3 d3], .int .i64 e3] w fun e w' => e = .returned (.bool true) ∧ Below w.heap.size w w' := by
  obtain ⟨Rn, an, b, off, b2, off2, rfl, rfl, rfl, rfl, hv, hg, hn, hm, hb, hci, hb2, hri⟩ := fits_open hf hc hr
  obtain ⟨i, hi⟩ : ∃ i, code[an]? = some i := ⟨_, List.getElem?_eq_getElem hg.lt⟩
  have hvi := vCode_ins hv hi
  have hop := vIns_op hvi
  obtain ⟨op, rg, nx, zr⟩ := i
  simp only at hop
  rw [stepS, hf, if_neg (by simp), Int.toNat_natCast] at hs
  rcases hop with rfl | rfl | rfl
  · obtain ⟨q1, q2, q3, q4⟩ := vIns_inc hvi rfl
    obtain ⟨j, rfl⟩ := Int.eq_ofNat_of_zero_le q1
    obtain ⟨nx, rfl⟩ := Int.eq_ofNat_of_zero_le q3
    obtain ⟨x, hx, hx0, hx1⟩ := good_get hg (j := j) (by simp only at q2; omega)
    by_cases hbig : x = 1152921504606846976
    · subst hbig
      have hst := stp_big hi hx
      rw [hst, if_neg (by simp), runS_eq hf (by omega) (by omega)] at hs
      simp [walkC, hst, resOf] at hs
      obtain ⟨rfl, rfl, rfl, rfl⟩ := hs
      exact lstep_big Rn b off n c b2 off2 m d an A3 m3 d3 code rs j nx zr w hv hg hn hm hb hci hb2 hri h3 hm3 hi hx
    · have hst := stp_inc hi hx hbig
      rw [hst, if_neg (by simp), runS_eq hf (by omega) (by omega)] at hs
      simp [walkC, hst, resOf, ff] at hs
      obtain ⟨rfl, rfl, rfl, rfl⟩ := hs
      exact lstep_inc Rn b off n c b2 off2 m d an A3 m3 d3 code rs j nx x zr w hv hg hn hm hb hci hb2 hri h3 hm3 hi hx (by omega) hx0
  · obtain ⟨q1, q2, q3, q4, q5, q6⟩ := vIns_dec hvi rfl
    obtain ⟨j, rfl⟩ := Int.eq_ofNat_of_zero_le q1
    obtain ⟨nx, rfl⟩ := Int.eq_ofNat_of_zero_le q3
    obtain ⟨zr, rfl⟩ := Int.eq_ofNat_of_zero_le q5
    obtain ⟨x, hx, hx0, hx1⟩ := good_get hg (j := j) (by simp only at q2; omega)
    by_cases hz0 : x = 0
    · subst hz0
      have hst := stp_zero hi hx
      rw [hst, if_neg (by simp), runS_eq hf (by omega) (by omega)] at hs
      simp [walkC, hst, resOf, ff] at hs
      obtain ⟨rfl, rfl, rfl, rfl⟩ := hs
      exact lstep_zero Rn b off n c b2 off2 m d an A3 m3 d3 code _ j zr nx w hv hg hn hm hb hci hb2 hri h3 hm3 hi hx
    · have hst := stp_dec hi hx hz0
      rw [hst, if_neg (by simp), runS_eq hf (by omega) (by omega)] at hs
      simp [walkC, hst, resOf, ff] at hs
      obtain ⟨rfl, rfl, rfl, rfl⟩ := hs
      exact lstep_dec Rn b off n c b2 off2 m d an A3 m3 d3 code rs j nx x zr w hv hg hn hm hb hci hb2 hri h3 hm3 hi hx (by omega) (by omega)
  · have hst := stp_halt hi (rs := rs)
    rw [hst, if_pos rfl] at hs
    simp at hs
    obtain ⟨rfl, rfl, rfl, rfl⟩ := hs
    exact lstep_halt Rn b off n c b2 off2 m d an A3 m3 d3 code rs rg nx zr w hv hg hn hm hb hci hb2 hri h3 hm3 hi

theorem lrun_main {R at_ N a3 e3 k3 : Int} {A A' A3 : Option Addr} {n m m3 : Nat} (c d d3 : Nat) {code : List Ins} {rs l3 : List Int} {w : World} (hf : fitsB R code at_ rs = true) (hc : CodeAt w w.heap.size A n code) (hr : IntsAt w w.heap.size A' m rs)
    (h3 : IntsAt w w.heap.size A3 m3 l3) (hm3 : m3 ≤ 4000) (hs : runS R code at_ rs N = ⟨a3, l3, k3, e3⟩) :
    Calls Try.prog 19 #[.agg #[.int .i64 R, .slice A n c], .agg #[.int .i64 at_, .slice A' m d], .int .i64 N, .agg #[.int .i64 a3, .slice A3 m3 d3], .int .i64 k3, .int .i64 e3] w fun e w' => e = .returned (.bool true) ∧ Below w.heap.size w w' := by
  by_cases hN : N < 0 ∨ 1000000 < N
  · rw [runS, hf, if_neg (by simp), if_pos hN] at hs
    simp at hs
    obtain ⟨rfl, rfl, rfl, rfl⟩ := hs
    exact lrun_bad R at_ N A A' A3 n c m d m3 d3 w h3 hN
  · rw [runS_eq hf (by omega) (by omega)] at hs
    obtain ⟨Rn, an, b, off, b2, off2, rfl, rfl, rfl, rfl, hv, hg, hn, hm, hb, hci, hb2, hri⟩ := fits_open hf hc hr
    obtain ⟨Nn, rfl⟩ := Int.eq_ofNat_of_zero_le (show 0 ≤ N by omega)
    rw [Int.toNat_natCast, Int.toNat_natCast] at hs
    cases hw : walkC code ff Nn an rs with
    | none =>
      rw [hw] at hs
      simp [resOf] at hs
      obtain ⟨rfl, rfl, rfl, rfl⟩ := hs
      exact lrun_none Rn b off n c b2 off2 m d an A3 m3 d3 Nn code rs w hv hg hn hm hb hci hb2 hri h3 hm3 (by omega) hw
    | some o =>
      rw [hw] at hs
      simp [resOf] at hs
      obtain ⟨rfl, rfl, rfl, rfl⟩ := hs
      exact lrun_some Rn b off n c b2 off2 m d an A3 m3 d3 Nn code rs o.at_ o.k o.rs w hv hg hn hm hb hci hb2 hri h3 hm3 (by omega) ⟨o.met, hw⟩

theorem luntil_main {R at_ N a3 e3 k3 : Int} {A A' A2 A3 : Option Addr} {n m q m3 : Nat} (c d d2 d3 : Nat) {code : List Ins} {rs pts l3 : List Int} {w : World} (hf : fitsB R code at_ rs = true) (hc : CodeAt w w.heap.size A n code) (hr : IntsAt w w.heap.size A' m rs)
    (h3 : IntsAt w w.heap.size A3 m3 l3) (hm3 : m3 ≤ 4000) (hp : IntsAt w w.heap.size A2 q pts) (hq : q ≤ 4000) (hs : untilS R code at_ rs pts N = ⟨a3, l3, k3, e3⟩) :
    Calls Try.prog 20 #[.agg #[.int .i64 R, .slice A n c], .agg #[.int .i64 at_, .slice A' m d], .slice A2 q d2, .int .i64 N, .agg #[.int .i64 a3, .slice A3 m3 d3], .int .i64 k3, .int .i64 e3] w fun e w' => e = .returned (.bool true) ∧ Below w.heap.size w w' := by
  by_cases hN : N < 1 ∨ 1000000 < N ∨ riseB code.length pts = false
  · rw [untilS, hf, if_neg (by simp), if_pos hN] at hs
    simp at hs
    obtain ⟨rfl, rfl, rfl, rfl⟩ := hs
    rw [hc.len] at hN
    exact luntil_bad R at_ N A A' A2 A3 n c m d q d2 m3 d3 pts w h3 hp hq hN
  · rw [untilS, hf, if_neg (by simp), if_neg hN] at hs
    obtain ⟨Rn, an, b, off, b2, off2, rfl, rfl, rfl, rfl, hv, hg, hn, hm, hb, hci, hb2, hri⟩ := fits_open hf hc hr
    obtain ⟨Nn, rfl⟩ := Int.eq_ofNat_of_zero_le (show 0 ≤ N by omega)
    rw [Int.toNat_natCast, Int.toNat_natCast] at hs
    have hrise : riseB n pts = true := by
      cases h : riseB n pts
      · exact absurd (.inr (.inr (by rw [hn]; exact h))) hN
      · rfl
    exact luntil_ok Rn b off n c b2 off2 m d an A2 A3 q d2 m3 d3 Nn code rs pts l3 a3 k3 e3 w hv hg hn hm hb hci hb2 hri h3 hm3 hp hq (by omega) (by omega) hrise hs
end Go.Proofs.Ytgpcgjdnehlaeaa

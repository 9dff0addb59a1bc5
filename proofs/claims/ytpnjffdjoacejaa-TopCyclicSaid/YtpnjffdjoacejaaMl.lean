/- Contracts: the specification's Turn and Roll. -/
import Derived.Test.YtpnjffdjoacejaaMj
import Derived.Test.YtpnjffdjoacejaaMk
namespace Go.Proofs.Ytpnjffdjoacejaa
open Go.RowKit

theorem rturn_any (ws : List (List Int)) (a : Nat) (q : List Int) (v : Value) (A : Option Addr) (c : Nat) (hcap : q.length ≤ c) (w : World) (ht : CycIn w w.heap.size v ws) (hq : Elems w w.heap.size (.slice A q.length c) (ints q)) (hf : fitsC ws a q = true) (hz : q ≠ []) :
    Calls Try.prog 31 #[.agg #[v], .agg #[.int .i64 a, .slice A q.length c]] w (RURan w ((a + 1) % ws.length) (turnQ ws a q)) := by
  by_cases h : c = 1
  · subst h
    exact rturn_one ws a q v A hcap w ht hq hf hz
  · exact rturn_two ws a q v A c hcap h w ht hq hf hz

/-- What the specification's Roll leaves. -/
def RWRan (w : World) (R : WRes) (e : Ending) (w' : World) : Prop :=
  ∃ v, e = .returned (.tuple #[.agg #[.int .i64 R.pos, v], .int .i64 R.k, .bool (decide (R.err = 0))]) ∧ Elems w' w'.heap.size v (ints R.q) ∧ Below w.heap.size w w'
/-- The state in its box g, before a round. -/
def StAt (B g : Nat) (a : Nat) (l : List Int) (A : Option Addr) (c : Nat) (wx : World) : Prop :=
  Blk wx g 45 #[.int .i64 a, .slice A l.length c] ∧ Elems wx wx.heap.size (.slice A l.length c) (ints l) ∧ l.length ≤ c ∧ ∀ b, (Value.slice A l.length c).ownBlock = some b → B ≤ b
theorem below_set3 {w X : World} {g : Nat} {a b : Value} (h : Below w.heap.size w X) (hg : w.heap.size ≤ g) : Below w.heap.size w ((X.setCell ⟨g, 0, none⟩ a).setCell ⟨g, 1, none⟩ b) := (h.setCell hg _).setCell hg _

set_option maxRecDepth 100000 in
set_option maxHeartbeats 8000000 in
theorem rroll_any (ws : List (List Int)) (a0 N : Nat) (q : List Int) (v : Value) (A : Option Addr) (c : Nat) (w : World) (ht : CycIn w w.heap.size v ws) (hq : Elems w w.heap.size (.slice A q.length c) (ints q)) (hf : fitsC ws a0 q = true) (hN : N ≤ 1000000) :
    Calls Try.prog 32 #[.agg #[v], .agg #[.int .i64 a0, .slice A q.length c], .int .i64 N] w (RWRan w (wresOf (rollC ws N a0 q))) := by
  obtain ⟨i0, hi, hz0, hz1, hz2⟩ := info_parts Try.infoI
  obtain ⟨hv, f1, f2, f3, f4⟩ := fitsC_parts hf
  obtain ⟨r1, r2, -⟩ := validC_parts hv
  obtain ⟨A2, c2, rfl⟩ := ht.rows.form
  obtain ⟨WW, hWW⟩ : ∃ WW, WW = ((w.alloc (.cells #[.slice A2 ws.length c2] 43)).alloc (.cells #[.int .i64 a0, .slice A q.length c] 45)).alloc (.cells #[.int .i64 0, .slice none 0 0] 45) := ⟨_, rfl⟩
  obtain ⟨B0, B1, B2, hw1⟩ : Blk WW w.heap.size 43 #[.slice A2 ws.length c2] ∧ Blk WW (w.heap.size + 1) 45 #[.int .i64 a0, .slice A q.length c] ∧ Blk WW (w.heap.size + 1 + 1) 45 #[.int .i64 0, .slice none 0 0] ∧ Below w.heap.size w WW := boxes (by rw [← hWW]; exact Below.refl _ _)
  have p1 := B1.cell 0
  have p2 := B1.cell 1
  have g0 := B1.free 0
  have g1 := B1.free 1
  simp at p1 p2
  have HB0 := hid_ B0
  have HB1 := hid_ B1
  have HB2 := hid_ B2
  have HT := hid_ ht
  have HV := hid_ hv
  have HF := hid_ hf
  have HW := hid_ hWW
  have zz : w.heap.size + 1 + 1 < WW.heap.size := B2.lt
  have zz1 : w.heap.size + 1 < WW.heap.size := by omega
  have zz0 : w.heap.size < WW.heap.size := by omega
  have HBE : Hid (Below WW.heap.size WW (WW.alloc (.cells #[] 3)).drew) := hid_ (below1 WW _).drew
  have HOE : Hid ((WW.alloc (.cells #[] 3)).drew.ownsRow WW.heap.size 3 1 (.slice (some ⟨WW.heap.size, 0, none⟩) 0 0) 0 []) := hid_ (own_empty WW 3)
  have HQE : Hid (Elems (WW.alloc (.cells #[] 3)).drew (WW.alloc (.cells #[] 3)).drew.heap.size (.slice A q.length c) (ints q)) := hid_ ((hq.to hw1).to HBE.out)
  have HSE : Hid (WW.heap.size ≤ (WW.alloc (.cells #[] 3)).drew.heap.size) := hid_ HBE.out.size
  have h63 : 0 + (ints q).length ≤ maxLen := by rw [ints_len]; unfold maxLen; omega
  have hby : (0 + (ints q).length) * 8 ≤ 140737488355328 := by rw [ints_len]; omega
  have hql1 : q.length ≤ 1000000 := f3
  clear ht hq hf hv f1 f3 f4 hWW B0 B1 B2
  go_enter Try.func32, Try.ntmps32
  go_upto_region 1 with fail
  rw [← HW.out]
  go_cut [] (fun wx => ∃ A1 c1, StAt WW.heap.size (w.heap.size + 1) a0 q A1 c1 wx ∧ Blk wx w.heap.size 43 #[.slice A2 ws.length c2] ∧ Blk wx (w.heap.size + 1 + 1) 45 #[.int .i64 0, .slice none 0 0] ∧ Below w.heap.size w wx ∧ WW.heap.size ≤ wx.heap.size)
  case first =>
    go_region_law ((refine step_append_e (by rfl) _ _ 26 (by rfl) 3 i0 (.int .i64 0) 8 Try.underlying26 hi hz0 hz1 hz2 rfl (by rfl) (by rfl) HOE.out HQE.out ints_one h63 hby HSE.out ?_; intro v1 w1 hown1 hg1 hat1; have HW1 : Hid (Below WW.heap.size WW w1) := hid_ (HBE.out.grown hg1 HSE.out (own_lt HOE.out)); have HO1 : Hid (w1.ownsRow WW.heap.size 3 1 v1 q.length (ints q)) := hid_ (by rw [ints_len] at hown1; simpa using hown1); obtain ⟨A9, c9, rfl⟩ := own_form HO1.out; have BK := HB1.out.to HW1.out; have k0 := BK.cell 0; have k1 := BK.cell 1; have kf0 := BK.free 0; have kf1 := BK.free 1; simp at k0 k1; clear hown1 hg1 hat1 BK))
    all_goals
      go_wp2_with fail
      go_meet
      have hcp := own_capped HO1.out _ _ _ rfl
      have hne : ∀ i : Nat, (Value.slice A9 q.length c9).ownBlock ≠ some (⟨w.heap.size + 1, i, none⟩ : Addr).block := fun i e => by
        have := own_lt HO1.out _ e
        simp only at this
        omega
      refine ⟨A9, c9, ⟨by simpa using ((HB1.out.to HW1.out).set_ 0 (.int .i64 a0)).set_ 1 (.slice A9 q.length c9), ((own_any HO1.out).set_to (hne 0)).set_to (hne 1), hcp, own_lt HO1.out⟩, ((HB0.out.to HW1.out).far (by simp) _).far (by simp) _, ((HB2.out.to HW1.out).far (by simp) _).far (by simp) _, below_set3 (bnext hw1 HW1.out) (by omega), ?_⟩
      simp only [World.setCell, Array.size_modify]
      exact HW1.out.size
  case rest => as_aux_lemma =>
    obtain ⟨A1, c1, hst, hb0, hb2, hbX, hsX⟩ := hcut
    obtain ⟨X, rfl⟩ : ∃ X : World, X = wc := ⟨_, rfl⟩
    have HST := hid_ hst
    have HC0 := hid_ hb0
    have HC2 := hid_ hb2
    clear hst hb0 hb2 HBE HOE HQE HSE h63 hby p1 p2 g0 g1 HB0 HB1 HB2 HW
    go_wp2_with fail
    go_loopw [9] (fun s wr => ∃ (d a : Nat) (l : List Int) (A : Option Addr) (c : Nat), s = .int .i64 ((d : Nat) : Int) ∧ d ≤ N ∧ a < ws.length ∧ Hid (StAt WW.heap.size (w.heap.size + 1) a l A c wr) ∧ Hid (Blk wr w.heap.size 43 #[.slice A2 ws.length c2]) ∧ Hid (Blk wr (w.heap.size + 1 + 1) 45 #[.int .i64 0, .slice none 0 0]) ∧ Hid (fitsC ws a l = true) ∧ Hid (cbump d (rollC ws (N - d) a l) = rollC ws N a0 q) ∧ Below w.heap.size w wr ∧ WW.heap.size ≤ wr.heap.size)
      (fun s _ => N - (intOf s).toNat)
    case atStart => exact ⟨0, a0, q, A1, c1, rfl, Nat.zero_le _, by omega, HST, HC0, HC2, HF, hid_ (by rw [cbump_zero]; rfl), hbX, hsX⟩
    case round =>
      obtain ⟨d, a, l, A, c, rfl, hd, ha, HSr, HCr, HRr, HFl, HB, hbr, hsr⟩ := hrel
      have p0 := HCr.out.cell 0
      have p1 := HSr.out.1.cell 0
      have p2 := HSr.out.1.cell 1
      have g0 := HSr.out.1.free 0
      have g1 := HSr.out.1.free 1
      have r0 := HRr.out.cell 0
      have r1' := HRr.out.cell 1
      have s0 := HRr.out.free 0
      have s1 := HRr.out.free 1
      simp at p0 p1 p2 r0 r1'
      have z1 : w.heap.size < wr.heap.size := by omega
      have z2 : w.heap.size + 1 < wr.heap.size := by omega
      have z3 : w.heap.size + 1 + 1 < wr.heap.size := by omega
      have hll := (fitsC_parts HFl.out).2.2.2.1
      have HNE : Hid (∀ i : Nat, (Value.slice A l.length c).ownBlock ≠ some (⟨w.heap.size + 1 + 1, i, none⟩ : Addr).block) := hid_ (fun i e => by
        have := HSr.out.2.2.2 _ e
        simp only at this
        omega)
      by_cases hlt : d < N
      · by_cases hl0 : l.length = 0
        · have hle : l = [] := List.eq_nil_of_length_eq_zero hl0
          have HL0 := hid_ hle
          have hlz : ((l.length : Int) == 0) = true := by simp; exact hle
          clear hle hl0
          have BX2 := (HRr.out.set_ 0 (.int .i64 a)).set_ 1 (.slice A l.length c)
          have e0 := BX2.cell 0
          have e1 := BX2.cell 1
          simp at e0 e1
          clear BX2
          go_wp2_with fail
          refine bodyPost_ret (v := .tuple #[.agg #[.int .i64 a, .slice A l.length c], .int .i64 d, .bool true]) (by simp [results, Try.results32, go_sem, e0, e1]) rfl ?_
          rw [show rollC ws N a0 q = some (a, l, d) from by rw [← HB.out]; exact rollC_stop HL0.out]
          exact ⟨_, rfl, (HSr.out.2.1.set_to (HNE.out 0)).set_to (HNE.out 1), below_set3 hbr (by omega)⟩
        · have hne : l ≠ [] := fun e => hl0 (by rw [e]; rfl)
          have HL0 := hid_ hne
          have hlz : ((l.length : Int) == 0) = false := by simp; exact hne
          have hcap := HSr.out.2.2.1
          clear hne hl0
          go_wp2_with fail
          refine (rturn_any ws a l _ A c hcap wr (HT.out.to hbr) HSr.out.2.1 HFl.out HL0.out).mono ?_
          rintro e wt ⟨vt, rfl, hEt, hct, hft, hbt⟩
          obtain ⟨At, ct, rfl⟩ := hEt.form
          generalize hTQ : turnQ ws a l = L at hEt hct hft ⊢
          have HTQ := hid_ hTQ
          clear hTQ
          have hwt := bnext hbr hbt
          have BW := HSr.out.1.to hbt
          have BR := HRr.out.to hbt
          have BC := HCr.out.to hbt
          have HBC := hid_ BC
          have HBR := hid_ BR
          have HBW := hid_ BW
          have HCT := hid_ hct
          have HFT := hid_ hft
          have y1 := BW.cell 0
          have y2 := BW.cell 1
          have y3 := BW.free 0
          have y4 := BW.free 1
          have y5 := BR.cell 0
          have y6 := BR.cell 1
          have y7 := BR.free 0
          have y8 := BR.free 1
          have y9 : w.heap.size + 1 < wt.heap.size := by have := hbt.size; omega
          have y10 : w.heap.size + 1 + 1 < wt.heap.size := by have := hbt.size; omega
          simp at y1 y2 y5 y6
          clear BW BR BC hct hft
          by_cases hbig : L.length ≤ 1000000
          · rw [if_pos hbig, if_pos hbig, decide_eq_true hbig]
            rw [if_pos hbig] at hEt
            have HET := hid_ hEt
            rw [if_pos hbig] at HCT HFT
            rw [ints_len] at HET HCT HFT ⊢
            clear hEt
            go_wp2_with fail
            go_roundw
            case rel =>
              have hmod := Nat.mod_lt (a + 1) (show 0 < ws.length by omega)
              have hn1 : ∀ i : Nat, (Value.slice At L.length ct).ownBlock ≠ some (⟨w.heap.size + 1, i, none⟩ : Addr).block := fun i e => by
                have := HFT.out _ e
                simp only at this
                omega
              refine ⟨d + 1, (a + 1) % ws.length, L, At, ct, by go_num, by omega, hmod, hid_ ⟨by simpa using (HBW.out.set_ 0 (.int .i64 (((a + 1) % ws.length : Nat) : Int))).set_ 1 (.slice At L.length ct), (HET.out.set_to (hn1 0)).set_to (hn1 1), HCT.out _ _ _ rfl, fun b e => by have := HFT.out b e; omega⟩, hid_ ((HBC.out.far (by simp) _).far (by simp) _), hid_ ((HBR.out.far (by simp) _).far (by simp) _), hid_ ?_, hid_ ?_, below_set3 hwt (by omega), by simp only [World.setCell, Array.size_modify]; have := hbt.size; omega⟩
              · rw [← HTQ.out]
                exact turn_fits HFl.out HL0.out (by rw [HTQ.out]; omega)
              · rw [← HB.out, show N - d = (N - (d + 1)) + 1 by omega, rollC_on HL0.out (by rw [HTQ.out]; omega), HTQ.out]
            case measure => simp [intOf]; omega
          · rw [if_neg hbig, if_neg hbig, decide_eq_false hbig]
            rw [if_neg hbig] at HCT HFT hEt
            rw [show (ints ([] : List Int)).length = 0 from rfl]
            clear hEt
            have BX2 := ((HBR.out.far (p := ⟨w.heap.size + 1, 0, none⟩) (by simp) (.int .i64 0)).far (p := ⟨w.heap.size + 1, 1, none⟩) (by simp) (.slice At 0 ct)).set_ 0 (.int .i64 0) |>.set_ 1 (.slice none 0 0)
            have e0 := BX2.cell 0
            have e1 := BX2.cell 1
            simp at e0 e1
            clear BX2
            go_wp2_with fail
            refine bodyPost_ret (v := .tuple #[.agg #[.int .i64 0, .slice none 0 0], .int .i64 0, .bool false]) (by simp [results, Try.results32, go_sem, e0, e1]) rfl ?_
            rw [show rollC ws N a0 q = none from by rw [← HB.out, show N - d = (N - d - 1) + 1 by omega, rollC_big HL0.out (by rw [HTQ.out]; omega)]]
            exact ⟨_, rfl, Elems.nil _ _, below_set3 (below_set3 hwt (by omega)) (by omega)⟩
      · have hlt2 : ¬ ((d : Nat) : Int) < (N : Int) := by omega
        have BX2 := (HRr.out.set_ 0 (.int .i64 a)).set_ 1 (.slice A l.length c)
        have e0 := BX2.cell 0
        have e1 := BX2.cell 1
        simp at e0 e1
        clear BX2
        go_wp2_with fail
        refine bodyPost_ret (v := .tuple #[.agg #[.int .i64 a, .slice A l.length c], .int .i64 N, .bool true]) (by simp [results, Try.results32, go_sem, e0, e1]) rfl ?_
        rw [show rollC ws N a0 q = some (a, l, N) from by rw [← HB.out]; exact (by rw [show N - d = 0 by omega, show N = d by omega]; exact rollC_end)]
        exact ⟨_, rfl, (HSr.out.2.1.set_to (HNE.out 0)).set_to (HNE.out 1), below_set3 hbr (by omega)⟩
end Go.Proofs.Ytpnjffdjoacejaa

/- Contracts: isWord, Valid, Fits of package tag for arguments of any size. The contract of Roll of package tag, with the capacity of the queue that it leaves. The law TopCyclic: its ways. -/
import Derived.Test.YtpnjffdjoacejaaLc
import Derived.Test.YtpnjffdjoacejaaMh
import Derived.Test.YtpnjffdjoacejaaPd
import Derived.Test.YtpnjffdjoacejaaTn
import Derived.Test.YtpnjffdjoacejaaNc
namespace Go.Proofs.Ytpnjffdjoacejaa
open Go.RowKit

set_option maxHeartbeats 1000000 in
theorem isWordb_any (l : List Int) (b m : Int) (v : Value) (w : World) (h : Elems w w.heap.size v (ints l)) (hl : l.length ≤ 140737488351232) :
    Calls Try.prog 45 #[v, .int .i64 b, .int .i64 m] w fun e w' => e = .returned (.bool (decide ((l.length : Int) ≤ m) && wordB b l)) ∧ w = w' := by
  obtain ⟨A, c, rfl⟩ := h.form
  rw [ints_len] at h ⊢
  by_cases hm : m < l.length
  · rw [decide_eq_false (by omega), Bool.false_and]
    clear h
    go_enter Try.func45, Try.ntmps45
    go_wp2_with fail
    go_ret
    exact ⟨rfl, rfl⟩
  · rw [decide_eq_true (by omega), Bool.true_and]
    have HH := hid_ h; clear h
    go_enter Try.func45, Try.ntmps45
    go_wp2_with fail
    go_loop [15] (fun s => ∃ k : Nat, s = .int .i64 ((k : Nat) : Int) ∧ k ≤ l.length ∧ Hid (wordB b (l.take k) = true)) (fun s => l.length - (intOf s).toNat)
    case atStart => exact ⟨0, rfl, Nat.zero_le _, hid_ rfl⟩
    case round =>
      obtain ⟨k, rfl, hk, HT⟩ := hrel
      by_cases hlt : k < l.length
      · obtain ⟨b0, off, rfl, hb, hc⟩ := HH.out.at_ (by omega)
        obtain ⟨x, hx⟩ : ∃ x, l[k]? = some x := ⟨_, List.getElem?_eq_getElem hlt⟩
        have i0 := hc k _ (ints_at hx)
        have HX := hid_ hx
        clear hx hc
        by_cases hx0 : x < 0
        · go_wp2_with fail
          go_ret
          exact ⟨ret_bool (all_not HX.out (by simp; omega)).symm, rfl⟩
        · by_cases hxb : b ≤ x
          · go_wp2_with fail
            go_ret
            exact ⟨ret_bool (all_not HX.out (by simp; omega)).symm, rfl⟩
          · go_wp2_with fail
            go_round
            case rel => exact ⟨k + 1, by go_num, by omega, hid_ (all_step HX.out HT.out (by simp; omega))⟩
            case measure => simp [intOf]; omega
      · go_wp2_with fail
        go_ret
        exact ⟨ret_bool (wordB_end HT.out hlt).symm, rfl⟩

set_option maxHeartbeats 2000000 in
theorem validb_any (t : TagS) (v2 v3 : Value) (w : World) (h : TagBig w w.heap.size v2 v3 t) :
    Calls Try.prog 12 #[.agg #[.int .i64 t.del, v2, v3]] w fun e w' => e = .returned (.bool (validT t)) ∧ Below w.heap.size w w' := by
  obtain ⟨del, rules, stops⟩ := t
  obtain ⟨hr, hs, hl1, hl2, hl3⟩ := h
  simp only at hr hs hl1 hl2 hl3 ⊢
  obtain ⟨A2, c2, rfl⟩ := hr.form
  obtain ⟨A3, c3, rfl⟩ := hs.form
  rw [bools_len] at hs ⊢
  by_cases hok : 1 ≤ del ∧ del ≤ 4 ∧ 1 ≤ rules.length ∧ rules.length ≤ 600 ∧ stops.length = rules.length
  · rw [validT_mk hok.1 hok.2.1 hok.2.2.1 hok.2.2.2.1 hok.2.2.2.2]
    simp only
    obtain ⟨k1, k2, k3, k4, k5⟩ := hok
    rw [k5] at hs ⊢
    have t1 : ¬ del < 1 := by omega
    have t2 : ¬ 4 < del := by omega
    have t3 : ¬ (rules.length : Int) < 1 := by omega
    have t4 : ¬ (600 : Int) < rules.length := by omega
    have HR := hid_ hr; clear hr
    have HL3 := hid_ hl3; clear hl3
    clear hs k5
    obtain ⟨b0, off, rfl, hb⟩ := HR.out.addr k3
    go_enter Try.func12, Try.ntmps12
    go_wp2_with fail
    go_loopw [35] (fun s wr => ∃ k : Nat, s = .int .i64 ((k : Nat) : Int) ∧ k ≤ rules.length ∧ Hid ((rules.take k).all (ruleB rules.length) = true) ∧ wr = w.alloc (.cells #[.int .i64 del, .slice (some ⟨b0, off, none⟩) rules.length c2, .slice A3 rules.length c3] 25)) (fun s _ => rules.length - (intOf s).toNat)
    case atStart => exact ⟨0, rfl, Nat.zero_le _, hid_ rfl, rfl⟩
    case round =>
      obtain ⟨k, rfl, hk, HT, rfl⟩ := hrel
      by_cases hlt : k < rules.length
      · obtain ⟨r, hrk⟩ : ∃ r, rules[k]? = some r := ⟨_, List.getElem?_eq_getElem hlt⟩
        obtain ⟨A, d, hc, hE⟩ := HR.out.row hrk
        have hrl := HL3.out r (List.mem_of_getElem? hrk)
        have HE := hid_ hE
        have HK := hid_ hrk
        have hc' := keepa (.cells #[.int .i64 del, .slice (some ⟨b0, off, none⟩) rules.length c2, .slice A3 rules.length c3] 25) hc
        clear hE hrk
        cases hB : decide ((r.length : Int) ≤ 200) && wordB rules.length r
        · go_wp2_with fail
          refine (isWordb_any r rules.length 200 _ _ (HE.out.to (below1 w _)) (by omega)).mono ?_
          rw [hB]
          have HB := hid_ hB
          clear hB
          rintro e w1 ⟨rfl, rfl⟩
          go_wp2_with fail
          go_ret
          exact ⟨ret_bool (all_not HK.out HB.out).symm, below1 w _⟩
        · go_wp2_with fail
          refine (isWordb_any r rules.length 200 _ _ (HE.out.to (below1 w _)) (by omega)).mono ?_
          rw [hB]
          have HB := hid_ hB
          clear hB
          rintro e w1 ⟨rfl, rfl⟩
          go_wp2_with fail
          go_roundw
          case rel => exact ⟨k + 1, by go_num, by omega, hid_ (all_step HK.out HT.out HB.out), trivial⟩
          case measure => simp [intOf]; omega
      · go_wp2_with fail
        go_ret
        have := HT.out
        rw [List.take_of_length_le (by omega)] at this
        exact ⟨ret_bool this.symm, below1 w _⟩
  · rw [validT_no (t := ⟨del, rules, stops⟩) hok]
    clear hr hs hl3
    by_cases h1 : del < 1
    · go_enter Try.func12, Try.ntmps12
      go_wp2_with fail
      go_ret
      exact ⟨rfl, below1 w _⟩
    · by_cases h2 : 4 < del
      · go_enter Try.func12, Try.ntmps12
        go_wp2_with fail
        go_ret
        exact ⟨rfl, below1 w _⟩
      · by_cases h3 : rules.length < 1
        · have h3' : rules.length = 0 := by omega
          rw [h3']
          clear hok h3 h3'
          go_enter Try.func12, Try.ntmps12
          go_wp2_with fail
          go_ret
          exact ⟨rfl, below1 w _⟩
        · by_cases h4 : 600 < rules.length
          · have h4' : (600 : Int) < rules.length := by omega
            clear hok
            go_enter Try.func12, Try.ntmps12
            go_wp2_with fail
            go_ret
            exact ⟨rfl, below1 w _⟩
          · have h5 : ¬ stops.length = rules.length := fun e => hok ⟨by omega, by omega, by omega, by omega, e⟩
            have h6 : ((stops.length : Int) != (rules.length : Int)) = true := by simp; omega
            have h7 : ¬ (rules.length : Int) < 1 := by omega
            have h8 : ¬ (600 : Int) < rules.length := by omega
            clear hok
            go_enter Try.func12, Try.ntmps12
            go_wp2_with fail
            go_ret
            exact ⟨rfl, below1 w _⟩
set_option maxHeartbeats 2000000 in
theorem fitsb_any (t : TagS) (q : List Int) (v2 v3 v : Value) (w : World) (h : TagBig w w.heap.size v2 v3 t) (hq : Elems w w.heap.size v (ints q)) (hl : q.length ≤ 17592186044416) :
    Calls Try.prog 14 #[.agg #[.int .i64 t.del, v2, v3], v] w fun e w' => e = .returned (.bool (fitsT t q)) ∧ Below w.heap.size w w' := by
  have HT := hid_ h
  have HQ := hid_ hq
  obtain ⟨A2, c2, rfl⟩ := h.rules.form
  clear h hq
  cases hv : validT t
  · rw [show fitsT t q = false by simp [fitsT, hv]]
    have HV := hid_ hv
    clear hv
    go_enter Try.func14, Try.ntmps14
    go_wp2_with fail
    refine (validb_any t _ v3 _ (HT.out.to (below1 w _))).mono ?_
    rw [HV.out]
    rintro e w1 ⟨rfl, hb1⟩
    obtain ⟨p0, p1, p2, hz, hw1⟩ := box3 hb1
    go_wp2_with fail
    go_ret
    exact ⟨rfl, hw1⟩
  · rw [show fitsT t q = (decide ((q.length : Int) ≤ 100000) && wordB t.rules.length q) by simp [fitsT, hv]]
    have HV := hid_ hv
    clear hv
    cases hB : (decide ((q.length : Int) ≤ 100000) && wordB t.rules.length q)
    all_goals
      have HB := hid_ hB
      clear hB
      go_enter Try.func14, Try.ntmps14
      go_wp2_with fail
      refine (validb_any t _ v3 _ (HT.out.to (below1 w _))).mono ?_
      rw [HV.out]
      rintro e w1 ⟨rfl, hb1⟩
      obtain ⟨p0, p1, p2, hz, hw1⟩ := box3 hb1
      clear hb1
      go_wp2_with fail
      refine (isWordb_any q t.rules.length 100000 v w1 (HQ.out.to hw1) (by omega)).mono ?_
      rw [HB.out]
      rintro e w2 ⟨rfl, rfl⟩
      go_wp2_with fail
      go_ret
      exact ⟨rfl, hw1⟩

end Go.Proofs.Ytpnjffdjoacejaa
namespace Go.Proofs.Ytpnjffdjoacejaa
open Go.RowKit

/-- What Roll leaves, its capacity besides. -/
def WCRan (w : World) (R : WRes) (e : Ending) (w' : World) : Prop :=
  ∃ v, e = .returned (.tuple #[.agg #[.int .i64 R.pos, v], .int .i64 R.k, .int .i64 R.err]) ∧ Elems w' w'.heap.size v (ints R.q) ∧ Capped v ∧ Below w.heap.size w w'

set_option maxRecDepth 100000 in
set_option maxHeartbeats 8000000 in
theorem rollc_go (ws : List (List Int)) (a0 N : Nat) (q : List Int) (v v2 : Value) (w : World) (ht : CycIn w w.heap.size v ws) (hq : Elems w w.heap.size v2 (ints q)) (hl : q.length ≤ 1000000) (hf : fitsC ws a0 q = true) (hN : N ≤ 1000000) :
    Calls Try.prog 29 #[.agg #[v], .agg #[.int .i64 a0, v2], .int .i64 N] w (WCRan w (wresOf (rollC ws N a0 q))) := by
  obtain ⟨hv, f1, f2, f3, f4⟩ := fitsC_parts hf
  obtain ⟨r1, r2, -⟩ := validC_parts hv
  have HV := hid_ hv
  have HQW := hid_ f4
  obtain ⟨A2, c2, rfl⟩ := ht.rows.form
  obtain ⟨b2, o2, rfl, hb2⟩ := ht.rows.addr r1
  obtain ⟨i0, hi, hz0, hz1, hz2⟩ := info_parts Try.infoS8
  clear hv f4
  have HT := hid_ ht
  have HQ := hid_ hq
  have HF := hid_ hf
  clear ht hq hf
  go_enter Try.func29, Try.ntmps29
  go_wp2_with fail
  refine (fcyc_any ws a0 q _ v2 _ (HT.out.to (below3 w _ _ _)) (HQ.out.to (below3 w _ _ _)) hl).mono ?_
  rw [HF.out]
  rintro e W ⟨rfl, hb1⟩
  obtain ⟨B0, B1, B2, hw1⟩ := boxes hb1
  have p0 := B0.cell 0
  have p1 := B1.cell 0
  have p2 := B1.cell 1
  have r0 := B2.cell 0
  have r1 := B2.cell 1
  have s0 := B2.free 0
  have s1 := B2.free 1
  have z2 := B2.lt
  simp at p0 p1 p2 r0 r1
  have hl0 : ((ws.length : Nat) : Int) ≤ 2400 := by omega
  have HB2 := hid_ B2
  clear hb1 B0 B1 B2 r0 r1 s0 s1
  go_wp2_with (at_make; refine wpList_make_full _ rfl _ _ 80 rfl W.heap.size 81 i0 (.slice none 0 0) 1 Try.underlying80 hi hz0 hz1 .i64 .i64 ws.length ws.length ws.length rfl rfl rfl rfl (by rw [hz2]; omega) (by unfold maxLen; omega) (Nat.le_refl _) ?_; intro w3 hown hgr; have hb3w := make_below hgr; have p0' := keepc hb3w p0)
  rw [show (madeCells (Value.slice none 0 0).cells (ws.length * 1)).toList = List.replicate ws.length (.slice none 0 0) from by rw [Nat.mul_one]; exact toList_madeCells_one _ _] at hown
  have HOWN := hid_ hown
  clear hown hgr
  go_loopw [35] (fun s wr => ∃ (k : Nat) (vs : List Value), s = .int .i64 ((k : Nat) : Int) ∧ k ≤ ws.length ∧ Hid (wr.ownsRow W.heap.size 81 1 (.slice (some ⟨W.heap.size, 0, none⟩) ws.length ws.length) ws.length vs) ∧ Hid (SR8 wr W.heap.size ws k vs) ∧ Below W.heap.size W wr) (fun s _ => ws.length - (intOf s).toNat)
  case atStart => exact ⟨0, _, rfl, Nat.zero_le _, HOWN, hid_ (fun i u hu hi => by omega), hb3w⟩
  case round =>
    obtain ⟨k, vs, rfl, hk, HO, HSR, hbr⟩ := hrel
    have hwr := bnext hw1 hbr
    replace p0 := keepc hbr p0
    replace p1 := keepc hbr p1
    replace p2 := keepc hbr p2
    clear p0' HOWN hb3w
    by_cases hlt : k < ws.length
    · obtain ⟨r, hr⟩ : ∃ r, ws[k]? = some r := ⟨_, List.getElem?_eq_getElem hlt⟩
      obtain ⟨Ar, dr, hcr, hEr⟩ := (HT.out.to hwr).rows.row hr
      have hrw := wordC_get HV.out hr
      have HR := hid_ hr
      have HEr := hid_ hEr
      have HRW := hid_ hrw
      have hrl : r.length ≤ 1000000 := by omega
      clear hr hEr hrw
      go_wp2_with fail
      refine (narrow_any r _ wr HEr.out HRW.out.2 hrl).mono ?_
      rintro e wn ⟨cn, rfl, hownn, hbn⟩
      have HOn := hid_ (own_below HO.out hbn)
      have HVN := hid_ hownn
      have hvl : vs.length = ws.length := by have := HO.out.1; omega
      obtain ⟨u, hu⟩ : ∃ u, vs[k]? = some u := ⟨_, List.getElem?_eq_getElem (by omega)⟩
      have ck : wn.cell? ⟨W.heap.size, k, none⟩ = some u := (HOn.out.cellAt k (by omega)).trans hu
      have fk := HOn.out.frozenAt k
      have hgw : W.heap.size < wr.heap.size := (HO.out.lt _ rfl).2
      have t0 : 0 ≤ (k : Int) := by omega
      clear hownn hu hvl
      go_wp2_with fail
      go_roundw
      case rel =>
        exact ⟨k + 1, vs.set k _, by go_num, by omega, hid_ (HOn.out.stored k _).1, hid_ ((HSR.out.to hbn).next HR.out (own_elems HVN.out) (fun b h => by simp [Value.ownBlock] at h; omega)), (hbr.trans (hbn.mono (by omega))).setCell (Nat.le_refl _) _⟩
      case measure => simp [intOf]; omega
    · have HSR2 : Hid (SR8 wr W.heap.size ws ws.length vs) := hid_ (by have := HSR.out; rw [show k = ws.length by omega] at this; exact this)
      obtain ⟨k1, rfl⟩ : ∃ k1, k1 = k := ⟨_, rfl⟩
      clear HSR
      go_wp2_with fail
      refine (narrow_any q v2 wr (HQ.out.to hwr) HQW.out hl).mono ?_
      rintro e X ⟨cx, rfl, hownx, hbx⟩
      have HX := hid_ (own_elems hownx)
      clear hownx
      replace p0 := keepc hbx p0
      replace p1 := keepc hbx p1
      replace p2 := keepc hbx p2
      have hwX := bnext hwr hbx
      have HOX := hid_ (own_below HO.out hbx)
      have HSX := hid_ (HSR2.out.to hbx)
      have HBX := hid_ (HB2.out.to (bnext hbr hbx))
      have hzX : W.heap.size < X.heap.size := (HOX.out.lt _ rfl).2
      clear HO HSR2 HB2
      go_wp2_with fail
      refine (newQueue8_any q _ X HX.out hl).mono ?_
      rintro e wq ⟨go, rfl, hqa, hbq⟩
      have HQA := hid_ hqa
      have p1' := keepc hbq p1
      clear hqa HX
      go_wp2_with fail
      go_loopw [13, 14] (fun s13 s14 wr => ∃ (a d : Nat) (l : List Int), s13 = .int .i64 ((a : Nat) : Int) ∧ s14 = .int .i64 ((d : Nat) : Int) ∧ d ≤ N ∧ a < ws.length ∧ Hid (QU wr X.heap.size go l) ∧ Hid (fitsC ws a l = true) ∧ Hid (cbump d (rollC ws (N - d) a l) = rollC ws N a0 q) ∧ Below X.heap.size X wr)
        (fun _ s _ => N - (intOf s).toNat)
      case atStart => exact ⟨a0, 0, q, rfl, rfl, Nat.zero_le _, by omega, HQA, HF, hid_ (by rw [cbump_zero]; rfl), hbq⟩
      case round =>
        obtain ⟨a, d, l, rfl, rfl, hd, ha, HQr, HFl, HB, hbr⟩ := hrel
        have hwr := bnext hwX hbr
        have hgo := HQr.out.go_le
        have hll := (fitsC_parts HFl.out).2.2.2.1
        have BR := HBX.out.below hbr (by have := HBX.out.lt; omega)
        by_cases hlt : d < N
        · by_cases hl0' : l = []
          · have hlz : ((l.length : Nat) : Int) = 0 := by rw [hl0']; rfl
            have HL0 := hid_ hl0'
            have hlz2 : ¬ (0 : Int) < ((l.length : Nat) : Int) := by omega
            clear hl0' hlz
            go_wp2_with fail
            refine (qlen8_any l X.heap.size go wr HQr.out (by omega)).mono ?_
            rintro e we ⟨rfl, nn, rfl⟩
            go_wp2_with fail
            refine (qlist8_any l X.heap.size go (wr.drewN nn) (HQr.out.dN nn) (by omega)).mono ?_
            rintro e wl ⟨vl, rfl, hownl, hbl⟩
            have HEl := hid_ (own_any hownl)
            clear hownl
            go_wp2_with fail
            refine (widen_any l vl wl HEl.out (fitsC_parts HFl.out).2.2.2.2 hll).mono ?_
            rintro e wm ⟨cm, rfl, hownm, hbm⟩
            have HEm := hid_ hownm
            have hbm2 : Below wr.heap.size wr wm := bnext (below_drewN (Below.refl _ _) nn) (bnext hbl hbm)
            have BM := BR.to hbm2
            have r0 := BM.cell 0
            have r1 := BM.cell 1
            have s0 := BM.free 0
            have s1 := BM.free 1
            have z2 := BM.lt
            simp at r0 r1
            have BX2 := (BM.set_ 0 (.int .i64 (a : Int))).set_ 1 (.slice (some ⟨wl.heap.size, 0, none⟩) l.length cm)
            have e0 := BX2.cell 0
            have e1 := BX2.cell 1
            simp at e0 e1
            clear hownm BX2
            go_wp2_with fail
            refine bodyPost_ret (v := .tuple #[.agg #[.int .i64 (a : Int), .slice (some ⟨wl.heap.size, 0, none⟩) l.length cm], .int .i64 (d : Int), .int .i64 0]) (by simp [results, Try.results29, go_sem, e0, e1]) rfl ?_
            rw [show rollC ws N a0 q = some (a, l, d) from by rw [← HB.out]; exact rollC_stop HL0.out]
            have hge : w.heap.size + 1 + 1 < wl.heap.size := by have := hbl.size; have := hbr.size; simp at *; omega
            refine ⟨_, rfl, ?_, own_capped HEm.out, ((bnext hwr hbm2).setCell (by simp; omega) _).setCell (by simp; omega) _⟩
            have hsz : ((wm.setCell ⟨w.heap.size + 1 + 1, 0, none⟩ (.int .i64 (a : Int))).setCell ⟨w.heap.size + 1 + 1, 1, none⟩ (.slice (some ⟨wl.heap.size, 0, none⟩) l.length cm)).heap.size = wm.heap.size := by simp [World.setCell]
            rw [hsz]
            exact ((own_elems HEm.out).set_ (by simp [Value.ownBlock]; omega)).set_ (by simp [Value.ownBlock]; omega)
          · have hlp : 0 < l.length := List.length_pos_iff.2 hl0'
            have HL0 := hid_ hl0'
            obtain ⟨x, hx⟩ : ∃ x, l[0]? = some x := ⟨_, List.getElem?_eq_getElem hlp⟩
            have hxb := bit_cases (fitsC_parts HFl.out).2.2.2.2 hx
            obtain ⟨r, hr⟩ : ∃ r, ws[a]? = some r := ⟨_, List.getElem?_eq_getElem ha⟩
            have hrw := (wordC_get HV.out hr).1
            have hvl := HOX.out.1
            obtain ⟨u, hu⟩ : ∃ u, vs[a]? = some u := ⟨_, List.getElem?_eq_getElem (by omega)⟩
            obtain ⟨r', hr', hEu, hub⟩ := HSX.out a u hu ha
            obtain rfl : r' = r := by rw [hr] at hr'; exact (Option.some.inj hr').symm
            have cu : X.cell? ⟨W.heap.size, a, none⟩ = some u := (HOX.out.cellAt a (by omega)).trans hu
            have HTQ := hid_ (turnQ_eq hx hr)
            have HTL := hid_ (turnQ_len HFl.out)
            have HX := hid_ hx
            have HEu := hid_ hEu
            have hlq : (0 : Int) < ((l.length : Nat) : Int) := by omega
            have t1 : 0 ≤ (a : Int) := by omega
            have t2 : (a : Int) < ws.length := by omega
            clear hx hr hr' hEu hub hu hl0'
            rcases hxb with rfl | rfl
            · have HTE : Hid (turnQ ws a l = l.drop 1) := hid_ (by rw [HTQ.out]; simp)
              clear HTQ
              go_wp2_with fail
              refine (qlen8_any l X.heap.size go wr HQr.out (by omega)).mono ?_
              rintro e we ⟨rfl, n1, rfl⟩
              go_wp2_with fail
              refine (qfront8_any l 0 X.heap.size go _ (HQr.out.dN n1) (by omega) HX.out).mono ?_
              rintro e we ⟨rfl, n2, rfl⟩
              go_wp2_with fail
              refine (qdrop8_one l X.heap.size go _ (HQr.out.dN (n1 + n2)) (by omega) hlp).mono ?_
              rintro e w8 ⟨rfl, hq8, hb8⟩
              have hb8X : Below X.heap.size X w8 := (below_drewN hbr (n1 + n2)).trans hb8
              generalize hL : l.drop 1 = L at hq8
              have HLE : Hid (turnQ ws a l = L) := hid_ (HTE.out.trans hL)
              have HQ8 := hid_ hq8
              clear hq8 hL
              have hLl : L.length ≤ 2000000 := by have := HTL.out; rw [HLE.out] at this; omega
              go_wp2_with fail
              refine (qlen8_any L X.heap.size go w8 HQ8.out hLl).mono ?_
              rintro e we ⟨rfl, n3, rfl⟩
              by_cases hbig : (1000000 : Int) < L.length
              · have BM := (BR.below (B := X.heap.size) (Below.refl _ _) (by have := HBX.out.lt; omega)).below (B := X.heap.size) (Below.refl _ _) (by have := HBX.out.lt; omega)
                have BN := (HBX.out.below hb8X (by have := HBX.out.lt; omega)).dN n3
                have r0 := BN.cell 0
                have r1 := BN.cell 1
                have s0 := BN.free 0
                have s1 := BN.free 1
                have z2 := BN.lt
                simp at r0 r1
                have BX2 := (BN.set_ 0 (.int .i64 0)).set_ 1 (.slice none 0 0)
                have e0 := BX2.cell 0
                have e1 := BX2.cell 1
                simp at e0 e1
                clear BX2 BM
                go_wp2_with fail
                refine bodyPost_ret (v := .tuple #[.agg #[.int .i64 0, .slice none 0 0], .int .i64 0, .int .i64 4]) (by simp [results, Try.results29, go_sem, e0, e1]) rfl ?_
                rw [show rollC ws N a0 q = none from by rw [← HB.out, show N - d = (N - d - 1) + 1 by omega, rollC_big HL0.out (by rw [HLE.out]; omega)]]
                exact ⟨_, rfl, Elems.nil _ _, capped_nil, ((below_drewN (bnext hwX hb8X) n3).setCell (by simp; omega) _).setCell (by simp; omega) _⟩
              · go_wp2_with fail
                go_roundw
                case rel =>
                  have hmod := Nat.mod_lt (a + 1) (show 0 < ws.length by omega)
                  have hcm := cast_mod a ws.length
                  refine ⟨(a + 1) % ws.length, d + 1, L, by rw [← hcm], by go_num, by omega, hmod, hid_ (HQ8.out.dN _), hid_ ?_, hid_ ?_, below_drewN hb8X _⟩
                  · rw [← HLE.out]
                    exact turn_fits HFl.out HL0.out (by rw [HLE.out]; omega)
                  · rw [← HB.out, show N - d = (N - (d + 1)) + 1 by omega, rollC_on HL0.out (by rw [HLE.out]; omega), HLE.out]
                case measure => simp [intOf]; omega
            · have HTE : Hid (turnQ ws a l = l.drop 1 ++ r') := hid_ (by rw [HTQ.out]; simp)
              clear HTQ
              go_wp2_with fail
              refine (qlen8_any l X.heap.size go wr HQr.out (by omega)).mono ?_
              rintro e we ⟨rfl, n1, rfl⟩
              go_wp2_with fail
              refine (qfront8_any l 1 X.heap.size go _ (HQr.out.dN n1) (by omega) HX.out).mono ?_
              rintro e we ⟨rfl, n2, rfl⟩
              go_wp2_with fail
              refine (qdrop8_one l X.heap.size go _ (HQr.out.dN (n1 + n2)) (by omega) hlp).mono ?_
              rintro e w7 ⟨rfl, hq7, hb7⟩
              have hb7X : Below X.heap.size X w7 := (below_drewN hbr (n1 + n2)).trans hb7
              have HQ7 := hid_ hq7
              have cu7 := keepc hb7X cu
              clear hq7
              go_wp2_with fail
              refine (qadd8_any (l.drop 1) r' u X.heap.size go w7 HQ7.out (by simp; omega) ((HEu.out.to hb7X)) (by omega) hb7X.size).mono ?_
              rintro e w8 ⟨rfl, hq8, hb8⟩
              have hb8X : Below X.heap.size X w8 := hb7X.trans hb8
              generalize hL : l.drop 1 ++ r' = L at hq8
              have HLE : Hid (turnQ ws a l = L) := hid_ (HTE.out.trans hL)
              have HQ8 := hid_ hq8
              clear hq8 hL cu7
              have hLl : L.length ≤ 2000000 := by have := HTL.out; rw [HLE.out] at this; omega
              go_wp2_with fail
              refine (qlen8_any L X.heap.size go w8 HQ8.out hLl).mono ?_
              rintro e we ⟨rfl, n3, rfl⟩
              by_cases hbig : (1000000 : Int) < L.length
              · have BM := (BR.below (B := X.heap.size) (Below.refl _ _) (by have := HBX.out.lt; omega)).below (B := X.heap.size) (Below.refl _ _) (by have := HBX.out.lt; omega)
                have BN := (HBX.out.below hb8X (by have := HBX.out.lt; omega)).dN n3
                have r0 := BN.cell 0
                have r1 := BN.cell 1
                have s0 := BN.free 0
                have s1 := BN.free 1
                have z2 := BN.lt
                simp at r0 r1
                have BX2 := (BN.set_ 0 (.int .i64 0)).set_ 1 (.slice none 0 0)
                have e0 := BX2.cell 0
                have e1 := BX2.cell 1
                simp at e0 e1
                clear BX2 BM
                go_wp2_with fail
                refine bodyPost_ret (v := .tuple #[.agg #[.int .i64 0, .slice none 0 0], .int .i64 0, .int .i64 4]) (by simp [results, Try.results29, go_sem, e0, e1]) rfl ?_
                rw [show rollC ws N a0 q = none from by rw [← HB.out, show N - d = (N - d - 1) + 1 by omega, rollC_big HL0.out (by rw [HLE.out]; omega)]]
                exact ⟨_, rfl, Elems.nil _ _, capped_nil, ((below_drewN (bnext hwX hb8X) n3).setCell (by simp; omega) _).setCell (by simp; omega) _⟩
              · go_wp2_with fail
                go_roundw
                case rel =>
                  have hmod := Nat.mod_lt (a + 1) (show 0 < ws.length by omega)
                  have hcm := cast_mod a ws.length
                  refine ⟨(a + 1) % ws.length, d + 1, L, by rw [← hcm], by go_num, by omega, hmod, hid_ (HQ8.out.dN _), hid_ ?_, hid_ ?_, below_drewN hb8X _⟩
                  · rw [← HLE.out]
                    exact turn_fits HFl.out HL0.out (by rw [HLE.out]; omega)
                  · rw [← HB.out, show N - d = (N - (d + 1)) + 1 by omega, rollC_on HL0.out (by rw [HLE.out]; omega), HLE.out]
                case measure => simp [intOf]; omega
        · have hlt2 : ¬ ((d : Nat) : Int) < (N : Int) := by omega
          go_wp2_with fail
          refine (qlist8_any l X.heap.size go wr HQr.out (by omega)).mono ?_
          rintro e wl ⟨vl, rfl, hownl, hbl⟩
          have HEl := hid_ (own_any hownl)
          clear hownl
          go_wp2_with fail
          refine (widen_any l vl wl HEl.out (fitsC_parts HFl.out).2.2.2.2 hll).mono ?_
          rintro e wm ⟨cm, rfl, hownm, hbm⟩
          have HEm := hid_ hownm
          have hbm2 : Below wr.heap.size wr wm := bnext (Below.refl _ _) (bnext hbl hbm)
          have BM := BR.to hbm2
          have r0 := BM.cell 0
          have r1 := BM.cell 1
          have s0 := BM.free 0
          have s1 := BM.free 1
          have z2 := BM.lt
          simp at r0 r1
          have BX2 := (BM.set_ 0 (.int .i64 (a : Int))).set_ 1 (.slice (some ⟨wl.heap.size, 0, none⟩) l.length cm)
          have e0 := BX2.cell 0
          have e1 := BX2.cell 1
          simp at e0 e1
          clear hownm BX2
          go_wp2_with fail
          refine bodyPost_ret (v := .tuple #[.agg #[.int .i64 (a : Int), .slice (some ⟨wl.heap.size, 0, none⟩) l.length cm], .int .i64 (d : Int), .int .i64 0]) (by simp [results, Try.results29, go_sem, e0, e1]) rfl ?_
          rw [show rollC ws N a0 q = some (a, l, d) from by rw [← HB.out]; exact (by rw [show N - d = 0 by omega]; exact rollC_end)]
          have hge : w.heap.size + 1 + 1 < wl.heap.size := by have := hbl.size; have := hbr.size; simp at *; omega
          refine ⟨_, rfl, ?_, own_capped HEm.out, ((bnext hwr hbm2).setCell (by simp; omega) _).setCell (by simp; omega) _⟩
          have hsz : ((wm.setCell ⟨w.heap.size + 1 + 1, 0, none⟩ (.int .i64 (a : Int))).setCell ⟨w.heap.size + 1 + 1, 1, none⟩ (.slice (some ⟨wl.heap.size, 0, none⟩) l.length cm)).heap.size = wm.heap.size := by simp [World.setCell]
          rw [hsz]
          exact ((own_elems HEm.out).set_ (by simp [Value.ownBlock]; omega)).set_ (by simp [Value.ownBlock]; omega)
theorem rollc_ok (ws : List (List Int)) (q : List Int) (N : Nat) (v v2 : Value) (w : World) (ht : CycIn w w.heap.size v ws) (hq : Elems w w.heap.size v2 (ints q)) (hl : q.length ≤ 1000000) (hN : N ≤ 1000000) (R : WRes) (hR : rollS ws 0 q N = R) (he : R.err = 0) :
    Calls Try.prog 29 #[.agg #[v], .agg #[.int .i64 0, v2], .int .i64 N] w (WCRan w R) := by
  subst hR
  cases hf : fitsC ws 0 q
  · rw [rollS, if_pos hf] at he
    simp at he
  · rw [rollS, if_neg (by rw [hf]; simp), if_neg (by omega), Int.toNat_natCast]
    exact rollc_go ws 0 N q v v2 w ht hq hl hf (by omega)
end Go.Proofs.Ytpnjffdjoacejaa
namespace Go.Proofs.Ytpnjffdjoacejaa
open Go.RowKit

section
variable (t : TagS) (q : List Int) (n : Int) (v2 v3 v : Value) (w : World)

set_option maxRecDepth 1000000 in
set_option maxHeartbeats 4000000 in
theorem topcyc_e0 (hB : TagBig w w.heap.size v2 v3 t) (hq : Elems w w.heap.size v (ints q)) (hl : q.length ≤ 17592186044416) (hf : fitsT t q = false) :
    Calls Try.prog 9 #[.agg #[.int .i64 t.del, v2, v3], v, .int .i64 n] w (Yes w) := by
  have HB := hid_ hB
  have HF := hid_ hf
  obtain ⟨A2, c2, rfl⟩ := hB.rules.form
  obtain ⟨Aq, cq, rfl⟩ := hq.form
  rw [ints_len] at hq ⊢
  have HQ := hid_ hq
  clear hB hq hf
  go_enter Try.func9, Try.ntmps9
  go_wp2_with fail
  refine (fitsb_any t q _ _ _ _ (HB.out.to (below1 w _)) (HQ.out.to (below1 w _)) hl).mono ?_
  rw [HF.out]
  rintro e w1 ⟨rfl, hb1⟩
  obtain ⟨p0, p1, p2, hz, hw1⟩ := box3 hb1
  clear hb1
  go_wp2_with fail
  refine (Tp.lives_any _).mono ?_
  rintro e w2 ⟨rfl, hb2⟩
  go_wp2_with fail
  go_ret
  exact ⟨rfl, bnext hw1 hb2⟩

set_option maxRecDepth 1000000 in
set_option maxHeartbeats 4000000 in
theorem topcyc_e1 (hB : TagBig w w.heap.size v2 v3 t) (hq : Elems w w.heap.size v (ints q)) (hl : q.length ≤ 17592186044416) (hf : fitsT t q = true) (h1 : 12 < t.rules.length) :
    Calls Try.prog 9 #[.agg #[.int .i64 t.del, v2, v3], v, .int .i64 n] w (Yes w) := by
  have HB := hid_ hB
  have HF := hid_ hf
  have i1 : (12 : Int) < t.rules.length := by omega
  have i3 := (validT_parts (fitsT_parts hf).1).2.2.2.1
  obtain ⟨A2, c2, rfl⟩ := hB.rules.form
  obtain ⟨Aq, cq, rfl⟩ := hq.form
  rw [ints_len] at hq ⊢
  have HQ := hid_ hq
  clear hB hq hf
  go_enter Try.func9, Try.ntmps9
  go_wp2_with fail
  refine (fitsb_any t q _ _ _ _ (HB.out.to (below1 w _)) (HQ.out.to (below1 w _)) hl).mono ?_
  rw [HF.out]
  rintro e w1 ⟨rfl, hb1⟩
  obtain ⟨p0, p1, p2, hz, hw1⟩ := box3 hb1
  clear hb1
  go_wp2_with fail
  refine (Tp.lives_any _).mono ?_
  rintro e w2 ⟨rfl, hb2⟩
  go_wp2_with fail
  go_ret
  exact ⟨rfl, bnext hw1 hb2⟩

set_option maxRecDepth 1000000 in
set_option maxHeartbeats 4000000 in
theorem topcyc_e2 (hB : TagBig w w.heap.size v2 v3 t) (hq : Elems w w.heap.size v (ints q)) (hl : q.length ≤ 17592186044416) (hf : fitsT t q = true) (h1 : t.rules.length ≤ 12) (h2 : 60 < q.length) :
    Calls Try.prog 9 #[.agg #[.int .i64 t.del, v2, v3], v, .int .i64 n] w (Yes w) := by
  have HB := hid_ hB
  have HF := hid_ hf
  have i1 : ¬ (12 : Int) < t.rules.length := by omega
  have i2 : (60 : Int) < q.length := by omega
  obtain ⟨A2, c2, rfl⟩ := hB.rules.form
  obtain ⟨Aq, cq, rfl⟩ := hq.form
  rw [ints_len] at hq ⊢
  have HQ := hid_ hq
  clear hB hq hf
  go_enter Try.func9, Try.ntmps9
  go_wp2_with fail
  refine (fitsb_any t q _ _ _ _ (HB.out.to (below1 w _)) (HQ.out.to (below1 w _)) hl).mono ?_
  rw [HF.out]
  rintro e w1 ⟨rfl, hb1⟩
  obtain ⟨p0, p1, p2, hz, hw1⟩ := box3 hb1
  clear hb1
  go_wp2_with fail
  refine (Tp.lives_any _).mono ?_
  rintro e w2 ⟨rfl, hb2⟩
  go_wp2_with fail
  go_ret
  exact ⟨rfl, bnext hw1 hb2⟩
end

theorem steps12 (n : Int) : ∃ (r : Int) (k : Nat), n.tmod 12 = r ∧ -12 < r ∧ r < 12 ∧ (r + 12) % 12 = (k : Int) ∧ (r + 12).tmod 12 = (k : Int) ∧ k ≤ 11 := by
  have h1 : (n.tmod 12).natAbs < 12 := by
    have := Int.natAbs_tmod n 12
    rw [this]
    exact Nat.mod_lt _ (by decide)
  obtain ⟨r, hr⟩ : ∃ r, n.tmod 12 = r := ⟨_, rfl⟩
  rw [hr] at h1
  obtain ⟨k, hk⟩ := Int.eq_ofNat_of_zero_le (show 0 ≤ (r + 12) % 12 by omega)
  refine ⟨r, k, hr, by omega, by omega, hk, ?_, by omega⟩
  rw [Int.tmod_eq_emod_of_nonneg (by omega)]
  exact hk

set_option maxRecDepth 1000000 in
set_option maxHeartbeats 8000000 in
theorem topcyc_go (t : TagS) (q : List Int) (n : Int) (v2 v3 v : Value) (w : World) (hB : TagBig w w.heap.size v2 v3 t) (hq : Elems w w.heap.size v (ints q)) (hl : q.length ≤ 17592186044416) (hf : fitsT t q = true) (h1 : t.rules.length ≤ 12) (h2 : q.length ≤ 60) :
    Calls Try.prog 9 #[.agg #[.int .i64 t.del, v2, v3], v, .int .i64 n] w (Yes w) := by
  obtain ⟨hv, _, _⟩ := fitsT_parts hf
  obtain ⟨d1, d2, r1, r2, r3, _⟩ := validT_parts hv
  obtain ⟨r, st, hr, hr1, hr2, hm1, hm2, hst⟩ := steps12 n
  obtain ⟨a, k, e1, e2, e3, e4, e5, e6, e7, _⟩ := cyc_law (n := st) hf (by omega) (by omega) (by omega)
  have HT : Hid (TagIn w w.heap.size v2 v3 t) := hid_ ⟨hB.rules, hB.stops, by omega, by omega, fun x hx => by
    obtain ⟨i, hi⟩ := List.mem_iff_getElem?.1 hx
    have := (rule_get hv hi).1
    omega⟩
  have HB := hid_ hB
  have HF := hid_ hf
  have HV := hid_ hv
  obtain ⟨A2, c2, rfl⟩ := hB.rules.form
  obtain ⟨Aq, cq, rfl⟩ := hq.form
  rw [ints_len] at hq ⊢
  have HQ := hid_ hq
  have i1 : ¬ (12 : Int) < t.rules.length := by omega
  have i2 : ¬ (60 : Int) < q.length := by omega
  have hl3 : q.length ≤ 1000000 := by omega
  obtain ⟨P, hP⟩ : ∃ P, P = (cycL t).length := ⟨_, rfl⟩
  have hPd : P = t.del.toNat * t.rules.length := by rw [hP, cycL_len]
  have hPb : P ≤ 48 := by rw [hPd]; exact Nat.le_trans (Nat.mul_le_mul (show t.del.toNat ≤ 4 by omega) h1) (by omega)
  obtain ⟨M, hM⟩ : ∃ M, M = k * P := ⟨_, rfl⟩
  have hMi : (k : Int) * (P : Int) = (M : Int) := by rw [hM]; simp
  have hMb : M ≤ 528 := by rw [hM]; exact Nat.le_trans (Nat.mul_le_mul (show k ≤ 11 by omega) hPb) (by omega)
  rw [← hPd, ← hM] at e7
  have E1 := hid_ e1
  have E3 := hid_ e3
  have E5 := hid_ e5
  have E7 := hid_ e7
  have HLE : Hid (lettersS t (encF t.rules.length a) = ⟨a, 0, 0⟩) := hid_ (lettersS_enc e3)
  have hal : a.length ≤ 1000000 := by omega
  have HLQ : Hid ((encF t.rules.length q).length ≤ 1000000) := hid_ (by
    have : q.length * t.rules.length ≤ 60 * 12 := Nat.mul_le_mul h2 h1
    rw [encF_len]; omega)
  have HLA : Hid ((encF t.rules.length a).length ≤ 1000000) := hid_ (by
    have : a.length * t.rules.length ≤ 2800 * 12 := Nat.mul_le_mul e4 h1
    rw [encF_len]; omega)
  have HVC : Hid (validC (cycL t) = true) := hid_ (cycL_valid hv (by omega))
  have HP := hid_ hP
  generalize encF t.rules.length q = EQ at E5 E7 HLQ
  generalize encF t.rules.length a = EA at E7 HLA HLE
  have w1' : IntKind.i64.wrap (r + 12) = r + 12 := IntWalk.i64_in _ (by omega)
  have w2' : IntKind.i64.wrap r = r := IntWalk.i64_in _ (by omega)
  have w3' : IntKind.i64.wrap (st : Int) = (st : Int) := IntWalk.i64_in _ (by omega)
  have w4' : IntKind.i64.wrap (M : Int) = (M : Int) := IntWalk.i64_in _ (by omega)
  have w5' : 0 ≤ r + 12 := by omega
  clear hB hq hf hv e1 e3 e5 e6 e7 hP hPd hM d1 d2 r3
  go_enter Try.func9, Try.ntmps9
  go_wp2_with fail
  refine (fitsb_any t q _ _ _ _ (HB.out.to (below1 w _)) (HQ.out.to (below1 w _)) hl).mono ?_
  rw [HF.out]
  rintro e w1 ⟨rfl, hb1⟩
  obtain ⟨p0, p1, p2, hz, hw1⟩ := box3 hb1
  clear hb1
  go_upto_region 3 with fail
  go_cut [2] (fun s wx => s = .int .i64 (st : Int) ∧ wx = w1)
  case first => as_aux_lemma =>
    go_wp2_with fail
    go_meet
    exact ⟨rfl, rfl⟩
  case rest => as_aux_lemma =>
    obtain ⟨rfl, hww⟩ := hcut
    subst hww
    go_wp2_with fail
    refine (toCyclic_any t _ _ wc (HT.out.to hw1)).mono ?_
    rintro e w4 ⟨hb4, hc⟩
    rw [if_pos HV.out] at hc
    obtain ⟨vc, rfl, hrows⟩ := hc
    obtain ⟨Ac, cc, rfl⟩ := hrows.form
    rw [← HP.out] at hrows ⊢
    have HRW := hid_ hrows
    replace p0 := keepc hb4 (p0)
    replace p1 := keepc hb4 (p1)
    replace p2 := keepc hb4 (p2)
    have hw4 := bnext hw1 hb4
    have z0 : w.heap.size < w4.heap.size := cell_lt p0
    clear hrows
    go_wp2_with fail
    have hw4' := hw4.alloc hw4.size (.cells #[.slice Ac P cc] 43)
    refine (bits_any t q _ _ _ _ (HT.out.to hw4') (HQ.out.to hw4') hl3).mono ?_
    rw [E5.out]
    rintro e w5 ⟨vb, rfl, hEb, hb5⟩
    obtain ⟨Ab, cb, rfl⟩ := hEb.form
    rw [ints_len] at hEb ⊢
    have HEb := hid_ hEb
    have BC := (Blk.new w4 43 #[.slice Ac P cc]).to hb5
    have x0 := BC.cell 0
    simp at x0
    replace p0 := keepc hb5 (keepa _ p0)
    replace p1 := keepc hb5 (keepa _ p1)
    replace p2 := keepc hb5 (keepa _ p2)
    have hw5 := bnext hw4' hb5
    have HRW5 := hid_ ((HRW.out.to (below1 w4 _)).to hb5)
    clear hEb BC z0
    simp only
    go_wp2_with fail
    refine (run_any t q st _ _ _ w5 (HT.out.to hw5) (HQ.out.to hw5) hl3).mono ?_
    rw [E1.out]
    rintro e w6 ⟨va, rfl, hEa, hb6⟩
    obtain ⟨Aa, ca, rfl⟩ := hEa.form
    rw [ints_len] at hEa ⊢
    have HEa := hid_ hEa
    replace p0 := keepc hb6 (p0)
    replace p1 := keepc hb6 (p1)
    replace p2 := keepc hb6 (p2)
    replace x0 := keepc hb6 (x0)
    have hw6 := bnext hw5 hb6
    have HRW6 := hid_ (HRW5.out.to hb6)
    have HEb6 := hid_ (HEb.out.to hb6)
    clear hEa
    simp only
    go_wp2_with fail
    have HCY : Hid (CycIn w6 w6.heap.size (.slice Ac P cc) (cycL t)) := hid_ ⟨HRW6.out, by have := (validC_parts HVC.out).2.1; omega, fun x hx => by
      obtain ⟨i, hi⟩ := List.mem_iff_getElem?.1 hx
      have := (wordC_get HVC.out hi).1
      omega⟩
    refine (rollc_ok (cycL t) EQ M _ _ w6 HCY.out HEb6.out HLQ.out (by omega) _ E7.out rfl).mono ?_
    rintro e w7 ⟨vr, rfl, hEr, hCr, hb7⟩
    obtain ⟨Ar, cr, rfl⟩ := hEr.form
    rw [ints_len] at hEr hCr ⊢
    have HEr := hid_ hEr
    have hcr : EA.length ≤ cr := hCr _ _ _ rfl
    replace p0 := keepc hb7 (p0)
    replace p1 := keepc hb7 (p1)
    replace p2 := keepc hb7 (p2)
    replace x0 := keepc hb7 (x0)
    have hw7 := bnext hw6 hb7
    have HEa7 := hid_ (HEa.out.to hb7)
    have z7 : w.heap.size < w7.heap.size := cell_lt p0
    clear hEr hCr
    simp only
    go_wp2_with fail
    have hw7' := hw7.alloc hw7.size (.cells #[.int .i64 0, .slice Ar EA.length cr] 45)
    refine (letters2_any t EA _ _ _ _ _ (HT.out.to hw7') (HEr.out.to (below1 w7 _)) hcr HLA.out).mono ?_
    rw [HLE.out]
    rintro e w8 ⟨vl, rfl, hEl, hb8⟩
    obtain ⟨Al, cl, rfl⟩ := hEl.form
    rw [ints_len] at hEl ⊢
    have HEl := hid_ hEl
    have BR := (Blk.new w7 45 #[.int .i64 0, .slice Ar EA.length cr]).to hb8
    have y0 := BR.cell 0
    simp at y0
    replace x0 := keepc hb8 (keepa _ x0)
    have hw8 := bnext hw7' hb8
    have HEa8 := hid_ ((HEa7.out.to (below1 w7 _)).to hb8)
    clear hEl BR
    simp only
    have fM : ((M : Int) == (M : Int)) = true := by simp
    go_wp2_with fail
    refine (Tp.sameInts_any a a _ _ w8 HEl.out HEa8.out hal).mono ?_
    rw [decide_eq_true (show a = a from rfl)]
    rintro e w9 ⟨rfl, n9, rfl⟩
    go_wp2_with fail
    refine (Tp.lives_any _).mono ?_
    rintro e wz ⟨rfl, hbz⟩
    go_wp2_with fail
    go_ret
    exact ⟨rfl, bnext hw8 hbz.drewNl⟩
end Go.Proofs.Ytpnjffdjoacejaa

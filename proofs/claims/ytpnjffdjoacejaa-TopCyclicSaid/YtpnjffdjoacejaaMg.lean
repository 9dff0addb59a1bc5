/- The contract of Roll of package tag. -/
import Derived.Test.YtpnjffdjoacejaaMf
namespace Go.Proofs.Ytpnjffdjoacejaa
open Go.RowKit

theorem Try.infoS8 : (Try.prog.info? 81).map (fun i => (i.zero, i.size, i.bytes)) = some (some (.slice none 0 0), 1, 24) := by kernel_rfl
/-- What Roll leaves. -/
def WRan (w : World) (R : WRes) (e : Ending) (w' : World) : Prop :=
  ∃ v, e = .returned (.tuple #[.agg #[.int .i64 R.pos, v], .int .i64 R.k, .int .i64 R.err]) ∧ Elems w' w'.heap.size v (ints R.q) ∧ (∀ b, v.ownBlock = some b → w.heap.size ≤ b) ∧ Below w.heap.size w w'
theorem boxes {w w1 : World} {t t' : TypeId} {a b c d e : Value} (hb : Below (((w.alloc (.cells #[a] t)).alloc (.cells #[b, c] t')).alloc (.cells #[d, e] t')).heap.size (((w.alloc (.cells #[a] t)).alloc (.cells #[b, c] t')).alloc (.cells #[d, e] t')) w1) :
    Blk w1 w.heap.size t #[a] ∧ Blk w1 (w.heap.size + 1) t' #[b, c] ∧ Blk w1 (w.heap.size + 1 + 1) t' #[d, e] ∧ Below w.heap.size w w1 := by
  have h1 : (((w.alloc (.cells #[a] t)).alloc (.cells #[b, c] t')).alloc (.cells #[d, e] t')).heap.size = w.heap.size + 1 + 1 + 1 := by simp
  refine ⟨(((Blk.new w t #[a]).alloc _).alloc _).below hb (by omega), ?_, ?_, ((below2 w _ _).alloc (by simp; omega) _).trans (hb.mono (by omega))⟩
  · have := Blk.new (w.alloc (.cells #[a] t)) t' #[b, c]
    rw [show (w.alloc (.cells #[a] t)).heap.size = w.heap.size + 1 by simp] at this
    exact (this.alloc _).below hb (by omega)
  · have := Blk.new ((w.alloc (.cells #[a] t)).alloc (.cells #[b, c] t')) t' #[d, e]
    rw [show ((w.alloc (.cells #[a] t)).alloc (.cells #[b, c] t')).heap.size = w.heap.size + 1 + 1 by simp] at this
    exact this.below hb (by omega)
theorem below3 (w : World) (o o' o2 : Obj) : Below w.heap.size w (((w.alloc o).alloc o').alloc o2) := (below2 w o o').alloc (by simp; omega) o2
/-- A row of slices of bits: the first k are the words. -/
def SR8 (w : World) (g : Nat) (ws : List (List Int)) (k : Nat) (vs : List Value) : Prop := ∀ (i : Nat) (u : Value), vs[i]? = some u → i < k → ∃ r, ws[i]? = some r ∧ Elems w w.heap.size u (octs r) ∧ ∀ b, u.ownBlock = some b → g < b
theorem SR8.to {w w' : World} {g k : Nat} {ws : List (List Int)} {vs : List Value} (h : SR8 w g ws k vs) (hb : Below w.heap.size w w') : SR8 w' g ws k vs := fun i u hu hi => by
  obtain ⟨r, h1, h2, h3⟩ := h i u hu hi
  exact ⟨r, h1, h2.to hb, h3⟩
theorem SR8.next {w : World} {g k : Nat} {ws : List (List Int)} {vs : List Value} {x : Value} {r : List Int} (h : SR8 w g ws k vs) (hr : ws[k]? = some r) (hx : Elems w w.heap.size x (octs r)) (hne : ∀ b, x.ownBlock = some b → g < b) : SR8 (w.setCell ⟨g, k, none⟩ x) g ws (k + 1) (vs.set k x) := fun i u hu hi => by
  have hsz : (w.setCell ⟨g, k, none⟩ x).heap.size = w.heap.size := by simp [World.setCell]
  rw [hsz]
  rw [List.getElem?_set] at hu
  by_cases hik : k = i
  · subst hik
    rw [if_pos rfl] at hu
    split at hu
    · obtain rfl := Option.some.inj hu
      exact ⟨r, hr, hx.set_ (fun e => by have := hne g e; omega), hne⟩
    · cases hu
  · rw [if_neg hik] at hu
    obtain ⟨r', h1, h2, h3⟩ := h i u hu (by omega)
    exact ⟨r', h1, h2.set_ (fun e => by have := h3 g e; omega), h3⟩
theorem cast_mod (a n : Nat) : ((a : Int) + 1) % (n : Int) = (((a + 1) % n : Nat) : Int) := by
  show Int.ofNat (a + 1) % Int.ofNat n = _
  rfl
theorem qdrop8_one (l : List Int) (B go : Nat) (w : World) (h : QU w B go l) (hl : l.length ≤ 2000000) (hd : 0 < l.length) :
    Calls Try.prog 58 #[.pointer (some ⟨go, 0, none⟩), .int .i64 1] w fun e w' => e = .returned (.tuple #[]) ∧ QU w' B go (l.drop 1) ∧ Below B w w' :=
  qdrop8_any l 1 B go w h hl hd
theorem QU.go_le {w : World} {B go : Nat} {l : List Int} (h : QU w B go l) : B ≤ go ∧ go < w.heap.size := by
  obtain ⟨v, n, f, items, hbx, hown, h2f, _, hB, hne⟩ := h
  exact ⟨hB, hbx.lt⟩
theorem QU.dN {w : World} {B go : Nat} {l : List Int} (h : QU w B go l) (n : Nat) : QU (w.drewN n) B go l := h
theorem turnQ_len {ws : List (List Int)} {a : Nat} {q : List Int} (h : fitsC ws a q = true) : (turnQ ws a q).length ≤ 1120000 := by
  obtain ⟨h1, h2, h3, h4, h5⟩ := fitsC_parts h
  rw [turnQ, List.length_append, List.length_drop]
  have : (if q.getD 0 0 = 1 then ws.getD a [] else []).length ≤ 120000 := by
    split
    · obtain ⟨r, hr⟩ : ∃ r, ws[a]? = some r := ⟨_, List.getElem?_eq_getElem (by omega)⟩
      rw [getD_some hr]
      exact (wordC_get h1 hr).1
    · simp
  omega

set_option maxRecDepth 100000 in
set_option maxHeartbeats 1000000 in
theorem roll_bad (ws : List (List Int)) (a : Int) (q : List Int) (N : Int) (v v2 : Value) (w : World) (ht : CycIn w w.heap.size v ws) (hq : Elems w w.heap.size v2 (ints q)) (hl : q.length ≤ 1000000) (hf : fitsC ws a q = false) :
    Calls Try.prog 29 #[.agg #[v], .agg #[.int .i64 a, v2], .int .i64 N] w (WRan w ⟨0, [], 0, 1⟩) := by
  have HT := hid_ ht
  have HQ := hid_ hq
  have HF := hid_ hf
  clear ht hq hf
  go_enter Try.func29, Try.ntmps29
  go_wp2_with fail
  refine (fcyc_any ws a q v v2 _ (HT.out.to (below3 w _ _ _)) (HQ.out.to (below3 w _ _ _)) hl).mono ?_
  rw [HF.out]
  rintro e w1 ⟨rfl, hb1⟩
  obtain ⟨B0, B1, B2, hw1⟩ := boxes hb1
  have p0 := B0.cell 0
  have p1 := B1.cell 0
  have p2 := B1.cell 1
  have r0 := B2.cell 0
  have r1 := B2.cell 1
  have s0 := B2.free 0
  have s1 := B2.free 1
  have z2 := B2.lt
  simp at p0 p1 p2 r0 r1
  have BX2 := (B2.set_ 0 (.int .i64 0)).set_ 1 (.slice none 0 0)
  have e0 := BX2.cell 0
  have e1 := BX2.cell 1
  simp at e0 e1
  clear hb1 B0 B1
  go_wp2_with fail
  refine bodyPost_ret (v := .tuple #[.agg #[.int .i64 0, .slice none 0 0], .int .i64 0, .int .i64 1]) (by simp [results, Try.results29, go_sem, e0, e1]) rfl ?_
  exact ⟨_, rfl, Elems.nil _ _, (fun b h => by simp [Value.ownBlock] at h), (hw1.setCell (by simp; omega) _).setCell (by simp; omega) _⟩

set_option maxRecDepth 100000 in
set_option maxHeartbeats 1000000 in
theorem roll_arg (ws : List (List Int)) (a : Int) (q : List Int) (N : Int) (v v2 : Value) (w : World) (ht : CycIn w w.heap.size v ws) (hq : Elems w w.heap.size v2 (ints q)) (hl : q.length ≤ 1000000) (hf : fitsC ws a q = true) (hN : N < 0 ∨ (0 ≤ N ∧ 1000000 < N)) :
    Calls Try.prog 29 #[.agg #[v], .agg #[.int .i64 a, v2], .int .i64 N] w (WRan w ⟨0, [], 0, 2⟩) := by
  have HT := hid_ ht
  have HQ := hid_ hq
  have HF := hid_ hf
  clear ht hq hf
  rcases hN with hN | ⟨hN, hN2⟩
  all_goals
    go_enter Try.func29, Try.ntmps29
    go_wp2_with fail
    refine (fcyc_any ws a q v v2 _ (HT.out.to (below3 w _ _ _)) (HQ.out.to (below3 w _ _ _)) hl).mono ?_
    rw [HF.out]
    rintro e w1 ⟨rfl, hb1⟩
    obtain ⟨B0, B1, B2, hw1⟩ := boxes hb1
    have p0 := B0.cell 0
    have p1 := B1.cell 0
    have p2 := B1.cell 1
    have r0 := B2.cell 0
    have r1 := B2.cell 1
    have s0 := B2.free 0
    have s1 := B2.free 1
    have z2 := B2.lt
    simp at p0 p1 p2 r0 r1
    have BX2 := (B2.set_ 0 (.int .i64 0)).set_ 1 (.slice none 0 0)
    have e0 := BX2.cell 0
    have e1 := BX2.cell 1
    simp at e0 e1
    clear hb1 B0 B1
    go_wp2_with fail
    refine bodyPost_ret (v := .tuple #[.agg #[.int .i64 0, .slice none 0 0], .int .i64 0, .int .i64 2]) (by simp [results, Try.results29, go_sem, e0, e1]) rfl ?_
    exact ⟨_, rfl, Elems.nil _ _, (fun b h => by simp [Value.ownBlock] at h), (hw1.setCell (by simp; omega) _).setCell (by simp; omega) _⟩

set_option maxRecDepth 100000 in
set_option maxHeartbeats 8000000 in
theorem roll_go (ws : List (List Int)) (a0 N : Nat) (q : List Int) (v v2 : Value) (w : World) (ht : CycIn w w.heap.size v ws) (hq : Elems w w.heap.size v2 (ints q)) (hl : q.length ≤ 1000000) (hf : fitsC ws a0 q = true) (hN : N ≤ 1000000) :
    Calls Try.prog 29 #[.agg #[v], .agg #[.int .i64 a0, v2], .int .i64 N] w (WRan w (wresOf (rollC ws N a0 q))) := by
  obtain ⟨hv, f1, f2, f3, f4⟩ := fitsC_parts hf
  obtain ⟨r1, r2, -⟩ := validC_parts hv
  have HV := hid_ hv
  have HQW := hid_ f4
  obtain ⟨A2, c2, rfl⟩ := ht.rows.form
  obtain ⟨b2, o2, rfl, hb2⟩ := ht.rows.addr r1
  obtain ⟨i0, hi, hz0, hz1, hz2⟩ := info_parts Try.infoS8
  clear hv f4
  have HT := hid_ ht
  have HQ := hid_ hq
  have HF := hid_ hf
  clear ht hq hf
  go_enter Try.func29, Try.ntmps29
  go_wp2_with fail
  refine (fcyc_any ws a0 q _ v2 _ (HT.out.to (below3 w _ _ _)) (HQ.out.to (below3 w _ _ _)) hl).mono ?_
  rw [HF.out]
  rintro e W ⟨rfl, hb1⟩
  obtain ⟨B0, B1, B2, hw1⟩ := boxes hb1
  have p0 := B0.cell 0
  have p1 := B1.cell 0
  have p2 := B1.cell 1
  have r0 := B2.cell 0
  have r1 := B2.cell 1
  have s0 := B2.free 0
  have s1 := B2.free 1
  have z2 := B2.lt
  simp at p0 p1 p2 r0 r1
  have hl0 : ((ws.length : Nat) : Int) ≤ 2400 := by omega
  have HB2 := hid_ B2
  clear hb1 B0 B1 B2 r0 r1 s0 s1
  go_wp2_with (at_make; refine wpList_make_full _ rfl _ _ 80 rfl W.heap.size 81 i0 (.slice none 0 0) 1 Try.underlying80 hi hz0 hz1 .i64 .i64 ws.length ws.length ws.length rfl rfl rfl rfl (by rw [hz2]; omega) (by unfold maxLen; omega) (Nat.le_refl _) ?_; intro w3 hown hgr; have hb3w := make_below hgr; have p0' := keepc hb3w p0)
  rw [show (madeCells (Value.slice none 0 0).cells (ws.length * 1)).toList = List.replicate ws.length (.slice none 0 0) from by rw [Nat.mul_one]; exact toList_madeCells_one _ _] at hown
  have HOWN := hid_ hown
  clear hown hgr
  go_loopw [35] (fun s wr => ∃ (k : Nat) (vs : List Value), s = .int .i64 ((k : Nat) : Int) ∧ k ≤ ws.length ∧ Hid (wr.ownsRow W.heap.size 81 1 (.slice (some ⟨W.heap.size, 0, none⟩) ws.length ws.length) ws.length vs) ∧ Hid (SR8 wr W.heap.size ws k vs) ∧ Below W.heap.size W wr) (fun s _ => ws.length - (intOf s).toNat)
  case atStart => exact ⟨0, _, rfl, Nat.zero_le _, HOWN, hid_ (fun i u hu hi => by omega), hb3w⟩
  case round =>
    obtain ⟨k, vs, rfl, hk, HO, HSR, hbr⟩ := hrel
    have hwr := bnext hw1 hbr
    replace p0 := keepc hbr p0
    replace p1 := keepc hbr p1
    replace p2 := keepc hbr p2
    clear p0' HOWN hb3w
    by_cases hlt : k < ws.length
    · obtain ⟨r, hr⟩ : ∃ r, ws[k]? = some r := ⟨_, List.getElem?_eq_getElem hlt⟩
      obtain ⟨Ar, dr, hcr, hEr⟩ := (HT.out.to hwr).rows.row hr
      have hrw := wordC_get HV.out hr
      have HR := hid_ hr
      have HEr := hid_ hEr
      have HRW := hid_ hrw
      have hrl : r.length ≤ 1000000 := by omega
      clear hr hEr hrw
      go_wp2_with fail
      refine (narrow_any r _ wr HEr.out HRW.out.2 hrl).mono ?_
      rintro e wn ⟨cn, rfl, hownn, hbn⟩
      have HOn := hid_ (own_below HO.out hbn)
      have HVN := hid_ hownn
      have hvl : vs.length = ws.length := by have := HO.out.1; omega
      obtain ⟨u, hu⟩ : ∃ u, vs[k]? = some u := ⟨_, List.getElem?_eq_getElem (by omega)⟩
      have ck : wn.cell? ⟨W.heap.size, k, none⟩ = some u := (HOn.out.cellAt k (by omega)).trans hu
      have fk := HOn.out.frozenAt k
      have hgw : W.heap.size < wr.heap.size := (HO.out.lt _ rfl).2
      have t0 : 0 ≤ (k : Int) := by omega
      clear hownn hu hvl
      go_wp2_with fail
      go_roundw
      case rel =>
        exact ⟨k + 1, vs.set k _, by go_num, by omega, hid_ (HOn.out.stored k _).1, hid_ ((HSR.out.to hbn).next HR.out (own_elems HVN.out) (fun b h => by simp [Value.ownBlock] at h; omega)), (hbr.trans (hbn.mono (by omega))).setCell (Nat.le_refl _) _⟩
      case measure => simp [intOf]; omega
    · have HSR2 : Hid (SR8 wr W.heap.size ws ws.length vs) := hid_ (by have := HSR.out; rw [show k = ws.length by omega] at this; exact this)
      obtain ⟨k1, rfl⟩ : ∃ k1, k1 = k := ⟨_, rfl⟩
      clear HSR
      go_wp2_with fail
      refine (narrow_any q v2 wr (HQ.out.to hwr) HQW.out hl).mono ?_
      rintro e X ⟨cx, rfl, hownx, hbx⟩
      have HX := hid_ (own_elems hownx)
      clear hownx
      replace p0 := keepc hbx p0
      replace p1 := keepc hbx p1
      replace p2 := keepc hbx p2
      have hwX := bnext hwr hbx
      have HOX := hid_ (own_below HO.out hbx)
      have HSX := hid_ (HSR2.out.to hbx)
      have HBX := hid_ (HB2.out.to (bnext hbr hbx))
      have hzX : W.heap.size < X.heap.size := (HOX.out.lt _ rfl).2
      clear HO HSR2 HB2
      go_wp2_with fail
      refine (newQueue8_any q _ X HX.out hl).mono ?_
      rintro e wq ⟨go, rfl, hqa, hbq⟩
      have HQA := hid_ hqa
      have p1' := keepc hbq p1
      clear hqa HX
      go_wp2_with fail
      go_loopw [13, 14] (fun s13 s14 wr => ∃ (a d : Nat) (l : List Int), s13 = .int .i64 ((a : Nat) : Int) ∧ s14 = .int .i64 ((d : Nat) : Int) ∧ d ≤ N ∧ a < ws.length ∧ Hid (QU wr X.heap.size go l) ∧ Hid (fitsC ws a l = true) ∧ Hid (cbump d (rollC ws (N - d) a l) = rollC ws N a0 q) ∧ Below X.heap.size X wr)
        (fun _ s _ => N - (intOf s).toNat)
      case atStart => exact ⟨a0, 0, q, rfl, rfl, Nat.zero_le _, by omega, HQA, HF, hid_ (by rw [cbump_zero]; rfl), hbq⟩
      case round =>
        obtain ⟨a, d, l, rfl, rfl, hd, ha, HQr, HFl, HB, hbr⟩ := hrel
        have hwr := bnext hwX hbr
        have hgo := HQr.out.go_le
        have hll := (fitsC_parts HFl.out).2.2.2.1
        have BR := HBX.out.below hbr (by have := HBX.out.lt; omega)
        by_cases hlt : d < N
        · by_cases hl0' : l = []
          · have hlz : ((l.length : Nat) : Int) = 0 := by rw [hl0']; rfl
            have HL0 := hid_ hl0'
            have hlz2 : ¬ (0 : Int) < ((l.length : Nat) : Int) := by omega
            clear hl0' hlz
            go_wp2_with fail
            refine (qlen8_any l X.heap.size go wr HQr.out (by omega)).mono ?_
            rintro e we ⟨rfl, nn, rfl⟩
            go_wp2_with fail
            refine (qlist8_any l X.heap.size go (wr.drewN nn) (HQr.out.dN nn) (by omega)).mono ?_
            rintro e wl ⟨vl, rfl, hownl, hbl⟩
            have HEl := hid_ (own_any hownl)
            clear hownl
            go_wp2_with fail
            refine (widen_any l vl wl HEl.out (fitsC_parts HFl.out).2.2.2.2 hll).mono ?_
            rintro e wm ⟨cm, rfl, hownm, hbm⟩
            have HEm := hid_ hownm
            have hbm2 : Below wr.heap.size wr wm := bnext (below_drewN (Below.refl _ _) nn) (bnext hbl hbm)
            have BM := BR.to hbm2
            have r0 := BM.cell 0
            have r1 := BM.cell 1
            have s0 := BM.free 0
            have s1 := BM.free 1
            have z2 := BM.lt
            simp at r0 r1
            have BX2 := (BM.set_ 0 (.int .i64 (a : Int))).set_ 1 (.slice (some ⟨wl.heap.size, 0, none⟩) l.length cm)
            have e0 := BX2.cell 0
            have e1 := BX2.cell 1
            simp at e0 e1
            clear hownm BX2
            go_wp2_with fail
            refine bodyPost_ret (v := .tuple #[.agg #[.int .i64 (a : Int), .slice (some ⟨wl.heap.size, 0, none⟩) l.length cm], .int .i64 (d : Int), .int .i64 0]) (by simp [results, Try.results29, go_sem, e0, e1]) rfl ?_
            rw [show rollC ws N a0 q = some (a, l, d) from by rw [← HB.out]; exact rollC_stop HL0.out]
            have hge : w.heap.size + 1 + 1 < wl.heap.size := by have := hbl.size; have := hbr.size; simp at *; omega
            refine ⟨_, rfl, ?_, (fun b h => by simp [Value.ownBlock] at h; omega), ((bnext hwr hbm2).setCell (by simp; omega) _).setCell (by simp; omega) _⟩
            have hsz : ((wm.setCell ⟨w.heap.size + 1 + 1, 0, none⟩ (.int .i64 (a : Int))).setCell ⟨w.heap.size + 1 + 1, 1, none⟩ (.slice (some ⟨wl.heap.size, 0, none⟩) l.length cm)).heap.size = wm.heap.size := by simp [World.setCell]
            rw [hsz]
            exact ((own_elems HEm.out).set_ (by simp [Value.ownBlock]; omega)).set_ (by simp [Value.ownBlock]; omega)
          · have hlp : 0 < l.length := List.length_pos_iff.2 hl0'
            have HL0 := hid_ hl0'
            obtain ⟨x, hx⟩ : ∃ x, l[0]? = some x := ⟨_, List.getElem?_eq_getElem hlp⟩
            have hxb := bit_cases (fitsC_parts HFl.out).2.2.2.2 hx
            obtain ⟨r, hr⟩ : ∃ r, ws[a]? = some r := ⟨_, List.getElem?_eq_getElem ha⟩
            have hrw := (wordC_get HV.out hr).1
            have hvl := HOX.out.1
            obtain ⟨u, hu⟩ : ∃ u, vs[a]? = some u := ⟨_, List.getElem?_eq_getElem (by omega)⟩
            obtain ⟨r', hr', hEu, hub⟩ := HSX.out a u hu ha
            obtain rfl : r' = r := by rw [hr] at hr'; exact (Option.some.inj hr').symm
            have cu : X.cell? ⟨W.heap.size, a, none⟩ = some u := (HOX.out.cellAt a (by omega)).trans hu
            have HTQ := hid_ (turnQ_eq hx hr)
            have HTL := hid_ (turnQ_len HFl.out)
            have HX := hid_ hx
            have HEu := hid_ hEu
            have hlq : (0 : Int) < ((l.length : Nat) : Int) := by omega
            have t1 : 0 ≤ (a : Int) := by omega
            have t2 : (a : Int) < ws.length := by omega
            clear hx hr hr' hEu hub hu hl0'
            rcases hxb with rfl | rfl
            · have HTE : Hid (turnQ ws a l = l.drop 1) := hid_ (by rw [HTQ.out]; simp)
              clear HTQ
              go_wp2_with fail
              refine (qlen8_any l X.heap.size go wr HQr.out (by omega)).mono ?_
              rintro e we ⟨rfl, n1, rfl⟩
              go_wp2_with fail
              refine (qfront8_any l 0 X.heap.size go _ (HQr.out.dN n1) (by omega) HX.out).mono ?_
              rintro e we ⟨rfl, n2, rfl⟩
              go_wp2_with fail
              refine (qdrop8_one l X.heap.size go _ (HQr.out.dN (n1 + n2)) (by omega) hlp).mono ?_
              rintro e w8 ⟨rfl, hq8, hb8⟩
              have hb8X : Below X.heap.size X w8 := (below_drewN hbr (n1 + n2)).trans hb8
              generalize hL : l.drop 1 = L at hq8
              have HLE : Hid (turnQ ws a l = L) := hid_ (HTE.out.trans hL)
              have HQ8 := hid_ hq8
              clear hq8 hL
              have hLl : L.length ≤ 2000000 := by have := HTL.out; rw [HLE.out] at this; omega
              go_wp2_with fail
              refine (qlen8_any L X.heap.size go w8 HQ8.out hLl).mono ?_
              rintro e we ⟨rfl, n3, rfl⟩
              by_cases hbig : (1000000 : Int) < L.length
              · have BM := (BR.below (B := X.heap.size) (Below.refl _ _) (by have := HBX.out.lt; omega)).below (B := X.heap.size) (Below.refl _ _) (by have := HBX.out.lt; omega)
                have BN := (HBX.out.below hb8X (by have := HBX.out.lt; omega)).dN n3
                have r0 := BN.cell 0
                have r1 := BN.cell 1
                have s0 := BN.free 0
                have s1 := BN.free 1
                have z2 := BN.lt
                simp at r0 r1
                have BX2 := (BN.set_ 0 (.int .i64 0)).set_ 1 (.slice none 0 0)
                have e0 := BX2.cell 0
                have e1 := BX2.cell 1
                simp at e0 e1
                clear BX2 BM
                go_wp2_with fail
                refine bodyPost_ret (v := .tuple #[.agg #[.int .i64 0, .slice none 0 0], .int .i64 0, .int .i64 4]) (by simp [results, Try.results29, go_sem, e0, e1]) rfl ?_
                rw [show rollC ws N a0 q = none from by rw [← HB.out, show N - d = (N - d - 1) + 1 by omega, rollC_big HL0.out (by rw [HLE.out]; omega)]]
                exact ⟨_, rfl, Elems.nil _ _, (fun b h => by simp [Value.ownBlock] at h), ((below_drewN (bnext hwX hb8X) n3).setCell (by simp; omega) _).setCell (by simp; omega) _⟩
              · go_wp2_with fail
                go_roundw
                case rel =>
                  have hmod := Nat.mod_lt (a + 1) (show 0 < ws.length by omega)
                  have hcm := cast_mod a ws.length
                  refine ⟨(a + 1) % ws.length, d + 1, L, by rw [← hcm], by go_num, by omega, hmod, hid_ (HQ8.out.dN _), hid_ ?_, hid_ ?_, below_drewN hb8X _⟩
                  · rw [← HLE.out]
                    exact turn_fits HFl.out HL0.out (by rw [HLE.out]; omega)
                  · rw [← HB.out, show N - d = (N - (d + 1)) + 1 by omega, rollC_on HL0.out (by rw [HLE.out]; omega), HLE.out]
                case measure => simp [intOf]; omega
            · have HTE : Hid (turnQ ws a l = l.drop 1 ++ r') := hid_ (by rw [HTQ.out]; simp)
              clear HTQ
              go_wp2_with fail
              refine (qlen8_any l X.heap.size go wr HQr.out (by omega)).mono ?_
              rintro e we ⟨rfl, n1, rfl⟩
              go_wp2_with fail
              refine (qfront8_any l 1 X.heap.size go _ (HQr.out.dN n1) (by omega) HX.out).mono ?_
              rintro e we ⟨rfl, n2, rfl⟩
              go_wp2_with fail
              refine (qdrop8_one l X.heap.size go _ (HQr.out.dN (n1 + n2)) (by omega) hlp).mono ?_
              rintro e w7 ⟨rfl, hq7, hb7⟩
              have hb7X : Below X.heap.size X w7 := (below_drewN hbr (n1 + n2)).trans hb7
              have HQ7 := hid_ hq7
              have cu7 := keepc hb7X cu
              clear hq7
              go_wp2_with fail
              refine (qadd8_any (l.drop 1) r' u X.heap.size go w7 HQ7.out (by simp; omega) ((HEu.out.to hb7X)) (by omega) hb7X.size).mono ?_
              rintro e w8 ⟨rfl, hq8, hb8⟩
              have hb8X : Below X.heap.size X w8 := hb7X.trans hb8
              generalize hL : l.drop 1 ++ r' = L at hq8
              have HLE : Hid (turnQ ws a l = L) := hid_ (HTE.out.trans hL)
              have HQ8 := hid_ hq8
              clear hq8 hL cu7
              have hLl : L.length ≤ 2000000 := by have := HTL.out; rw [HLE.out] at this; omega
              go_wp2_with fail
              refine (qlen8_any L X.heap.size go w8 HQ8.out hLl).mono ?_
              rintro e we ⟨rfl, n3, rfl⟩
              by_cases hbig : (1000000 : Int) < L.length
              · have BM := (BR.below (B := X.heap.size) (Below.refl _ _) (by have := HBX.out.lt; omega)).below (B := X.heap.size) (Below.refl _ _) (by have := HBX.out.lt; omega)
                have BN := (HBX.out.below hb8X (by have := HBX.out.lt; omega)).dN n3
                have r0 := BN.cell 0
                have r1 := BN.cell 1
                have s0 := BN.free 0
                have s1 := BN.free 1
                have z2 := BN.lt
                simp at r0 r1
                have BX2 := (BN.set_ 0 (.int .i64 0)).set_ 1 (.slice none 0 0)
                have e0 := BX2.cell 0
                have e1 := BX2.cell 1
                simp at e0 e1
                clear BX2 BM
                go_wp2_with fail
                refine bodyPost_ret (v := .tuple #[.agg #[.int .i64 0, .slice none 0 0], .int .i64 0, .int .i64 4]) (by simp [results, Try.results29, go_sem, e0, e1]) rfl ?_
                rw [show rollC ws N a0 q = none from by rw [← HB.out, show N - d = (N - d - 1) + 1 by omega, rollC_big HL0.out (by rw [HLE.out]; omega)]]
                exact ⟨_, rfl, Elems.nil _ _, (fun b h => by simp [Value.ownBlock] at h), ((below_drewN (bnext hwX hb8X) n3).setCell (by simp; omega) _).setCell (by simp; omega) _⟩
              · go_wp2_with fail
                go_roundw
                case rel =>
                  have hmod := Nat.mod_lt (a + 1) (show 0 < ws.length by omega)
                  have hcm := cast_mod a ws.length
                  refine ⟨(a + 1) % ws.length, d + 1, L, by rw [← hcm], by go_num, by omega, hmod, hid_ (HQ8.out.dN _), hid_ ?_, hid_ ?_, below_drewN hb8X _⟩
                  · rw [← HLE.out]
                    exact turn_fits HFl.out HL0.out (by rw [HLE.out]; omega)
                  · rw [← HB.out, show N - d = (N - (d + 1)) + 1 by omega, rollC_on HL0.out (by rw [HLE.out]; omega), HLE.out]
                case measure => simp [intOf]; omega
        · have hlt2 : ¬ ((d : Nat) : Int) < (N : Int) := by omega
          go_wp2_with fail
          refine (qlist8_any l X.heap.size go wr HQr.out (by omega)).mono ?_
          rintro e wl ⟨vl, rfl, hownl, hbl⟩
          have HEl := hid_ (own_any hownl)
          clear hownl
          go_wp2_with fail
          refine (widen_any l vl wl HEl.out (fitsC_parts HFl.out).2.2.2.2 hll).mono ?_
          rintro e wm ⟨cm, rfl, hownm, hbm⟩
          have HEm := hid_ hownm
          have hbm2 : Below wr.heap.size wr wm := bnext (Below.refl _ _) (bnext hbl hbm)
          have BM := BR.to hbm2
          have r0 := BM.cell 0
          have r1 := BM.cell 1
          have s0 := BM.free 0
          have s1 := BM.free 1
          have z2 := BM.lt
          simp at r0 r1
          have BX2 := (BM.set_ 0 (.int .i64 (a : Int))).set_ 1 (.slice (some ⟨wl.heap.size, 0, none⟩) l.length cm)
          have e0 := BX2.cell 0
          have e1 := BX2.cell 1
          simp at e0 e1
          clear hownm BX2
          go_wp2_with fail
          refine bodyPost_ret (v := .tuple #[.agg #[.int .i64 (a : Int), .slice (some ⟨wl.heap.size, 0, none⟩) l.length cm], .int .i64 (d : Int), .int .i64 0]) (by simp [results, Try.results29, go_sem, e0, e1]) rfl ?_
          rw [show rollC ws N a0 q = some (a, l, d) from by rw [← HB.out]; exact (by rw [show N - d = 0 by omega]; exact rollC_end)]
          have hge : w.heap.size + 1 + 1 < wl.heap.size := by have := hbl.size; have := hbr.size; simp at *; omega
          refine ⟨_, rfl, ?_, (fun b h => by simp [Value.ownBlock] at h; omega), ((bnext hwr hbm2).setCell (by simp; omega) _).setCell (by simp; omega) _⟩
          have hsz : ((wm.setCell ⟨w.heap.size + 1 + 1, 0, none⟩ (.int .i64 (a : Int))).setCell ⟨w.heap.size + 1 + 1, 1, none⟩ (.slice (some ⟨wl.heap.size, 0, none⟩) l.length cm)).heap.size = wm.heap.size := by simp [World.setCell]
          rw [hsz]
          exact ((own_elems HEm.out).set_ (by simp [Value.ownBlock]; omega)).set_ (by simp [Value.ownBlock]; omega)
end Go.Proofs.Ytpnjffdjoacejaa

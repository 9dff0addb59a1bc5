/- Contracts: the specification's ToCyclic. -/
import Derived.Test.YtpnjffdjoacejaaPf
namespace Go.Proofs.Ytpnjffdjoacejaa
open Go.RowKit

/-- No value of the list lies in the block of v, and all lie in memory of the call's own. -/
def Apart (w : World) (B : Nat) (v : Value) (vs : List Value) : Prop := ∀ u ∈ vs, ∀ b, u.ownBlock = some b → B ≤ b ∧ b < w.heap.size ∧ some b ≠ v.ownBlock
theorem Apart.up {w w' : World} {B : Nat} {v : Value} {vs : List Value} (h : Apart w B v vs) (hs : w.heap.size ≤ w'.heap.size) : Apart w' B v vs := fun u hu b hb => by
  obtain ⟨h1, h2, h3⟩ := h u hu b hb
  exact ⟨h1, by omega, h3⟩
theorem Apart.snoc {w w' : World} {B : Nat} {v v' l : Value} {vs : List Value} (h : Apart w B v (vs ++ [l])) (hs : w.heap.size ≤ w'.heap.size) (hat : v'.ownBlock = v.ownBlock ∨ v'.ownBlock = some w.heap.size) : Apart w' B v' (vs ++ [l]) := fun u hu b hb => by
  obtain ⟨h1, h2, h3⟩ := h u hu b hb
  refine ⟨h1, by omega, ?_⟩
  rcases hat with e | e
  · rw [e]; exact h3
  · rw [e]; intro e2
    have := Option.some.inj e2
    omega
theorem Apart.more {w : World} {B : Nat} {v l : Value} {vs : List Value} (h : Apart w B v vs) (hl : ∀ b, l.ownBlock = some b → B ≤ b ∧ b < w.heap.size ∧ some b ≠ v.ownBlock) : Apart w B v (vs ++ [l]) := fun u hu b hb => by
  rcases List.mem_append.1 hu with hu | hu
  · exact h u hu b hb
  · simp at hu
    subst hu
    exact hl b hb
theorem RowsV.set_ {w : World} {B : Nat} {v x : Value} {vs : List Value} {rows : List (List Int)} {p : Addr} (h : RowsV w w.heap.size vs rows) (ha : Apart w B v vs) (hp : p.block < B) : RowsV (w.setCell p x) (w.setCell p x).heap.size vs rows := by
  have hsz : (w.setCell p x).heap.size = w.heap.size := by simp [World.setCell]
  rw [hsz]
  refine ⟨h.1, fun k u r hu hr => (h.2 k u r hu hr).set_ fun e => ?_⟩
  have := (ha u (List.mem_of_getElem? hu) _ e).1
  omega
theorem Apart.set_ {w : World} {B : Nat} {v x : Value} {vs : List Value} {p : Addr} (ha : Apart w B v vs) : Apart (w.setCell p x) B v vs := ha.up (by simp [World.setCell])

/-- What the specification's ToCyclic leaves. -/
def RCRan (t : TagS) (w : World) (e : Ending) (w' : World) : Prop := ∃ v, e = .returned (.agg #[v]) ∧ Rows2 w' w'.heap.size v (cycL t) ∧ Below w.heap.size w w'

set_option maxRecDepth 100000 in
set_option maxHeartbeats 2000000 in
theorem rtocyc_any (t : TagS) (v2 v3 : Value) (w : World) (ht : TagIn w w.heap.size v2 v3 t) (hv : validT t = true) :
    Calls Try.prog 39 #[.agg #[.int .i64 t.del, v2, v3]] w (RCRan t w) := by
  obtain ⟨del, rules, stops⟩ := t
  obtain ⟨d1, d2, r1, r2, r3, -⟩ := validT_parts hv
  simp only at d1 d2 r1 r2 r3
  obtain ⟨dn, rfl⟩ := Int.eq_ofNat_of_zero_le (show 0 ≤ del by omega)
  have HV := hid_ hv
  obtain ⟨A2, c2, rfl⟩ := ht.rules.form
  obtain ⟨A3, c3, rfl⟩ := ht.stops.form
  have HT := hid_ ht
  rw [bools_len] at HT ⊢
  simp only at HT ⊢
  obtain ⟨b2, o2, rfl, hb2⟩ := HT.out.rules.addr r1
  obtain ⟨b3, o3, rfl, hb3, hc3⟩ := HT.out.stops.at_ (by omega)
  have HC3 := hid_ hc3
  have HR3 := hid_ r3
  obtain ⟨i0, hi, hz0, hz1, hz2⟩ := info_parts Try.infoS
  obtain ⟨P, hP⟩ : ∃ P, P = dn * rules.length := ⟨_, rfl⟩
  have hPi : (dn : Int) * (rules.length : Int) = (P : Int) := by rw [hP]; simp
  have hPr : rules.length ≤ P := by rw [hP]; exact Nat.le_mul_of_pos_left _ (by omega)
  have hPb : P ≤ 2400 := by
    rw [hP]
    exact Nat.le_trans (Nat.mul_le_mul (show dn ≤ 4 by omega) r2) (by omega)
  have HP := hid_ hP
  clear ht hv hc3 hP r3
  go_enter Try.func39, Try.ntmps39
  go_wp2_with fail
  have BT : Blk (((w.alloc (.cells #[.int .i64 dn, .slice (some ⟨b2, o2, none⟩) rules.length c2, .slice (some ⟨b3, o3, none⟩) stops.length c3] 25)).alloc (.cells #[.slice none 0 0] 43)).alloc (.cells #[.slice none 0 0] 43)) w.heap.size 25 #[.int .i64 dn, .slice (some ⟨b2, o2, none⟩) rules.length c2, .slice (some ⟨b3, o3, none⟩) stops.length c3] := ((Blk.new w _ _).alloc _).alloc _
  have BR : Blk (((w.alloc (.cells #[.int .i64 dn, .slice (some ⟨b2, o2, none⟩) rules.length c2, .slice (some ⟨b3, o3, none⟩) stops.length c3] 25)).alloc (.cells #[.slice none 0 0] 43)).alloc (.cells #[.slice none 0 0] 43)) (w.heap.size + 1) 43 #[.slice none 0 0] := by
    have := (Blk.new (w.alloc (.cells #[.int .i64 dn, .slice (some ⟨b2, o2, none⟩) rules.length c2, .slice (some ⟨b3, o3, none⟩) stops.length c3] 25)) 43 #[.slice none 0 0]).alloc (.cells #[.slice none 0 0] 43)
    simpa using this
  have BC : Blk (((w.alloc (.cells #[.int .i64 dn, .slice (some ⟨b2, o2, none⟩) rules.length c2, .slice (some ⟨b3, o3, none⟩) stops.length c3] 25)).alloc (.cells #[.slice none 0 0] 43)).alloc (.cells #[.slice none 0 0] 43)) (w.heap.size + 1 + 1) 43 #[.slice none 0 0] := by
    have := Blk.new ((w.alloc (.cells #[.int .i64 dn, .slice (some ⟨b2, o2, none⟩) rules.length c2, .slice (some ⟨b3, o3, none⟩) stops.length c3] 25)).alloc (.cells #[.slice none 0 0] 43)) 43 #[.slice none 0 0]
    simpa using this
  have hW : Below w.heap.size w (((w.alloc (.cells #[.int .i64 dn, .slice (some ⟨b2, o2, none⟩) rules.length c2, .slice (some ⟨b3, o3, none⟩) stops.length c3] 25)).alloc (.cells #[.slice none 0 0] 43)).alloc (.cells #[.slice none 0 0] 43)) := (below2 w _ _).alloc (by simp; omega) _
  have hsz : (((w.alloc (.cells #[.int .i64 dn, .slice (some ⟨b2, o2, none⟩) rules.length c2, .slice (some ⟨b3, o3, none⟩) stops.length c3] 25)).alloc (.cells #[.slice none 0 0] 43)).alloc (.cells #[.slice none 0 0] 43)).heap.size = w.heap.size + 3 := by simp
  generalize (((w.alloc (.cells #[.int .i64 dn, .slice (some ⟨b2, o2, none⟩) rules.length c2, .slice (some ⟨b3, o3, none⟩) stops.length c3] 25)).alloc (.cells #[.slice none 0 0] 43)).alloc (.cells #[.slice none 0 0] 43)) = W at *
  have HSZ := hid_ hsz
  have HBT := hid_ BT
  have HBR := hid_ BR
  have HBC := hid_ BC
  clear hsz BT BR BC
  go_loopw [5] (fun s wr => ∃ (k : Nat) (vs : List Value) (v : Value), s = .int .i64 ((k : Nat) : Int) ∧ k ≤ P ∧ Hid (Blk wr (w.heap.size + 1 + 1) 43 #[v]) ∧ Hid (wr.ownsRow (w.heap.size + 3) 26 1 v k vs) ∧ Hid (RowsV wr wr.heap.size vs ((List.range k).map (cycRow ⟨dn, rules, stops⟩ rules.length))) ∧ Hid (Apart wr (w.heap.size + 3) v vs) ∧ Below (w.heap.size + 2) W wr) (fun s _ => P - (intOf s).toNat)
  case atStart => exact ⟨0, [], _, rfl, Nat.zero_le _, HBC, hid_ (own_nil _ _ _), hid_ (RowsV.nil _ _), hid_ (fun u hu => by simp at hu), Below.refl _ _⟩
  case round =>
    obtain ⟨k, vs, v, rfl, hk, HB, HO, HR, HA, hbr⟩ := hrel
    have HBTr := hid_ (HBT.out.below hbr (by omega))
    have p0 := HBTr.out.cell 0
    have p1 := HBTr.out.cell 1
    have p2 := HBTr.out.cell 2
    simp at p0 p1 p2
    have z0 := HBTr.out.lt
    have z2 := HB.out.lt
    have hwr : Below w.heap.size w wr := hW.trans (hbr.mono (by omega))
    obtain ⟨A, c, rfl⟩ := own_form HO.out
    have c0 := HB.out.cell 0
    simp at c0
    have k0 : 0 ≤ ((k : Nat) : Int) := by omega
    by_cases hlt : k < P
    · by_cases hkr : k < rules.length
      · obtain ⟨r, hr⟩ : ∃ r, rules[k]? = some r := ⟨_, List.getElem?_eq_getElem hkr⟩
        obtain ⟨b, hb⟩ : ∃ b, stops[k]? = some b := ⟨_, List.getElem?_eq_getElem (by have := HR3.out; omega)⟩
        obtain ⟨Ar, dr, hcr, hEr⟩ := (HT.out.to hwr).rules.row hr
        have hrl := (rule_get HV.out hr)
        simp only at hrl
        have i3 := (hwr.cell (p := ⟨b3, o3 + k, none⟩) hb3).trans (HC3.out k _ (bools_at hb))
        have hks : (k : Int) < stops.length := by have := HR3.out; omega
        have hkr' : (k : Int) < rules.length := by omega
        have HRk := hid_ hr
        have HBk := hid_ hb
        have HEr := hid_ hEr
        have HRL := hid_ hrl
        clear hr hb hEr hrl
        cases b
        · have hlen : r.length * rules.length ≤ 2000000 := Nat.le_trans (Nat.mul_le_mul HRL.out.1 r2) (by omega)
          have hrl1 : r.length ≤ 1000000 := by have := HRL.out.1; omega
          have HCY : Hid (cycRow ⟨dn, rules, stops⟩ rules.length k = enc rules.length r) := hid_ (by simp [cycRow, List.getD_eq_getElem?_getD, HBk.out, HRk.out, hkr]; rw [(List.getElem?_eq_some_iff.1 HRk.out).2])
          go_wp2_with fail
          refine (rbits_any r rules.length _ wr HEr.out HRL.out.2 hlen hrl1 (by omega)).mono ?_
          rintro e we ⟨g', c', rfl, hown', hbe'⟩
          have HBe := hid_ (HB.out.to hbe')
          have HOe := hid_ (own_below HO.out hbe')
          have HRe := hid_ (HR.out.to hbe')
          have HAe := hid_ (HA.out.up hbe'.size)
          have HLE : Hid (Elems we we.heap.size (.slice (some ⟨g', 0, none⟩) (r.length * rules.length) c') (ints (cycRow ⟨dn, rules, stops⟩ rules.length k))) := hid_ (by rw [HCY.out]; exact own_elems hown')
          have HLA : Hid (∀ b, (Value.slice (some ⟨g', 0, none⟩) (r.length * rules.length) c').ownBlock = some b → w.heap.size + 3 ≤ b ∧ b < we.heap.size ∧ some b ≠ (Value.slice A k c).ownBlock) := hid_ (fun b hb => by
            have hg1 := (own_cap hown').2.2.1
            have hg2 := (hown'.lt _ rfl).2
            have hs := hbr.size
            have := HSZ.out
            simp [Value.ownBlock] at hb
            subst hb
            refine ⟨by omega, hg2, fun e => ?_⟩
            have := (HO.out.lt g' e.symm).2
            omega)
          have hbe : Below (w.heap.size + 2) W we := hbr.trans (hbe'.mono (by omega))
          have c2 := keepc hbe' c0
          clear hown' hbe' c0
          have HU : Hid (Elems (we.alloc (.cells #[.slice (some ⟨g', 0, none⟩) (r.length * rules.length) c'] 26)) (we.alloc (.cells #[.slice (some ⟨g', 0, none⟩) (r.length * rules.length) c'] 26)).heap.size (.slice (some ⟨we.heap.size, 0, none⟩) 1 1) [.slice (some ⟨g', 0, none⟩) (r.length * rules.length) c']) := hid_ (blk_elems (Blk.new we _ _) rfl)
          have HO2 := hid_ (HOe.out.alloc (.cells #[.slice (some ⟨g', 0, none⟩) (r.length * rules.length) c'] 26))
          have HA2 : Hid (Apart (we.alloc (.cells #[.slice (some ⟨g', 0, none⟩) (r.length * rules.length) c'] 26)) (w.heap.size + 3) (.slice A k c) (vs ++ [.slice (some ⟨g', 0, none⟩) (r.length * rules.length) c'])) := hid_ ((HAe.out.more HLA.out).up (by simp))
          have HR2 : Hid (RowsV (we.alloc (.cells #[.slice (some ⟨g', 0, none⟩) (r.length * rules.length) c'] 26)) (we.alloc (.cells #[.slice (some ⟨g', 0, none⟩) (r.length * rules.length) c'] 26)).heap.size (vs ++ [.slice (some ⟨g', 0, none⟩) (r.length * rules.length) c']) ((List.range (k + 1)).map (cycRow ⟨dn, rules, stops⟩ rules.length))) := hid_ (by rw [cyc_snoc]; exact (HRe.out.to (below1 we _)).snoc (HLE.out.to (below1 we _)))
          have z3 := HBe.out.lt
          go_wp2_with (at_builtin; refine wpList_append_e rfl _ _ 22 rfl 26 i0 (.slice none 0 0) 24 Try.underlying22 hi hz0 hz1 hz2 rfl rfl rfl HO2.out HU.out (fun y hy => by simp at hy; subst hy; rfl) ?h63 ?hby ?hbs ?_)
          case h63 => (try simp only [List.length_cons, List.length_nil]); unfold maxLen; omega
          case hby => (try simp only [List.length_cons, List.length_nil]); omega
          case hbs => (try simp); omega
          intro v' w' hown hg hat
          have BC' := (HBe.out.alloc (.cells #[.slice (some ⟨g', 0, none⟩) (r.length * rules.length) c'] 26)).grownby hg (own_ne HOe.out (by omega))
          have hbn : Below (w.heap.size + 2) W w' := (hbe.alloc (by omega) _).grown hg (by simp; omega) (fun b hb => by have := own_lt HOe.out b hb; omega)
          have HX : Hid (w'.ownsRow (w.heap.size + 3) 26 1 v' (k + 1) (vs ++ [.slice (some ⟨g', 0, none⟩) (r.length * rules.length) c'])) := hid_ (by simpa using hown)
          obtain ⟨A9, c9, rfl⟩ := own_form HX.out
          have HR3' := hid_ (HR2.out.grown hg (fun u hu b hb => (HA2.out u hu b hb).2.2))
          have HA3 : Hid (Apart w' (w.heap.size + 3) (.slice A9 (k + 1) c9) (vs ++ [.slice (some ⟨g', 0, none⟩) (r.length * rules.length) c'])) := hid_ (HA2.out.snoc hg.size (by simpa using hat))
          have HBn := hid_ BC'
          have f' := BC'.free 0
          have cc' := BC'.cell 0
          have lt' := BC'.lt
          simp at cc'
          clear hown hg hat BC'
          go_wp2_with fail
          go_roundw
          case rel => exact ⟨k + 1, vs ++ [.slice (some ⟨g', 0, none⟩) (r.length * rules.length) c'], .slice A9 (k + 1) c9, by go_num, by omega, hid_ (by simpa using HBn.out.set_ 0 (.slice A9 (k + 1) c9)), hid_ (ownsRow_setCell_other (a := ⟨w.heap.size + 1 + 1, 0, none⟩) HX.out (own_ne HX.out (o := w.heap.size + 1 + 1) (by omega)).symm _), hid_ (HR3'.out.set_ HA3.out (by show w.heap.size + 1 + 1 < _; omega)), hid_ HA3.out.set_, hbn.setCell (by show _ ≤ w.heap.size + 1 + 1; omega) _⟩
          case measure => simp [intOf]; omega
        · have HCY : Hid (cycRow ⟨dn, rules, stops⟩ rules.length k = []) := hid_ (by simp [cycRow, List.getD_eq_getElem?_getD, HBk.out])
          have HBe := HB
          have HOe := HO
          have HRe := HR
          have HAe := HA
          have hbe := hbr
          have HLE : Hid (Elems wr wr.heap.size (.slice none 0 0) (ints (cycRow ⟨dn, rules, stops⟩ rules.length k))) := hid_ (by rw [HCY.out]; exact Elems.nil _ _)
          have HLA : Hid (∀ b, (Value.slice none 0 0).ownBlock = some b → w.heap.size + 3 ≤ b ∧ b < wr.heap.size ∧ some b ≠ (Value.slice A k c).ownBlock) := hid_ (fun b hb => by simp [Value.ownBlock] at hb)
          have HU : Hid (Elems (wr.alloc (.cells #[.slice none 0 0] 26)) (wr.alloc (.cells #[.slice none 0 0] 26)).heap.size (.slice (some ⟨wr.heap.size, 0, none⟩) 1 1) [.slice none 0 0]) := hid_ (blk_elems (Blk.new wr _ _) rfl)
          have HO2 := hid_ (HOe.out.alloc (.cells #[.slice none 0 0] 26))
          have HA2 : Hid (Apart (wr.alloc (.cells #[.slice none 0 0] 26)) (w.heap.size + 3) (.slice A k c) (vs ++ [.slice none 0 0])) := hid_ ((HAe.out.more HLA.out).up (by simp))
          have HR2 : Hid (RowsV (wr.alloc (.cells #[.slice none 0 0] 26)) (wr.alloc (.cells #[.slice none 0 0] 26)).heap.size (vs ++ [.slice none 0 0]) ((List.range (k + 1)).map (cycRow ⟨dn, rules, stops⟩ rules.length))) := hid_ (by rw [cyc_snoc]; exact (HRe.out.to (below1 wr _)).snoc (HLE.out.to (below1 wr _)))
          have z3 := HBe.out.lt
          go_wp2_with (at_builtin; refine wpList_append_e rfl _ _ 22 rfl 26 i0 (.slice none 0 0) 24 Try.underlying22 hi hz0 hz1 hz2 rfl rfl rfl HO2.out HU.out (fun y hy => by simp at hy; subst hy; rfl) ?h63 ?hby ?hbs ?_)
          case h63 => (try simp only [List.length_cons, List.length_nil]); unfold maxLen; omega
          case hby => (try simp only [List.length_cons, List.length_nil]); omega
          case hbs => (try simp); omega
          intro v' w' hown hg hat
          have BC' := (HBe.out.alloc (.cells #[.slice none 0 0] 26)).grownby hg (own_ne HOe.out (by omega))
          have hbn : Below (w.heap.size + 2) W w' := (hbe.alloc (by omega) _).grown hg (by simp; omega) (fun b hb => by have := own_lt HOe.out b hb; omega)
          have HX : Hid (w'.ownsRow (w.heap.size + 3) 26 1 v' (k + 1) (vs ++ [.slice none 0 0])) := hid_ (by simpa using hown)
          obtain ⟨A9, c9, rfl⟩ := own_form HX.out
          have HR3' := hid_ (HR2.out.grown hg (fun u hu b hb => (HA2.out u hu b hb).2.2))
          have HA3 : Hid (Apart w' (w.heap.size + 3) (.slice A9 (k + 1) c9) (vs ++ [.slice none 0 0])) := hid_ (HA2.out.snoc hg.size (by simpa using hat))
          have HBn := hid_ BC'
          have f' := BC'.free 0
          have cc' := BC'.cell 0
          have lt' := BC'.lt
          simp at cc'
          clear hown hg hat BC'
          go_wp2_with fail
          go_roundw
          case rel => exact ⟨k + 1, vs ++ [.slice none 0 0], .slice A9 (k + 1) c9, by go_num, by omega, hid_ (by simpa using HBn.out.set_ 0 (.slice A9 (k + 1) c9)), hid_ (ownsRow_setCell_other (a := ⟨w.heap.size + 1 + 1, 0, none⟩) HX.out (own_ne HX.out (o := w.heap.size + 1 + 1) (by omega)).symm _), hid_ (HR3'.out.set_ HA3.out (by show w.heap.size + 1 + 1 < _; omega)), hid_ HA3.out.set_, hbn.setCell (by show _ ≤ w.heap.size + 1 + 1; omega) _⟩
          case measure => simp [intOf]; omega
      · have HCY : Hid (cycRow ⟨dn, rules, stops⟩ rules.length k = []) := hid_ (by simp [cycRow, hkr])
        have hkr' : ¬ (k : Int) < rules.length := by omega
        have hkd : decide (k < rules.length) = false := decide_eq_false hkr
        have HBe := HB
        have HOe := HO
        have HRe := HR
        have HAe := HA
        have hbe := hbr
        have HLE : Hid (Elems wr wr.heap.size (.slice none 0 0) (ints (cycRow ⟨dn, rules, stops⟩ rules.length k))) := hid_ (by rw [HCY.out]; exact Elems.nil _ _)
        have HLA : Hid (∀ b, (Value.slice none 0 0).ownBlock = some b → w.heap.size + 3 ≤ b ∧ b < wr.heap.size ∧ some b ≠ (Value.slice A k c).ownBlock) := hid_ (fun b hb => by simp [Value.ownBlock] at hb)
        have HU : Hid (Elems (wr.alloc (.cells #[.slice none 0 0] 26)) (wr.alloc (.cells #[.slice none 0 0] 26)).heap.size (.slice (some ⟨wr.heap.size, 0, none⟩) 1 1) [.slice none 0 0]) := hid_ (blk_elems (Blk.new wr _ _) rfl)
        have HO2 := hid_ (HOe.out.alloc (.cells #[.slice none 0 0] 26))
        have HA2 : Hid (Apart (wr.alloc (.cells #[.slice none 0 0] 26)) (w.heap.size + 3) (.slice A k c) (vs ++ [.slice none 0 0])) := hid_ ((HAe.out.more HLA.out).up (by simp))
        have HR2 : Hid (RowsV (wr.alloc (.cells #[.slice none 0 0] 26)) (wr.alloc (.cells #[.slice none 0 0] 26)).heap.size (vs ++ [.slice none 0 0]) ((List.range (k + 1)).map (cycRow ⟨dn, rules, stops⟩ rules.length))) := hid_ (by rw [cyc_snoc]; exact (HRe.out.to (below1 wr _)).snoc (HLE.out.to (below1 wr _)))
        have z3 := HBe.out.lt
        go_wp2_with (at_builtin; refine wpList_append_e rfl _ _ 22 rfl 26 i0 (.slice none 0 0) 24 Try.underlying22 hi hz0 hz1 hz2 rfl rfl rfl HO2.out HU.out (fun y hy => by simp at hy; subst hy; rfl) ?h63 ?hby ?hbs ?_)
        case h63 => (try simp only [List.length_cons, List.length_nil]); unfold maxLen; omega
        case hby => (try simp only [List.length_cons, List.length_nil]); omega
        case hbs => (try simp); omega
        intro v' w' hown hg hat
        have BC' := (HBe.out.alloc (.cells #[.slice none 0 0] 26)).grownby hg (own_ne HOe.out (by omega))
        have hbn : Below (w.heap.size + 2) W w' := (hbe.alloc (by omega) _).grown hg (by simp; omega) (fun b hb => by have := own_lt HOe.out b hb; omega)
        have HX : Hid (w'.ownsRow (w.heap.size + 3) 26 1 v' (k + 1) (vs ++ [.slice none 0 0])) := hid_ (by simpa using hown)
        obtain ⟨A9, c9, rfl⟩ := own_form HX.out
        have HR3' := hid_ (HR2.out.grown hg (fun u hu b hb => (HA2.out u hu b hb).2.2))
        have HA3 : Hid (Apart w' (w.heap.size + 3) (.slice A9 (k + 1) c9) (vs ++ [.slice none 0 0])) := hid_ (HA2.out.snoc hg.size (by simpa using hat))
        have HBn := hid_ BC'
        have f' := BC'.free 0
        have cc' := BC'.cell 0
        have lt' := BC'.lt
        simp at cc'
        clear hown hg hat BC'
        go_wp2_with fail
        go_roundw
        case rel => exact ⟨k + 1, vs ++ [.slice none 0 0], .slice A9 (k + 1) c9, by go_num, by omega, hid_ (by simpa using HBn.out.set_ 0 (.slice A9 (k + 1) c9)), hid_ (ownsRow_setCell_other (a := ⟨w.heap.size + 1 + 1, 0, none⟩) HX.out (own_ne HX.out (o := w.heap.size + 1 + 1) (by omega)).symm _), hid_ (HR3'.out.set_ HA3.out (by show w.heap.size + 1 + 1 < _; omega)), hid_ HA3.out.set_, hbn.setCell (by show _ ≤ w.heap.size + 1 + 1; omega) _⟩
        case measure => simp [intOf]; omega
    · have BX3 := HBR.out.below hbr (by omega)
      have f1 := BX3.free 0
      have x1 := BX3.cell 0
      have hxlt := BX3.lt
      simp at x1
      have BX2 := BX3.set_ 0 (.slice A k c)
      have e0 := BX2.cell 0
      simp at e0
      go_wp2_with fail
      refine bodyPost_ret (v := .agg #[.slice A k c]) (by simp [results, Try.results39, go_sem, e0]) rfl ?_
      have hkP : k = P := by omega
      refine ⟨_, rfl, ?_, hwr.setCell (by simp) _⟩
      have hO2 := ownsRow_setCell_other (a := ⟨w.heap.size + 1, 0, none⟩) HO.out (own_ne HO.out (o := w.heap.size + 1) (by omega)).symm (.slice A k c)
      have hR2 := HR.out.set_ (p := ⟨w.heap.size + 1, 0, none⟩) (x := .slice A k c) HA.out (by simp)
      rw [hkP] at hR2 hO2
      rw [cycL]
      simp only [Int.toNat_natCast]
      rw [← HP.out, hkP]
      exact hR2.rows2 (own_any hO2)
end Go.Proofs.Ytpnjffdjoacejaa

/- The contract of ToCyclic. -/
import Derived.Test.YtpnjffdjoacejaaKm
namespace Go.Proofs.Ytpnjffdjoacejaa
open Go.RowKit

theorem Try.infoS : (Try.prog.info? 26).map (fun i => (i.zero, i.size, i.bytes)) = some (some (.slice none 0 0), 1, 24) := by kernel_rfl

/-- Word i of the cyclic tag system, behind the first k rules. -/
def cycRow (t : TagS) (k i : Nat) : List Int := if i < k ∧ t.stops.getD i false = false then enc t.rules.length (t.rules.getD i []) else []
def cycL (t : TagS) : List (List Int) := (List.range (t.del.toNat * t.rules.length)).map (cycRow t t.rules.length)
theorem cycRow_zero (t : TagS) (i : Nat) : cycRow t 0 i = [] := by simp [cycRow]
theorem cycRow_other {t : TagS} {k i : Nat} (h : i ≠ k) : cycRow t (k + 1) i = cycRow t k i := by
  unfold cycRow
  have : (i < k + 1) ↔ (i < k) := by omega
  simp [this]
theorem cycRow_stop {t : TagS} {k : Nat} (h : t.stops[k]? = some true) (i : Nat) : cycRow t (k + 1) i = cycRow t k i := by
  by_cases hi : i = k
  · subst hi
    simp [cycRow, List.getD_eq_getElem?_getD, h]
  · exact cycRow_other hi
theorem cycRow_new {t : TagS} {k : Nat} {r : List Int} (h : t.stops[k]? = some false) (hr : t.rules[k]? = some r) : cycRow t (k + 1) k = enc t.rules.length r := by
  simp [cycRow, List.getD_eq_getElem?_getD, h, hr]

/-- A row of slices, each with its integers. -/
def SRow (w : World) (g : Nat) (f : Nat → List Int) (vs : List Value) : Prop := ∀ (i : Nat) (u : Value), vs[i]? = some u → Elems w w.heap.size u (ints (f i)) ∧ ∀ b, u.ownBlock = some b → g < b
theorem SRow.to {w w' : World} {g : Nat} {f : Nat → List Int} {vs : List Value} (h : SRow w g f vs) (hb : Below w.heap.size w w') : SRow w' g f vs := fun i u hu => ⟨(h i u hu).1.to hb, (h i u hu).2⟩
theorem Elems.set_ {w : World} {B : Nat} {u x : Value} {cs : List Value} {p : Addr} (h : Elems w B u cs) (hne : u.ownBlock ≠ some p.block) : Elems (w.setCell p x) B u cs := by
  rcases h with h | ⟨b, off, c, rfl, hb, hc⟩
  · exact .inl h
  · have hbp : b ≠ p.block := fun e => hne (by simp [Value.ownBlock, e])
    exact .inr ⟨b, off, c, rfl, hb, fun k u hu => (World.cell?_of_block (Below.heap_setCell w p x b hbp)).trans (hc k u hu)⟩
theorem SRow.set_ {w : World} {g k : Nat} {f f' : Nat → List Int} {vs : List Value} {x : Value} (h : SRow w g f vs) (hx : Elems w w.heap.size x (ints (f' k))) (hne : ∀ b, x.ownBlock = some b → g < b) (hf : ∀ i, i ≠ k → f' i = f i) : SRow (w.setCell ⟨g, k, none⟩ x) g f' (vs.set k x) := fun i u hu => by
  have hsz : (w.setCell ⟨g, k, none⟩ x).heap.size = w.heap.size := by simp [World.setCell]
  rw [hsz]
  rw [List.getElem?_set] at hu
  by_cases hik : k = i
  · subst hik
    rw [if_pos rfl] at hu
    split at hu
    · obtain rfl := Option.some.inj hu
      exact ⟨hx.set_ (fun e => by have := hne g e; omega), hne⟩
    · cases hu
  · rw [if_neg hik] at hu
    have := h i u hu
    rw [hf i (fun e => hik e.symm)]
    exact ⟨this.1.set_ (fun e => by have := this.2 g e; omega), this.2⟩
theorem srow_rows {w : World} {base g n c m : Nat} {vs : List Value} {t : TagS} {k : Nat} (h : w.ownsRow base 26 1 (.slice (some ⟨g, 0, none⟩) n c) n vs) (hs : SRow w g (cycRow t k) vs) (hm : n = m) :
    Rows2 w w.heap.size (.slice (some ⟨g, 0, none⟩) n c) ((List.range m).map (cycRow t k)) := by
  subst hm
  have hl := h.1
  rw [Nat.mul_one] at hl
  refine ⟨vs, own_elems h, by simp [hl], fun i u r hu hr => ?_⟩
  have := (hs i u hu).1
  rw [List.getElem?_map] at hr
  cases hi : (List.range n)[i]? with
  | none => rw [hi] at hr; cases hr
  | some z =>
    rw [hi] at hr
    have hz := (List.getElem?_eq_some_iff.1 hi).2
    rw [List.getElem_range] at hz
    subst hz
    simp at hr
    subst hr
    exact this

/-- What ToCyclic leaves. -/
def CRan (t : TagS) (w : World) (e : Ending) (w' : World) : Prop :=
  Below w.heap.size w w' ∧ if validT t = true then ∃ v, e = .returned (.tuple #[.agg #[v], .int .i64 0]) ∧ Rows2 w' w'.heap.size v (cycL t) else e = .returned (.tuple #[.agg #[.slice none 0 0], .int .i64 1])

set_option maxRecDepth 100000 in
set_option maxHeartbeats 2000000 in
theorem toCyclic_any (t : TagS) (v2 v3 : Value) (w : World) (ht : TagIn w w.heap.size v2 v3 t) :
    Calls Try.prog 35 #[.agg #[.int .i64 t.del, v2, v3]] w (CRan t w) := by
  have HT := hid_ ht
  cases hv : validT t
  · have HV := hid_ hv
    clear ht hv
    go_enter Try.func35, Try.ntmps35
    go_wp2_with fail
    refine (valid_any t v2 v3 _ (HT.out.to (below2 w _ _))).mono ?_
    rw [HV.out]
    rintro e w1 ⟨rfl, hb1⟩
    have BX : Blk w1 (w.heap.size + 1) 43 #[.slice none 0 0] := by
      have := (Blk.new (w.alloc (.cells #[.int .i64 t.del, v2, v3] 25)) 43 #[.slice none 0 0]).below hb1 (by simp)
      simpa using this
    have c0 := BX.cell 0
    have f0 := BX.free 0
    have hlt := BX.lt
    simp at c0
    have hw1 : Below w.heap.size w w1 := (below2 w _ _).trans (hb1.mono (by simp; omega))
    clear hb1
    go_wp2_with fail
    have BX2 := BX.set_ 0 (.slice none 0 0)
    have e0 := BX2.cell 0
    simp at e0
    refine bodyPost_ret (v := .tuple #[.agg #[.slice none 0 0], .int .i64 1]) (by simp [results, Try.results35, go_sem, e0]) rfl ?_
    refine ⟨hw1.setCell (by simp) _, ?_⟩
    rw [if_neg (by rw [HV.out]; simp)]
  · obtain ⟨del, rules, stops⟩ := t
    obtain ⟨d1, d2, r1, r2, r3, -⟩ := validT_parts hv
    simp only at d1 d2 r1 r2 r3
    obtain ⟨dn, rfl⟩ := Int.eq_ofNat_of_zero_le (show 0 ≤ del by omega)
    have HV := hid_ hv
    obtain ⟨A2, c2, rfl⟩ := ht.rules.form
    obtain ⟨A3, c3, rfl⟩ := ht.stops.form
    rw [bools_len] at HT ⊢
    simp only at HT ⊢
    obtain ⟨b2, o2, rfl, hb2⟩ := HT.out.rules.addr r1
    have hlim := HT.out.lim
    obtain ⟨b3, o3, rfl, hb3, hc3⟩ := HT.out.stops.at_ (by omega)
    have HC3 := hid_ hc3
    have hlr := hlim.2.2
    have HLR := hid_ hlr
    have HR3 := hid_ r3
    obtain ⟨i0, hi, hz0, hz1, hz2⟩ := info_parts Try.infoS
    obtain ⟨P, hP⟩ : ∃ P, P = dn * rules.length := ⟨_, rfl⟩
    have hPi : (dn : Int) * (rules.length : Int) = (P : Int) := by rw [hP]; simp
    have hPr : rules.length ≤ P := by rw [hP]; exact Nat.le_mul_of_pos_left _ (by omega)
    have hPb : P ≤ 2400 := by
      rw [hP]
      exact Nat.le_trans (Nat.mul_le_mul (show dn ≤ 4 by omega) r2) (by omega)
    have HP := hid_ hP
    clear ht hv hc3 hlim hlr hP r3
    go_enter Try.func35, Try.ntmps35
    go_wp2_with fail
    refine (valid_any ⟨dn, rules, stops⟩ _ _ _ (HT.out.to (below2 w _ _))).mono ?_
    rw [HV.out]
    rintro e w1 ⟨rfl, hb1⟩
    have BX : Blk w1 (w.heap.size + 1) 43 #[.slice none 0 0] := by
      have := (Blk.new (w.alloc (.cells #[.int .i64 dn, .slice (some ⟨b2, o2, none⟩) rules.length c2, .slice (some ⟨b3, o3, none⟩) stops.length c3] 25)) 43 #[.slice none 0 0]).below hb1 (by simp)
      simpa using this
    have BT : Blk w1 w.heap.size 25 #[.int .i64 dn, .slice (some ⟨b2, o2, none⟩) rules.length c2, .slice (some ⟨b3, o3, none⟩) stops.length c3] :=
      ((Blk.new w 25 #[.int .i64 dn, .slice (some ⟨b2, o2, none⟩) rules.length c2, .slice (some ⟨b3, o3, none⟩) stops.length c3]).alloc _).below hb1 (by simp; omega)
    have p0 := BT.cell 0
    have p1 := BT.cell 1
    have p2 := BT.cell 2
    simp at p0 p1 p2
    have hlt := BX.lt
    have hlt0 : w.heap.size < w1.heap.size := by omega
    have hw1 : Below w.heap.size w w1 := (below2 w _ _).trans (hb1.mono (by simp; omega))
    have HBX := hid_ BX
    clear hb1 BX BT
    go_wp2_with (at_make; refine wpList_make_full _ rfl _ _ 22 rfl w1.heap.size 26 i0 (.slice none 0 0) 1 Try.underlying22 hi hz0 hz1 .i64 .i64 P P P rfl rfl rfl rfl (by rw [hz2]; omega) (by unfold maxLen; omega) (Nat.le_refl _) ?_; intro w3 hown hgr; have hb3w := make_below hgr; have p1' := keepc hb3w p1; have p2' := keepc hb3w p2)
    rw [show (madeCells (Value.slice none 0 0).cells (P * 1)).toList = List.replicate P (.slice none 0 0) from by rw [Nat.mul_one]; exact toList_madeCells_one _ _] at hown
    have HOWN := hid_ hown
    clear hown hgr p0
    go_loopw [23] (fun s wr => ∃ (k : Nat) (vs : List Value), s = .int .i64 ((k : Nat) : Int) ∧ k ≤ rules.length ∧ Hid (wr.ownsRow w1.heap.size 26 1 (.slice (some ⟨w1.heap.size, 0, none⟩) P P) P vs) ∧ Hid (SRow wr w1.heap.size (cycRow ⟨dn, rules, stops⟩ k) vs) ∧ Below w1.heap.size w1 wr) (fun s _ => rules.length - (intOf s).toNat)
    case atStart =>
      refine ⟨0, _, rfl, Nat.zero_le _, HOWN, hid_ (fun i u hu => ?_), hb3w⟩
      rw [List.getElem?_replicate] at hu
      split at hu
      · obtain rfl := Option.some.inj hu
        rw [cycRow_zero]
        exact ⟨Elems.nil _ _, fun b h => by simp [Value.ownBlock] at h⟩
      · cases hu
    case round =>
      obtain ⟨k, vs, rfl, hk, HO, HSR, hbr⟩ := hrel
      have hwr := bnext hw1 hbr
      replace p1 := keepc hbr p1
      replace p2 := keepc hbr p2
      have zr : w.heap.size < wr.heap.size := by have := hbr.size; omega
      clear p1' p2'
      by_cases hlt : k < rules.length
      · obtain ⟨r, hr⟩ : ∃ r, rules[k]? = some r := ⟨_, List.getElem?_eq_getElem hlt⟩
        obtain ⟨b, hb⟩ : ∃ b, stops[k]? = some b := ⟨_, List.getElem?_eq_getElem (by have := HR3.out; omega)⟩
        obtain ⟨Ar, dr, hcr, hEr⟩ := (HT.out.to hwr).rules.row hr
        have hrl := (rule_get HV.out hr)
        simp only at hrl
        have i3 := (hwr.cell (p := ⟨b3, o3 + k, none⟩) hb3).trans (HC3.out k _ (bools_at hb))
        have hks : (k : Int) < stops.length := by have := HR3.out; omega
        have hk0 : 0 ≤ ((k : Nat) : Int) := by omega
        have HRk := hid_ hr
        have HBk := hid_ hb
        have HEr := hid_ hEr
        have HRL := hid_ hrl
        clear hr hb hEr hrl
        cases b
        · have hlen : r.length * rules.length ≤ 2000000 := Nat.le_trans (Nat.mul_le_mul HRL.out.1 r2) (by omega)
          have hrl1 : r.length ≤ 1000000 := by have := HRL.out.1; omega
          have hkP : (k : Int) < (P : Int) := by omega
          go_wp2_with fail
          refine (encoded_any r rules.length _ wr HEr.out HRL.out.2 hlen hrl1 (by omega)).mono ?_
          rintro e we ⟨g', c', rfl, hown', hbe⟩
          have HOe := hid_ (own_below HO.out hbe)
          have hvl : vs.length = P := by have := HO.out.1; omega
          obtain ⟨u, hu⟩ : ∃ u, vs[k]? = some u := ⟨_, List.getElem?_eq_getElem (by omega)⟩
          have ck : we.cell? ⟨w1.heap.size, k, none⟩ = some u := by
            rw [HOe.out.cellAt k (by omega)]
            exact hu
          have fk := HOe.out.frozenAt k
          have HNW := hid_ hown'
          have hgg := (own_cap hown').2.2.1
          have hgw : w1.heap.size < wr.heap.size := (HO.out.lt _ rfl).2
          clear hown' hu hvl
          go_wp2_with fail
          go_roundw
          case rel =>
            refine ⟨k + 1, vs.set k (.slice (some ⟨g', 0, none⟩) (r.length * rules.length) c'), by go_num, by omega, hid_ (HOe.out.stored k _).1, hid_ (SRow.set_ (HSR.out.to hbe) ?_ (fun b h => by simp [Value.ownBlock] at h; omega) (fun i hi => cycRow_other hi)), (hbr.trans (hbe.mono (by omega))).setCell (Nat.le_refl _) _⟩
            rw [cycRow_new HBk.out HRk.out]
            exact own_elems HNW.out
          case measure => simp [intOf]; omega
        · go_wp2_with fail
          go_roundw
          case rel => exact ⟨k + 1, vs, by go_num, by omega, HO, hid_ (fun i u hu => by rw [cycRow_stop HBk.out]; exact HSR.out i u hu), hbr⟩
          case measure => simp [intOf]; omega
      · have BX3 := HBX.out.below hbr (by omega)
        have f0 := BX3.free 0
        have c0 := BX3.cell 0
        have hxlt := BX3.lt
        simp at c0
        go_wp2_with fail
        have BX2 := BX3.set_ 0 (.slice (some ⟨w1.heap.size, 0, none⟩) P P)
        have e0 := BX2.cell 0
        simp at e0
        refine bodyPost_ret (v := .tuple #[.agg #[.slice (some ⟨w1.heap.size, 0, none⟩) P P], .int .i64 0]) (by simp [results, Try.results35, go_sem, e0]) rfl ?_
        refine ⟨hwr.setCell (by simp) _, ?_⟩
        rw [if_pos HV.out]
        refine ⟨_, rfl, ?_⟩
        have hO2 := ownsRow_setCell_other (a := ⟨w.heap.size + 1, 0, none⟩) HO.out (by simp [Value.ownBlock]; omega) (.slice (some ⟨w1.heap.size, 0, none⟩) P P)
        have hke : k = rules.length := by omega
        have hsr2 : SRow (wr.setCell ⟨w.heap.size + 1, 0, none⟩ (.slice (some ⟨w1.heap.size, 0, none⟩) P P)) w1.heap.size (cycRow ⟨dn, rules, stops⟩ k) vs := fun i u hu => by
          have := HSR.out i u hu
          have hsz : (wr.setCell ⟨w.heap.size + 1, 0, none⟩ (.slice (some ⟨w1.heap.size, 0, none⟩) P P)).heap.size = wr.heap.size := by simp [World.setCell]
          rw [hsz]
          exact ⟨this.1.set_ (fun e => by have := this.2 _ e; simp at this; omega), this.2⟩
        have := srow_rows hO2 hsr2 HP.out
        rw [hke] at this
        simpa [cycL] using this
end Go.Proofs.Ytpnjffdjoacejaa

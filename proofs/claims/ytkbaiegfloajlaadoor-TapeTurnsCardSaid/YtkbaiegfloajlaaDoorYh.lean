/- Contracts: Mirror of the specification. -/
import Derived.Test.YtkbaiegfloajlaaDoorXg

import Derived.Test.YtkbaiegfloajlaaDoorVe
namespace Go.Proofs.YtkbaiegfloajlaaDoor.Tp
open Go.RowKit

theorem MOwn.machl {w : World} {B : Nat} {v : Value} {m : MachS} (h : MOwn w B v m) (h1 : m.rules.length ≤ 17592186044416) (h2 : ∀ r ∈ m.rules, r.length ≤ 17592186044416) : MachIn w w.heap.size v m := by
  obtain ⟨vs, g, n, c, rfl, h3, h4⟩ := h
  exact ⟨h4.rules2 h3, h1, h2⟩
/-- A machine whose rows are appended one by one. -/
structure MSt (s x : Int) (rows : List (List RuleS)) (B a k : Nat) (v : Value) (vs : List Value) (wr : World) : Prop where
  box : Blk wr a 24 #[.int .i64 s, .int .i64 x, v]
  own : wr.ownsRow B 72 1 v k vs
  rws : OwnRows wr B vs (rows.take k)
  lt : a < B
  le : B ≤ wr.heap.size
theorem MSt.to {s x : Int} {rows : List (List RuleS)} {B a k : Nat} {v : Value} {vs : List Value} {wr X : World} (h : MSt s x rows B a k v vs wr) (hb : Below wr.heap.size wr X) : MSt s x rows B a k v vs X :=
  ⟨h.box.to hb, own_below h.own hb, h.rws.below hb, h.lt, Nat.le_trans h.le hb.size⟩
theorem MSt.next {s x : Int} {rows : List (List RuleS)} {B a k : Nat} {v : Value} {vs : List Value} {wr : World} {Z : World} {g c C : Nat} {v' : Value} {row : List RuleS} {o : Obj} (h : MSt s x rows B a k v vs wr) (hu : wr.ownsRow C 74 3 (.slice (some ⟨g, 0, none⟩) row.length c) row.length (rcellsL row)) (hB : B ≤ C) (hr : rows[k]? = some row)
    (hg : (wr.alloc o).grownBy Z v.ownBlock) (hown : Z.ownsRow B 72 1 v' (k + 1) (vs ++ [.slice (some ⟨g, 0, none⟩) row.length c])) : MSt s x rows B a (k + 1) v' (vs ++ [.slice (some ⟨g, 0, none⟩) row.length c]) (Z.setCell ⟨a, 2, none⟩ v') := by
  have hv : ∀ q, v.ownBlock = some q → B ≤ q := own_lt h.own
  have hv' : ∀ q, v'.ownBlock = some q → B ≤ q := own_lt hown
  have hne : ∀ g cur, (wr.alloc o).heap[g]? = some (.cells cur 74 (0, 0)) → v.ownBlock ≠ some g := fun g cur hh e => by
    rcases (h.own.alloc o).2 with ⟨hn, _⟩ | ⟨q, cap, cu, hvv, _, hq, _⟩
    · rw [hn] at e; simp [Value.ownBlock] at e
    · rw [hvv] at e
      simp only [Value.ownBlock, Option.some.injEq] at e
      subst e
      rw [hq] at hh
      simp at hh
  have hlt := h.lt
  refine ⟨?_, ?_, ?_, h.lt, ?_⟩
  · have := ((h.box.alloc o).grownby hg (fun e => by have := hv _ e.symm; omega)).set_ 2 v'
    simpa using this
  · exact ownsRow_setCell_other (a := ⟨a, 2, none⟩) hown (fun e => by have := hv' _ e; simp only at this; omega) _
  · have hrk : rows.take (k + 1) = rows.take k ++ [row] := by rw [List.take_add_one, hr]; rfl
    rw [hrk]
    refine OwnRows.set (OwnRows.snoc ((h.rws.below (below1 wr o)).kept hg hne) ?_) h.lt _
    have h1 := (hu.alloc o).kept hg (.inr fun e => by
      rcases (hu.alloc o).2 with ⟨hn, _⟩ | ⟨q, cap, cu, hvv, _, hq, _⟩
      · cases hn
      · simp only [Value.slice.injEq, Option.some.injEq, Addr.mk.injEq, and_true, true_and] at hvv
        obtain ⟨rfl, rfl⟩ := hvv
        exact hne g cu hq e.symm)
    exact own_base h1 hB
  · rw [set_size]
    refine Nat.le_trans h.le (Nat.le_trans ?_ hg.size)
    simp

set_option maxRecDepth 100000 in
set_option maxHeartbeats 8000000 in
theorem rmirror_any (m : MachS) (v : Value) (w : World) (hm : MachIn w w.heap.size v m) (hv : validM m = true) :
    Calls Tryd.prog 32 #[.agg #[.int .i64 m.states, .int .i64 m.symbols, v]] w fun e w' => ∃ A d, e = .returned (.agg #[.int .i64 m.states, .int .i64 m.symbols, .slice A (mirrorM m).rules.length d]) ∧ MachIn w' w'.heap.size (.slice A (mirrorM m).rules.length d) (mirrorM m) ∧ Below w.heap.size w w' := by
  obtain ⟨A2, c2, rfl⟩ := hm.rules.form
  have hbW := below2 w (.cells #[.int .i64 m.states, .int .i64 m.symbols, .slice A2 m.rules.length c2] 24) (.cells #[.int .i64 0, .int .i64 0, .slice none 0 0] 24)
  have HM := hid_ (hm.to hbW)
  have B1 := (Blk.new w 24 #[.int .i64 m.states, .int .i64 m.symbols, .slice A2 m.rules.length c2]).alloc (.cells #[.int .i64 0, .int .i64 0, .slice none 0 0] 24)
  have B2 := Blk.new (w.alloc (.cells #[.int .i64 m.states, .int .i64 m.symbols, .slice A2 m.rules.length c2] 24)) 24 #[.int .i64 0, .int .i64 0, .slice none 0 0]
  rw [show (w.alloc (.cells #[.int .i64 m.states, .int .i64 m.symbols, .slice A2 m.rules.length c2] 24)).heap.size = w.heap.size + 1 by simp] at B2
  have HB1 := hid_ B1
  have HB2 := hid_ B2
  clear hm B1 B2
  obtain ⟨v1, v2, v3, v4, v5, _⟩ := validM_parts hv
  obtain ⟨S, hSe⟩ := Int.eq_ofNat_of_zero_le (show 0 ≤ m.states by omega)
  obtain ⟨X, hXe⟩ := Int.eq_ofNat_of_zero_le (show 0 ≤ m.symbols by omega)
  have hlen : m.rules.length = S := by omega
  have HV := hid_ hv
  have hS1 : 0 < S := by omega
  have hS6 : S ≤ 6 := by omega
  have hX1 : 0 < X := by omega
  have hX4 : X ≤ 4 := by omega
  have HSE := hid_ hSe
  have HXE := hid_ hXe
  have HLN := hid_ hlen
  obtain ⟨b2, o2, hA2, hb2⟩ := HM.out.rules.addr (by omega)
  subst hA2
  rw [hSe, hXe, hlen] at HB1 HB2 HM hbW ⊢
  clear hv v1 v2 v3 v4 v5 hSe hXe hlen hb2
  go_enter Tryd.func32, Tryd.ntmps32
  go_upto_region 1 with fail
  generalize (w.alloc (.cells #[.int .i64 (S : Int), .int .i64 (X : Int), .slice (some ⟨b2, o2, none⟩) S c2] 24)).alloc (.cells #[.int .i64 0, .int .i64 0, .slice none 0 0] 24) = W at *
  have p0 := HB1.out.cell 0
  have p1 := HB1.out.cell 1
  simp at p0 p1
  go_upto_region 2 with fail
  have HO := hid_ (Blk.new W 24 #[.int .i64 (S : Int), .int .i64 (X : Int), .slice none 0 0])
  have hbx := below1 W (.cells #[.int .i64 (S : Int), .int .i64 (X : Int), .slice none 0 0] 24)
  generalize W.alloc (.cells #[.int .i64 (S : Int), .int .i64 (X : Int), .slice none 0 0] 24) = V0 at *
  clear p0 p1
  have hWV := hbx.size
  have hres := HB2.out.lt
  obtain ⟨iR, hiR, hzR0, hzR1, hzR2⟩ := info_parts Tryd.infoR
  obtain ⟨iL, hiL, hzL0, hzL1, hzL2⟩ := info_parts Tryd.infoRL
  go_wp2_with fail
  go_loopw [4] (fun s wr => ∃ (k : Nat) (v : Value) (vs : List Value), s = .int .i64 (k : Int) ∧ k ≤ S ∧ Hid (MSt (S : Int) (X : Int) (mirrorM m).rules V0.heap.size W.heap.size k v vs wr) ∧ Below W.heap.size W wr) (fun s _ => S - (intOf s).toNat)
  case atStart => exact ⟨0, .slice none 0 0, [], rfl, Nat.zero_le _, hid_ ⟨HO.out, own_nil _ _ _, OwnRows.nil _ _, HO.out.lt, Nat.le_refl _⟩, hbx⟩
  case round =>
    obtain ⟨k, v, vs, rfl, hk, HP, hbr⟩ := hrel
    clear HO hbx
    have p0 := (HB1.out.to hbr).cell 0
    have p1 := (HB1.out.to hbr).cell 1
    have p2 := (HB1.out.to hbr).cell 2
    simp at p0 p1 p2
    by_cases hlt : k < S
    · obtain ⟨row, hrow⟩ : ∃ row, m.rules[k]? = some row := ⟨_, List.getElem?_eq_getElem (by have := HLN.out; omega)⟩
      obtain ⟨Ar, dr, hcr, hEr⟩ := HM.out.rules.row hrow
      have hrl : row.length = X := by
        obtain ⟨row', r, h1, h2, h3, h4, h5⟩ := rule_at HV.out (s := k) (x := 0) (by have := HSE.out; omega) (by have := HXE.out; omega)
        rw [hrow] at h1
        cases h1
        have := HXE.out
        omega
      obtain ⟨br, or, rfl, hbr2, hcell⟩ := hEr.at_ (by omega)
      rw [hrl] at hcr
      obtain ⟨mrow, hmr⟩ : ∃ l, l = row.map mirR := ⟨_, rfl⟩
      have HROW : Hid ((mirrorM m).rules[k]? = some mrow) := hid_ (by rw [mirrorM, List.getElem?_map, hrow, hmr]; rfl)
      have HML : Hid (mrow.length = X) := hid_ (by rw [hmr, List.length_map, hrl])
      have HRW := hid_ hrow
      have HMR := hid_ hmr
      have HCELL := hid_ hcell
      have HCR := hid_ hcr
      clear hrow hEr hcell hcr hrl hmr
      obtain ⟨V, rfl⟩ : ∃ X : World, X = wr := ⟨_, rfl⟩
      go_wp2_with fail
      go_loopw [5, 6] (fun a b wx => ∃ (j : Nat) (A : Option Addr) (c : Nat), a = .slice A j c ∧ b = .int .i64 (j : Int) ∧ j ≤ X ∧ Hid (wx.ownsRow V.heap.size 74 3 (.slice A j c) j (rcellsL (mrow.take j))) ∧ Below V.heap.size V wx) (fun _ b _ => X - (intOf b).toNat)
      case atStart => exact ⟨0, none, 0, rfl, rfl, Nat.zero_le _, hid_ ⟨rfl, .inl ⟨rfl, rfl⟩⟩, Below.refl _ _⟩
      case round =>
        obtain ⟨j, A, c, rfl, rfl, hj, HU, hbx⟩ := hrel
        clear p0 p1 p2
        have hby2 := bnext hbr hbx
        have p1 := (HB1.out.to hby2).cell 1
        have p2 := (HB1.out.to hby2).cell 2
        simp at p1 p2
        by_cases hjl : j < X
        · obtain ⟨r, hr, HR3⟩ : ∃ r, row[j]? = some r ∧ Hid (r.m = -1 ∨ r.m = 1) := by
            obtain ⟨row', r, h1, h2, h3, h4, _⟩ := rule_at HV.out (s := k) (x := j) (by have := HSE.out; omega) (by have := HXE.out; omega)
            rw [HRW.out] at h1
            cases h1
            exact ⟨r, h2, hid_ (ruleB_yes.1 h4).2.2.2.2⟩
          obtain ⟨i1, i2, i3⟩ := HCELL.out j r hr
          replace i1 := keepc hby2 i1
          replace i2 := keepc hby2 i2
          replace i3 := keepc hby2 i3
          have i4 := keepc hby2 HCR.out
          have t0 : 0 ≤ (j : Int) := by omega
          have t1 : 0 ≤ (k : Int) := by omega
          have hm3 := HR3.out
          have m1 : IntKind.i64.wrap (-r.m) = -r.m := IntWalk.i64_in _ (by omega)
          have HTK : Hid (rcellsL (mrow.take (j + 1)) = rcellsL (mrow.take j) ++ rcells ⟨r.w, -r.m, r.n⟩) := hid_ (rcellsL_take (r := ⟨r.w, -r.m, r.n⟩) (by rw [HMR.out, List.getElem?_map, hr]; rfl))
          have h63 : j + 1 ≤ maxLen := by unfold maxLen; omega
          have hby : (j + 1) * 24 ≤ 140737488355328 := by omega
          clear hr hm3
          obtain ⟨Z, rfl⟩ : ∃ X : World, X = wr := ⟨_, rfl⟩
          go_upto_region 10 with fail
          have HC := hid_ (Blk.new Z 74 #[.int .i64 r.w, .int .i64 r.m, .int .i64 r.n])
          have HUZ := hid_ (HU.out.alloc (.cells #[.int .i64 r.w, .int .i64 r.m, .int .i64 r.n] 74))
          have hbz := hbx.alloc hbx.size (.cells #[.int .i64 r.w, .int .i64 r.m, .int .i64 r.n] 74)
          clear i1 i2 i3 i4 p1 p2 HU hby2
          generalize Z.alloc (.cells #[.int .i64 r.w, .int .i64 r.m, .int .i64 r.n] 74) = Z1 at *
          generalize Z.heap.size = cb at *
          clear hbx
          have c0 := HC.out.cell 0
          have c1 := HC.out.cell 1
          have c2' := HC.out.cell 2
          simp at c0 c1 c2'
          go_upto_region 8 with (at_builtin; refine wpList_append_own_at _ rfl _ _ 72 rfl V.heap.size 74 iR (.agg #[.int .i64 0, .int .i64 0, .int .i64 0]) 3 24 Tryd.underlying72 hiR hzR0 hzR1 hzR2 rfl (by omega) (.slice A j c) j _ rfl (HUZ.out.alloc _) ⟨Z1.heap.size, 0, none⟩ 1 1 (rcells ⟨r.w, -r.m, r.n⟩) rfl rfl (newsA Z1 _ (rcells ⟨r.w, -r.m, r.n⟩)) (rcells_one _) h63 hby (Nat.le_trans hbz.size (by simp)) ?_; intro u2 Z2 hown2 hg2 _ hat2)
          have HU3 : Hid (Z2.ownsRow V.heap.size 74 3 u2 (j + 1) (rcellsL (mrow.take (j + 1)))) := hid_ (by rw [HTK.out]; exact hown2)
          have hbx2 : Below V.heap.size V Z2 := Below.grown (hbz.alloc hbz.size _) hg2 (Nat.le_trans hbz.size (by simp)) (own_lt HUZ.out)
          obtain ⟨A2', c2'', rfl⟩ := own_form HU3.out
          clear hown2 hg2 hat2 HUZ hbz
          go_wp2_with fail
          go_roundw
          case rel => exact ⟨j + 1, A2', c2'', rfl, by go_num, by omega, HU3, hbx2⟩
          case measure => simp [intOf]; omega
        · obtain rfl : j = X := by omega
          have HRT : Hid (rcellsL (mrow.take j) = rcellsL mrow) := hid_ (by rw [List.take_of_length_le (by rw [HML.out]; omega)])
          have HPW := hid_ (HP.out.to hbx)
          obtain ⟨g, rfl, hgX⟩ := own_addr HU.out (by omega)
          have HU2 : Hid (wr.ownsRow V.heap.size 74 3 (.slice (some ⟨g, 0, none⟩) mrow.length c) mrow.length (rcellsL mrow)) := hid_ (by rw [HML.out, ← HRT.out]; exact HU.out)
          have hVX := HP.out.le
          have hbY := bnext hbr hbx
          have hj2 := HML.out
          clear HRT HU HP hbx hby2 p2 HCELL HMR HML
          subst hj2
          obtain ⟨Av, cv, rfl⟩ := own_form HPW.out.own
          have b2' := HPW.out.box.cell 2
          simp at b2'
          have hws : V0.heap.size ≤ wr.heap.size := HPW.out.le
          have h63 : k + 1 ≤ maxLen := by unfold maxLen; omega
          have hby : (k + 1) * 24 ≤ 140737488355328 := by omega
          have haw : W.heap.size < wr.heap.size := HPW.out.box.lt
          go_upto_region 4 with (at_builtin; refine wpList_append_own_at _ rfl _ _ 22 rfl V0.heap.size 72 iL (.slice none 0 0) 1 24 Tryd.underlying22 hiL hzL0 hzL1 hzL2 rfl (by omega) (.slice Av k cv) k _ rfl (HPW.out.own.alloc _) ⟨wr.heap.size, 0, none⟩ 1 1 [.slice (some ⟨g, 0, none⟩) mrow.length c] rfl rfl (newsA wr _ [.slice (some ⟨g, 0, none⟩) mrow.length c]) (by simp [Value.oneCell']) h63 hby (Nat.le_trans hws (by simp)) ?_; intro v2 Z hown2 hg2 _ hat2; have HNX := hid_ (HPW.out.next HU2.out hVX HROW.out hg2 hown2); obtain ⟨A3, c3, rfl⟩ := own_form hown2; have BZ := (HPW.out.box.alloc (.cells #[.slice (some ⟨g, 0, none⟩) mrow.length c] 72)).grownby hg2 (fun e => by have := own_lt HPW.out.own _ e.symm; have := HPW.out.lt; omega); have z2 := BZ.cell 2; have y2 := BZ.free 2; have hbZ := hid_ (Below.grown (hbY.alloc hbY.size (.cells #[.slice (some ⟨g, 0, none⟩) mrow.length c] 72)) hg2 (Nat.le_trans hbY.size (by simp)) (fun q hq => Nat.le_trans hWV (own_lt HPW.out.own q hq))); simp at z2; clear hown2 hg2 hat2 BZ)
          have hbZ2 := hbZ.out.setCell (p := ⟨W.heap.size, 2, none⟩) (Nat.le_refl _) (.slice A3 (k + 1) c3)
          go_wp2_with fail
          go_roundw
          case rel => exact ⟨k + 1, _, _, by go_num, by omega, HNX, hbZ2⟩
          case measure => simp [intOf]; omega
    · obtain rfl : k = S := by omega
      obtain ⟨Av, cv, rfl⟩ := own_form HP.out.own
      obtain ⟨gv, rfl, hgv⟩ := own_addr HP.out.own (by omega)
      have hml : (mirrorM m).rules.length = k := by rw [mirrorM, List.length_map]; exact HLN.out
      have HRW : Hid (OwnRows wr V0.heap.size vs (mirrorM m).rules) := hid_ (by have := HP.out.rws; rwa [List.take_of_length_le (by omega)] at this)
      have HOW := hid_ HP.out.own
      have HB2r := hid_ (HB2.out.to hbr)
      have hbY := bnext hbW hbr
      have y0 := HP.out.box.cell 0
      have y1 := HP.out.box.cell 1
      have y2 := HP.out.box.cell 2
      simp at y0 y1 y2
      have HLR : Hid (∀ r ∈ (mirrorM m).rules, r.length ≤ 17592186044416) := hid_ (fun r hr => by
        obtain ⟨r0, h0, rfl⟩ := List.mem_map.1 hr
        rw [List.length_map]
        exact HM.out.2.2 r0 h0)
      clear p1 p2 HP
      have s0 := HB2r.out.free 0
      have s1 := HB2r.out.free 1
      have s2 := HB2r.out.free 2
      have r0 := HB2r.out.cell 0
      have r1 := HB2r.out.cell 1
      have r2 := HB2r.out.cell 2
      simp at r0 r1 r2
      go_wp2_with fail
      have BZ := (((HB2r.out).set_ 0 (.int .i64 (k : Int))).set_ 1 (.int .i64 (X : Int))).set_ 2 (.slice (some ⟨gv, 0, none⟩) k cv)
      have e0 := BZ.cell 0
      have e1 := BZ.cell 1
      have e2 := BZ.cell 2
      simp at e0 e1 e2
      refine bodyPost_ret (v := .agg #[.int .i64 (k : Int), .int .i64 (X : Int), .slice (some ⟨gv, 0, none⟩) k cv]) (by simp [results, Tryd.results32, go_sem, e0, e1, e2]) rfl ?_
      have hOm : MOwn wr V0.heap.size (.slice (some ⟨gv, 0, none⟩) k cv) (mirrorM m) := ⟨vs, gv, k, cv, rfl, HOW.out, HRW.out⟩
      have hO3 := ((hOm.set (b := w.heap.size + 1) (i := 0) (by omega) (.int .i64 (k : Int))).set (b := w.heap.size + 1) (i := 1) (by omega) (.int .i64 (X : Int))).set (b := w.heap.size + 1) (i := 2) (by omega) (.slice (some ⟨gv, 0, none⟩) k cv)
      exact ⟨some ⟨gv, 0, none⟩, cv, by rw [hml], by rw [hml]; exact hO3.machl (by omega) HLR.out, (((hbY).setCell (by simp <;> omega) _).setCell (by simp <;> omega) _).setCell (by simp <;> omega) _⟩
end Go.Proofs.YtkbaiegfloajlaaDoor.Tp

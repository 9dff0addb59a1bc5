/- Contracts: Rename of the specification. -/
import Derived.Test.YtkbaiegfloajlaaDoorYi
import Derived.Test.YtkbaiegfloajlaaDoorYb
import Derived.Test.YtkbaiegfloajlaaDoorXh
namespace Go.Proofs.YtkbaiegfloajlaaDoor.Tp
open Go.RowKit

theorem far3 {w : World} {a : Addr} {v x y z : Value} {b o : Nat} (hne : b ≠ a.block) (h : w.cell? a = some v) : (((w.setCell ⟨b, o, none⟩ x).setCell ⟨b, o + 1, none⟩ y).setCell ⟨b, o + 2, none⟩ z).cell? a = some v := by
  rw [World.cell?_setCell_far _ _ _ _ hne, World.cell?_setCell_far _ _ _ _ hne, World.cell?_setCell_far _ _ _ _ hne]
  exact h

set_option maxRecDepth 100000 in
set_option maxHeartbeats 8000000 in
theorem rrename_any (m : MachS) (ss xs : List Int) (v u1 u2 : Value) (w : World) (hm : MachIn w w.heap.size v m) (hS : Elems w w.heap.size u1 (ints ss)) (hX : Elems w w.heap.size u2 (ints xs)) (hv : validM m = true) (hp1 : permB ss = true) (hp2 : permB xs = true) (hl1 : (ss.length : Int) = m.states) (hl2 : (xs.length : Int) = m.symbols) :
    Calls Tryd.prog 34 #[.agg #[.int .i64 m.states, .int .i64 m.symbols, v], u1, u2] w fun e w' => ∃ A d, e = .returned (.agg #[.int .i64 m.states, .int .i64 m.symbols, .slice A (renameM m ss xs).rules.length d]) ∧ MachIn w' w'.heap.size (.slice A (renameM m ss xs).rules.length d) (renameM m ss xs) ∧ Below w.heap.size w w' := by
  obtain ⟨A2, c2, rfl⟩ := hm.rules.form
  obtain ⟨As, cs, rfl⟩ := hS.form
  obtain ⟨Ax, cx, rfl⟩ := hX.form
  rw [ints_len] at hS hX ⊢
  rw [ints_len]
  obtain ⟨v1, v2, v3, v4, v5, _⟩ := validM_parts hv
  obtain ⟨S, hSe⟩ : ∃ S, S = ss.length := ⟨_, rfl⟩
  obtain ⟨X, hXe⟩ : ∃ X, X = xs.length := ⟨_, rfl⟩
  have hsS : m.states = S := by omega
  have hxX : m.symbols = X := by omega
  have hlen : m.rules.length = S := by omega
  have hS1 : 0 < S := by omega
  have hS6 : S ≤ 6 := by omega
  have hX1 : 0 < X := by omega
  have hX4 : X ≤ 4 := by omega
  have hbW := below2 w (.cells #[.int .i64 m.states, .int .i64 m.symbols, .slice A2 m.rules.length c2] 24) (.cells #[.int .i64 0, .int .i64 0, .slice none 0 0] 24)
  have HM := hid_ (hm.to hbW)
  have HSS := hid_ (hS.to hbW)
  have HXX := hid_ (hX.to hbW)
  have B1 := (Blk.new w 24 #[.int .i64 m.states, .int .i64 m.symbols, .slice A2 m.rules.length c2]).alloc (.cells #[.int .i64 0, .int .i64 0, .slice none 0 0] 24)
  have B2 := Blk.new (w.alloc (.cells #[.int .i64 m.states, .int .i64 m.symbols, .slice A2 m.rules.length c2] 24)) 24 #[.int .i64 0, .int .i64 0, .slice none 0 0]
  rw [show (w.alloc (.cells #[.int .i64 m.states, .int .i64 m.symbols, .slice A2 m.rules.length c2] 24)).heap.size = w.heap.size + 1 by simp] at B2
  have HB1 := hid_ B1
  have HB2 := hid_ B2
  obtain ⟨b2, o2, hA2, hb2⟩ := HM.out.rules.addr (by omega)
  subst hA2
  obtain ⟨bs, os, hAs, hbs9, hcs⟩ := HSS.out.at_ (by omega)
  subst hAs
  obtain ⟨bx, ox, hAx, hbx9, hcx⟩ := HXX.out.at_ (by omega)
  subst hAx
  rw [hsS, hxX, hlen] at HB1 HB2 HM hbW HSS HXX hcs hcx hbs9 hbx9 ⊢
  rw [← hSe] at HSS
  rw [← hXe] at HXX
  rw [← hSe, ← hXe]
  have HLS := hid_ hSe
  have HLX := hid_ hXe
  have HCS := hid_ hcs
  have HCX := hid_ hcx
  have HP1 := hid_ hp1
  have HP2 := hid_ hp2
  have HV := hid_ hv
  have HSE := hid_ hsS
  have HXE := hid_ hxX
  have HLN := hid_ hlen
  clear hm hS hX B1 B2 hv hp1 hp2 hl1 hl2 v1 v2 v3 v4 v5 hlen hcs hcx hSe hXe hb2 hsS hxX
  go_enter Tryd.func34, Tryd.ntmps34
  go_upto_region 1 with fail
  generalize (w.alloc (.cells #[.int .i64 (S : Int), .int .i64 (X : Int), .slice (some ⟨b2, o2, none⟩) S c2] 24)).alloc (.cells #[.int .i64 0, .int .i64 0, .slice none 0 0] 24) = W at *
  have p0 := HB1.out.cell 0
  have p1 := HB1.out.cell 1
  simp at p0 p1
  go_upto_region 2 with fail
  have HO := hid_ (Blk.new W 24 #[.int .i64 (S : Int), .int .i64 (X : Int), .slice none 0 0])
  have hbx := below1 W (.cells #[.int .i64 (S : Int), .int .i64 (X : Int), .slice none 0 0] 24)
  generalize W.alloc (.cells #[.int .i64 (S : Int), .int .i64 (X : Int), .slice none 0 0] 24) = V0 at *
  clear p0 p1
  have hWV := hbx.size
  have hres := HB2.out.lt
  obtain ⟨iR, hiR, hzR0, hzR1, hzR2⟩ := info_parts Tryd.infoR
  obtain ⟨iL, hiL, hzL0, hzL1, hzL2⟩ := info_parts Tryd.infoRL
  go_wp2_with fail
  go_loopw [8] (fun s wr => ∃ (k : Nat) (rb : Nat → Nat) (v : Value), s = .int .i64 (k : Int) ∧ k ≤ S ∧ Hid (RSt (S : Int) (X : Int) V0.heap.size W.heap.size X k rb v wr) ∧ Below W.heap.size W wr) (fun s _ => S - (intOf s).toNat)
  case atStart => exact ⟨0, fun _ => 0, .slice none 0 0, rfl, Nat.zero_le _, hid_ ⟨HO.out, own_nil _ _ _, fun t ht => absurd ht (by omega), fun t u ht => absurd ht (by omega), fun t ht => absurd ht (by omega), HO.out.lt, Nat.le_refl _⟩, hbx⟩
  case round =>
    obtain ⟨k, rb, v, rfl, hk, HP, hbr⟩ := hrel
    clear HO hbx
    have p0 := (HB1.out.to hbr).cell 0
    have p1 := (HB1.out.to hbr).cell 1
    simp at p0 p1
    by_cases hlt : k < S
    · obtain ⟨Av, cv, rfl⟩ := own_form HP.out.own
      have y2 := HP.out.box.cell 2
      simp at y2
      have hmk : ∀ Y : World, (Instr.makeSlice 72 (.int .i64 (X : Int)) (.int .i64 (X : Int))).run Tryd.prog Y = .ok (.slice (some ⟨Y.heap.size, 0, none⟩) X X) (Y.alloc (.cells (rowCells X (fun _ => zeroR)) 74)) := fun Y => by
        have := run_make (P := Tryd.prog) (w := Y) 72 74 iR (.agg #[.int .i64 0, .int .i64 0, .int .i64 0]) Tryd.underlying72 hiR hzR0 .i64 .i64 X X (by omega) (by omega) (by rw [hzR2]; omega) (by omega)
        rw [hzR1, rowCells_zero] at this
        exact this
      have h63 : k + [Value.slice (some ⟨wr.heap.size, 0, none⟩) X X].length ≤ maxLen := by simp [maxLen]; omega
      have hby : (k + [Value.slice (some ⟨wr.heap.size, 0, none⟩) X X].length) * 24 ≤ 140737488355328 := by simp; omega
      go_upto_region 5 with fail
      have hws : V0.heap.size ≤ wr.heap.size := HP.out.le
      have hYa : Below wr.heap.size wr ((wr.alloc (.cells (rowCells X (fun _ => zeroR)) 74)).alloc (.cells #[.slice (some ⟨wr.heap.size, 0, none⟩) X X] 72)) := below2 wr _ _
      have HOE : Hid ((((wr.alloc (.cells (rowCells X (fun _ => zeroR)) 74)).alloc (.cells #[.slice (some ⟨wr.heap.size, 0, none⟩) X X] 72)).drew).ownsRow V0.heap.size 72 1 (.slice Av k cv) k (rowVs X rb k)) := hid_ (own_below HP.out.own hYa.drew)
      have HQE : Hid (Elems (((wr.alloc (.cells (rowCells X (fun _ => zeroR)) 74)).alloc (.cells #[.slice (some ⟨wr.heap.size, 0, none⟩) X X] 72)).drew) (((wr.alloc (.cells (rowCells X (fun _ => zeroR)) 74)).alloc (.cells #[.slice (some ⟨wr.heap.size, 0, none⟩) X X] 72)).drew).heap.size (.slice (some ⟨wr.heap.size + 1, 0, none⟩) 1 1) [.slice (some ⟨wr.heap.size, 0, none⟩) X X]) := hid_ (by
        have h := blk_elems (n := 1) (c := 1) (Blk.new (wr.alloc (.cells (rowCells X (fun _ => zeroR)) 74)) 72 #[.slice (some ⟨wr.heap.size, 0, none⟩) X X]) rfl rfl
        rw [show (wr.alloc (.cells (rowCells X (fun _ => zeroR)) 74)).heap.size = wr.heap.size + 1 by simp] at h
        exact h)
      have HSE : Hid (V0.heap.size ≤ (((wr.alloc (.cells (rowCells X (fun _ => zeroR)) 74)).alloc (.cells #[.slice (some ⟨wr.heap.size, 0, none⟩) X X] 72)).drew).heap.size) := hid_ (Nat.le_trans hws hYa.drew.size)
      have HAE : Hid (Blk (((wr.alloc (.cells (rowCells X (fun _ => zeroR)) 74)).alloc (.cells #[.slice (some ⟨wr.heap.size, 0, none⟩) X X] 72)).drew) W.heap.size 24 #[.int .i64 (S : Int), .int .i64 (X : Int), .slice Av k cv]) := hid_ ((HP.out.box.alloc _).alloc _)
      have HBE : Hid (Below W.heap.size W (((wr.alloc (.cells (rowCells X (fun _ => zeroR)) 74)).alloc (.cells #[.slice (some ⟨wr.heap.size, 0, none⟩) X X] 72)).drew)) := hid_ ((hbr.alloc hbr.size _).alloc (by simp; have := hbr.size; omega) _).drew
      have HON : Hid (∀ y ∈ [Value.slice (some ⟨wr.heap.size, 0, none⟩) X X], y.oneCell' = true) := hid_ (by simp [Value.oneCell'])
      have HLT : Hid (W.heap.size < V0.heap.size) := hid_ HP.out.lt
      have p5 := keepc (below1 wr (.cells (rowCells X (fun _ => zeroR)) 74)) p1
      have p6 := keepc (below1 wr (.cells (rowCells X (fun _ => zeroR)) 74)).drew p1
      have y5 := keepc (below1 wr (.cells (rowCells X (fun _ => zeroR)) 74)) y2
      have y6 := keepc (below1 wr (.cells (rowCells X (fun _ => zeroR)) 74)).drew y2
      have y7 := keepc hYa y2
      have y8 := keepc hYa.drew y2
      clear hYa
      go_region_law ((refine step_append_e (by rfl) _ _ 22 (by rfl) 72 iL (.slice none 0 0) 24 Tryd.underlying22 hiL hzL0 hzL1 hzL2 rfl (by rfl) (by rfl) HOE.out HQE.out HON.out h63 hby HSE.out ?_; intro v1 Z2 hown1 hg1 _; obtain ⟨A9, c9, rfl⟩ := own_form hown1; have hbx2 := hid_ (HBE.out.grown hg1 HBE.out.size (fun k9 hk9 => Nat.le_trans hWV (own_lt HOE.out k9 hk9))); have HAz := hid_ (HAE.out.grownby hg1 (fun e => by have := own_lt HOE.out _ e.symm; have := HLT.out; omega)); have HNX := hid_ (HP.out.next (o := (.cells #[.slice (some ⟨wr.heap.size, 0, none⟩) X X] 72)) ⟨hg1.os, hg1.tape, hg1.output, hg1.size, hg1.block⟩ hown1); have k2 := HAz.out.free 2; have l2 := HAz.out.cell 2; simp at l2; clear hown1 hg1))
      all_goals
        go_wp2_with fail
        go_roundw
        case rel =>
          first
            | exact ⟨k + 1, _, _, by go_num, by omega, HNX, hbx2.out.setCell (Nat.le_refl _) _⟩
            | exact ⟨k + 1, _, _, by go_num, by omega, hid_ (HNX.out.to (Below.refl _ _).drew), (hbx2.out.setCell (Nat.le_refl _) _).drew⟩
        case measure => simp [intOf]; omega
    · have hkS : S = k := by omega
      subst hkS
      obtain ⟨R, cR, rfl, hMA⟩ := HP.out.map hS1
      have HMA := hid_ hMA
      have HAU := hid_ HP.out.box
      have hLR : V0.heap.size ≤ R := hMA.low.1
      have HLO : Hid (∀ s, s < S → V0.heap.size ≤ rb s) := hid_ hMA.low.2
      have HWlt : Hid (W.heap.size < V0.heap.size) := hid_ HP.out.lt
      have HNR : Hid (∀ s, s < S → rb s ≠ R) := hid_ hMA.ne
      have hWlt := HP.out.lt
      clear hMA HP
      obtain ⟨U, rfl⟩ : ∃ X : World, X = wr := ⟨_, rfl⟩
      go_wp2_with fail
      go_loopw [9] (fun s wr => ∃ k : Nat, s = .int .i64 (k : Int) ∧ k ≤ S ∧ Hid (MAp wr V0.heap.size R rb S X (contK (renAt m ss xs) (pS ss) (pS xs) X k)) ∧ Hid (Blk wr W.heap.size 24 #[.int .i64 (S : Int), .int .i64 (X : Int), .slice (some ⟨R, 0, none⟩) S cR]) ∧ Below W.heap.size W wr) (fun s _ => S - (intOf s).toNat)
      case atStart => exact ⟨0, rfl, Nat.zero_le _, HMA, HAU, hbr⟩
      case round =>
        clear HMA HAU hbr p0 p1
        obtain ⟨k, rfl, hk, HMr, HAr, hbr⟩ := hrel
        have p0 := (HB1.out.to hbr).cell 0
        have p1 := (HB1.out.to hbr).cell 1
        simp at p0 p1
        by_cases hlt : k < S
        · obtain ⟨row, hrow⟩ : ∃ row, m.rules[k]? = some row := ⟨_, List.getElem?_eq_getElem (by have := HLN.out; omega)⟩
          obtain ⟨Ar, dr, hcr, hEr⟩ := HM.out.rules.row hrow
          have hrl : row.length = X := by
            obtain ⟨row', r, h1, h2, h3, h4, h5⟩ := rule_at HV.out (s := k) (x := 0) (by have := HSE.out; omega) (by have := HXE.out; omega)
            rw [hrow] at h1
            cases h1
            have := HXE.out
            omega
          obtain ⟨br, or, rfl, hbr2, hcell⟩ := hEr.at_ (by omega)
          rw [hrl] at hcr
          have HRQ := hid_ hrow
          have HCELL := hid_ hcell
          have HCR := hid_ hcr
          have s0 : 0 ≤ (k : Int) := by omega
          clear hrow hEr hcell hrl hcr
          obtain ⟨V, rfl⟩ : ∃ X : World, X = wr := ⟨_, rfl⟩
          go_wp2_with fail
          go_loopw [10] (fun s wx => ∃ j : Nat, s = .int .i64 (j : Int) ∧ j ≤ X ∧ Hid (MAp wx V0.heap.size R rb S X (contJ (renAt m ss xs) (pS ss) (pS xs) (contK (renAt m ss xs) (pS ss) (pS xs) X k) k j)) ∧ Hid (Blk wx W.heap.size 24 #[.int .i64 (S : Int), .int .i64 (X : Int), .slice (some ⟨R, 0, none⟩) S cR]) ∧ Below W.heap.size W wx) (fun s _ => X - (intOf s).toNat)
          case atStart => exact ⟨0, rfl, Nat.zero_le _, HMr, HAr, hbr⟩
          case round =>
            clear HMr HAr hbr p0 p1
            obtain ⟨j, rfl, hj, HMx, HAx, hbr⟩ := hrel
            have p1 := (HB1.out.to hbr).cell 1
            have p2 := (HB1.out.to hbr).cell 2
            simp at p1 p2
            by_cases hjl : j < X
            · obtain ⟨r, hr, HR3⟩ : ∃ r, row[j]? = some r ∧ Hid (ruleAt m k j = r ∧ ((0 ≤ r.w ∧ r.w < (X : Int)) ∧ (-1 ≤ r.n ∧ r.n < (S : Int)))) := by
                obtain ⟨row', r, h1, h2, h3, h4, _⟩ := rule_at HV.out (s := k) (x := j) (by have := HSE.out; omega) (by have := HXE.out; omega)
                rw [HRQ.out] at h1
                cases h1
                have h5 := ruleB_yes.1 h4
                rw [HSE.out, HXE.out] at h5
                exact ⟨r, h2, hid_ ⟨h3, ⟨h5.1, h5.2.1⟩, ⟨h5.2.2.1, h5.2.2.2.1⟩⟩⟩
              obtain ⟨i1, i2, i3⟩ := HCELL.out j r hr
              obtain ⟨rw', rm, rn⟩ := r
              simp only at i1 i2 i3
              have hrw := HR3.out.2.1
              have hrn := HR3.out.2.2
              simp only at hrw hrn
              obtain ⟨t, ht⟩ := Int.eq_ofNat_of_zero_le hrw.1
              subst ht
              have htX : t < X := by omega
              replace i1 := keepc hbr i1
              replace i2 := keepc hbr i2
              replace i3 := keepc hbr i3
              have i4 := keepc hbr HCR.out
              obtain ⟨y, hy⟩ : ∃ y, xs[t]? = some y := ⟨_, List.getElem?_eq_getElem (by have := HLX.out; omega)⟩
              have HY : Hid (nameX xs (t : Int) = y) := hid_ (by rw [nameX, Int.toNat_natCast, List.getD_eq_getElem?_getD, hy]; rfl)
              have j1 := HCX.out t _ (ints_at hy)
              obtain ⟨z, hz⟩ : ∃ z, z = nameS ss rn := ⟨_, rfl⟩
              have HNS : Hid (∀ Y, Elems Y Y.heap.size (.slice (some ⟨bs, os, none⟩) S cs) (ints ss) → Calls Tryd.prog 59 #[.int .i64 rn, .slice (some ⟨bs, os, none⟩) S cs] Y fun e w' => e = .returned (.int .i64 z) ∧ w' = Y) := hid_ (fun Y h => by rw [hz]; exact named_any ss rn _ Y h (by have := HLS.out; omega))
              have HVAL : Hid (renAt m ss xs k j = ⟨y, rm, z⟩) := hid_ (by rw [renAt, HR3.out.1, renR, HY.out, hz])
              have t0 : 0 ≤ (j : Int) := by omega
              have t1 : 0 ≤ (t : Int) := by omega
              have t2 : (t : Int) < (X : Int) := by omega
              clear hr hrw hrn hy hz
              obtain ⟨Z, rfl⟩ : ∃ X : World, X = wr := ⟨_, rfl⟩
              go_upto_region 13 with fail
              have HC := hid_ (Blk.new Z 74 #[.int .i64 (t : Int), .int .i64 rm, .int .i64 rn])
              have HM2 := hid_ (HMx.out.to (below1 Z (.cells #[.int .i64 (t : Int), .int .i64 rm, .int .i64 rn] 74)))
              have HA2 := hid_ (HAx.out.alloc (.cells #[.int .i64 (t : Int), .int .i64 rm, .int .i64 rn] 74))
              have hbZ := hbr.alloc hbr.size (.cells #[.int .i64 (t : Int), .int .i64 rm, .int .i64 rn] 74)
              have hZl := hbr.size
              have hRl : R < Z.heap.size := HMx.out.rlt
              have HRB : Hid (∀ s, s < S → rb s < Z.heap.size) := hid_ (fun s hs => (HMx.out.row s hs).lt)
              have hal := HAx.out.lt
              clear i1 i2 i3 i4 HMx HAx p1 p2
              generalize Z.alloc (.cells #[.int .i64 (t : Int), .int .i64 rm, .int .i64 rn] 74) = Z1 at *
              generalize hcg : Z.heap.size = cb at *
              clear hbr hcg
              replace j1 := keepc hbZ j1
              obtain ⟨pk1, pk2⟩ := pS_get HP1.out (s := k) (by have := HLS.out; omega)
              obtain ⟨qj1, qj2⟩ := pS_get HP2.out (s := j) (by have := HLX.out; omega)
              have d1 := keepc hbZ (HCS.out k _ (ints_at pk1))
              have d2 := keepc hbZ (HCX.out j _ (ints_at qj1))
              rw [← HLS.out] at pk2
              rw [← HLX.out] at qj2
              have HPK : Hid (renAt m ss xs k j = ⟨y, rm, z⟩ ∧ contJ (renAt m ss xs) (pS ss) (pS xs) (contK (renAt m ss xs) (pS ss) (pS xs) X k) k (j + 1) = setF2 (contJ (renAt m ss xs) (pS ss) (pS xs) (contK (renAt m ss xs) (pS ss) (pS xs) X k) k j) (pS ss k) (pS xs j) (renAt m ss xs k j)) := hid_ ⟨HVAL.out, rfl⟩
              clear pk1 qj1 HVAL
              generalize pS ss k = P at *
              generalize pS xs j = Q at *
              have c0 := HC.out.cell 0
              have c1 := HC.out.cell 1
              have c2' := HC.out.cell 2
              have y2 := HA2.out.cell 2
              have y9 := HM2.out.rules P pk2
              have g0 := (HM2.out.row P pk2).cell (Q * 3 + 0)
              have g1 := (HM2.out.row P pk2).cell (Q * 3 + 1)
              have g2 := (HM2.out.row P pk2).cell (Q * 3 + 2)
              rw [rowCells_get _ qj2 (by omega)] at g0 g1 g2
              simp only [ruleV, Nat.add_zero] at g0 g1 g2
              have e0 := (HM2.out.row P pk2).free (Q * 3)
              have e1 := (HM2.out.row P pk2).free (Q * 3 + 1)
              have e2 := (HM2.out.row P pk2).free (Q * 3 + 2)
              simp at c0 c1 c2' y2 g0 g1 g2
              have u1 : (k : Int) < (S : Int) := by omega
              have u3 : (j : Int) < (X : Int) := by omega
              have u4 : 0 ≤ (P : Int) := by omega
              have u5 : (P : Int) < (S : Int) := by omega
              have u6 : 0 ≤ (Q : Int) := by omega
              have u7 : (Q : Int) < (X : Int) := by omega
              have hrp := HRB.out P pk2
              have hlp := HLO.out P pk2
              have hnp := HNR.out P pk2
              have hq2 : W.heap.size ≤ rb P := by have := HWlt.out; omega
              have hbsW : bs < W.heap.size := hbs9
              have hbxW : bx < W.heap.size := hbx9
              have hy2 : rb P ≠ W.heap.size := by omega
              have hd1 : rb P ≠ bs := by omega
              have hy9 : rb P ≠ R := hnp
              have hd2 : rb P ≠ bx := by omega
              have hc0 : rb P ≠ cb := by omega
              have hj1 : rb P ≠ bx := by omega
              have hc1 : rb P ≠ cb := by omega
              have hc2 : rb P ≠ cb := by omega
              go_region_held3 (fun w' => w'.cell? ⟨W.heap.size, 2, none⟩ = some (.slice (some ⟨R, 0, none⟩) S cR) ∧ w'.cell? ⟨bs, os + k, none⟩ = some (.int .i64 (P : Int)) ∧ w'.cell? ⟨R, P, none⟩ = some (.slice (some ⟨rb P, 0, none⟩) X X) ∧ w'.cell? ⟨bx, ox + j, none⟩ = some (.int .i64 (Q : Int)) ∧ w'.cell? ⟨cb, 0, none⟩ = some (.int .i64 (t : Int)) ∧ w'.cell? ⟨bx, ox + t, none⟩ = some (.int .i64 y) ∧ w'.cell? ⟨cb, 1, none⟩ = some (.int .i64 rm) ∧ w'.cell? ⟨cb, 2, none⟩ = some (.int .i64 rn) ∧ Below W.heap.size W w')
                (first | assumption | exact ⟨y2, d1, y9, d2, c0, j1, c1, c2', hbZ⟩ | exact ⟨y2, d1, y9, d2, c0, j1, c1, c2', hbZ.drew⟩ | exact ⟨far3 (w := Z1) hy2 y2, far3 (w := Z1) hd1 d1, far3 (w := Z1) hy9 y9, far3 (w := Z1) hd2 d2, far3 (w := Z1) hc0 c0, far3 (w := Z1) hj1 j1, far3 (w := Z1) hc1 c1, far3 (w := Z1) hc2 c2', ((hbZ.setCell (p := ⟨rb P, Q * 3, none⟩) hq2 _).setCell (p := ⟨rb P, Q * 3 + 1, none⟩) hq2 _).setCell (p := ⟨rb P, Q * 3 + 2, none⟩) hq2 _⟩ | exact ⟨far3 (w := Z1.drew) hy2 y2, far3 (w := Z1.drew) hd1 d1, far3 (w := Z1.drew) hy9 y9, far3 (w := Z1.drew) hd2 d2, far3 (w := Z1.drew) hc0 c0, far3 (w := Z1.drew) hj1 j1, far3 (w := Z1.drew) hc1 c1, far3 (w := Z1.drew) hc2 c2', ((hbZ.drew.setCell (p := ⟨rb P, Q * 3, none⟩) hq2 _).setCell (p := ⟨rb P, Q * 3 + 1, none⟩) hq2 _).setCell (p := ⟨rb P, Q * 3 + 2, none⟩) hq2 _⟩ | fail)
                (first
                  | (go_at_call 59; (with_reducible refine (HNS.out _ (HSS.out.to ((And.right (And.right (And.right (And.right (And.right (And.right (And.right (And.right (by assumption)))))))))))).mono ?_); rintro e w6 ⟨rfl, rfl⟩))
              all_goals
                go_wp2_with fail
                go_roundw
                case rel =>
                  have h9 := HM2.out.set pk2 qj2 (renAt m ss xs k j)
                  have hv9 := HPK.out.1
                  rw [show (renAt m ss xs k j).w = y by rw [hv9], show (renAt m ss xs k j).m = rm by rw [hv9], show (renAt m ss xs k j).n = z by rw [hv9]] at h9
                  rw [← HPK.out.2] at h9
                  have hq1 : W.heap.size ≠ rb P := fun e => hy2 e.symm
                  exact ⟨j + 1, by go_num, by omega, hid_ (h9.to (Below.refl _ _).drew), hid_ (((HA2.out.far (p := ⟨rb P, Q * 3, none⟩) hq1 _).far (p := ⟨rb P, Q * 3 + 1, none⟩) hq1 _).far (p := ⟨rb P, Q * 3 + 2, none⟩) hq1 _), (((hbZ.setCell (p := ⟨rb P, Q * 3, none⟩) hq2 _).setCell (p := ⟨rb P, Q * 3 + 1, none⟩) hq2 _).setCell (p := ⟨rb P, Q * 3 + 2, none⟩) hq2 _).drew⟩
                case measure => simp [intOf]; omega
            · obtain rfl : j = X := by omega
              go_wp2_with fail
              go_roundw
              case rel => exact ⟨k + 1, by go_num, by omega, HMx, HAx, hbr⟩
              case measure => simp [intOf]; omega
        · have hkS : S = k := by omega
          subst hkS
          have HB2r := hid_ (HB2.out.to hbr)
          have hbY := bnext hbW hbr
          have y0 := HAr.out.cell 0
          have y1 := HAr.out.cell 1
          have y2 := HAr.out.cell 2
          simp at y0 y1 y2
          have s0 := HB2r.out.free 0
          have s1 := HB2r.out.free 1
          have s2 := HB2r.out.free 2
          have r0 := HB2r.out.cell 0
          have r1 := HB2r.out.cell 1
          have r2 := HB2r.out.cell 2
          simp at r0 r1 r2
          go_wp2_with fail
          have BZ := (((HB2r.out).set_ 0 (.int .i64 (S : Int))).set_ 1 (.int .i64 (X : Int))).set_ 2 (.slice (some ⟨R, 0, none⟩) S cR)
          have e0 := BZ.cell 0
          have e1 := BZ.cell 1
          have e2 := BZ.cell 2
          simp at e0 e1 e2
          refine bodyPost_ret (v := .agg #[.int .i64 (S : Int), .int .i64 (X : Int), .slice (some ⟨R, 0, none⟩) S cR]) (by simp [results, Tryd.results34, go_sem, e0, e1, e2]) rfl ?_
          have hfr : R ≠ w.heap.size + 1 ∧ ∀ s, s < S → rb s ≠ w.heap.size + 1 := ⟨by omega, fun s hs => by have := HLO.out s hs; omega⟩
          have hM9 := (((HMr.out.far (p := ⟨w.heap.size + 1, 0, none⟩) hfr (.int .i64 (S : Int))).far (p := ⟨w.heap.size + 1, 1, none⟩) hfr (.int .i64 (X : Int))).far (p := ⟨w.heap.size + 1, 2, none⟩) hfr (.slice (some ⟨R, 0, none⟩) S cR))
          have hmr := rename_rows (ss := ss) (xs := xs) HSE.out HXE.out
          have hll : (renameM m ss xs).rules.length = S := by rw [renameM]; simp [HSE.out]
          have hMM := hM9.mach (c := cR) (m := renameM m ss xs) hll (by omega) (by omega) hmr
          exact ⟨some ⟨R, 0, none⟩, cR, by rw [hll], hMM, (((hbY).setCell (by simp <;> omega) _).setCell (by simp <;> omega) _).setCell (by simp <;> omega) _⟩
end Go.Proofs.YtkbaiegfloajlaaDoor.Tp

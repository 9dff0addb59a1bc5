/- pair.Two, where the machine is valid and has at most six registers. -/
import Derived.Test.YtonammaecpapmaaDd
namespace Go.Proofs.Ytonammaecpapmaa.Pp
open Go.RowKit

theorem codeIn_at {w : World} {A : Option Addr} {n : Nat} {code : List Cn.Ins} (h : Cn.CodeAt w w.heap.size A n code) (hn : 0 < n) : ∃ b off, A = some ⟨b, off, none⟩ ∧ b < w.heap.size ∧ Cn.CodeIn w b off code := h.at_ hn
theorem take_snoc {α : Type} {l : List α} {k : Nat} {x : α} (h : l[k]? = some x) : l.take (k + 1) = l.take k ++ [x] := by rw [List.take_add_one, h]; rfl
theorem pts_snoc {l : List InstS} {k : Nat} {x : InstS} (h : l[k]? = some x) : ptsL 0 (l.take (k + 1)) = ptsL 0 (l.take k) ++ [((sizeL (l.take k) : Nat) : Int)] := by
  rw [take_snoc h, ptsL_append]; simp [ptsL]
theorem own_code {w : World} {B : Nat} {v : Value} {l : List InstS} (h : w.ownsRow B 48 4 v l.length (icellsL l)) : ∃ A c, v = .slice A l.length c ∧ Cn.CodeAt w w.heap.size A l.length (qC l) := by
  obtain ⟨A, c, rfl⟩ := own_form h
  refine ⟨A, c, rfl, by rw [qC, List.length_map], fun hn => ?_⟩
  obtain ⟨g, hg, hB⟩ := own_addr h hn
  subst hg
  have hlt := (h.lt g rfl).2
  refine ⟨g, 0, rfl, hlt, fun k i hk => ?_⟩
  rw [qC, List.getElem?_map] at hk
  cases hl : l[k]? with
  | none => rw [hl] at hk; cases hk
  | some x =>
    rw [hl] at hk
    simp only [Option.map_some, Option.some.injEq] at hk
    subst hk
    have hkl := (List.getElem?_eq_some_iff.1 hl).1
    have hcell : ∀ j, j < 4 → w.cell? ⟨g, k * 4 + j, none⟩ = (icells x)[j]? := by
      intro j hj
      rw [h.cellAt (k * 4 + j) (by omega)]
      have hs := split_at hl
      have e : icellsL l = icellsL (l.take k) ++ (icells x ++ icellsL (l.drop (k + 1))) := by
        conv => lhs; rw [hs]
        simp [icellsL]
      rw [e, List.getElem?_append_right (by rw [icellsL_len, List.length_take]; omega), icellsL_len, List.length_take, Nat.min_eq_left (by omega), Nat.add_sub_cancel_left, List.getElem?_append_left (by simp [icells]; omega)]
    have h0 := hcell 0 (by omega)
    have h1 := hcell 1 (by omega)
    have h2 := hcell 2 (by omega)
    have h3 := hcell 3 (by omega)
    rw [Nat.zero_add]
    exact ⟨h0, h1, h2, h3⟩
theorem own_pts {w : World} {B : Nat} {v : Value} {l : List Int} (h : w.ownsRow B 3 1 v l.length (ints l)) : ∃ A c, v = .slice A l.length c ∧ Cn.IntsAt w w.heap.size A l.length l := by
  obtain ⟨A, c, rfl⟩ := own_form h
  refine ⟨A, c, rfl, rfl, fun hn => ?_⟩
  obtain ⟨g, hg, hB⟩ := own_addr h hn
  subst hg
  refine ⟨g, 0, rfl, (h.lt g rfl).2, fun k x hk => ?_⟩
  have hkl := (List.getElem?_eq_some_iff.1 hk).1
  rw [Nat.zero_add, h.cellAt k (by omega)]
  simp [ints, hk]


set_option maxRecDepth 100000 in
set_option maxHeartbeats 4000000 in
theorem two_go (R : Int) (A : Option Addr) (n c : Nat) (code : List Cn.Ins) (w : World) (hc : Cn.CodeAt w w.heap.size A n code) (hv : Cn.vCode R code = true) (hR : R ≤ 6) :
    Calls Try.prog 6 #[.agg #[.int .i64 R, .slice A n c]] w (TwoRan (twoS R code) w) := by
  have HC := hid_ hc; clear hc
  have KV : Hid (∀ Y, Cn.CodeAt Y Y.heap.size A n code → Calls Try.prog 4 #[.agg #[.int .i64 R, .slice A n c]] Y fun e w' => e = .returned (.bool true) ∧ Below Y.heap.size Y w') := hid_ (fun Y h => by rw [← hv]; exact Cn.valid_any R A n c code Y h)
  obtain ⟨iP, hiP, hq0, hq1, hq2⟩ := info_parts Try.infoI
  obtain ⟨r1, r2, n1, n2⟩ := Cn.vCode_reg hv
  have HLN := hid_ HC.out.len
  obtain ⟨RN, hRN⟩ := Int.eq_ofNat_of_zero_le (show 0 ≤ R by omega)
  have HV := hid_ hv
  have HOK : Hid (∀ i ∈ code.map sOf, okI code.length i) := hid_ (okI_of (R := RN) (by rw [← hRN]; exact hv) (by omega))
  clear hv hRN
  go_enter Try.func6, Try.ntmps6
  go_wp2_with fail
  refine (KV.out _ (HC.out.to (below2 w _ _))).mono ?_
  rintro e w1 ⟨rfl, hb1⟩
  obtain ⟨B1, B2, hz, hw1⟩ := boxes2b hb1
  clear hb1
  have p0 := B1.cell 0
  have p1 := B1.cell 1
  have x0 := B2.cell 0
  have x1 := B2.cell 1
  have y0 := B2.free 0
  have y1 := B2.free 1
  simp at p0 p1 x0 x1
  have hz0 : w.heap.size < w1.heap.size := by omega
  have hz1 : w.heap.size + 1 < w1.heap.size := by omega
  have HCI := hid_ (HC.out.to hw1)
  obtain ⟨b, off, hA, hbl, hci⟩ := HCI.out.at_ (by have := HLN.out; omega)
  subst hA
  have HI := hid_ hci
  have HB2 := hid_ B2
  have HW1 := hid_ hw1
  have hR0 : ¬ 6 < R := by omega
  have hn1 : 1 ≤ n := by have := HLN.out; omega
  have hn2 : n ≤ 2000 := by have := HLN.out; omega
  clear hci n1 n2
  go_upto_region 5 with fail
  have HWA : Hid (WAt w1.heap.size (w1.heap.size + 1) (.slice none 0 0) (.slice none 0 0) [] [] (w1.alloc (.cells #[.slice none 0 0, .slice none 0 0] 59))) := hid_ ⟨Blk.new _ _ _, ⟨rfl, .inl ⟨rfl, rfl⟩⟩, ⟨rfl, .inl ⟨rfl, rfl⟩⟩, Nat.lt_succ_self _, by simp⟩
  go_wp2_with fail
  go_loopw [24, 6] (fun a s wr => ∃ (k : Nat) (pvk : Value), a = .int .i64 (k : Int) ∧ s = .int .i64 ((sizeL ((code.map sOf).take k) : Nat) : Int) ∧ k ≤ n ∧ Hid (WAt w1.heap.size (w1.heap.size + 1) pvk (.slice none 0 0) (ptsL 0 ((code.map sOf).take k)) [] wr) ∧ Below w1.heap.size w1 wr) (fun a _ _ => n - (intOf a).toNat)
  case atStart => exact ⟨0, _, rfl, rfl, Nat.zero_le _, HWA, below1 _ _⟩
  case round =>
    clear HWA
    obtain ⟨k, pvk, rfl, rfl, hk, HW, hbr⟩ := hrel
    have hsz : sizeL ((code.map sOf).take k) ≤ 43 * k := by have := sizeL_le ((code.map sOf).take k); rw [List.length_take] at this; omega
    have hpl : (ptsL 0 ((code.map sOf).take k)).length = k := by rw [ptsL_len, List.length_take, List.length_map, HLN.out]; omega
    obtain ⟨z, hzz⟩ : ∃ z, z = sizeL ((code.map sOf).take k) := ⟨_, rfl⟩
    rw [← hzz] at hsz ⊢
    obtain ⟨PL, hPL⟩ : ∃ PL, PL = ptsL 0 ((code.map sOf).take k) := ⟨_, rfl⟩
    rw [← hPL] at HW hpl
    obtain ⟨A9, c9, hpv⟩ := own_form HW.out.pts
    subst hpv
    rw [hpl] at HW
    have hg1 : w1.heap.size < wr.heap.size := HW.out.box.lt
    have hbl2 : b < wr.heap.size := by omega
    have k0 := HW.out.box.cell 0
    have f0 := HW.out.box.free 0
    simp at k0
    have HBR := hid_ hbr
    have q0 : wr.cell? ⟨w.heap.size, 0, none⟩ = some (.int .i64 R) := (hbr.cell (p := ⟨w.heap.size, 0, none⟩) hz0).trans p0
    have HPL := hid_ hPL
    have HPLN := hid_ hpl
    clear hPL hpl hbr
    by_cases hlt : k < n
    · obtain ⟨i, hi⟩ : ∃ i, code[k]? = some i := ⟨_, List.getElem?_eq_getElem (by rw [HLN.out]; exact hlt)⟩
      have hsi : (code.map sOf)[k]? = some (sOf i) := by rw [List.getElem?_map, hi]; rfl
      have HSZ : Hid ((z : Int) + (lenI (sOf i) : Int) = (sizeL ((code.map sOf).take (k + 1)) : Nat)) := hid_ (by rw [size_step hsi, ← hzz]; omega)
      have hle := (lenI_le (sOf i)).2
      have HPS : Hid (ptsL 0 ((code.map sOf).take (k + 1)) = PL ++ [(z : Int)]) := hid_ (by rw [pts_snoc hsi, HPL.out, hzz])
      obtain ⟨i0, i1, i2, i3⟩ := (HI.out.below HBR.out hbl) k i hi
      have KLE : Hid (∀ Y, Calls Try.prog 14 #[.agg #[.int .i64 i.op, .int .i64 i.rg, .int .i64 i.nx, .int .i64 i.zr]] Y fun e w' => e = .returned (.int .i64 (lenI (sOf i) : Int)) ∧ Below Y.heap.size Y w') := hid_ (fun Y => length_any (sOf i) code.length Y (HOK.out _ (List.mem_map.2 ⟨i, List.mem_of_getElem? hi, rfl⟩)))
      obtain ⟨l, hl⟩ : ∃ l, l = lenI (sOf i) := ⟨_, rfl⟩
      rw [← hl] at HSZ hle KLE
      have m1 : IntKind.i64.wrap ((z : Int) + (l : Int)) = (z : Int) + (l : Int) := IntWalk.i64_in _ (by omega)
      have HK1 : Hid ((k : Int) + 1 = ((k + 1 : Nat) : Int)) := hid_ (by omega)
      clear hi hsi hzz hl
      obtain ⟨op, rg, nx, zr⟩ := i
      simp only at i0 i1 i2 i3 KLE
      go_upto_region 10 with fail
      have BX := Blk.new wr 48 #[.int .i64 op, .int .i64 rg, .int .i64 nx, .int .i64 zr]
      have HBX := hid_ BX
      have HW3 := hid_ (HW.out.to (below1 wr (.cells #[.int .i64 op, .int .i64 rg, .int .i64 nx, .int .i64 zr] 48)))
      have HB3 := hid_ (HBR.out.trans ((below1 wr (.cells #[.int .i64 op, .int .i64 rg, .int .i64 nx, .int .i64 zr] 48)).mono (by omega)))
      have hs3 : (wr.alloc (.cells #[.int .i64 op, .int .i64 rg, .int .i64 nx, .int .i64 zr] 48)).heap.size = wr.heap.size + 1 := by simp
      clear BX i0 i1 i2 i3 k0 f0 q0
      generalize wr.alloc (.cells #[.int .i64 op, .int .i64 rg, .int .i64 nx, .int .i64 zr] 48) = W3 at *
      have k0 := HW3.out.box.cell 0
      have f0 := HW3.out.box.free 0
      simp at k0
      have hg3 : w1.heap.size < W3.heap.size := by omega
      have hwr3 : wr.heap.size < W3.heap.size := by omega
      have HS3 := hid_ hs3
      clear hs3
      have HW4 := hid_ (HW3.out.to (below1 W3 (.cells #[.int .i64 (z : Int)] 3)))
      have HB4 := hid_ (HB3.out.trans ((below1 W3 (.cells #[.int .i64 (z : Int)] 3)).mono (by omega)))
      have HBY := hid_ (HBX.out.to (below1 W3 (.cells #[.int .i64 (z : Int)] 3)))
      have HNW := hid_ (newsA W3 3 [.int .i64 (z : Int)])
      go_upto_region 11 with (at_builtin; refine wpList_append_own_at _ rfl _ _ 25 rfl (w1.heap.size + 1) 3 iP (.int .i64 0) 1 8 Try.underlying25 hiP hq0 hq1 hq2 rfl (by omega) (.slice A9 k c9) k (ints PL) rfl (by have h9 := HW4.out.pts; rw [HPLN.out] at h9; exact h9) ⟨W3.heap.size, 0, none⟩ 1 1 [.int .i64 (z : Int)] rfl rfl HNW.out (by intro u hu; simp at hu; subst hu; rfl) (by unfold maxLen; omega) (by omega) (by simp; omega) ?_; intro u2 Z2 hown2 hg2 ha2 hb2; clear ha2 hb2; obtain ⟨A2, c2, hu2⟩ := own_form hown2; subst hu2; have HX := hid_ (HW4.out.addp (x := (z : Int)) rfl hg2 (by rw [HPLN.out]; exact hown2)); have hne2 : ∀ q, Value.ownBlock (.slice A9 k c9) = some q → w1.heap.size + 1 ≤ q ∧ q < wr.heap.size := (fun q hq => ⟨own_lt HW4.out.pts q hq, (HW.out.pts.lt q hq).2⟩); have BX5 := HW4.out.box.grownby hg2 (fun e => by have := (hne2 _ e.symm).1; omega); have k1 := BX5.cell 0; have f1 := BX5.free 0; simp at k1; have HBZ := hid_ ((HBY.out.grownby hg2 (fun e => by have := (hne2 _ e.symm).2; omega)).far (p := ⟨w1.heap.size, 0, none⟩) (by simp only; omega) (.slice A2 (k + 1) c2)); have hsz2 := hg2.size; simp at hsz2; clear hown2 hg2 hne2 BX5)
      have HXB := hid_ (HX.out.2 w1 HB4.out (Nat.le_refl _))
      have HX1 := hid_ HX.out.1
      clear HX hwr3
      generalize Z2.setCell ⟨w1.heap.size, 0, none⟩ (.slice A2 (k + 1) c2) = W5 at *
      have b0 := HBZ.out.cell 0
      have b1 := HBZ.out.cell 1
      have b2 := HBZ.out.cell 2
      have b3 := HBZ.out.cell 3
      simp at b0 b1 b2 b3
      clear k1 f1 hsz2 k0 f0
      go_wp2_with (go_at_call 14; (with_reducible refine (KLE.out _).mono ?_); rintro e W6 ⟨rfl, hb6⟩)
      go_round
      case rel => exact ⟨k + 1, _, by go_num, by rw [HSZ.out], by omega, hid_ (by rw [HPS.out]; exact HX1.out.to hb6), HXB.out.trans (hb6.mono HXB.out.size)⟩
      case measure => simp [intOf]; omega
    · have hkn : k = n := by omega
      subst hkn
      have HT : Hid ((code.map sOf).take k = code.map sOf) := hid_ (List.take_of_length_le (by rw [List.length_map, HLN.out]; exact Nat.le_refl _))
      have HPA : Hid (PL = ptsL 0 (code.map sOf)) := hid_ (by rw [HPL.out, HT.out])
      have HZA : Hid (z = sizeL (code.map sOf)) := hid_ (by rw [hzz, HT.out])
      clear hzz
      have B3 := HB2.out.below HBR.out hz1
      have x0 := B3.cell 0
      have x1 := B3.cell 1
      have y0 := B3.free 0
      have y1 := B3.free 1
      simp at x0 x1
      have HB3 := hid_ B3
      by_cases hbig : 2000 < z
      · have hbig2 : (2000 : Int) < z := by omega
        have HS : Hid (twoS R code = ⟨0, [], [], 4⟩) := hid_ (by rw [twoS, if_neg (by rw [HV.out]; simp), if_neg (by omega), if_pos (by rw [← HZA.out]; exact hbig)])
        go_wp2_with fail
        obtain ⟨e0, e1⟩ := res_two HB3.out (.int .i64 0) (.slice none 0 0)
        refine bodyPost_ret (v := .tuple #[.agg #[.int .i64 0, .slice none 0 0], .slice none 0 0, .int .i64 4]) (by simp [results, Try.results6, go_sem, e0, e1]) rfl ?_
        rw [HS.out]
        exact ⟨none, 0, 0, none, 0, 0, rfl, CodeAt.nil _, Cn.IntsAt.nil _, (fun k hk => by simp [Value.ownBlock] at hk), below_two (HW1.out.trans (HBR.out.mono HW1.out.size)) (by omega) _ _⟩
      · have hbig2 : ¬ (2000 : Int) < z := by omega
        have HS : Hid (twoS R code = ⟨2, qC (codeL PL [] (code.map sOf)), PL, 0⟩) := hid_ (by rw [twoS, if_neg (by rw [HV.out]; simp), if_neg (by omega), if_neg (by rw [← HZA.out]; exact hbig), HPA.out])
        have hz2000 : z ≤ 2000 := by omega
        clear B3
        go_upto_region 15 with fail
        have q1 : wr.cell? ⟨w.heap.size, 1, none⟩ = some (.slice (some ⟨b, off, none⟩) k c) := (HBR.out.cell (p := ⟨w.heap.size, 1, none⟩) hz0).trans p1
        go_wp2_with fail
        obtain ⟨X, rfl⟩ : ∃ X : World, X = wr := ⟨_, rfl⟩
        go_loopw [49] (fun a wr => ∃ (j : Nat) (cvk : Value), a = .int .i64 (j : Int) ∧ j ≤ k ∧ Hid (WAt w1.heap.size (w1.heap.size + 1) (.slice A9 k c9) cvk PL (codeL PL [] ((code.map sOf).take j)) wr) ∧ Below w1.heap.size w1 wr) (fun a _ => k - (intOf a).toNat)
        case atStart => exact ⟨0, _, rfl, Nat.zero_le _, HW, HBR.out⟩
        case round =>
          clear HW x0 x1 y0 y1 k0 f0 q0 q1
          obtain ⟨j, cvk, rfl, hj, HW, hbx⟩ := hrel
          have hg2 : w1.heap.size < wr.heap.size := HW.out.box.lt
          have HBX := hid_ hbx
          by_cases hlt2 : j < k
          · obtain ⟨i, hi⟩ : ∃ i, code[j]? = some i := ⟨_, List.getElem?_eq_getElem (by rw [HLN.out]; exact hlt2)⟩
            have hsi : (code.map sOf)[j]? = some (sOf i) := by rw [List.getElem?_map, hi]; rfl
            have hcl : (codeL PL [] ((code.map sOf).take j)).length ≤ 2000 := by
              have h1 := codeL_len PL ((code.map sOf).take j) []
              have h2 := sizeL_take_le (code.map sOf) j
              rw [← HZA.out] at h2
              simp only [List.length_nil] at h1
              omega
            have HCS : Hid (codeL PL [] ((code.map sOf).take (j + 1)) = codeL PL [] ((code.map sOf).take j) ++ wrI PL (codeL PL [] ((code.map sOf).take j)).length (sOf i)) := hid_ (by rw [take_snoc hsi, codeL_append]; rfl)
            obtain ⟨i0, i1, i2, i3⟩ := (HI.out.below HBX.out hbl) j i hi
            have hbl3 : b < wr.heap.size := by omega
            have KWR : Hid (∀ Y, WAt w1.heap.size (w1.heap.size + 1) (.slice A9 k c9) cvk PL (codeL PL [] ((code.map sOf).take j)) Y → Calls Try.prog 15 #[.pointer (some ⟨w1.heap.size, 0, none⟩), .agg #[.int .i64 i.op, .int .i64 i.rg, .int .i64 i.nx, .int .i64 i.zr]] Y (EmRan w1.heap.size (w1.heap.size + 1) (.slice A9 k c9) cvk PL (codeL PL [] ((code.map sOf).take (j + 1))) Y)) := hid_ (fun Y h => by rw [HCS.out]; exact write_any (sOf i) _ _ _ _ _ _ Y h (by rw [HPLN.out, ← HLN.out]; exact HOK.out _ (List.mem_map.2 ⟨i, List.mem_of_getElem? hi, rfl⟩)) (by rw [HPLN.out]; omega) (by omega))
            clear hi hsi hcl hbx
            obtain ⟨op, rg, nx, zr⟩ := i
            simp only at i0 i1 i2 i3 KWR
            go_upto_region 18 with fail
            have HX1 := hid_ (HW.out.to (below1 wr (.cells #[.int .i64 op, .int .i64 rg, .int .i64 nx, .int .i64 zr] 48)))
            have HXB := hid_ (HBX.out.trans ((below1 wr (.cells #[.int .i64 op, .int .i64 rg, .int .i64 nx, .int .i64 zr] 48)).mono (by omega)))
            have BX := Blk.new wr 48 #[.int .i64 op, .int .i64 rg, .int .i64 nx, .int .i64 zr]
            have HBI := hid_ BX
            clear BX i0 i1 i2 i3
            generalize wr.alloc (.cells #[.int .i64 op, .int .i64 rg, .int .i64 nx, .int .i64 zr] 48) = W3 at *
            have b0 := HBI.out.cell 0
            have b1 := HBI.out.cell 1
            have b2 := HBI.out.cell 2
            have b3 := HBI.out.cell 3
            simp at b0 b1 b2 b3
            go_wp2_with (go_at_call 15; (with_reducible refine (KWR.out _ HX1.out).mono ?_); rintro e W6 ⟨rfl, cv6, hw6, hk6⟩; have HY := hid_ hw6; have HYK := hid_ hk6; clear hw6 hk6)
            go_round
            case rel => exact ⟨j + 1, cv6, by go_num, by omega, HY, HYK.out.below HXB.out (Nat.le_refl _) (fun q hq => by have := own_lt HX1.out.code q hq; omega)⟩
            case measure => simp [intOf]; omega
          · have hjk : j = k := by omega
            subst hjk
            have HCF : Hid (codeL PL [] ((code.map sOf).take j) = codeL PL [] (code.map sOf)) := hid_ (by rw [HT.out])
            have B3 := HB2.out.below HBX.out hz1
            have x0 := B3.cell 0
            have x1 := B3.cell 1
            have y0 := B3.free 0
            have y1 := B3.free 1
            have hz1r : w.heap.size + 1 < wr.heap.size := by have := HBX.out.size; omega
            simp at x0 x1
            have HB4 := hid_ B3
            have k0 := HW.out.box.cell 0
            have k1 := HW.out.box.cell 1
            simp at k0 k1
            obtain ⟨A7, c7, hcv, hcode⟩ := own_code HW.out.code
            subst hcv
            clear B3 hcode hbx
            go_upto_region 20 with fail
            go_region
            obtain ⟨e0, e1⟩ := res_two HB4.out (.int .i64 2) (.slice A7 (codeL PL [] ((code.map sOf).take j)).length c7)
            go_wp2_with fail
            refine bodyPost_ret (v := .tuple #[.agg #[.int .i64 2, .slice A7 (codeL PL [] ((code.map sOf).take j)).length c7], .slice A9 j c9, .int .i64 0]) (by simp [results, Try.results6, go_sem, e0, e1]) rfl ?_
            rw [HS.out]
            have hrow := ownsRow_setCell_other (a := ⟨w.heap.size + 1, 1, none⟩) (ownsRow_setCell_other (a := ⟨w.heap.size + 1, 0, none⟩) HW.out.code (fun e => by have := own_lt HW.out.code _ e; simp only at this; omega) (.int .i64 2)) (fun e => by have := own_lt HW.out.code _ e; simp only at this; omega) (.slice A7 (codeL PL [] ((code.map sOf).take j)).length c7)
            have hprow := ownsRow_setCell_other (a := ⟨w.heap.size + 1, 1, none⟩) (ownsRow_setCell_other (a := ⟨w.heap.size + 1, 0, none⟩) HW.out.pts (fun e => by have := own_lt HW.out.pts _ e; simp only at this; omega) (.int .i64 2)) (fun e => by have := own_lt HW.out.pts _ e; simp only at this; omega) (.slice A7 (codeL PL [] ((code.map sOf).take j)).length c7)
            obtain ⟨A8, c8, h8, hcd⟩ := own_code hrow
            obtain ⟨A6, c6, h6, hpt⟩ := own_pts hprow
            simp only [Value.slice.injEq, true_and] at h8 h6
            obtain ⟨rfl, rfl⟩ := h8
            obtain ⟨h61, _, h63⟩ := h6
            subst h61 h63
            rw [HCF.out] at hcd
            rw [HPLN.out] at hpt
            refine ⟨A7, _, c7, A9, j, c9, rfl, ?_, hpt.to (Below.refl _ _).drew, (fun k hk => by have h1 := own_lt HW.out.pts k hk; have h2 := HW1.out.size; omega), (below_two (HW1.out.trans (HBX.out.mono HW1.out.size)) (Nat.le_succ _) _ _).drew⟩
            rw [HCF.out]
            exact hcd.to (Below.refl _ _).drew
theorem two_any (R : Int) (A : Option Addr) (n c : Nat) (code : List Cn.Ins) (w : World) (hc : Cn.CodeAt w w.heap.size A n code) :
    Calls Try.prog 6 #[.agg #[.int .i64 R, .slice A n c]] w (TwoRan (twoS R code) w) := by
  cases hv : Cn.vCode R code with
  | false => exact two_form R A n c code w hc hv
  | true =>
    by_cases hR : 6 < R
    · exact two_arg R A n c code w hc hv hR
    · exact two_go R A n c code w hc hv (by omega)
end Go.Proofs.Ytonammaecpapmaa.Pp

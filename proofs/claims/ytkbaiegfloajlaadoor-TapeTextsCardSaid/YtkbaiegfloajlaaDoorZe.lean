/- Contracts: Text of the specification. -/
import Derived.Test.YtkbaiegfloajlaaDoorZd
import Derived.Laws.IdiomStrings
namespace Go.Proofs.YtkbaiegfloajlaaDoor.Tp
open Go.RowKit

theorem bapp (a b : ByteArray) : (a ++ b).data.toList = a.data.toList ++ b.data.toList := by
  rw [ByteArray.data_append, Array.toList_append]

set_option maxRecDepth 100000 in
set_option maxHeartbeats 8000000 in
theorem rtext_any (m : MachS) (v : Value) (w : World) (hm : MachIn w w.heap.size v m) (hv : validM m = true) :
    Calls Tryd.prog 25 #[.agg #[.int .i64 m.states, .int .i64 m.symbols, v]] w fun e w' => e = .returned (.string ⟨(textM m).toArray⟩) ∧ Below w.heap.size w w' := by
  obtain ⟨A2, c2, rfl⟩ := hm.rules.form
  have hbW := below1 w (.cells #[.int .i64 m.states, .int .i64 m.symbols, .slice A2 m.rules.length c2] 24)
  have HM := hid_ (hm.to hbW)
  have HB1 := hid_ (Blk.new w 24 #[.int .i64 m.states, .int .i64 m.symbols, .slice A2 m.rules.length c2])
  clear hm
  obtain ⟨v1, v2, v3, v4, v5, _⟩ := validM_parts hv
  obtain ⟨S, hSe⟩ := Int.eq_ofNat_of_zero_le (show 0 ≤ m.states by omega)
  obtain ⟨X, hXe⟩ := Int.eq_ofNat_of_zero_le (show 0 ≤ m.symbols by omega)
  have hlen : m.rules.length = S := by omega
  have HV := hid_ hv
  have hS1 : 0 < S := by omega
  have hS6 : S ≤ 6 := by omega
  have hX1 : 0 < X := by omega
  have hX4 : X ≤ 4 := by omega
  have HSE := hid_ hSe
  have HXE := hid_ hXe
  have HLN := hid_ hlen
  obtain ⟨b2, o2, hA2, hb2⟩ := HM.out.rules.addr (by omega)
  subst hA2
  rw [hSe, hXe, hlen] at HB1 HM hbW ⊢
  have HTL : Hid (∀ k, k ≤ S → (textTo m.rules k).length ≤ 78) := hid_ (fun k hk => by
    have := textTo_len (rows := m.rules) (n := 4) (fun r hr => by have := valid_rows hv r hr; omega) k
    have h13 : k * (1 + 3 * 4) ≤ 6 * 13 := Nat.mul_le_mul (by omega) (by decide)
    omega)
  clear hv v1 v2 v3 v4 v5 hSe hXe hlen hb2
  go_enter Tryd.func25, Tryd.ntmps25
  go_upto_region 1 with fail
  generalize w.alloc (.cells #[.int .i64 (S : Int), .int .i64 (X : Int), .slice (some ⟨b2, o2, none⟩) S c2] 24) = W at *
  go_wp2_with fail
  go_loopw [3, 4] (fun a b wr => ∃ (k : Nat) (P : ByteArray), a = .string P ∧ b = .int .i64 (k : Int) ∧ k ≤ S ∧ Hid (P.data.toList = textTo m.rules k) ∧ Below W.heap.size W wr) (fun _ b _ => S - (intOf b).toNat)
  case atStart => exact ⟨0, _, rfl, rfl, Nat.zero_le _, hid_ rfl, Below.refl _ _⟩
  case round =>
    obtain ⟨k, P, rfl, rfl, hk, HT, hbr⟩ := hrel
    have p0 := (HB1.out.to hbr).cell 0
    have p1 := (HB1.out.to hbr).cell 1
    simp at p0 p1
    by_cases hlt : k < S
    · obtain ⟨row, hrow⟩ : ∃ row, m.rules[k]? = some row := ⟨_, List.getElem?_eq_getElem (by have := HLN.out; omega)⟩
      obtain ⟨Ar, dr, hcr, hEr⟩ := HM.out.rules.row hrow
      have hrl : row.length = X := by
        obtain ⟨row', r, h1, h2, h3, h4, h5⟩ := rule_at HV.out (s := k) (x := 0) (by have := HSE.out; omega) (by have := HXE.out; omega)
        rw [hrow] at h1
        cases h1
        have := HXE.out
        omega
      obtain ⟨br, or, rfl, hbr2, hcell⟩ := hEr.at_ (by omega)
      rw [hrl] at hcr
      have HNX : Hid (textTo m.rules (k + 1) = textTo m.rules k ++ sepText k ++ rowText row) := hid_ (by
        rw [textTo]
        congr 2
        rw [List.getD_eq_getElem?_getD, hrow]; rfl)
      have HRW := hid_ hrow
      have HCELL := hid_ hcell
      have HCR := hid_ hcr
      have HRL := hid_ hrl
      have hPl : P.size ≤ 78 := by
        have h1 := HTL.out k hk
        have h2 : P.data.toList.length = P.size := rfl
        rw [HT.out] at h2
        omega
      clear hrow hEr hcell hcr hrl
      obtain ⟨V, rfl⟩ : ∃ X : World, X = wr := ⟨_, rfl⟩
      go_upto_if 16 with fail
      go_cut [3] (fun s wx => ∃ Q : ByteArray, s = .string Q ∧ Hid (Q.data.toList = textTo m.rules k ++ sepText k) ∧ wx = V)
      case first => as_aux_lemma =>
        by_cases hk0 : 0 < k
        · have t0 : (0 : Int) < (k : Int) := by omega
          go_wp2_with fail
          go_meet
          exact ⟨_, rfl, hid_ (by rw [bapp, HT.out, sepText, if_pos hk0]), rfl⟩
        · have t0 : ¬ (0 : Int) < (k : Int) := by omega
          go_wp2_with fail
          go_meet
          exact ⟨_, rfl, hid_ (by rw [HT.out, sepText, if_neg hk0, List.append_nil]), rfl⟩
      case rest => as_aux_lemma =>
      obtain ⟨Q, rfl, HQ, rfl⟩ := hcut
      clear p0 p1 HT hPl
      go_wp2_with fail
      go_loopw [3, 5] (fun a b wx => ∃ (j : Nat) (P : ByteArray), a = .string P ∧ b = .int .i64 (j : Int) ∧ j ≤ X ∧ Hid (P.data.toList = textTo m.rules k ++ sepText k ++ rowText (row.take j)) ∧ Below W.heap.size W wx) (fun _ b _ => X - (intOf b).toNat)
      case atStart => exact ⟨0, Q, rfl, rfl, Nat.zero_le _, hid_ (by rw [HQ.out]; simp [rowText]), hbr⟩
      case round =>
        clear HQ hbr
        obtain ⟨j, P, rfl, rfl, hj, HT, hbx⟩ := hrel
        have p1 := (HB1.out.to hbx).cell 1
        have p2 := (HB1.out.to hbx).cell 2
        simp at p1 p2
        by_cases hjl : j < X
        · obtain ⟨r, hr, HR3⟩ : ∃ r, row[j]? = some r ∧ Hid (0 ≤ r.w ∧ r.w < 4 ∧ (r.m = -1 ∨ r.m = 1) ∧ -1 ≤ r.n ∧ r.n < 6) := by
            obtain ⟨r, hr⟩ : ∃ r, row[j]? = some r := ⟨_, List.getElem?_eq_getElem (by have := HRL.out; omega)⟩
            exact ⟨r, hr, hid_ (valid_rules HV.out row (List.mem_of_getElem? HRW.out) r (List.mem_of_getElem? hr))⟩
          obtain ⟨i1, i2, i3⟩ := HCELL.out j r hr
          replace i1 := keepc hbx i1
          replace i2 := keepc hbx i2
          replace i3 := keepc hbx i3
          have i4 := keepc hbx HCR.out
          have t0 : 0 ≤ (j : Int) := by omega
          have t1 : 0 ≤ (k : Int) := by omega
          obtain ⟨rw', rm, rn⟩ := r
          simp only at i1 i2 i3 HR3
          go_upto_region 11 with fail
          have HC := hid_ (Blk.new wr 74 #[.int .i64 rw', .int .i64 rm, .int .i64 rn])
          have hbZ := hbx.alloc hbx.size (.cells #[.int .i64 rw', .int .i64 rm, .int .i64 rn] 74)
          clear i1 i2 i3 i4 p1 p2 hbx
          generalize wr.alloc (.cells #[.int .i64 rw', .int .i64 rm, .int .i64 rn] 74) = Z1 at *
          generalize wr.heap.size = cb at *
          have c0 := HC.out.cell 0
          have c1 := HC.out.cell 1
          have c2' := HC.out.cell 2
          simp at c0 c1 c2'
          obtain ⟨h1, h2, h3, h4, h5⟩ := HR3.out
          obtain ⟨W4, rfl⟩ := Int.eq_ofNat_of_zero_le h1
          obtain ⟨my, hmy⟩ : ∃ y : Nat, y = if rm = -1 then 76 else 82 := ⟨_, rfl⟩
          obtain ⟨ny, hny⟩ : ∃ y : Nat, y = if rn = -1 then 90 else 65 + rn.toNat := ⟨_, rfl⟩
          have HRT : Hid (ruleText ⟨(W4 : Int), rm, rn⟩ = [UInt8.ofNat (48 + W4), UInt8.ofNat my, UInt8.ofNat ny]) := hid_ (by
            rw [ruleText, hmy, hny]
            simp only [Int.toNat_natCast]
            congr 2
            · split <;> rfl
            · split <;> rfl)
          have HTK : Hid (rowText (row.take (j + 1)) = rowText (row.take j) ++ ruleText ⟨(W4 : Int), rm, rn⟩) := hid_ (rowText_take hr)
          have hmy2 : my < 256 := by rw [hmy]; split <;> omega
          have hny2 : ny < 256 := by rw [hny]; split <;> omega
          have hPl : P.size ≤ 100 := by
            have g1 := HTL.out k hk
            have g2 : P.data.toList.length = P.size := rfl
            have g3 : (sepText k).length ≤ 1 := by unfold sepText; split <;> simp
            rw [HT.out, List.length_append, List.length_append, rowText_len, List.length_take] at g2
            omega
          clear hr HR3
          go_upto_if 35 with fail
          go_cut [7] (fun s wx => s = .int .u8 (my : Int) ∧ Z1 = wx)
          case first => as_aux_lemma =>
            rcases h3 with rfl | rfl
            · have e : my = 76 := by rw [hmy, if_pos rfl]
              clear hmy hny HRT
              subst e
              go_wp2_with fail
              go_meet
              exact ⟨rfl, rfl⟩
            · have e : my = 82 := by rw [hmy, if_neg (by decide)]
              clear hmy hny HRT
              subst e
              go_wp2_with fail
              go_meet
              exact ⟨rfl, rfl⟩
          case rest => as_aux_lemma =>
          obtain ⟨rfl, rfl⟩ := hcut
          clear hmy
          go_upto_if 38 with fail
          go_cut [8] (fun s wx => s = .int .u8 (ny : Int) ∧ Z1 = wx)
          case first => as_aux_lemma =>
            by_cases hn : rn = -1
            · subst hn
              have e : ny = 90 := by rw [hny, if_pos rfl]
              clear hny HRT
              subst e
              go_wp2_with fail
              go_meet
              exact ⟨rfl, rfl⟩
            · obtain ⟨N, rfl⟩ := Int.eq_ofNat_of_zero_le (show 0 ≤ rn by omega)
              have e : ny = 65 + N := by rw [hny, if_neg hn, Int.toNat_natCast]
              have m2 : IntKind.i64.wrap (65 + (N : Int)) = 65 + (N : Int) := IntWalk.i64_in _ (by omega)
              have m3 : IntKind.u8.wrap (65 + (N : Int)) = ((65 + N : Nat) : Int) := by rw [IntWalk.u8_in _ (by omega)]; omega
              have t5 : (0 : Int) ≤ (N : Int) := by omega
              clear hny HRT hn
              subst e
              go_wp2_with fail
              go_meet
              exact ⟨rfl, rfl⟩
          case rest => as_aux_lemma =>
          obtain ⟨rfl, rfl⟩ := hcut
          clear hny
          have m1 : IntKind.i64.wrap (48 + (W4 : Int)) = 48 + (W4 : Int) := IntWalk.i64_in _ (by omega)
          have m3 : IntKind.u8.wrap (48 + (W4 : Int)) = ((48 + W4 : Nat) : Int) := by rw [IntWalk.u8_in _ (by omega)]; omega
          have hcv : (convert 85 9 (.slice (some ⟨Z1.heap.size, 0, none⟩) 3 3)).run Tryd.prog (Z1.alloc (.cells #[.int .u8 (48 + (W4 : Int)), .int .u8 (my : Int), .int .u8 (ny : Int)] 5)) = .ok (.string ⟨#[UInt8.ofNat (48 + W4), UInt8.ofNat my, UInt8.ofNat ny]⟩) (Z1.alloc (.cells #[.int .u8 (48 + (W4 : Int)), .int .u8 (my : Int), .int .u8 (ny : Int)] 5)) := by
            have := run_convert_bytes_back (P := Tryd.prog) (Z1.alloc (.cells #[.int .u8 (48 + (W4 : Int)), .int .u8 (my : Int), .int .u8 (ny : Int)] 5)) 85 9 5 ⟨Z1.heap.size, 0, none⟩ 3 [UInt8.ofNat (48 + W4), UInt8.ofNat my, UInt8.ofNat ny] Tryd.underlying85 Tryd.underlying5 Tryd.underlying9 (fun i hi => by
              rw [addr_add, Nat.zero_add, (Blk.new Z1 _ _).cell i]
              match i, hi with
              | 0, _ => simp <;> omega
              | 1, _ => simp [ofNat_to hmy2]
              | 2, _ => simp [ofNat_to hny2]
              | _ + 3, hi => simp at hi; omega)
            exact this
          go_wp2_with fail
          go_roundw
          case rel => exact ⟨j + 1, _, rfl, by go_num, by omega, hid_ (by rw [bapp, HT.out, HTK.out, HRT.out]; simp), hbZ.alloc hbZ.size _⟩
          case measure => simp [intOf]; omega
        · obtain rfl : j = X := by omega
          have HTX : Hid (P.data.toList = textTo m.rules (k + 1)) := hid_ (by rw [HT.out, HNX.out, List.take_of_length_le (by rw [HRL.out]; omega)])
          clear HT p2
          go_wp2_with fail
          go_roundw
          case rel => exact ⟨k + 1, P, rfl, by go_num, by omega, HTX, hbx⟩
          case measure => simp [intOf]; omega
    · obtain rfl : k = S := by omega
      have HFN : Hid (P = ⟨(textM m).toArray⟩) := hid_ (by
        have h := HT.out
        rw [← HLN.out] at h
        have h2 : textM m = P.data.toList := h.symm
        rw [h2])
      have HFB := hid_ (bnext hbW hbr)
      clear HT
      go_wp2_with fail
      refine bodyPost_ret (v := .string P) (by simp [results, Tryd.results25, go_sem]) rfl ?_
      exact ⟨by rw [HFN.out], HFB.out⟩
end Go.Proofs.YtkbaiegfloajlaaDoor.Tp

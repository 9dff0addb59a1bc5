/- Contracts: Text of package tape, for valid machines. -/
import Derived.Test.YtkbaiegfloajlaaDoorVb
import Derived.Test.YtkbaiegfloajlaaDoorTc
namespace Go.Proofs.YtkbaiegfloajlaaDoor.Tp
open Go.RowKit Go.Lib

theorem rule_of {m : MachS} (hv : validM m = true) {k j : Nat} {row : List RuleS} {r : RuleS} (h1 : m.rules[k]? = some row) (h2 : row[j]? = some r) : 0 ≤ r.w ∧ r.w < 4 ∧ -1 ≤ r.n ∧ r.n < 6 := by
  obtain ⟨_, v2, _, v4, _, v6⟩ := validM_parts hv
  have hb := (List.all_eq_true.1 v6) row (List.mem_of_getElem? h1)
  simp only [rowB, Bool.and_eq_true, decide_eq_true_eq] at hb
  obtain ⟨q1, q2, q3, q4, _⟩ := ruleB_yes.1 ((List.all_eq_true.1 hb.2) r (List.mem_of_getElem? h2))
  omega
theorem row_len {m : MachS} (hv : validM m = true) : ∀ r ∈ m.rules, r.length ≤ 4 := fun row h1 => by
  obtain ⟨_, _, _, v4, _, v6⟩ := validM_parts hv
  have hb := (List.all_eq_true.1 v6) row h1
  simp only [rowB, Bool.and_eq_true, decide_eq_true_eq] at hb
  omega
theorem oth_blk {b g : Nat} {w w' : World} {cs : Array Value} (h : OthersKept 5 (some b) w w') (hg : Blk w g 74 cs) (hb : g ≠ b) : Blk w' g 74 cs :=
  h g _ hg (fun e => hb (by injection e)) (fun c fz e => by cases e)
theorem rowText_take {row : List RuleS} {j : Nat} {r : RuleS} (h : row[j]? = some r) : rowText (row.take (j + 1)) = rowText (row.take j) ++ ruleText r := by
  have : row.take (j + 1) = row.take j ++ [r] := by
    rw [List.take_add_one, h]; rfl
  rw [this, rowText, rowText, List.flatMap_append]
  simp

set_option maxRecDepth 100000 in
set_option maxHeartbeats 4000000 in
theorem text_any (m : MachS) (v : Value) (w : World) (hm : MachIn w w.heap.size v m) (hv : validM m = true) :
    Calls Tryd.prog 21 #[.agg #[.int .i64 m.states, .int .i64 m.symbols, v]] w fun e w' => e = .returned (.tuple #[.string ⟨(textM m).toArray⟩, .int .i64 0]) ∧ Below w.heap.size w w' := by
  obtain ⟨v1, v2, v3, v4, v5, _⟩ := validM_parts hv
  have hlen : m.rules.length ≤ 6 := by omega
  have HM := hid_ hm
  have HV := hid_ hv
  obtain ⟨A, c, rfl⟩ := hm.rules.form
  obtain ⟨b2, o2, rfl, hb2⟩ := hm.rules.addr (by omega)
  clear hm hv v1 v2 v3 v4
  go_enter Tryd.func21, Tryd.ntmps21
  go_upto_if 11 with (go_at_call 11; (with_reducible refine (valid_any m _ _ (HM.out.to (below1 w _))).mono ?_); rw [HV.out]; rintro e w1 ⟨rfl, hb1⟩)
  have BX := (Blk.new w 24 #[.int .i64 m.states, .int .i64 m.symbols, .slice (some ⟨b2, o2, none⟩) m.rules.length c]).to hb1
  have HM1 := hid_ ((HM.out.to (below1 w (.cells #[.int .i64 m.states, .int .i64 m.symbols, .slice (some ⟨b2, o2, none⟩) m.rules.length c] 24))).to hb1)
  have hw1 := bnext (below1 w _) hb1
  have HBX := hid_ BX
  clear hb1 HM BX
  go_upto_region 4 with fail
  have HB0 : Hid (IsBuilderF 87 5 w1.heap.size w1.heap.size (byteCells []) (w1.alloc (.cells #[.pointer none, .slice none 0 0] 87))) := hid_ (IsBuilderF.of (fresh_isBuilder _ _ w1))
  have hbY : Below w1.heap.size w1 (w1.alloc (.cells #[.pointer none, .slice none 0 0] 87)) := below1 w1 _
  generalize w1.alloc (.cells #[.pointer none, .slice none 0 0] 87) = Y at *
  have p2 := (HBX.out.to hbY).cell 2
  simp at p2
  go_wp2_with fail
  go_loopw [15] (fun s wr => ∃ k : Nat, s = .int .i64 (k : Int) ∧ k ≤ m.rules.length ∧ Hid (IsBuilderF 87 5 w1.heap.size w1.heap.size (byteCells (textTo m.rules k)) wr) ∧ Below w1.heap.size w1 wr) (fun s _ => m.rules.length - (RowKit.intOf s).toNat)
  case atStart => exact ⟨0, rfl, Nat.zero_le _, HB0, hbY⟩
  case round =>
    obtain ⟨k, rfl, hk, HI, hbr⟩ := hrel
    by_cases hkl : k < m.rules.length
    · obtain ⟨row, hrow⟩ : ∃ row, m.rules[k]? = some row := ⟨_, List.getElem?_eq_getElem hkl⟩
      obtain ⟨Ar, dr, hcr, hEr⟩ := HM1.out.rules.row hrow
      replace hcr := keepc hbr hcr
      have hrl := row_len HV.out row (List.mem_of_getElem? hrow)
      have t0 : 0 ≤ (k : Int) := by omega
      have HROW := hid_ hrow
      have HER := hid_ hEr
      clear hrow hEr
      have htl := textTo_len (row_len HV.out) k
      have htl2 : (textTo m.rules k).length ≤ 78 := Nat.le_trans htl (by have : k * (1 + 3 * 4) ≤ 6 * (1 + 3 * 4) := Nat.mul_le_mul_right _ (by omega); omega)
      clear htl
      go_upto_if 21 with fail
      go_cut [] (fun wx => IsBuilderF 87 5 w1.heap.size w1.heap.size (byteCells (textTo m.rules k ++ sepText k)) wx ∧ Below w1.heap.size w1 wx)
      case first => as_aux_lemma =>
        by_cases h0 : 0 < k
        · have HS : Hid (sepText k = [95]) := hid_ (by rw [sepText, if_pos h0])
          go_wp2_with fail
          refine (Tryd.Builder_WriteByte w1.heap.size w1.heap.size _ 95 wr HI.out (by rw [byteCells_length]; omega) hbr.size).mono ?_
          rintro e w2 ⟨rfl, hbw, hb2, _⟩
          go_wp2_with fail
          go_meet
          refine ⟨?_, hbr.trans hb2⟩
          rw [HS.out, ← bytes_add _ 95 95 rfl]
          exact .inr hbw
        · have HS : Hid (sepText k = []) := hid_ (by rw [sepText, if_neg h0])
          go_wp2_with fail
          go_meet
          rw [HS.out, List.append_nil]
          exact ⟨HI.out, hbr⟩
      case rest => as_aux_lemma =>
        obtain ⟨hI, hb3⟩ := hcut
        obtain ⟨X, rfl⟩ : ∃ X : World, X = wc := ⟨_, rfl⟩
        have HI2 := hid_ hI
        clear hI HI
        go_wp2_with fail
        go_loopw [25] (fun s wx => ∃ j : Nat, s = .int .i64 (j : Int) ∧ j ≤ row.length ∧ Hid (IsBuilderF 87 5 w1.heap.size w1.heap.size (byteCells (textTo m.rules k ++ sepText k ++ rowText (row.take j))) wx) ∧ Below w1.heap.size w1 wx) (fun s _ => row.length - (RowKit.intOf s).toNat)
        case atStart => exact ⟨0, rfl, Nat.zero_le _, hid_ (by simpa [rowText] using HI2.out), hb3⟩
        case round =>
          obtain ⟨j, rfl, hj, HJ, hbj⟩ := hrel
          by_cases hjl : j < row.length
          · obtain ⟨r, hr⟩ : ∃ r, row[j]? = some r := ⟨_, List.getElem?_eq_getElem hjl⟩
            obtain ⟨br, or, rfl, hbr1, hcell⟩ := HER.out.at_ (by omega)
            obtain ⟨i1, i2, i3⟩ := hcell j r hr
            replace i1 := keepc hbj i1
            replace i2 := keepc hbj i2
            replace i3 := keepc hbj i3
            obtain ⟨q1, q2, q3, q4⟩ := rule_of HV.out HROW.out hr
            have m1 : IntKind.i64.wrap (48 + r.w) = 48 + r.w := IntWalk.i64_in _ (by omega)
            have m2 : IntKind.u8.wrap (48 + r.w) = 48 + r.w := by
              show (48 + r.w) % 256 = _
              omega
            have t1 : 0 ≤ (j : Int) := by omega
            have hsl : (sepText k).length ≤ 1 := by unfold sepText; split <;> simp
            have hlj : (textTo m.rules k ++ sepText k ++ rowText (row.take j)).length ≤ 100 := by
              rw [List.length_append, List.length_append, rowText_len, List.length_take]
              omega
            have hlt : w1.heap.size < wr.heap.size := by rcases HJ.out with h | h <;> exact h.lt
            obtain ⟨c0, hc0⟩ : ∃ c0, c0 = UInt8.ofNat (48 + r.w.toNat) := ⟨_, rfl⟩
            obtain ⟨c1, hc1⟩ : ∃ c1 : UInt8, c1 = if r.m = -1 then 76 else 82 := ⟨_, rfl⟩
            obtain ⟨cn, hc2⟩ : ∃ cn : UInt8, cn = if r.n = -1 then 90 else UInt8.ofNat (65 + r.n.toNat) := ⟨_, rfl⟩
            have HC0 : Hid (48 + r.w = (c0.toNat : Int)) := hid_ (by rw [hc0, ofNat_to (by omega)]; omega)
            have HML : Hid (∀ X, Calls Tryd.prog 51 #[.int .i64 r.m] X fun e w' => e = .returned (.int .u8 (c1.toNat : Int)) ∧ w' = X) := hid_ (fun X => by rw [hc1]; exact moveLetter_any r.m X)
            have HSL : Hid (∀ X, Calls Tryd.prog 52 #[.int .i64 r.n] X fun e w' => e = .returned (.int .u8 (cn.toNat : Int)) ∧ w' = X) := hid_ (fun X => by rw [hc2]; exact stateLetter_any r.n (by omega) X)
            have HTX : Hid (textTo m.rules k ++ sepText k ++ rowText (row.take j) ++ [c0] ++ [c1] ++ [cn] = textTo m.rules k ++ sepText k ++ rowText (row.take (j + 1))) := hid_ (by rw [rowText_take hr, ruleText, hc0, hc1, hc2]; simp)
            clear hc0 hc1 hc2 hr hcell hsl
            generalize textTo m.rules k ++ sepText k ++ rowText (row.take j) = L at *
            go_upto_region 12 with fail
            have BR := Blk.new wr 74 #[.int .i64 r.w, .int .i64 r.m, .int .i64 r.n]
            have HJ1 : Hid (IsBuilderF 87 5 w1.heap.size w1.heap.size (byteCells L) (wr.alloc (.cells #[.int .i64 r.w, .int .i64 r.m, .int .i64 r.n] 74))) := hid_ (HJ.out.alloc _)
            have hbj1 : Below w1.heap.size w1 (wr.alloc (.cells #[.int .i64 r.w, .int .i64 r.m, .int .i64 r.n] 74)) := hbj.alloc hbj.size _
            have hne : wr.heap.size ≠ w1.heap.size := by omega
            clear HJ i1 i2 i3 hbj
            generalize wr.alloc (.cells #[.int .i64 r.w, .int .i64 r.m, .int .i64 r.n] 74) = Z at *
            have e0 := BR.cell 0
            simp at e0
            have HBR := hid_ BR
            clear BR
            go_upto_region 13 with (go_at_call 50; (with_reducible refine (Tryd.Builder_WriteByte w1.heap.size w1.heap.size _ (48 + r.w) Z HJ1.out (by rw [byteCells_length]; omega) hbj1.size).mono ?_); rintro e Z1 ⟨rfl, hbw, hb4, ho⟩)
            have HB1 := hid_ (oth_blk ho HBR.out hne)
            have HJ2 : Hid (IsBuilderF 87 5 w1.heap.size w1.heap.size (byteCells (L ++ [c0])) Z1) := hid_ (by rw [← bytes_add _ c0 _ HC0.out]; exact .inr hbw)
            have hbj2 := hbj1.trans hb4
            have e1 := HB1.out.cell 1
            simp at e1
            clear hbw hb4 ho HBR e0 HJ1 hbj1
            go_upto_region 14 with (first | (go_at_call 51; (with_reducible refine (HML.out _).mono ?_); rintro e Z9 ⟨rfl, rfl⟩) | (go_at_call 50; (with_reducible refine (Tryd.Builder_WriteByte w1.heap.size w1.heap.size _ (c1.toNat : Int) _ HJ2.out (by rw [byteCells_length, List.length_append]; simp; omega) hbj2.size).mono ?_); rintro e Z2 ⟨rfl, hbw, hb4, ho⟩))
            have HB2 := hid_ (oth_blk ho HB1.out hne)
            have HJ3 : Hid (IsBuilderF 87 5 w1.heap.size w1.heap.size (byteCells (L ++ [c0] ++ [c1])) Z2) := hid_ (by rw [← bytes_add _ c1 _ rfl]; exact .inr hbw)
            have hbj3 := hbj2.trans hb4
            have e2 := HB2.out.cell 2
            simp at e2
            clear hbw hb4 ho HB1 e1 HJ2 hbj2
            go_wp2_with (first | (go_at_call 52; (with_reducible refine (HSL.out _).mono ?_); rintro e Z9 ⟨rfl, rfl⟩) | (go_at_call 50; (with_reducible refine (Tryd.Builder_WriteByte w1.heap.size w1.heap.size _ (cn.toNat : Int) _ HJ3.out (by rw [byteCells_length, List.length_append, List.length_append]; simp; omega) hbj3.size).mono ?_); rintro e Z3 ⟨rfl, hbw, hb4, ho⟩))
            have HJ4 : Hid (IsBuilderF 87 5 w1.heap.size w1.heap.size (byteCells (textTo m.rules k ++ sepText k ++ rowText (row.take (j + 1)))) Z3) := hid_ (by rw [← HTX.out, ← bytes_add _ cn _ rfl]; exact .inr hbw)
            have hbj4 := hbj3.trans hb4
            go_roundw
            case rel => exact ⟨j + 1, by go_num, by omega, HJ4, hbj4⟩
            case measure => simp [RowKit.intOf]; omega
          · have HE : Hid (textTo m.rules k ++ sepText k ++ rowText (row.take j) = textTo m.rules (k + 1)) := hid_ (by
              rw [textTo, List.take_of_length_le (by omega)]
              congr 2
              have := HROW.out
              simp [List.getD, this])
            go_wp2_with fail
            go_roundw
            case rel => exact ⟨k + 1, by go_num, by omega, hid_ (by rw [← HE.out]; exact HJ.out), hbj⟩
            case measure => simp [RowKit.intOf]; omega
    · obtain rfl : k = m.rules.length := by omega
      go_wp2_with fail
      refine (Tryd.Builder_String_any w1.heap.size w1.heap.size _ wr HI.out hbr.size).mono ?_
      rintro e Z ⟨rfl, _, hb5, _⟩
      go_wp2_with fail
      refine bodyPost_ret (v := .tuple #[.string ⟨(textTo m.rules m.rules.length).toArray⟩, .int .i64 0]) (by simp [results, Tryd.results21, go_sem]) rfl ?_
      exact ⟨rfl, bnext hw1 (hbr.trans hb5)⟩
end Go.Proofs.YtkbaiegfloajlaaDoor.Tp

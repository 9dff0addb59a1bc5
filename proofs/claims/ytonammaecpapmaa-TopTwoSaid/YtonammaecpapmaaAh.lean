/- The writer: divide. -/
import Derived.Test.YtonammaecpapmaaAg
namespace Go.Proofs.Ytonammaecpapmaa.Pp
open Go.RowKit

theorem mbL_len (len q : Nat) (next : Int) : (mbL len q next).length = q + 1 := by rw [mbL, List.length_cons, addL_len]
def dkL (len q : Nat) : Nat → Nat → List InstS
  | _, 0 => []
  | k, n + 1 => ⟨1, 0, ((len + 1 + k + 1 : Nat) : Int), ((len + q + 4 : Nat) : Int) + q - 1 - k⟩ :: dkL len q (k + 1) n
theorem dkL_len (len q : Nat) : ∀ n k, (dkL len q k n).length = n
  | 0, _ => rfl
  | n + 1, k => by rw [dkL, List.length_cons, dkL_len len q n]
def divL (len q : Nat) (next zero : Int) : List InstS :=
  [⟨1, 0, ((len + 2 : Nat) : Int), ((len + 2 : Nat) : Int)⟩, ⟨1, 0, ((len + 2 : Nat) : Int), ((len + q + 2 : Nat) : Int)⟩] ++ dkL len q 1 (q - 1) ++ addL (len + q + 1) 1 ((len + 1 : Nat) : Int) 1 ++ mbL (len + q + 2) 1 next ++ addL (len + q + 4) 0 ((len + q + 4 + (q - 1) : Nat) : Int) (q - 1) ++ mbL (len + q + 4 + (q - 1)) q zero

set_option maxRecDepth 100000 in
set_option maxHeartbeats 4000000 in
theorem divide_any (q : Nat) (next zero : Int) (g B : Nat) (pv cv : Value) (pts : List Int) (code : List InstS) (w : World) (h : WAt g B pv cv pts code w) (hq : 2 ≤ q) (hl : code.length + q ≤ 10000) :
    Calls Try.prog 34 #[.pointer (some ⟨g, 0, none⟩), .int .i64 (q : Int), .int .i64 next, .int .i64 zero] w (EmRan g B pv cv pts (code ++ divL code.length q next zero) w) := by
  obtain ⟨A, c, rfl⟩ := own_form h.code
  have HH := hid_ h
  have c1 := h.box.cell 1
  simp at c1
  obtain ⟨N, hN⟩ : ∃ x, x = code.length := ⟨_, rfl⟩
  obtain ⟨LP, hLP⟩ : ∃ x : Int, x = ((N + 1 : Nat) : Int) := ⟨_, rfl⟩
  obtain ⟨L2, hL2⟩ : ∃ x : Int, x = ((N + 2 : Nat) : Int) := ⟨_, rfl⟩
  obtain ⟨CT, hCT⟩ : ∃ x : Int, x = ((N + 1 + q : Nat) : Int) := ⟨_, rfl⟩
  obtain ⟨WH, hWH⟩ : ∃ x : Int, x = ((N + q + 2 : Nat) : Int) := ⟨_, rfl⟩
  obtain ⟨RS, hRS⟩ : ∃ x : Int, x = ((N + q + 4 : Nat) : Int) := ⟨_, rfl⟩
  have m1 : IntKind.i64.wrap ((code.length : Int) + 1) = LP := by rw [IntWalk.i64_in _ (by omega)]; omega
  have m2 : IntKind.i64.wrap (LP + (q : Int)) = CT := by rw [IntWalk.i64_in _ (by omega)]; omega
  have m3 : IntKind.i64.wrap (CT + 1) = WH := by rw [IntWalk.i64_in _ (by omega)]; omega
  have m4 : IntKind.i64.wrap (WH + 2) = RS := by rw [IntWalk.i64_in _ (by omega)]; omega
  have m5 : IntKind.i64.wrap (LP + 1) = L2 := by rw [IntWalk.i64_in _ (by omega)]; omega
  have m6 : IntKind.i64.wrap (RS + (q : Int)) = RS + q := IntWalk.i64_in _ (by omega)
  have m7 : IntKind.i64.wrap (RS + (q : Int) - 1) = RS + q - 1 := IntWalk.i64_in _ (by omega)
  obtain ⟨Q1, hQ1⟩ : ∃ x : Nat, x = q - 1 := ⟨_, rfl⟩
  have m8 : IntKind.i64.wrap ((q : Int) - 1) = (Q1 : Int) := by rw [IntWalk.i64_in _ (by omega)]; omega
  obtain ⟨l2, h2⟩ : ∃ l, l = code ++ [(⟨1, 0, L2, L2⟩ : InstS)] ++ [(⟨1, 0, L2, WH⟩ : InstS)] := ⟨_, rfl⟩
  have e2 : l2.length = N + 2 := by rw [h2, hN]; simp
  obtain ⟨l3, h3⟩ : ∃ l, l = l2 ++ dkL N q 1 (q - 1) := ⟨_, rfl⟩
  have e3 : l3.length = N + q + 1 := by rw [h3, List.length_append, dkL_len, e2]; omega
  obtain ⟨l4, h4⟩ : ∃ l, l = l3 ++ addL l3.length 1 LP 1 := ⟨_, rfl⟩
  have e4 : l4.length = N + q + 2 := by rw [h4, List.length_append, addL_len, e3]
  obtain ⟨l5, h5⟩ : ∃ l, l = l4 ++ mbL l4.length 1 next := ⟨_, rfl⟩
  have e5 : l5.length = N + q + 4 := by rw [h5, List.length_append, mbL_len, e4]
  obtain ⟨T, hT⟩ : ∃ x : Int, x = ((N + q + 4 + (q - 1) : Nat) : Int) := ⟨_, rfl⟩
  have m9 : IntKind.i64.wrap ((l5.length : Int) + (q : Int)) = (l5.length : Int) + q := IntWalk.i64_in _ (by omega)
  have mA : IntKind.i64.wrap ((l5.length : Int) + (q : Int) - 1) = T := by rw [IntWalk.i64_in _ (by omega)]; omega
  obtain ⟨l6, h6⟩ : ∃ l, l = l5 ++ addL l5.length 0 T Q1 := ⟨_, rfl⟩
  have e6 : l6.length = N + q + 4 + (q - 1) := by rw [h6, List.length_append, addL_len, e5, hQ1]
  have HF : Hid (l6 ++ mbL l6.length q zero = code ++ divL code.length q next zero) := hid_ (by
    rw [e6, h6, e5, h5, e4, h4, e3, h3, h2, divL, ← hN, hT, hLP, hL2, hWH, hQ1]
    simp)
  have HR : Hid (RS = ((N + q + 4 : Nat) : Int) ∧ LP = ((N + 1 : Nat) : Int) ∧ l3 = l2 ++ dkL N q 1 (q - 1) ∧ Q1 = q - 1) := hid_ ⟨hRS, hLP, h3, hQ1⟩
  have hN5 : N ≤ 10000 := by omega
  have HE1 := hid_ (fun (Y : World) (cv : Value) (h : WAt g B pv cv pts code Y) => emit_new ⟨1, 0, L2, L2⟩ g B pv cv pts code Y h (by omega))
  have HE2 := hid_ (fun (Y : World) (cv : Value) (h : WAt g B pv cv pts (code ++ [(⟨1, 0, L2, L2⟩ : InstS)]) Y) => emit_new ⟨1, 0, L2, WH⟩ g B pv cv pts _ Y h (by simp; omega))
  have HE4 : Hid (∀ Y cv, WAt g B pv cv pts l3 Y → Calls Try.prog 48 #[.pointer (some ⟨g, 0, none⟩), .int .i64 1, .int .i64 1, .int .i64 LP] Y (EmRan g B pv cv pts l4 Y)) := hid_ (fun Y cv h => by rw [h4]; exact add_any 1 LP 1 g B pv cv pts l3 Y h (by omega))
  have HE5 : Hid (∀ Y cv, WAt g B pv cv pts l4 Y → Calls Try.prog 49 #[.pointer (some ⟨g, 0, none⟩), .int .i64 1, .int .i64 next] Y (EmRan g B pv cv pts l5 Y)) := hid_ (fun Y cv h => by rw [h5]; exact moveBack_any 1 next g B pv cv pts l4 Y h (by omega))
  have HE6 : Hid (∀ Y cv, WAt g B pv cv pts l5 Y → Calls Try.prog 48 #[.pointer (some ⟨g, 0, none⟩), .int .i64 0, .int .i64 (Q1 : Int), .int .i64 T] Y (EmRan g B pv cv pts l6 Y)) := hid_ (fun Y cv h => by rw [h6]; exact add_any 0 T Q1 g B pv cv pts l5 Y h (by omega))
  have HE7 : Hid (∀ Y cv, WAt g B pv cv pts l6 Y → Calls Try.prog 49 #[.pointer (some ⟨g, 0, none⟩), .int .i64 (q : Int), .int .i64 zero] Y (EmRan g B pv cv pts (code ++ divL code.length q next zero) Y)) := hid_ (fun Y cv h => by rw [← HF.out]; exact moveBack_any q zero g B pv cv pts l6 Y h (by omega))
  have HL2 := hid_ h2
  have HE3L := hid_ e2
  clear h hLP hL2 hCT hWH hRS h2 h3 h4 h5 h6 e2 e3 e4 e5 e6 hT hQ1 HF hN
  go_enter Try.func34, Try.ntmps34
  go_upto_region 7 with (first
    | (go_at_call 35; (with_reducible refine (HE1.out w _ HH.out).mono ?_); rintro e x1 ⟨rfl, cv1, hw1, hk1⟩; have HW1 := hid_ hw1; have HK1 := hid_ hk1; clear hw1 hk1)
    | (go_at_call 35; (with_reducible refine (HE2.out x1 _ HW1.out).mono ?_); rintro e x2 ⟨rfl, cv2, hw2, hk2⟩; have HW2 := hid_ hw2; have HK2 := hid_ (HK1.out.trans hk2); clear hw2 hk2))
  rw [← HL2.out] at HW2
  clear HE1 HE2 HW1 HK1
  go_wp2_with fail
  go_loopw [13] (fun s wr => ∃ (k : Nat) (cvk : Value) (c2 : List InstS), s = .int .i64 (k : Int) ∧ 1 ≤ k ∧ k ≤ q ∧ Hid (WAt g B pv cvk pts c2 wr) ∧ Hid (c2 ++ dkL N q k (q - k) = l3) ∧ c2.length = N + 1 + k ∧ Hid (Kw g (.slice A code.length c) cvk w wr)) (fun s _ => q - (intOf s).toNat)
  case atStart => exact ⟨1, cv2, l2, rfl, by omega, by omega, HW2, hid_ HR.out.2.2.1.symm, by have := HE3L.out; omega, HK2⟩
  case round =>
    clear HW2 HK2
    obtain ⟨k, cvk, c2, rfl, hk1, hk2, HW, HE, hcl, HK⟩ := hrel
    by_cases hlt : k < q
    · have t0 : (k : Int) < (q : Int) := by omega
      have hr := HR.out
      obtain ⟨D1, hD1⟩ : ∃ x : Int, x = ((N + 1 + k + 1 : Nat) : Int) := ⟨_, rfl⟩
      obtain ⟨D2, hD2⟩ : ∃ x : Int, x = RS + q - 1 - k := ⟨_, rfl⟩
      have n1 : IntKind.i64.wrap (LP + (k : Int)) = LP + k := IntWalk.i64_in _ (by omega)
      have n2 : IntKind.i64.wrap (LP + (k : Int) + 1) = D1 := by rw [IntWalk.i64_in _ (by omega)]; omega
      have n3 : IntKind.i64.wrap (RS + (q : Int) - 1 - (k : Int)) = D2 := by rw [IntWalk.i64_in _ (by omega)]; omega
      have n4 : IntKind.i64.wrap ((k : Int) + 1) = ((k + 1 : Nat) : Int) := by rw [IntWalk.i64_in _ (by omega)]; omega
      have HE1 : Hid ((c2 ++ [(⟨1, 0, D1, D2⟩ : InstS)]) ++ dkL N q (k + 1) (q - (k + 1)) = l3) := hid_ (by
        rw [← HE.out, show q - k = (q - (k + 1)) + 1 by omega, dkL, hD1, hD2, hr.1]
        simp)
      clear hr hD1 hD2 HE
      go_wp2_with (go_at_call 35; (with_reducible refine (emit_new ⟨1, 0, D1, D2⟩ g B pv _ pts c2 wr HW.out (by omega)).mono ?_); rintro e x1 ⟨rfl, cv1, HW1, HK1⟩; have HW3 := hid_ HW1; have HK3 := hid_ (HK.out.trans HK1); clear HW1 HK1)
      go_roundw
      case rel => exact ⟨k + 1, cv1, c2 ++ [⟨1, 0, D1, D2⟩], by go_num, by omega, by omega, HW3, HE1, by simp; omega, HK3⟩
      case measure => simp [intOf]; omega
    · have hkq : k = q := by omega
      have t0 : ¬ (k : Int) < (q : Int) := by omega
      have HWL : Hid (WAt g B pv cvk pts l3 wr) := hid_ (by
        have := HE.out
        rw [hkq, Nat.sub_self, dkL, List.append_nil] at this
        rw [← this]
        exact HW.out)
      clear HW HE hkq
      go_wp2_with (first
        | (go_at_call 48; (with_reducible refine (HE4.out wr _ HWL.out).mono ?_); rintro e x4 ⟨rfl, cv4, hw4, hk4⟩; have HW4 := hid_ hw4; have HK4 := hid_ (HK.out.trans hk4); clear hw4 hk4)
        | (go_at_call 49; (with_reducible refine (HE5.out x4 _ HW4.out).mono ?_); rintro e x5 ⟨rfl, cv5, hw5, hk5⟩; obtain ⟨A5, c5, hv5⟩ := own_form hw5.code; subst hv5; have HW5 := hid_ hw5; have HK5 := hid_ (HK4.out.trans hk5); have d1 := hw5.box.cell 1; simp at d1; clear hw5 hk5)
        | (go_at_call 48; (with_reducible refine (HE6.out x5 _ HW5.out).mono ?_); rintro e x6 ⟨rfl, cv6, hw6, hk6⟩; have HW6 := hid_ hw6; have HK6 := hid_ (HK5.out.trans hk6); clear hw6 hk6)
        | (go_at_call 49; (with_reducible refine (HE7.out x6 _ HW6.out).mono ?_); rintro e x7 ⟨rfl, cv7, hw7, hk7⟩; have HW7 := hid_ hw7; have HK7 := hid_ (HK6.out.trans hk7); clear hw7 hk7))
      refine bodyPost_ret (v := .tuple #[]) (by simp [results, Try.results34, go_sem]) rfl ?_
      exact ⟨rfl, cv7, HW7.out, HK7.out⟩
end Go.Proofs.Ytonammaecpapmaa.Pp

/- The writer: add, moveBack, multiply. -/
import Derived.Test.YtonammaecpapmaaAf
namespace Go.Proofs.Ytonammaecpapmaa.Pp
open Go.RowKit

theorem EmRan.after {g B : Nat} {pv cv c1 : Value} {pts : List Int} {code : List InstS} {w w1 w' : World} {e : Ending} (hk : Kw g cv c1 w w1) (h : EmRan g B pv c1 pts code w1 e w') : EmRan g B pv cv pts code w e w' := by
  obtain ⟨h1, cv', h2, h3⟩ := h
  exact ⟨h1, cv', h2, hk.trans h3⟩
/-- emit at a slice that has just been built. -/
theorem emit_new (i : InstS) (g B : Nat) (pv cv : Value) (pts : List Int) (code : List InstS) (w : World) (h : WAt g B pv cv pts code w) (hl : code.length ≤ 100000) :
    Calls Try.prog 35 #[.pointer (some ⟨g, 0, none⟩), .slice (some ⟨w.heap.size, 0, none⟩) 1 1] (w.alloc (.cells #[.int .i64 i.op, .int .i64 i.reg, .int .i64 i.next, .int .i64 i.zero] 48)) (EmRan g B pv cv pts (code ++ [i]) w) :=
  (emit_any i w.heap.size g B pv cv pts code _ (h.to (below1 w _)) (newsA w 48 (icells i)) hl).mono (fun _ _ h2 => h2.after (Kw.of (below1 w _)))
def addL (len : Nat) (reg next : Int) : Nat → List InstS
  | 0 => []
  | k + 1 => ⟨0, reg, if k = 0 then next else ((len + 1 : Nat) : Int), 0⟩ :: addL (len + 1) reg next k
theorem addL_len (reg next : Int) : ∀ k len, (addL len reg next k).length = k
  | 0, _ => rfl
  | k + 1, len => by rw [addL, List.length_cons, addL_len reg next k]
def mbL (len q : Nat) (next : Int) : List InstS := ⟨1, 1, ((len + 1 : Nat) : Int), next⟩ :: addL (len + 1) 0 (len : Int) q
def mulL (len q : Nat) (next : Int) : List InstS := [⟨1, 0, ((len + 1 : Nat) : Int), ((len + 1 : Nat) : Int)⟩] ++ addL (len + 1) 1 ((len + 1 + q : Nat) : Int) q ++ [⟨1, 0, ((len + 1 : Nat) : Int), ((len + 1 + q + 1 : Nat) : Int)⟩] ++ mbL (len + 1 + q + 1) 1 next

set_option maxRecDepth 100000 in
set_option maxHeartbeats 4000000 in
theorem add_any (reg next : Int) (q : Nat) (g B : Nat) (pv cv : Value) (pts : List Int) (code : List InstS) (w : World) (h : WAt g B pv cv pts code w) (hl : code.length + q ≤ 90000) :
    Calls Try.prog 48 #[.pointer (some ⟨g, 0, none⟩), .int .i64 reg, .int .i64 (q : Int), .int .i64 next] w (EmRan g B pv cv pts (code ++ addL code.length reg next q) w) := by
  have HH := hid_ h
  clear h
  go_enter Try.func48, Try.ntmps48
  go_wp2_with fail
  go_loopw [8] (fun s wr => ∃ (k : Nat) (cvk : Value) (c2 : List InstS), s = .int .i64 (k : Int) ∧ Hid (WAt g B pv cvk pts c2 wr) ∧ Hid (c2 ++ addL c2.length reg next k = code ++ addL code.length reg next q) ∧ c2.length + k ≤ 90000 ∧ Hid (Kw g cv cvk w wr)) (fun s _ => (intOf s).toNat)
  case atStart => exact ⟨q, cv, code, rfl, HH, hid_ rfl, hl, hid_ (Kw.refl _ _ _)⟩
  case round =>
    clear HH
    obtain ⟨k, cvk, c2, rfl, HW, HE, hk, HK⟩ := hrel
    by_cases h0 : 0 < k
    · have t0 : (0 : Int) < (k : Int) := by omega
      obtain ⟨k', hk'⟩ : ∃ j, k = j + 1 := ⟨k - 1, by omega⟩
      obtain ⟨A, c, hv⟩ := own_form HW.out.code
      subst hv
      have c1 := HW.out.box.cell 1
      simp at c1
      obtain ⟨t, ht⟩ : ∃ t : Int, t = if k' = 0 then next else ((c2.length + 1 : Nat) : Int) := ⟨_, rfl⟩
      have m1 : IntKind.i64.wrap ((c2.length : Int) + 1) = ((c2.length + 1 : Nat) : Int) := by rw [IntWalk.i64_in _ (by omega)]; omega
      have HE1 : Hid ((c2 ++ [⟨0, reg, t, 0⟩]) ++ addL (c2 ++ [(⟨0, reg, t, 0⟩ : InstS)]).length reg next k' = code ++ addL code.length reg next q) := hid_ (by
        rw [← HE.out, hk', addL, ht]
        simp)
      have m2 : IntKind.i64.wrap ((k : Int) - 1) = (k' : Int) := by rw [IntWalk.i64_in _ (by omega)]; omega
      obtain ⟨V, rfl⟩ : ∃ X : World, X = wr := ⟨_, rfl⟩
      go_upto_if 22 with fail
      go_cut [9] (fun s wx => s = .int .i64 t ∧ V = wx)
      case first => as_aux_lemma =>
        by_cases h1 : k' = 0
        · have e : t = next := by rw [ht, if_pos h1]
          have tk : ((k : Int) == 1) = true := by rw [hk', h1]; rfl
          clear ht HE HE1 h1
          subst e
          go_wp2_with fail
          go_meet
          exact ⟨rfl, rfl⟩
        · have e : t = ((c2.length + 1 : Nat) : Int) := by rw [ht, if_neg h1]
          have tk : ((k : Int) == 1) = false := by simp; omega
          clear ht HE HE1 h1
          subst e
          go_wp2_with fail
          go_meet
          exact ⟨rfl, rfl⟩
      case rest => as_aux_lemma =>
      obtain ⟨rfl, rfl⟩ := hcut
      clear ht m1
      go_wp2_with (go_at_call 35; (with_reducible refine (emit_new ⟨0, reg, t, 0⟩ g B pv _ pts c2 V HW.out (by omega)).mono ?_); rintro e x1 ⟨rfl, cv1, HW1, HK1⟩; have HW2 := hid_ HW1; have HK2 := hid_ (HK.out.trans HK1); clear HW1 HK1)
      go_roundw
      case rel => exact ⟨k', cv1, c2 ++ [⟨0, reg, t, 0⟩], by go_num, HW2, HE1, by simp; omega, HK2⟩
      case measure => simp [intOf]; omega
    · obtain rfl : k = 0 := by omega
      have HF : Hid (EmRan g B pv cv pts (code ++ addL code.length reg next q) w (.returned (.tuple #[])) wr) := hid_ (by
        rw [← HE.out, addL, List.append_nil]
        exact ⟨rfl, cvk, HW.out, HK.out⟩)
      clear HE
      go_wp2_with fail
      refine bodyPost_ret (v := .tuple #[]) (by simp [results, Try.results48, go_sem]) rfl ?_
      exact HF.out

set_option maxRecDepth 100000 in
set_option maxHeartbeats 4000000 in
theorem moveBack_any (q : Nat) (next : Int) (g B : Nat) (pv cv : Value) (pts : List Int) (code : List InstS) (w : World) (h : WAt g B pv cv pts code w) (hl : code.length + q ≤ 80000) :
    Calls Try.prog 49 #[.pointer (some ⟨g, 0, none⟩), .int .i64 (q : Int), .int .i64 next] w (EmRan g B pv cv pts (code ++ mbL code.length q next) w) := by
  obtain ⟨A, c, rfl⟩ := own_form h.code
  have HH := hid_ h
  have c1 := h.box.cell 1
  simp at c1
  obtain ⟨L1, hL1⟩ : ∃ x : Int, x = ((code.length + 1 : Nat) : Int) := ⟨_, rfl⟩
  have m1 : IntKind.i64.wrap ((code.length : Int) + 1) = L1 := by rw [IntWalk.i64_in _ (by omega)]; omega
  have HF : Hid (code ++ [(⟨1, 1, L1, next⟩ : InstS)] ++ addL (code ++ [(⟨1, 1, L1, next⟩ : InstS)]).length 0 (code.length : Int) q = code ++ mbL code.length q next) := hid_ (by simp [mbL, hL1])
  clear h hL1
  go_enter Try.func49, Try.ntmps49
  go_wp2_with (first
    | (go_at_call 35; (with_reducible refine (emit_new ⟨1, 1, L1, next⟩ g B pv _ pts code w HH.out (by omega)).mono ?_); rintro e x1 ⟨rfl, cv1, HW1, HK1⟩; have HW2 := hid_ HW1; have HK2 := hid_ HK1; clear HW1 HK1)
    | (go_at_call 48; (with_reducible refine (add_any 0 (code.length : Int) q g B pv cv1 pts _ x1 HW2.out (by simp; omega)).mono ?_); rintro e x2 hx2; rw [HF.out] at hx2; obtain ⟨rfl, cv2, hw2, hk2⟩ := hx2; have HX := hid_ (And.intro hw2 hk2); clear hw2 hk2))
  refine bodyPost_ret (v := .tuple #[]) (by simp [results, Try.results49, go_sem]) rfl ?_
  exact ⟨rfl, cv2, HX.out.1, HK2.out.trans HX.out.2⟩

set_option maxRecDepth 100000 in
set_option maxHeartbeats 4000000 in
theorem multiply_any (q : Nat) (next : Int) (g B : Nat) (pv cv : Value) (pts : List Int) (code : List InstS) (w : World) (h : WAt g B pv cv pts code w) (hl : code.length + q ≤ 30000) :
    Calls Try.prog 33 #[.pointer (some ⟨g, 0, none⟩), .int .i64 (q : Int), .int .i64 next] w (EmRan g B pv cv pts (code ++ mulL code.length q next) w) := by
  obtain ⟨A, c, rfl⟩ := own_form h.code
  have HH := hid_ h
  have c1 := h.box.cell 1
  simp at c1
  obtain ⟨S1, hS1⟩ : ∃ x : Int, x = ((code.length + 1 : Nat) : Int) := ⟨_, rfl⟩
  obtain ⟨S2, hS2⟩ : ∃ x : Int, x = ((code.length + 1 + q : Nat) : Int) := ⟨_, rfl⟩
  obtain ⟨S3, hS3⟩ : ∃ x : Int, x = ((code.length + 1 + q + 1 : Nat) : Int) := ⟨_, rfl⟩
  have m1 : IntKind.i64.wrap ((code.length : Int) + 1) = S1 := by rw [IntWalk.i64_in _ (by omega)]; omega
  have m2 : IntKind.i64.wrap (S1 + (q : Int)) = S2 := by rw [IntWalk.i64_in _ (by omega)]; omega
  have m3 : IntKind.i64.wrap (S2 + 1) = S3 := by rw [IntWalk.i64_in _ (by omega)]; omega
  obtain ⟨l1, h1⟩ : ∃ l, l = code ++ [(⟨1, 0, S1, S1⟩ : InstS)] := ⟨_, rfl⟩
  obtain ⟨l2, h2⟩ : ∃ l, l = l1 ++ addL l1.length 1 S2 q := ⟨_, rfl⟩
  obtain ⟨l3, h3⟩ : ∃ l, l = l2 ++ [(⟨1, 0, S1, S3⟩ : InstS)] := ⟨_, rfl⟩
  have e1 : l1.length = code.length + 1 := by rw [h1]; simp
  have e2 : l2.length = code.length + 1 + q := by rw [h2, List.length_append, addL_len, e1]
  have e3 : l3.length = code.length + 1 + q + 1 := by rw [h3, List.length_append, e2]; rfl
  have HF : Hid (l3 ++ mbL l3.length 1 next = code ++ mulL code.length q next) := hid_ (by
    rw [e3, h3, h2, e1, h1, mulL, hS1, hS2, hS3]
    simp)
  have HL1 := hid_ h1
  have HL2 := hid_ h2
  have HL3 := hid_ h3
  clear h h1 h2 h3 hS1 hS2 hS3
  have E1 : ∀ Y cv, WAt g B pv cv pts code Y → Calls Try.prog 35 #[.pointer (some ⟨g, 0, none⟩), .slice (some ⟨Y.heap.size, 0, none⟩) 1 1] (Y.alloc (.cells #[.int .i64 1, .int .i64 0, .int .i64 S1, .int .i64 S1] 48)) (EmRan g B pv cv pts l1 Y) := fun Y cv h => by rw [HL1.out]; exact emit_new ⟨1, 0, S1, S1⟩ g B pv cv pts code Y h (by omega)
  have E2 : ∀ Y cv, WAt g B pv cv pts l1 Y → Calls Try.prog 48 #[.pointer (some ⟨g, 0, none⟩), .int .i64 1, .int .i64 (q : Int), .int .i64 S2] Y (EmRan g B pv cv pts l2 Y) := fun Y cv h => by rw [HL2.out]; exact add_any 1 S2 q g B pv cv pts l1 Y h (by omega)
  have E3 : ∀ Y cv, WAt g B pv cv pts l2 Y → Calls Try.prog 35 #[.pointer (some ⟨g, 0, none⟩), .slice (some ⟨Y.heap.size, 0, none⟩) 1 1] (Y.alloc (.cells #[.int .i64 1, .int .i64 0, .int .i64 S1, .int .i64 S3] 48)) (EmRan g B pv cv pts l3 Y) := fun Y cv h => by rw [HL3.out]; exact emit_new ⟨1, 0, S1, S3⟩ g B pv cv pts l2 Y h (by omega)
  have E4 : ∀ Y cv, WAt g B pv cv pts l3 Y → Calls Try.prog 49 #[.pointer (some ⟨g, 0, none⟩), .int .i64 1, .int .i64 next] Y (EmRan g B pv cv pts (code ++ mulL code.length q next) Y) := fun Y cv h => by rw [← HF.out]; exact moveBack_any 1 next g B pv cv pts l3 Y h (by omega)
  have HE1 := hid_ E1
  have HE2 := hid_ E2
  have HE3 := hid_ E3
  have HE4 := hid_ E4
  clear E1 E2 E3 E4 e1 e2 e3
  go_enter Try.func33, Try.ntmps33
  go_wp2_with (first
    | (go_at_call 35; (with_reducible refine (HE1.out w _ HH.out).mono ?_); rintro e x1 ⟨rfl, cv1, hw1, hk1⟩; have HW1 := hid_ hw1; have HK1 := hid_ hk1; clear hw1 hk1)
    | (go_at_call 48; (with_reducible refine (HE2.out x1 _ HW1.out).mono ?_); rintro e x2 ⟨rfl, cv2, hw2, hk2⟩; have HW2 := hid_ hw2; have HK2 := hid_ (HK1.out.trans hk2); clear hw2 hk2)
    | (go_at_call 35; (with_reducible refine (HE3.out x2 _ HW2.out).mono ?_); rintro e x3 ⟨rfl, cv3, hw3, hk3⟩; have HW3 := hid_ hw3; have HK3 := hid_ (HK2.out.trans hk3); clear hw3 hk3)
    | (go_at_call 49; (with_reducible refine (HE4.out x3 _ HW3.out).mono ?_); rintro e x4 ⟨rfl, cv4, hw4, hk4⟩; have HW4 := hid_ hw4; have HK4 := hid_ (HK3.out.trans hk4); clear hw4 hk4))
  refine bodyPost_ret (v := .tuple #[]) (by simp [results, Try.results33, go_sem]) rfl ?_
  exact ⟨rfl, cv4, HW4.out, HK4.out⟩
end Go.Proofs.Ytonammaecpapmaa.Pp

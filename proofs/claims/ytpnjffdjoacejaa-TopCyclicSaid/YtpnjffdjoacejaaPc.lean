/- Contracts: Letters of package tag. -/
import Derived.Test.YtpnjffdjoacejaaPb
namespace Go.Proofs.Ytpnjffdjoacejaa
open Go.RowKit

theorem own_cap0 {w : World} {g c : Nat} {M : Array Value} {e : TypeId} {base : Nat} (h : w.heap[g]? = some (.cells M e (0, 0))) (hg : base ≤ g) (hM : M.size = c) (hc : c ≤ maxLen) : w.ownsRow base e 1 (.slice (some ⟨g, 0, none⟩) 0 c) 0 [] :=
  ⟨rfl, .inr ⟨g, c, M, rfl, hg, h, Nat.zero_le _, hc, by simp [hM], by simp⟩⟩
theorem block_elems {w : World} {B b off n c F r : Nat} {bits : List Int} (h : Elems w B (.slice (some ⟨b, off, none⟩) n c) (ints bits)) (hn : 0 < n) (hF : F + r ≤ n) (c' : Nat) : Elems w B (.slice (some ⟨b, off + F, none⟩) r c') (ints ((bits.drop F).take r)) := by
  have hl := h.len
  rw [ints_len] at hl
  obtain ⟨b', off', e, hb, hcell⟩ := h.at_ hn
  simp only [Option.some.injEq, Addr.mk.injEq, and_true] at e
  obtain ⟨rfl, rfl⟩ := e
  have hl2 : (ints ((bits.drop F).take r)).length = r := by rw [ints_len, List.length_take, List.length_drop]; omega
  refine .inr ⟨b, off + F, c', by rw [hl2], hb, fun k u hu => ?_⟩
  have hk : k < r := by have := (List.getElem?_eq_some_iff.1 hu).1; omega
  simp only [ints, List.map_take, List.map_drop] at hu
  rw [List.getElem?_take, if_pos hk, List.getElem?_drop] at hu
  rw [Nat.add_assoc]
  exact hcell _ u hu

section
variable (t : TagS) (bits : List Int) (v2 v3 : Value) (A : Option Addr) (c : Nat) (w : World)
set_option maxRecDepth 100000 in
set_option maxHeartbeats 2000000 in
theorem letters_bad (ht : TagIn w w.heap.size v2 v3 t) (hv : validT t = false) :
    Calls Try.prog 34 #[.agg #[.int .i64 t.del, v2, v3], .slice A bits.length c] w (SRan w ⟨[], 0, 1⟩) := by
  have HT := hid_ ht
  have HV := hid_ hv
  clear ht hv
  go_enter Try.func34, Try.ntmps34
  go_wp2_with fail
  refine (valid_any t v2 v3 _ (HT.out.to (below1 w _))).mono ?_
  rw [HV.out]
  rintro e w1 ⟨rfl, hb1⟩
  obtain ⟨p0, p1, p2, hz, hw1⟩ := box3 hb1
  go_wp2_with fail
  go_ret2
  exact ⟨_, rfl, Elems.nil _ _, hw1⟩

set_option maxRecDepth 100000 in
set_option maxHeartbeats 2000000 in
theorem letters_mod (ht : TagIn w w.heap.size v2 v3 t) (hv : validT t = true) (hl : bits.length ≤ 1000000) (hm : bits.length % t.rules.length ≠ 0) :
    Calls Try.prog 34 #[.agg #[.int .i64 t.del, v2, v3], .slice A bits.length c] w (SRan w ⟨[], 0, 2⟩) := by
  have HT := hid_ ht
  have HV := hid_ hv
  obtain ⟨_, _, r1, r2, _, _⟩ := validT_parts hv
  obtain ⟨A2, c2, rfl⟩ := ht.rules.form
  have hmi : ((bits.length : Int) % (t.rules.length : Int) != 0) = true := by
    simp only [bne_iff_ne, ne_eq]
    omega
  have t1 : 0 < (t.rules.length : Int) := by omega
  have t2 : ¬ t.rules = [] := fun e => by rw [e] at r1; simp at r1
  clear ht hv hm
  go_enter Try.func34, Try.ntmps34
  go_wp2_with fail
  refine (valid_any t _ v3 _ (HT.out.to (below1 w _))).mono ?_
  rw [HV.out]
  rintro e w1 ⟨rfl, hb1⟩
  obtain ⟨p0, p1, p2, hz, hw1⟩ := box3 hb1
  go_wp2_with fail
  go_ret2
  exact ⟨_, rfl, Elems.nil _ _, hw1⟩
end

set_option maxRecDepth 100000 in
set_option maxHeartbeats 4000000 in
theorem letters_go (t : TagS) (bits : List Int) (v2 v3 : Value) (A : Option Addr) (c : Nat) (w : World) (ht : TagIn w w.heap.size v2 v3 t) (hq : Elems w w.heap.size (.slice A bits.length c) (ints bits)) (hcap : bits.length ≤ c) (hv : validT t = true) (hl : bits.length ≤ 1000000) (hm : bits.length % t.rules.length = 0) :
    Calls Try.prog 34 #[.agg #[.int .i64 t.del, v2, v3], .slice A bits.length c] w (SRan w (lettersS t bits)) := by
  obtain ⟨del, rules, stops⟩ := t
  have HT := hid_ ht
  have HV := hid_ hv
  have HQ := hid_ hq
  obtain ⟨_, _, r1, r2, _, _⟩ := validT_parts hv
  simp only at r1 r2 hm ⊢
  obtain ⟨A2, c2, rfl⟩ := ht.rules.form
  simp only at HT
  obtain ⟨M, hM⟩ : ∃ M, M = bits.length / rules.length := ⟨_, rfl⟩
  have hMr : M * rules.length = bits.length := by rw [hM]; exact Nat.div_mul_cancel (Nat.dvd_of_mod_eq_zero hm)
  have hMb : M ≤ bits.length := by rw [hM]; exact Nat.div_le_self _ _
  have HLS : Hid (lettersS ⟨del, rules, stops⟩ bits = match lettersK rules.length bits M with | none => ⟨[], 0, 2⟩ | some L => ⟨L, 0, 0⟩) := hid_ (by rw [lettersS, if_neg (by rw [hv]; simp), if_neg (by simp only; omega), hM]; rfl)
  have hmi : (bits.length : Int) % (rules.length : Int) = 0 := by omega
  have hdi : (bits.length : Int) / (rules.length : Int) = (M : Int) := by rw [hM]; simp
  have t1 : 0 < (rules.length : Int) := by omega
  have t2 : ¬ rules = [] := fun e => by rw [e] at r1; simp at r1
  obtain ⟨i0, hi, hz0, hz1, hz2⟩ := info_parts Try.infoI
  obtain ⟨MC, hMC⟩ : ∃ MC, MC = madeCells (Value.int .i64 0).cells (M * 1) := ⟨_, rfl⟩
  have hmk : ∀ X : World, (Instr.makeSlice 26 (.int .i64 0) (.int .i64 M)).run Try.prog X = .ok (.slice (some ⟨X.heap.size, 0, none⟩) 0 M) (X.alloc (.cells MC 3)) := fun X => by
    have := run_make (P := Try.prog) (w := X) 26 3 i0 (.int .i64 0) Try.underlying26 hi hz0 .i64 .i64 0 M (by omega) (by omega) (by rw [hz2]; omega) (by omega)
    rw [hz1, Int.toNat_natCast, ← hMC] at this
    exact this
  have HMC := hid_ hMC
  have HMR := hid_ hMr
  clear ht hq hv hm hM hMr hMC
  go_enter Try.func34, Try.ntmps34
  go_wp2_with fail
  refine (valid_any ⟨del, rules, stops⟩ _ v3 _ (HT.out.to (below1 w _))).mono ?_
  rw [HV.out]
  rintro e w1 ⟨rfl, hb1⟩
  obtain ⟨p0, p1, p2, hz, hw1⟩ := box3 hb1
  clear hb1
  have hmx : M ≤ maxLen := by unfold maxLen; omega
  have HOWN : Hid ((w1.alloc (.cells MC 3)).ownsRow w1.heap.size 3 1 (.slice (some ⟨w1.heap.size, 0, none⟩) 0 M) 0 (ints [])) := hid_ (own_cap0 (heap_alloc_new w1 _) (Nat.le_refl _) (by rw [HMC.out]; simp [size_madeCells, Value.cells]) hmx)
  have HB1 : Hid (Below w1.heap.size w1 (w1.alloc (.cells MC 3))) := hid_ (below1 w1 _)
  generalize hX0 : w1.alloc (.cells MC 3) = X0 at HOWN HB1
  have HX0 := hid_ hX0
  clear hX0 hmx
  go_upto_block 0 with fail
  rw [HX0.out]
  clear hmk HMC HX0 hmi hdi
  go_wp2_with fail
  go_loopw [7, 8] (fun s7 s8 wr => ∃ (k F : Nat) (L : List Int), s8 = .int .i64 ((F : Nat) : Int) ∧ k ≤ M ∧ F ≤ bits.length ∧ Hid (F = k * rules.length) ∧ Hid (L.length = k) ∧ Hid (wr.ownsRow w1.heap.size 3 1 s7 k (ints L)) ∧ Hid (lettersK rules.length bits k = some L) ∧ Below w1.heap.size w1 wr) (fun _ s _ => bits.length - (intOf s).toNat)
  case atStart => exact ⟨0, 0, [], rfl, Nat.zero_le _, Nat.zero_le _, hid_ (by simp), hid_ rfl, HOWN, hid_ rfl, HB1.out⟩
  case round =>
    obtain ⟨k, F, L, rfl, hk, hFb, HF, HLL, HO, HK, hbr⟩ := hrel
    have hwr := bnext hw1 hbr
    by_cases hlt : F < bits.length
    · have hkM : k < M := by
        rcases Nat.lt_or_ge k M with h | h
        · exact h
        · have := Nat.mul_le_mul_right rules.length h
          have h1 := HMR.out
          have h2 := HF.out
          omega
      have hFr : F + rules.length ≤ bits.length := by
        have h3 : (k + 1) * rules.length ≤ M * rules.length := Nat.mul_le_mul_right _ hkM
        rw [Nat.add_mul, Nat.one_mul, HMR.out, ← HF.out] at h3
        exact h3
      obtain ⟨b, off, rfl, hb, hc⟩ := HQ.out.at_ (by omega)
      have u1 : 0 ≤ (F : Int) := by omega
      have u2 : (F : Int) + (rules.length : Int) ≤ bits.length := by omega
      have u3 : (F : Int) + (rules.length : Int) ≤ c := by omega
      have u4 : (F : Int) ≤ (F : Int) + (rules.length : Int) := by omega
      have u5 : ((F : Int) + (rules.length : Int)).toNat = F + rules.length := by omega
      have u6 : ¬ c = F := by omega
      have u7 : F + rules.length - F = rules.length := by omega
      have HBL := hid_ (fun c' => (block_elems HQ.out (show 0 < bits.length by omega) hFr c'))
      clear hc
      go_wp2_with fail
      have hbl : ((bits.drop F).take rules.length).length = rules.length := by rw [List.length_take, List.length_drop]; omega
      have HE : Hid (Elems wr wr.heap.size (.slice (some ⟨b, off + F, none⟩) rules.length (c - F)) (ints (blockL rules.length bits k))) := hid_ (by
        have h := (HBL.out (c - F)).to hwr
        rw [blockL, ← HF.out]
        exact h)
      have HBLL : Hid ((blockL rules.length bits k).length ≤ 1000000) := hid_ (by rw [blockL, ← HF.out, hbl]; omega)
      clear hbl HBL
      refine (decoded_any (blockL rules.length bits k) _ wr HE.out HBLL.out).mono ?_
      rintro e we ⟨⟨x, rfl, hxi⟩, rfl⟩
      cases hd : decL (blockL rules.length bits k) with
      | none =>
        have HD := hid_ hd
        rw [show (none : Option Nat).isSome = false from rfl]
        clear hd hxi
        go_wp2_with fail
        go_ret2
        rw [HLS.out, letters_none (letters_fail HK.out HD.out) M (by omega)]
        exact ⟨_, rfl, Elems.nil _ _, hwr⟩
      | some i =>
        have HD := hid_ hd
        obtain rfl := hxi i hd
        rw [show (some i).isSome = true from rfl]
        clear hd hxi
        obtain ⟨A7, c7, rfl⟩ := own_form HO.out
        have HU : Hid (Elems (wr.alloc (.cells #[.int .i64 (i : Int)] 3)) (wr.alloc (.cells #[.int .i64 (i : Int)] 3)).heap.size (.slice (some ⟨wr.heap.size, 0, none⟩) 1 1) (ints [(i : Int)])) := hid_ (blk_elems (Blk.new wr _ _) rfl)
        have HO2 := hid_ (HO.out.alloc (.cells #[.int .i64 (i : Int)] 3))
        have hbz := hbr.size
        go_wp2_with (at_builtin; refine wpList_append_e rfl _ _ 26 rfl 3 i0 (.int .i64 0) 8 Try.underlying26 hi hz0 hz1 hz2 rfl rfl rfl HO2.out HU.out ints_one ?h63 ?hby ?hbs ?_)
        case h63 => simp only [ints_len, List.length_cons, List.length_nil]; unfold maxLen; omega
        case hby => simp only [ints_len, List.length_cons, List.length_nil]; omega
        case hbs => simp; omega
        intro v' w' hown hg hat
        have HO3 : Hid (w'.ownsRow w1.heap.size 3 1 v' (k + 1) (ints (L ++ [(i : Int)]))) := hid_ (by simpa [ints, ints_len] using hown)
        have hb3 : Below w1.heap.size w1 w' := (hbr.alloc hbr.size _).grown hg (by simp; omega) (own_lt HO.out)
        clear hown hg hat
        go_wp2_with fail
        go_roundw
        case rel => exact ⟨k + 1, F + rules.length, L ++ [(i : Int)], by go_num, by omega, hFr, hid_ (by rw [HF.out, Nat.add_mul, Nat.one_mul]), hid_ (by simp [HLL.out]), HO3, hid_ (letters_some HK.out HD.out), hb3⟩
        case measure => simp [intOf]; omega
    · have hkM : Hid (k = M) := hid_ (by
        rcases Nat.lt_or_ge k M with h | h
        · have h3 : (k + 1) * rules.length ≤ M * rules.length := Nat.mul_le_mul_right _ h
          rw [Nat.add_mul, Nat.one_mul, HMR.out, ← HF.out] at h3
          omega
        · omega)
      go_wp2_with fail
      go_ret2
      rw [HLS.out, ← hkM.out, HK.out]
      exact ⟨_, rfl, own_any HO.out, hwr⟩

theorem letters2_any (t : TagS) (bits : List Int) (v2 v3 : Value) (A : Option Addr) (c : Nat) (w : World) (ht : TagIn w w.heap.size v2 v3 t) (hq : Elems w w.heap.size (.slice A bits.length c) (ints bits)) (hcap : bits.length ≤ c) (hl : bits.length ≤ 1000000) :
    Calls Try.prog 34 #[.agg #[.int .i64 t.del, v2, v3], .slice A bits.length c] w (SRan w (lettersS t bits)) := by
  cases hv : validT t with
  | false =>
    rw [lettersS, if_pos hv]
    exact letters_bad t bits v2 v3 A c w ht hv
  | true =>
    by_cases hm : bits.length % t.rules.length = 0
    · exact letters_go t bits v2 v3 A c w ht hq hcap hv hl hm
    · rw [lettersS, if_neg (by rw [hv]; simp), if_pos hm]
      exact letters_mod t bits v2 v3 A c w ht hv hl hm
end Go.Proofs.Ytpnjffdjoacejaa

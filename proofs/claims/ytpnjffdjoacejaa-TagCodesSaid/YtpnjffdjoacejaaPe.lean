/- Contracts: the specification's Letters. -/
import Derived.Test.YtpnjffdjoacejaaPd
namespace Go.Proofs.Ytpnjffdjoacejaa
open Go.RowKit

def rlettersS (r : Nat) (bits : List Int) : Option (List Int) := if bits.length % r ≠ 0 then none else lettersK r bits (bits.length / r)
/-- What the specification's Letters leaves. -/
def RLRan (w : World) (o : Option (List Int)) (e : Ending) (w' : World) : Prop :=
  ∃ v, e = .returned (.tuple #[v, .bool o.isSome]) ∧ Elems w' w'.heap.size v (ints (o.getD [])) ∧ Below w.heap.size w w'
/-- The number that the specification keeps. -/
def SeenAt (s : Seen) (a : Int) : Prop := match s with
  | .zero => a = -1
  | .one i => a = i
  | .bad => False

set_option maxRecDepth 100000 in
set_option maxHeartbeats 2000000 in
theorem rletters_mod (bits : List Int) (r : Nat) (A : Option Addr) (c : Nat) (w : World) (hl : bits.length ≤ 1000000) (r1 : 1 ≤ r) (r2 : r ≤ 600) (hm : bits.length % r ≠ 0) :
    Calls Try.prog 36 #[.slice A bits.length c, .int .i64 r] w (RLRan w none) := by
  have hmi : ((bits.length : Int) % (r : Int) != 0) = true := by
    simp only [bne_iff_ne, ne_eq]
    omega
  have t1 : 0 < (r : Int) := by omega
  have t2 : ¬ r = 0 := by omega
  go_enter Try.func36, Try.ntmps36
  go_wp2_with fail
  go_ret2
  exact ⟨_, rfl, Elems.nil _ _, Below.refl _ _⟩

set_option maxRecDepth 100000 in
set_option maxHeartbeats 4000000 in
theorem rletters_go (bits : List Int) (r : Nat) (A : Option Addr) (c : Nat) (w : World) (hq : Elems w w.heap.size (.slice A bits.length c) (ints bits)) (hl : bits.length ≤ 1000000) (r1 : 1 ≤ r) (r2 : r ≤ 600) (hm : bits.length % r = 0) :
    Calls Try.prog 36 #[.slice A bits.length c, .int .i64 r] w (RLRan w (lettersK r bits (bits.length / r))) := by
  obtain ⟨i0, hi, hz0, hz1, hz2⟩ := info_parts Try.infoI
  have HQ := hid_ hq
  obtain ⟨M, hM⟩ : ∃ M, M = bits.length / r := ⟨_, rfl⟩
  have hMr : M * r = bits.length := by rw [hM]; exact Nat.div_mul_cancel (Nat.dvd_of_mod_eq_zero hm)
  rw [← hM]
  have hmi : ((bits.length : Int) % (r : Int)) = 0 := by omega
  have t1 : 0 < (r : Int) := by omega
  have t2 : ¬ r = 0 := by omega
  have HMR := hid_ hMr
  clear hq hm hM hMr
  go_enter Try.func36, Try.ntmps36
  go_wp2_with fail
  clear hmi
  go_loopw [6, 7] (fun s7 s8 wr => ∃ (k F : Nat) (L : List Int), s8 = .int .i64 ((F : Nat) : Int) ∧ k ≤ M ∧ F ≤ bits.length ∧ Hid (F = k * r) ∧ Hid (L.length = k) ∧ Hid (wr.ownsRow w.heap.size 3 1 s7 k (ints L)) ∧ Hid (lettersK r bits k = some L) ∧ Below w.heap.size w wr) (fun _ s _ => bits.length - (intOf s).toNat)
  case atStart => exact ⟨0, 0, [], rfl, Nat.zero_le _, Nat.zero_le _, hid_ (by simp), hid_ rfl, hid_ (own_nil _ _ _), hid_ rfl, Below.refl _ _⟩
  case round =>
    obtain ⟨k, F, L, rfl, hk, hFb, HF, HLL, HO, HK, hbr⟩ := hrel
    have hMb : M ≤ bits.length := by have h1 := HMR.out; have h2 := Nat.le_mul_of_pos_right M (show 0 < r by omega); omega
    obtain ⟨wo, rfl⟩ : ∃ wo : World, wo = wr := ⟨_, rfl⟩
    by_cases hlt : F < bits.length
    · have hkM : k < M := by
        rcases Nat.lt_or_ge k M with h | h
        · exact h
        · have := Nat.mul_le_mul_right r h
          have h1 := HMR.out
          have h2 := HF.out
          omega
      have hFr : F + r ≤ bits.length := by
        have h3 : (k + 1) * r ≤ M * r := Nat.mul_le_mul_right _ hkM
        rw [Nat.add_mul, Nat.one_mul, HMR.out, ← HF.out] at h3
        exact h3
      obtain ⟨b, off, rfl, hb, hc⟩ := HQ.out.at_ (by omega)
      have HC := hid_ hc
      have HBL : Hid (∀ m x, m < r → bits[F + m]? = some x → (blockL r bits k)[m]? = some x) := hid_ (fun m x hm hx => by
        rw [blockL, ← HF.out, List.getElem?_take, if_pos hm, List.getElem?_drop]
        exact hx)
      have HBN : Hid ((blockL r bits k).length = r) := hid_ (by rw [blockL, ← HF.out, List.length_take, List.length_drop]; omega)
      clear hc
      go_wp2_with fail
      go_loop [8, 9] (fun s8 s9 => ∃ (m : Nat) (a : Int), s9 = .int .i64 ((m : Nat) : Int) ∧ s8 = .int .i64 a ∧ m ≤ r ∧ Hid (SeenAt (seenK (blockL r bits k) m) a)) (fun _ s => r - (intOf s).toNat)
      case atStart => exact ⟨0, -1, rfl, rfl, Nat.zero_le _, hid_ rfl⟩
      case round =>
        obtain ⟨m, a, rfl, rfl, hm, HA⟩ := hrel
        by_cases hmr : m < r
        · obtain ⟨x, hx⟩ : ∃ x, bits[F + m]? = some x := ⟨_, List.getElem?_eq_getElem (by omega)⟩
          have i1 := (hbr.cell (p := ⟨b, off + (F + m), none⟩) hb).trans (HC.out (F + m) _ (ints_at hx))
          have HX := hid_ (HBL.out m x hmr hx)
          have u1 : 0 ≤ (F : Int) + (m : Int) := by omega
          have u2 : (F : Int) + (m : Int) < bits.length := by omega
          have u3 : ((F : Int) + (m : Int)).toNat = F + m := by omega
          clear hx
          by_cases hx0 : x = 0
          · subst hx0
            go_wp2_with fail
            go_round
            case rel => exact ⟨m + 1, a, by go_num, rfl, by omega, hid_ (by rw [seen_step HX.out, next_zero]; exact HA.out)⟩
            case measure => simp [intOf]; omega
          · by_cases hx1 : x = 1
            · subst hx1
              cases hs : seenK (blockL r bits k) m with
              | zero =>
                have HS := hid_ hs
                have ha : a = -1 := by have := HA.out; rw [hs] at this; exact this
                subst ha
                clear hs
                go_wp2_with fail
                go_round
                case rel => exact ⟨m + 1, m, by go_num, rfl, by omega, hid_ (by rw [seen_step HX.out, HS.out, next_first]; rfl)⟩
                case measure => simp [intOf]; omega
              | one i =>
                have HS := hid_ hs
                have ha : a = (i : Int) := by have := HA.out; rw [hs] at this; exact this
                subst ha
                have ha2 : ¬ (i : Int) < 0 := by omega
                have ha3 : decide ((i : Int) < 0) = false := decide_eq_false ha2
                clear hs
                go_wp2_with fail
                go_ret2
                rw [letters_none (letters_fail HK.out (dec_bad (k := m + 1) (by rw [seen_step HX.out, HS.out, next_second]) (by rw [HBN.out]; omega))) M (by omega)]
                exact ⟨_, rfl, Elems.nil _ _, hbr⟩
              | bad => exact absurd HA.out (by rw [hs]; exact fun h => h)
            · have hx2 : (x == 1) = false := by simpa using hx1
              have hx3 : (x != 0) = true := by simpa using hx0
              have HX0 := hid_ hx0
              have HX1 := hid_ hx1
              go_wp2_with fail
              go_ret2
              rw [letters_none (letters_fail HK.out (dec_bad (k := m + 1) (by rw [seen_step HX.out, next_other _ _ HX0.out HX1.out]) (by rw [HBN.out]; omega))) M (by omega)]
              exact ⟨_, rfl, Elems.nil _ _, hbr⟩
        · have HAE : Hid (SeenAt (seenK (blockL r bits k) (blockL r bits k).length) a) := hid_ (by
            have h := HA.out
            have e : (blockL r bits k).length = m := by have := HBN.out; omega
            rw [e]
            exact h)
          have hmr2 : ((m : Int) < (r : Int)) = False := by simp; omega
          clear HA
          cases hs : seenK (blockL r bits k) (blockL r bits k).length with
          | zero =>
            have ha : a = -1 := by have := HAE.out; rw [hs] at this; exact this
            subst ha
            have HD : Hid (decL (blockL r bits k) = none) := hid_ (by rw [decL, hs])
            clear hs
            go_wp2_with fail
            go_ret2
            rw [letters_none (letters_fail HK.out HD.out) M (by omega)]
            exact ⟨_, rfl, Elems.nil _ _, hbr⟩
          | one i =>
            have ha : a = (i : Int) := by have := HAE.out; rw [hs] at this; exact this
            subst ha
            have HD : Hid (decL (blockL r bits k) = some i) := hid_ (by rw [decL, hs])
            have ha2 : ¬ (i : Int) < 0 := by omega
            obtain ⟨A7, c7, rfl⟩ := own_form HO.out
            have HU : Hid (Elems (wo.alloc (.cells #[.int .i64 (i : Int)] 3)) (wo.alloc (.cells #[.int .i64 (i : Int)] 3)).heap.size (.slice (some ⟨wo.heap.size, 0, none⟩) 1 1) (ints [(i : Int)])) := hid_ (blk_elems (Blk.new wo _ _) rfl)
            have HO2 := hid_ (HO.out.alloc (.cells #[.int .i64 (i : Int)] 3))
            have hbz := hbr.size
            clear hs
            go_wp2_with (at_builtin; refine wpList_append_e rfl _ _ 26 rfl 3 i0 (.int .i64 0) 8 Try.underlying26 hi hz0 hz1 hz2 rfl rfl rfl HO2.out HU.out ints_one ?h63 ?hby ?hbs ?_)
            case h63 => simp only [ints_len, List.length_cons, List.length_nil]; unfold maxLen; omega
            case hby => simp only [ints_len, List.length_cons, List.length_nil]; omega
            case hbs => omega
            intro v' w' hown hg hat
            have HO3 : Hid (w'.ownsRow w.heap.size 3 1 v' (k + 1) (ints (L ++ [(i : Int)]))) := hid_ (by simpa [ints, ints_len] using hown)
            have hb3 : Below w.heap.size w w' := (hbr.alloc hbr.size _).grown hg (by simp; omega) (own_lt HO.out)
            clear hown hg hat
            go_wp2_with fail
            go_roundw
            case rel => exact ⟨k + 1, F + r, L ++ [(i : Int)], by go_num, by omega, hFr, hid_ (by rw [HF.out, Nat.add_mul, Nat.one_mul]), hid_ (by simp [HLL.out]), HO3, hid_ (letters_some HK.out HD.out), hb3⟩
            case measure => simp [intOf]; omega
          | bad => exact absurd HAE.out (by rw [hs]; exact fun h => h)
    · have hkM : Hid (k = M) := hid_ (by
        rcases Nat.lt_or_ge k M with h | h
        · have h3 : (k + 1) * r ≤ M * r := Nat.mul_le_mul_right _ h
          rw [Nat.add_mul, Nat.one_mul, HMR.out, ← HF.out] at h3
          omega
        · omega)
      go_wp2_with fail
      go_ret2
      rw [← hkM.out, HK.out]
      exact ⟨_, rfl, own_any HO.out, hbr⟩

theorem rletters_any (bits : List Int) (r : Nat) (A : Option Addr) (c : Nat) (w : World) (hq : Elems w w.heap.size (.slice A bits.length c) (ints bits)) (hl : bits.length ≤ 1000000) (r1 : 1 ≤ r) (r2 : r ≤ 600) :
    Calls Try.prog 36 #[.slice A bits.length c, .int .i64 r] w (RLRan w (rlettersS r bits)) := by
  by_cases hm : bits.length % r = 0
  · rw [rlettersS, if_neg (by omega)]
    exact rletters_go bits r A c w hq hl r1 r2 hm
  · rw [rlettersS, if_pos hm]
    exact rletters_mod bits r A c w hl r1 r2 hm
theorem letters_both {t : TagS} {bits : List Int} (hv : validT t = true) : lettersS t bits = ⟨(rlettersS t.rules.length bits).getD [], 0, if (rlettersS t.rules.length bits).isSome = true then 0 else 2⟩ := by
  rw [lettersS, if_neg (by rw [hv]; simp), rlettersS]
  split
  · rfl
  · cases lettersK t.rules.length bits (bits.length / t.rules.length) <;> rfl
end Go.Proofs.Ytpnjffdjoacejaa

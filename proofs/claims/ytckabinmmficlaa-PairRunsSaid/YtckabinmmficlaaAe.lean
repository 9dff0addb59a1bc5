/- Contracts: Decode of the program and of the specification. -/
import Derived.Test.YtckabinmmficlaaAd
namespace Go.Proofs.Ytckabinmmficlaa.Pp
open Go.RowKit

theorem made_ints (n : Nat) : (madeCells (Value.int .i64 0).cells (n * 1)).toList = ints (List.replicate n 0) := by
  rw [Nat.mul_one]
  refine (toList_madeCells_one _ _).trans ?_
  simp [ints]


def cells8 (d : List Nat) (z : Nat) : Array Value := (ints (d.map (fun x : Nat => (x : Int)) ++ List.replicate z 0)).toArray
theorem cells8_start (d : List Nat) (z : Nat) : cells8 d (z + 1) = cells8 (d ++ [0]) z := by
  unfold cells8
  congr 2
  rw [List.map_append, List.append_assoc]
  rfl
theorem cells8_at (d : List Nat) (c z : Nat) : (cells8 (d ++ [c]) z)[d.length]? = some (.int .i64 (c : Int)) := by
  simp [cells8, ints]
theorem cells8_set (d : List Nat) (c x z : Nat) : (cells8 (d ++ [c]) z).setIfInBounds d.length (.int .i64 (x : Int)) = cells8 (d ++ [x]) z := by
  apply Array.ext'
  simp [cells8, ints]
theorem cells8_inc (d : List Nat) (c z : Nat) : (cells8 (d ++ [c]) z).setIfInBounds d.length (.int .i64 ((c : Int) + 1)) = cells8 (d ++ [c + 1]) z := by
  have := cells8_set d c (c + 1) z
  rwa [Int.natCast_add] at this
theorem divF_le (p : Nat) : ∀ f n, (divF p f n).1 ≤ f
  | 0, n => Nat.le_refl _
  | f + 1, n => by
    rw [divF]
    split
    · have := divF_le p f (n / p); simp only; omega
    · simp
def decC (n r : Int) : List Int × Int := if n < 1 ∨ 1152921504606846976 < n ∨ r < 1 ∨ 6 < r then ([], 2) else if (decS 0 r.toNat n.toNat).2 = 1 then ((decS 0 r.toNat n.toNat).1.map (fun x : Nat => (x : Int)), 0) else ([], 6)
def DecRan (l : List Int) (x : Value) (w : World) (e : Ending) (w' : World) : Prop :=
  ∃ v, e = .returned (.tuple #[v, x]) ∧ Elems w' w'.heap.size v (ints l) ∧ Below w.heap.size w w'
set_option maxRecDepth 100000 in
set_option maxHeartbeats 4000000 in
theorem decode_go (N R : Nat) (w : World) (hN1 : 1 ≤ N) (hN2 : N ≤ 1152921504606846976) (hR1 : 1 ≤ R) (hR6 : R ≤ 6) :
    Calls Try.prog 9 #[.int .i64 (N : Int), .int .i64 (R : Int)] w (DecRan (decC N R).1 (.int .i64 (decC N R).2) w) := by
  obtain ⟨i0, hi, hz0, hz1, hz2⟩ := info_parts Try.infoI
  have hmk : ∀ Y : World, (Instr.makeSlice 22 (.int .i64 (R : Int)) (.int .i64 (R : Int))).run Try.prog Y = .ok (.slice (some ⟨Y.heap.size, 0, none⟩) R R) (Y.alloc (.cells (cells8 [] R) 3)) := fun Y => by
    have := run_make (P := Try.prog) (w := Y) 22 3 i0 (.int .i64 0) Try.underlying22 hi hz0 .i64 .i64 R R (by omega) (by omega) (by rw [hz2]; omega) (by omega)
    rw [hz1, Int.toNat_natCast, show madeCells (Value.int .i64 0).cells (R * 1) = cells8 [] R from Array.ext' ((made_ints R).trans (by simp [cells8]))] at this
    exact this
  have u1 : ¬ (N : Int) < 1 := by omega
  have u2 : ¬ (1152921504606846976 : Int) < (N : Int) := by omega
  have u3 : ¬ (R : Int) < 1 := by omega
  have u4 : ¬ (6 : Int) < (R : Int) := by omega
  have HDC : Hid (decC N R = if (decS 0 R N).2 = 1 then ((decS 0 R N).1.map (fun x : Nat => (x : Int)), 0) else ([], 6)) := hid_ (by
    rw [decC, if_neg (by omega)]
    rfl)
  go_enter Try.func9, Try.ntmps9
  go_upto_region 4 with fail
  have HG0 : Hid (Blk (w.alloc (.cells (cells8 [] R) 3)) w.heap.size 3 (cells8 [] (R - 0))) := hid_ (Blk.new w _ _)
  have hbG := below1 w (.cells (cells8 [] R) 3)
  have hG : w.heap.size ≤ w.heap.size := Nat.le_refl _
  generalize w.alloc (.cells (cells8 [] R) 3) = W at *
  clear hmk u1 u2 u3 u4
  go_wp2_with fail
  go_loopw [26, 0] (fun a b wr => ∃ (k n : Nat) (d : List Nat), a = .int .i64 (k : Int) ∧ b = .int .i64 (n : Int) ∧ k ≤ R ∧ d.length = k ∧ Hid (Blk wr w.heap.size 3 (cells8 d (R - k))) ∧ Hid (decS 0 R N = (d ++ (decS k (R - k) n).1, (decS k (R - k) n).2)) ∧ 1 ≤ n ∧ n ≤ 1152921504606846976 ∧ Below w.heap.size w wr) (fun a _ _ => R - (intOf a).toNat)
  case atStart => exact ⟨0, N, [], rfl, rfl, Nat.zero_le _, rfl, HG0, hid_ (by simp), hN1, hN2, hbG⟩
  case round =>
    clear HG0 hbG
    obtain ⟨k, n, d, rfl, rfl, hk, hd, HG, HA, hn1, hn2, hbr⟩ := hrel
    by_cases hlt : k < R
    · have t0 : 0 ≤ (k : Int) := by omega
      have tk : (k : Int) < (R : Int) := by omega
      have hk6 : k < 6 := by omega
      have tk6 : (k : Int) < 6 := by omega
      obtain ⟨p, hp⟩ : ∃ p, p = primeN k := ⟨_, rfl⟩
      have hp2 : 2 ≤ p ∧ p ≤ 13 := by rw [hp]; exact primeN_le hk6
      have HPP := hid_ hp
      have p0 : ¬ (p : Int) = 0 := by omega
      obtain ⟨Z, hZ⟩ : ∃ Z, R - k = Z + 1 := ⟨R - k - 1, by omega⟩
      have HZ : Hid (Z = R - (k + 1)) := hid_ (by omega)
      have HG1 : Hid (Blk wr w.heap.size 3 (cells8 (d ++ [0]) Z)) := hid_ (by have := HG.out; rwa [hZ, cells8_start] at this)
      obtain ⟨nk, hnk⟩ : ∃ x, x = n := ⟨_, rfl⟩
      have HD : Hid (decS 0 R N = (d ++ (divS p nk).1 :: (decS (k + 1) Z (divS p nk).2).1, (decS (k + 1) Z (divS p nk).2).2)) := hid_ (by rw [HA.out, hZ, decS, hp, hnk])
      have HC0 : Hid (divS p nk = (0 + (divS p n).1, (divS p n).2)) := hid_ (by rw [hnk]; simp)
      have hcb : (divS p nk).1 ≤ 1152921504606846976 := Nat.le_trans (divF_le p nk nk) (by omega)
      have HCB := hid_ hcb
      obtain ⟨V, rfl⟩ : ∃ X : World, X = wr := ⟨_, rfl⟩
      clear HG HA hp hZ hnk hcb
      have KPR : Hid (∀ Y, Calls Try.prog 23 #[.int .i64 (k : Int)] Y fun e w' => e = .returned (.int .i64 (p : Int)) ∧ Y = w') := hid_ (fun Y => by rw [HPP.out]; exact (prime_any k hk6 Y).mono (fun e w' h => ⟨h.1, h.2.symm⟩))
      go_wp2_with fail
      go_loopw [0] (fun a wx => ∃ n c : Nat, a = .int .i64 (n : Int) ∧ Hid (Blk wx w.heap.size 3 (cells8 (d ++ [c]) Z)) ∧ Hid (divS p nk = (c + (divS p n).1, (divS p n).2)) ∧ 1 ≤ n ∧ n ≤ 1152921504606846976 ∧ Below w.heap.size w wx) (fun a _ => (intOf a).toNat)
      case atStart => exact ⟨n, 0, rfl, HG1, HC0, hn1, hn2, hbr⟩
      case round =>
        clear HG1 HC0 hn1 hn2 hbr
        obtain ⟨n, c, rfl, HG, HC, hn1, hn2, hbr⟩ := hrel
        have m1 : (n : Int).tmod (p : Int) = ((n % p : Nat) : Int) := by rw [Int.tmod_eq_emod_of_nonneg (by omega)]; rfl
        by_cases hm : n % p = 0
        · have tm : (((n % p : Nat) : Int) == 0) = true := by rw [hm]; rfl
          have m2 : (n : Int).tdiv (p : Int) = ((n / p : Nat) : Int) := by rw [Int.tdiv_eq_ediv_of_nonneg (by omega)]; rfl
          obtain ⟨hst, hq1, hq2⟩ := divS_step hp2.1 hn1 hm
          have HC1 : Hid (divS p nk = (c + 1 + (divS p (n / p)).1, (divS p (n / p)).2)) := hid_ (by rw [HC.out, hst]; simp only [Prod.mk.injEq, and_true]; omega)
          have hc : c + 1 ≤ 1152921504606846976 := by have h := HC1.out; have h2 := HCB.out; rw [h] at h2; simp only at h2; omega
          have m3 : IntKind.i64.wrap ((n / p : Nat) : Int) = ((n / p : Nat) : Int) := IntWalk.i64_in _ (by omega)
          have m4 : IntKind.i64.wrap ((c : Int) + 1) = ((c + 1 : Nat) : Int) := by rw [IntWalk.i64_in _ (by omega)]; omega
          obtain ⟨rm, hrm⟩ : ∃ x, x = n % p := ⟨_, rfl⟩
          obtain ⟨nq, hnq⟩ : ∃ x, x = n / p := ⟨_, rfl⟩
          rw [← hrm] at tm m1
          rw [← hnq] at m2 m3 HC1 hq1 hq2
          have g0 := HG.out.cell d.length
          rw [cells8_at, hd] at g0
          have f0 := HG.out.free k
          clear hst hm hrm hnq HC
          go_wp2_with (go_at_call 23; (with_reducible refine (KPR.out _).mono ?_); rintro e _ ⟨rfl, rfl⟩)
          go_roundw
          case rel => exact ⟨nq, c + 1, rfl, hid_ (by have h9 := cells8_inc d c Z; rw [hd] at h9; have := HG.out.set_ k (.int .i64 ((c : Int) + 1)); rw [h9] at this; exact this), HC1, hq1, by omega, hbr.setCell (p := ⟨w.heap.size, k, none⟩) (Nat.le_refl _) _⟩
          case measure => simp [intOf]; omega
        · have tm : (((n % p : Nat) : Int) == 0) = false := by simp; omega
          have HC1 : Hid (divS p nk = (c, n)) := hid_ (by rw [HC.out, divS_end hm]; simp)
          have m7 : IntKind.i64.wrap ((k : Int) + 1) = ((k + 1 : Nat) : Int) := by rw [IntWalk.i64_in _ (by omega)]; omega
          obtain ⟨rm, hrm⟩ : ∃ x, x = n % p := ⟨_, rfl⟩
          rw [← hrm] at tm m1
          clear hm hrm HC
          go_wp2_with (go_at_call 23; (with_reducible refine (KPR.out _).mono ?_); rintro e _ ⟨rfl, rfl⟩)
          go_roundw
          case rel => exact ⟨k + 1, n, d ++ [c], by go_num, rfl, by omega, by simp [hd], hid_ (by rw [← HZ.out]; exact HG.out), hid_ (by rw [HD.out, HC1.out, ← HZ.out]; simp), hn1, hn2, hbr⟩
          case measure => simp [intOf]; omega
    · obtain rfl : k = R := by omega
      have HN : Hid (decS 0 k N = (d, n)) := hid_ (by rw [HA.out, Nat.sub_self]; simp [decS])
      have HL : Hid (Elems wr wr.heap.size (.slice (some ⟨w.heap.size, 0, none⟩) k k) (ints (d.map (fun x : Nat => (x : Int))))) := hid_ (by
        have h := HG.out
        rw [Nat.sub_self] at h
        refine blk_elems (n := k) (c := k) h ?_ (by rw [ints_len, List.length_map, hd])
        simp [cells8])
      clear HA HG
      by_cases h1 : n = 1
      · have tn : ((n : Int) != 1) = false := by simp; omega
        have HF : Hid (decC N k = (d.map (fun x : Nat => (x : Int)), 0)) := hid_ (by rw [HDC.out, HN.out, if_pos h1])
        clear h1 HN HDC
        go_wp2_with fail
        refine bodyPost_ret (v := .tuple #[.slice (some ⟨w.heap.size, 0, none⟩) k k, .int .i64 0]) (by simp [results, Try.results9, go_sem]) rfl ?_
        exact ⟨.slice (some ⟨w.heap.size, 0, none⟩) k k, by rw [HF.out], by rw [HF.out]; exact HL.out, hbr⟩
      · have tn : ((n : Int) != 1) = true := by simp; omega
        have HF : Hid (decC N k = ([], 6)) := hid_ (by rw [HDC.out, HN.out, if_neg h1])
        clear h1 HN HDC
        go_wp2_with fail
        refine bodyPost_ret (v := .tuple #[.slice none 0 0, .int .i64 6]) (by simp [results, Try.results9, go_sem]) rfl ?_
        exact ⟨.slice none 0 0, by rw [HF.out], by rw [HF.out]; exact Elems.nil _ _, hbr⟩

set_option maxRecDepth 100000 in
set_option maxHeartbeats 4000000 in
theorem rdecode_any (N R : Nat) (w : World) (hN1 : 1 ≤ N) (hN2 : N ≤ 1152921504606846976) (hR1 : 1 ≤ R) (hR6 : R ≤ 6) :
    Calls Try.prog 10 #[.int .i64 (N : Int), .int .i64 (R : Int)] w (DecRan ((decS 0 R N).1.map (fun x : Nat => (x : Int))) (.bool (decide ((decS 0 R N).2 = 1))) w) := by
  obtain ⟨i0, hi, hz0, hz1, hz2⟩ := info_parts Try.infoI
  have hmk : ∀ Y : World, (Instr.makeSlice 22 (.int .i64 (R : Int)) (.int .i64 (R : Int))).run Try.prog Y = .ok (.slice (some ⟨Y.heap.size, 0, none⟩) R R) (Y.alloc (.cells (cells8 [] R) 3)) := fun Y => by
    have := run_make (P := Try.prog) (w := Y) 22 3 i0 (.int .i64 0) Try.underlying22 hi hz0 .i64 .i64 R R (by omega) (by omega) (by rw [hz2]; omega) (by omega)
    rw [hz1, Int.toNat_natCast, show madeCells (Value.int .i64 0).cells (R * 1) = cells8 [] R from Array.ext' ((made_ints R).trans (by simp [cells8]))] at this
    exact this
  go_enter Try.func10, Try.ntmps10
  go_upto_region 2 with fail
  have HG0 : Hid (Blk (w.alloc (.cells (cells8 [] R) 3)) w.heap.size 3 (cells8 [] (R - 0))) := hid_ (Blk.new w _ _)
  have hbG := below1 w (.cells (cells8 [] R) 3)
  generalize w.alloc (.cells (cells8 [] R) 3) = W at *
  clear hmk
  go_wp2_with fail
  go_loopw [7, 0] (fun a b wr => ∃ (k n : Nat) (d : List Nat), a = .int .i64 (k : Int) ∧ b = .int .i64 (n : Int) ∧ k ≤ R ∧ d.length = k ∧ Hid (Blk wr w.heap.size 3 (cells8 d (R - k))) ∧ Hid (decS 0 R N = (d ++ (decS k (R - k) n).1, (decS k (R - k) n).2)) ∧ 1 ≤ n ∧ n ≤ 1152921504606846976 ∧ Below w.heap.size w wr) (fun a _ _ => R - (intOf a).toNat)
  case atStart => exact ⟨0, N, [], rfl, rfl, Nat.zero_le _, rfl, HG0, hid_ (by simp), hN1, hN2, hbG⟩
  case round =>
    clear HG0 hbG
    obtain ⟨k, n, d, rfl, rfl, hk, hd, HG, HA, hn1, hn2, hbr⟩ := hrel
    by_cases hlt : k < R
    · have t0 : 0 ≤ (k : Int) := by omega
      have tk : (k : Int) < (R : Int) := by omega
      have hk6 : k < 6 := by omega
      have tk6 : (k : Int) < 6 := by omega
      obtain ⟨p, hp⟩ : ∃ p, p = primeN k := ⟨_, rfl⟩
      have hp2 : 2 ≤ p ∧ p ≤ 13 := by rw [hp]; exact primeN_le hk6
      have HPP := hid_ hp
      have p0 : ¬ (p : Int) = 0 := by omega
      obtain ⟨Z, hZ⟩ : ∃ Z, R - k = Z + 1 := ⟨R - k - 1, by omega⟩
      have HZ : Hid (Z = R - (k + 1)) := hid_ (by omega)
      have HG1 : Hid (Blk wr w.heap.size 3 (cells8 (d ++ [0]) Z)) := hid_ (by have := HG.out; rwa [hZ, cells8_start] at this)
      obtain ⟨nk, hnk⟩ : ∃ x, x = n := ⟨_, rfl⟩
      have HD : Hid (decS 0 R N = (d ++ (divS p nk).1 :: (decS (k + 1) Z (divS p nk).2).1, (decS (k + 1) Z (divS p nk).2).2)) := hid_ (by rw [HA.out, hZ, decS, hp, hnk])
      have HC0 : Hid (divS p nk = (0 + (divS p n).1, (divS p n).2)) := hid_ (by rw [hnk]; simp)
      have hcb : (divS p nk).1 ≤ 1152921504606846976 := Nat.le_trans (divF_le p nk nk) (by omega)
      have HCB := hid_ hcb
      obtain ⟨V, rfl⟩ : ∃ X : World, X = wr := ⟨_, rfl⟩
      clear HG HA hp hZ hnk hcb
      go_wp2_with fail
      go_loopw [0] (fun a wx => ∃ n c : Nat, a = .int .i64 (n : Int) ∧ Hid (Blk wx w.heap.size 3 (cells8 (d ++ [c]) Z)) ∧ Hid (divS p nk = (c + (divS p n).1, (divS p n).2)) ∧ 1 ≤ n ∧ n ≤ 1152921504606846976 ∧ Below w.heap.size w wx) (fun a _ => (intOf a).toNat)
      case atStart => exact ⟨n, 0, rfl, HG1, HC0, hn1, hn2, hbr⟩
      case round =>
        clear HG1 HC0 hn1 hn2 hbr
        obtain ⟨n, c, rfl, HG, HC, hn1, hn2, hbr⟩ := hrel
        have m1 : (n : Int).tmod (p : Int) = ((n % p : Nat) : Int) := by rw [Int.tmod_eq_emod_of_nonneg (by omega)]; rfl
        by_cases hm : n % p = 0
        · have tm : (((n % p : Nat) : Int) == 0) = true := by rw [hm]; rfl
          have m2 : (n : Int).tdiv (p : Int) = ((n / p : Nat) : Int) := by rw [Int.tdiv_eq_ediv_of_nonneg (by omega)]; rfl
          obtain ⟨hst, hq1, hq2⟩ := divS_step hp2.1 hn1 hm
          have HC1 : Hid (divS p nk = (c + 1 + (divS p (n / p)).1, (divS p (n / p)).2)) := hid_ (by rw [HC.out, hst]; simp only [Prod.mk.injEq, and_true]; omega)
          have hc : c + 1 ≤ 1152921504606846976 := by have h := HC1.out; have h2 := HCB.out; rw [h] at h2; simp only at h2; omega
          have m3 : IntKind.i64.wrap ((n / p : Nat) : Int) = ((n / p : Nat) : Int) := IntWalk.i64_in _ (by omega)
          have m4 : IntKind.i64.wrap ((c : Int) + 1) = ((c + 1 : Nat) : Int) := by rw [IntWalk.i64_in _ (by omega)]; omega
          obtain ⟨rm, hrm⟩ : ∃ x, x = n % p := ⟨_, rfl⟩
          obtain ⟨nq, hnq⟩ : ∃ x, x = n / p := ⟨_, rfl⟩
          rw [← hrm] at tm m1
          rw [← hnq] at m2 m3 HC1 hq1 hq2
          have g0 := HG.out.cell d.length
          rw [cells8_at, hd] at g0
          have f0 := HG.out.free k
          clear hst hm hrm hnq HC
          go_wp2_with (first | (go_at_call 24; (with_reducible refine (primes_any wr).mono ?_); rintro e x1 ⟨g, rfl, hg, hx1⟩; have pk := hg k hk6; rw [← HPP.out] at pk; clear hg; have G1 := HG.out.to hx1; have g1 := G1.cell d.length; rw [cells8_at, hd] at g1; have f1 := G1.free k; have HG9 : Hid (Blk (x1.setCell ⟨w.heap.size, k, none⟩ (.int .i64 ((c : Int) + 1))) w.heap.size 3 (cells8 (d ++ [c + 1]) Z)) := hid_ (by have h9 := cells8_inc d c Z; rw [hd] at h9; have := G1.set_ k (.int .i64 ((c : Int) + 1)); rw [h9] at this; exact this); have hb9 := (bnext hbr hx1).setCell (p := ⟨w.heap.size, k, none⟩) (Nat.le_refl _) (.int .i64 ((c : Int) + 1)); clear G1) | (go_at_call 24; (with_reducible refine (primes_any (x1.setCell ⟨w.heap.size, k, none⟩ (.int .i64 ((c : Int) + 1)))).mono ?_); rintro e x2 ⟨g2, rfl, hg2, hx2⟩; have pk2 := hg2 k hk6; rw [← HPP.out] at pk2; clear hg2))
          go_roundw
          case rel => exact ⟨nq, c + 1, rfl, hid_ (HG9.out.to hx2), HC1, hq1, by omega, bnext hb9 hx2⟩
          case measure => simp [intOf]; omega
        · have tm : (((n % p : Nat) : Int) == 0) = false := by simp; omega
          have HC1 : Hid (divS p nk = (c, n)) := hid_ (by rw [HC.out, divS_end hm]; simp)
          have m7 : IntKind.i64.wrap ((k : Int) + 1) = ((k + 1 : Nat) : Int) := by rw [IntWalk.i64_in _ (by omega)]; omega
          obtain ⟨rm, hrm⟩ : ∃ x, x = n % p := ⟨_, rfl⟩
          rw [← hrm] at tm m1
          clear hm hrm HC
          go_wp2_with (go_at_call 24; (with_reducible refine (primes_any _).mono ?_); rintro e x1 ⟨g, rfl, hg, hx1⟩; have pk := hg k hk6; rw [← HPP.out] at pk; clear hg)
          go_roundw
          case rel => exact ⟨k + 1, n, d ++ [c], by go_num, rfl, by omega, by simp [hd], hid_ (by rw [← HZ.out]; exact HG.out.to hx1), hid_ (by rw [HD.out, HC1.out, ← HZ.out]; simp), hn1, hn2, bnext hbr hx1⟩
          case measure => simp [intOf]; omega
    · obtain rfl : k = R := by omega
      have HN : Hid (decS 0 k N = (d, n)) := hid_ (by rw [HA.out, Nat.sub_self]; simp [decS])
      have HL : Hid (Elems wr wr.heap.size (.slice (some ⟨w.heap.size, 0, none⟩) k k) (ints (d.map (fun x : Nat => (x : Int))))) := hid_ (by
        have h := HG.out
        rw [Nat.sub_self] at h
        refine blk_elems (n := k) (c := k) h ?_ (by rw [ints_len, List.length_map, hd])
        simp [cells8])
      clear HA HG
      by_cases h1 : n = 1
      · have tn : ((n : Int) == 1) = true := by rw [h1]; rfl
        have HF : Hid (decide (n = 1) = true) := hid_ (decide_eq_true h1)
        clear h1
        go_wp2_with fail
        refine bodyPost_ret (v := .tuple #[.slice (some ⟨w.heap.size, 0, none⟩) k k, .bool true]) (by simp [results, Try.results10, go_sem]) rfl ?_
        exact ⟨.slice (some ⟨w.heap.size, 0, none⟩) k k, by rw [HN.out, HF.out], by rw [HN.out]; exact HL.out, hbr⟩
      · have tn : ((n : Int) == 1) = false := by simp; omega
        have HF : Hid (decide (n = 1) = false) := hid_ (decide_eq_false h1)
        clear h1
        go_wp2_with fail
        refine bodyPost_ret (v := .tuple #[.slice (some ⟨w.heap.size, 0, none⟩) k k, .bool false]) (by simp [results, Try.results10, go_sem]) rfl ?_
        exact ⟨.slice (some ⟨w.heap.size, 0, none⟩) k k, by rw [HN.out, HF.out], by rw [HN.out]; exact HL.out, hbr⟩

set_option maxRecDepth 100000 in
theorem decode_bad (n r : Int) (w : World) (h : n < 1 ∨ 1152921504606846976 < n ∨ r < 1 ∨ 6 < r) : Calls Try.prog 9 #[.int .i64 n, .int .i64 r] w (DecRan (decC n r).1 (.int .i64 (decC n r).2) w) := by
  have HN : Hid (decC n r = ([], 2)) := hid_ (by rw [decC, if_pos h])
  go_enter Try.func9, Try.ntmps9
  by_cases h1 : n < 1
  · clear h
    go_wp2_with fail
    refine bodyPost_ret (v := .tuple #[.slice none 0 0, .int .i64 2]) (by simp [results, Try.results9, go_sem]) rfl ?_
    exact ⟨.slice none 0 0, by rw [HN.out], by rw [HN.out]; exact Elems.nil _ _, Below.refl _ _⟩
  by_cases h2 : (1152921504606846976 : Int) < n
  · clear h
    go_wp2_with fail
    refine bodyPost_ret (v := .tuple #[.slice none 0 0, .int .i64 2]) (by simp [results, Try.results9, go_sem]) rfl ?_
    exact ⟨.slice none 0 0, by rw [HN.out], by rw [HN.out]; exact Elems.nil _ _, Below.refl _ _⟩
  by_cases h3 : r < 1
  · clear h
    go_wp2_with fail
    refine bodyPost_ret (v := .tuple #[.slice none 0 0, .int .i64 2]) (by simp [results, Try.results9, go_sem]) rfl ?_
    exact ⟨.slice none 0 0, by rw [HN.out], by rw [HN.out]; exact Elems.nil _ _, Below.refl _ _⟩
  have h4 : (6 : Int) < r := by omega
  clear h
  go_wp2_with fail
  refine bodyPost_ret (v := .tuple #[.slice none 0 0, .int .i64 2]) (by simp [results, Try.results9, go_sem]) rfl ?_
  exact ⟨.slice none 0 0, by rw [HN.out], by rw [HN.out]; exact Elems.nil _ _, Below.refl _ _⟩

theorem decode_any (n r : Int) (w : World) : Calls Try.prog 9 #[.int .i64 n, .int .i64 r] w (DecRan (decC n r).1 (.int .i64 (decC n r).2) w) := by
  by_cases h : n < 1 ∨ 1152921504606846976 < n ∨ r < 1 ∨ 6 < r
  · exact decode_bad n r w h
  · obtain ⟨N, rfl⟩ := Int.eq_ofNat_of_zero_le (show 0 ≤ n by omega)
    obtain ⟨R, rfl⟩ := Int.eq_ofNat_of_zero_le (show 0 ≤ r by omega)
    exact decode_go N R w (by omega) (by omega) (by omega) (by omega)
end Go.Proofs.Ytckabinmmficlaa.Pp

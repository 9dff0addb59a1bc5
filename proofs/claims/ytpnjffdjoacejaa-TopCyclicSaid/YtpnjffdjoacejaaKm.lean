/- Contracts: encoded. -/
import Derived.Test.YtpnjffdjoacejaaKl
namespace Go.Proofs.Ytpnjffdjoacejaa
open Go.RowKit

/-- Letters, encoded, behind the first k. -/
def encL (r : Nat) (q : List Int) : Nat → List Int
  | 0 => List.replicate (q.length * r) 0
  | k + 1 => (encL r q k).set (k * r + (q.getD k 0).toNat) 1
def enc (r : Nat) (q : List Int) : List Int := encL r q q.length
theorem encL_len {r : Nat} {q : List Int} (k : Nat) : (encL r q k).length = q.length * r := by
  induction k with
  | zero => simp [encL]
  | succ k ih => simp [encL, ih]
theorem enc_zero (r : Nat) (q : List Int) (n : Nat) (hn : n = q.length * r) : (madeCells (Value.int .i64 0).cells (n * 1)).toList = ints (encL r q 0) := by
  subst hn
  rw [Nat.mul_one]
  refine (toList_madeCells_one _ _).trans ?_
  simp [ints, encL]
theorem enc_lt {k n r j : Nat} (hk : k < n) (hj : j < r) : k * r + j < n * r := by
  have : (k + 1) * r ≤ n * r := Nat.mul_le_mul_right r hk
  rw [Nat.add_mul, Nat.one_mul] at this
  omega

set_option maxRecDepth 100000 in
set_option maxHeartbeats 1000000 in
theorem encoded_any (q : List Int) (r : Nat) (v : Value) (w : World) (h : Elems w w.heap.size v (ints q)) (hw : wordB r q = true) (hp : q.length * r ≤ 2000000) (hl : q.length ≤ 1000000) (hr : r ≤ 1000000) :
    Calls Try.prog 62 #[v, .int .i64 r] w fun e w' => ∃ g c, e = .returned (.slice (some ⟨g, 0, none⟩) (q.length * r) c) ∧ w'.ownsRow w.heap.size 3 1 (.slice (some ⟨g, 0, none⟩) (q.length * r) c) (q.length * r) (ints (enc r q)) ∧ Below w.heap.size w w' := by
  obtain ⟨i0, hi, hz0, hz1, hz2⟩ := info_parts Try.infoI
  obtain ⟨A, c, rfl⟩ := h.form
  rw [ints_len] at h ⊢
  have HH := hid_ h
  have HW := hid_ hw
  clear h hw
  obtain ⟨P, hP⟩ : ∃ P, P = q.length * r := ⟨_, rfl⟩
  have hPi : (q.length : Int) * (r : Int) = (P : Int) := by rw [hP]; simp
  rw [← hP] at hp ⊢
  have HP := hid_ hP
  have t1 : (P : Int) ≤ 2000000 := by omega
  clear hP
  go_enter Try.func62, Try.ntmps62
  go_wp2_with (at_make; refine wpList_make_full _ rfl _ _ 26 rfl w.heap.size 3 i0 (.int .i64 0) 1 Try.underlying26 hi hz0 hz1 .i64 .i64 P P P rfl rfl rfl rfl (by rw [hz2]; omega) (by unfold maxLen; omega) (Nat.le_refl _) ?_; intro w3 hown hgr)
  rw [enc_zero r q P HP.out] at hown
  have HOWN := hid_ hown
  have hb3 := make_below hgr
  clear hown hgr
  go_loopw [15] (fun s wr => ∃ k : Nat, s = .int .i64 ((k : Nat) : Int) ∧ k ≤ q.length ∧ Hid (wr.ownsRow w.heap.size 3 1 (.slice (some ⟨w.heap.size, 0, none⟩) P P) P (ints (encL r q k))) ∧ Below w.heap.size w wr) (fun s _ => q.length - (intOf s).toNat)
  case atStart => exact ⟨0, rfl, Nat.zero_le _, HOWN, hb3⟩
  case round =>
    obtain ⟨k, rfl, hk, HO, hbr⟩ := hrel
    by_cases hlt : k < q.length
    · obtain ⟨b, off, rfl, hb, hc⟩ := HH.out.at_ (by omega)
      obtain ⟨x, hx⟩ : ∃ x, q[k]? = some x := ⟨_, List.getElem?_eq_getElem hlt⟩
      have hxr := wordB_get HW.out hx
      obtain ⟨j, rfl⟩ := Int.eq_ofNat_of_zero_le hxr.1
      have hj : j < r := by omega
      have i0' := hc k _ (ints_at hx)
      have i1 := (hbr.cell (p := ⟨b, off + k, none⟩) hb).trans i0'
      have hS := enc_lt hlt hj
      rw [← HP.out] at hS
      obtain ⟨S, hSe⟩ : ∃ S, S = k * r := ⟨_, rfl⟩
      have hSi : (k : Int) * (r : Int) = (S : Int) := by rw [hSe]; simp
      rw [← hSe] at hS
      have HSE := hid_ hSe
      have hgD : q.getD k 0 = (j : Int) := getD_some hx
      have HG := hid_ hgD
      obtain ⟨y, hy⟩ : ∃ y, (encL r q k)[S + j]? = some y := ⟨_, List.getElem?_eq_getElem (by rw [encL_len, ← HP.out]; exact hS)⟩
      have cj : wr.cell? ⟨w.heap.size, S + j, none⟩ = some (.int .i64 y) := by
        rw [HO.out.cellAt (S + j) (by omega)]
        exact ints_at hy
      have fj := HO.out.frozenAt (S + j)
      have u1 : 0 ≤ (S : Int) + (j : Int) := by omega
      have u2 : (S : Int) + (j : Int) < (P : Int) := by omega
      have u3 : ((S : Int) + (j : Int)).toNat = S + j := by omega
      clear hc i0' hx hy hSe hgD hxr
      go_wp2_with fail
      go_roundw
      case rel =>
        refine ⟨k + 1, by go_num, by omega, hid_ ?_, hbr.setCell (Nat.le_refl _) _⟩
        rw [encL, HG.out, Int.toNat_natCast, ← HSE.out, ← ints_set]
        exact (HO.out.stored (S + j) (.int .i64 1)).1
      case measure => simp [intOf]; omega
    · go_wp2_with fail
      go_ret
      refine ⟨w.heap.size, P, rfl, ?_, hbr⟩
      have := HO.out
      rw [show k = q.length by omega] at this
      exact this
end Go.Proofs.Ytpnjffdjoacejaa

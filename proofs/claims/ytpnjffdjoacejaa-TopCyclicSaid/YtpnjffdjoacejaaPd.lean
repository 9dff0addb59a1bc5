/- Contracts: the specification's Letters and Bits; Bits of package tag, with its capacity. -/
import Derived.Test.YtpnjffdjoacejaaPc
namespace Go.Proofs.Ytpnjffdjoacejaa
open Go.RowKit

/-- What Bits leaves, its capacity besides. -/
def BCRan (w : World) (r : TRes) (e : Ending) (w' : World) : Prop :=
  ∃ v, e = .returned (.tuple #[v, .int .i64 r.err]) ∧ Elems w' w'.heap.size v (ints r.q) ∧ Capped v ∧ Below w.heap.size w w'
theorem capped_nil : Capped (.slice none 0 0) := fun A n c e => by
  obtain ⟨-, rfl, rfl⟩ := Value.slice.inj e
  exact Nat.le_refl _
set_option maxRecDepth 100000 in
set_option maxHeartbeats 2000000 in
theorem bitsc_any (t : TagS) (q : List Int) (v2 v3 v : Value) (w : World) (ht : TagIn w w.heap.size v2 v3 t) (hq : Elems w w.heap.size v (ints q)) (hl : q.length ≤ 1000000) :
    Calls Try.prog 33 #[.agg #[.int .i64 t.del, v2, v3], v] w (BCRan w (bitsS t q)) := by
  have HT := hid_ ht
  obtain ⟨A2, c2, rfl⟩ := ht.rules.form
  obtain ⟨A, c, rfl⟩ := hq.form
  rw [ints_len] at hq ⊢
  have HQ := hid_ hq
  cases hf : fitsT t q
  · rw [bitsS, if_pos hf]
    have HF := hid_ hf
    clear ht hq hf
    go_enter Try.func33, Try.ntmps33
    go_wp2_with fail
    refine (fits_any t q _ v3 _ _ (HT.out.to (below1 w _)) (HQ.out.to (below1 w _)) hl).mono ?_
    rw [HF.out]
    rintro e w1 ⟨rfl, hb1⟩
    obtain ⟨p0, p1, p2, hz, hw1⟩ := box3 hb1
    go_wp2_with fail
    go_ret2
    exact ⟨_, rfl, Elems.nil _ _, capped_nil, hw1⟩
  · rw [bitsS, if_neg (by rw [hf]; simp)]
    obtain ⟨hv, f1, f2⟩ := fitsT_parts hf
    obtain ⟨_, _, _, r2, _, _⟩ := validT_parts hv
    have HF := hid_ hf
    have HW := hid_ f2
    obtain ⟨P, hP⟩ : ∃ P, P = q.length * t.rules.length := ⟨_, rfl⟩
    have hPi : (q.length : Int) * (t.rules.length : Int) = (P : Int) := by rw [hP]; simp
    have hPb : P ≤ 60000000 := by rw [hP]; exact Nat.le_trans (Nat.mul_le_mul f1 r2) (by omega)
    rw [← hP]
    have HP := hid_ hP
    clear ht hq hf hv f2 hP
    by_cases hbig : 1000000 < P
    · rw [if_pos hbig]
      have hb1' : (1000000 : Int) < (P : Int) := by omega
      go_enter Try.func33, Try.ntmps33
      go_wp2_with fail
      refine (fits_any t q _ v3 _ _ (HT.out.to (below1 w _)) (HQ.out.to (below1 w _)) hl).mono ?_
      rw [HF.out]
      rintro e w1 ⟨rfl, hb1⟩
      obtain ⟨p0, p1, p2, hz, hw1⟩ := box3 hb1
      go_wp2_with fail
      go_ret2
      exact ⟨_, rfl, Elems.nil _ _, capped_nil, hw1⟩
    · rw [if_neg hbig]
      have hb1' : ¬ (1000000 : Int) < (P : Int) := by omega
      go_enter Try.func33, Try.ntmps33
      go_wp2_with fail
      refine (fits_any t q _ v3 _ _ (HT.out.to (below1 w _)) (HQ.out.to (below1 w _)) hl).mono ?_
      rw [HF.out]
      rintro e w1 ⟨rfl, hb1⟩
      obtain ⟨p0, p1, p2, hz, hw1⟩ := box3 hb1
      clear hb1
      go_wp2_with fail
      refine (encoded_any q t.rules.length _ w1 (HQ.out.to hw1) HW.out (by rw [← HP.out]; omega) hl (by omega)).mono ?_
      rintro e w2 ⟨g, c', rfl, hown, hb2⟩
      have HO := hid_ (own_elems hown)
      have HC := hid_ (own_capped hown)
      clear hown
      go_wp2_with fail
      go_ret2
      exact ⟨_, rfl, HO.out, HC.out, bnext hw1 hb2⟩

set_option maxRecDepth 100000 in
set_option maxHeartbeats 1000000 in
theorem rbits_any (q : List Int) (r : Nat) (v : Value) (w : World) (h : Elems w w.heap.size v (ints q)) (hw : wordB r q = true) (hp : q.length * r ≤ 2000000) (hl : q.length ≤ 1000000) (hr : r ≤ 1000000) :
    Calls Try.prog 40 #[v, .int .i64 r] w fun e w' => ∃ g c, e = .returned (.slice (some ⟨g, 0, none⟩) (q.length * r) c) ∧ w'.ownsRow w.heap.size 3 1 (.slice (some ⟨g, 0, none⟩) (q.length * r) c) (q.length * r) (ints (enc r q)) ∧ Below w.heap.size w w' := by
  obtain ⟨i0, hi, hz0, hz1, hz2⟩ := info_parts Try.infoI
  obtain ⟨A, c, rfl⟩ := h.form
  rw [ints_len] at h ⊢
  have HH := hid_ h
  have HW := hid_ hw
  clear h hw
  obtain ⟨P, hP⟩ : ∃ P, P = q.length * r := ⟨_, rfl⟩
  have hPi : (q.length : Int) * (r : Int) = (P : Int) := by rw [hP]; simp
  rw [← hP] at hp ⊢
  have HP := hid_ hP
  have t1 : (P : Int) ≤ 2000000 := by omega
  clear hP
  go_enter Try.func40, Try.ntmps40
  go_wp2_with (at_make; refine wpList_make_full _ rfl _ _ 26 rfl w.heap.size 3 i0 (.int .i64 0) 1 Try.underlying26 hi hz0 hz1 .i64 .i64 P P P rfl rfl rfl rfl (by rw [hz2]; omega) (by unfold maxLen; omega) (Nat.le_refl _) ?_; intro w3 hown hgr)
  rw [enc_zero r q P HP.out] at hown
  have HOWN := hid_ hown
  have hb3 := make_below hgr
  clear hown hgr
  go_loopw [6] (fun s wr => ∃ k : Nat, s = .int .i64 ((k : Nat) : Int) ∧ k ≤ q.length ∧ Hid (wr.ownsRow w.heap.size 3 1 (.slice (some ⟨w.heap.size, 0, none⟩) P P) P (ints (encL r q k))) ∧ Below w.heap.size w wr) (fun s _ => q.length - (intOf s).toNat)
  case atStart => exact ⟨0, rfl, Nat.zero_le _, HOWN, hb3⟩
  case round =>
    obtain ⟨k, rfl, hk, HO, hbr⟩ := hrel
    by_cases hlt : k < q.length
    · obtain ⟨b, off, rfl, hb, hc⟩ := HH.out.at_ (by omega)
      obtain ⟨x, hx⟩ : ∃ x, q[k]? = some x := ⟨_, List.getElem?_eq_getElem hlt⟩
      have hxr := wordB_get HW.out hx
      obtain ⟨j, rfl⟩ := Int.eq_ofNat_of_zero_le hxr.1
      have hj : j < r := by omega
      have i0' := hc k _ (ints_at hx)
      have i1 := (hbr.cell (p := ⟨b, off + k, none⟩) hb).trans i0'
      have hS := enc_lt hlt hj
      rw [← HP.out] at hS
      obtain ⟨S, hSe⟩ : ∃ S, S = k * r := ⟨_, rfl⟩
      have hSi : (k : Int) * (r : Int) = (S : Int) := by rw [hSe]; simp
      rw [← hSe] at hS
      have HSE := hid_ hSe
      have hgD : q.getD k 0 = (j : Int) := getD_some hx
      have HG := hid_ hgD
      obtain ⟨y, hy⟩ : ∃ y, (encL r q k)[S + j]? = some y := ⟨_, List.getElem?_eq_getElem (by rw [encL_len, ← HP.out]; exact hS)⟩
      have cj : wr.cell? ⟨w.heap.size, S + j, none⟩ = some (.int .i64 y) := by
        rw [HO.out.cellAt (S + j) (by omega)]
        exact ints_at hy
      have fj := HO.out.frozenAt (S + j)
      have u1 : 0 ≤ (S : Int) + (j : Int) := by omega
      have u2 : (S : Int) + (j : Int) < (P : Int) := by omega
      have u3 : ((S : Int) + (j : Int)).toNat = S + j := by omega
      clear hc i0' hx hy hSe hgD hxr
      go_wp2_with fail
      go_roundw
      case rel =>
        refine ⟨k + 1, by go_num, by omega, hid_ ?_, hbr.setCell (Nat.le_refl _) _⟩
        rw [encL, HG.out, Int.toNat_natCast, ← HSE.out, ← ints_set]
        exact (HO.out.stored (S + j) (.int .i64 1)).1
      case measure => simp [intOf]; omega
    · go_wp2_with fail
      go_ret
      refine ⟨w.heap.size, P, rfl, ?_, hbr⟩
      have := HO.out
      rw [show k = q.length by omega] at this
      exact this
end Go.Proofs.Ytpnjffdjoacejaa

/- Contracts: narrow and widen of package tag. -/
import Derived.Test.YtpnjffdjoacejaaMe
import Derived.IntWalk
namespace Go.Proofs.Ytpnjffdjoacejaa
open Go.RowKit

theorem take_set_step {l r : List Int} {k : Nat} {x : Int} (hl : r.length = l.length) (hx : l[k]? = some x) (h : r.take k = l.take k) : (r.set k x).take (k + 1) = l.take (k + 1) := by
  have hk : k < l.length := (List.getElem?_eq_some_iff.1 hx).1
  rw [List.take_add_one, List.take_add_one, hx, List.getElem?_set, if_pos rfl, if_pos (by omega), List.take_set_of_le (by omega), h]
theorem bit_cases {l : List Int} (h : wordB 2 l = true) {k : Nat} {x : Int} (hx : l[k]? = some x) : x = 0 ∨ x = 1 := by
  have := wordB_get h hx
  omega
theorem octs_zero (n : Nat) : (madeCells (Value.int .u8 0).cells (n * 1)).toList = octs (List.replicate n 0) := by
  rw [Nat.mul_one]
  refine (toList_madeCells_one _ _).trans ?_
  simp [octs]
theorem ints_zero (n : Nat) : (madeCells (Value.int .i64 0).cells (n * 1)).toList = ints (List.replicate n 0) := by
  rw [Nat.mul_one]
  refine (toList_madeCells_one _ _).trans ?_
  simp [ints]

set_option maxRecDepth 100000 in
set_option maxHeartbeats 1000000 in
theorem narrow_any (l : List Int) (v : Value) (w : World) (h : Elems w w.heap.size v (ints l)) (hw : wordB 2 l = true) (hl : l.length ≤ 1000000) :
    Calls Try.prog 54 #[v] w fun e w' => ∃ c, e = .returned (.slice (some ⟨w.heap.size, 0, none⟩) l.length c) ∧ w'.ownsRow w.heap.size 5 1 (.slice (some ⟨w.heap.size, 0, none⟩) l.length c) l.length (octs l) ∧ Below w.heap.size w w' := by
  obtain ⟨i0, hi, hz0, hz1, hz2⟩ := info_parts Try.infoU
  obtain ⟨A, c, rfl⟩ := h.form
  rw [ints_len] at h ⊢
  have HH := hid_ h
  have HW := hid_ hw
  clear h hw
  go_enter Try.func54, Try.ntmps54
  go_wp2_with (at_make; refine wpList_make_full _ rfl _ _ 81 rfl w.heap.size 5 i0 (.int .u8 0) 1 Try.underlying81 hi hz0 hz1 .i64 .i64 l.length l.length l.length rfl rfl rfl rfl (by rw [hz2]; omega) (by unfold maxLen; omega) (Nat.le_refl _) ?_; intro w3 hown hgr)
  rw [octs_zero] at hown
  have HOWN := hid_ hown
  have hb3 := make_below hgr
  clear hown hgr
  go_loopw [11] (fun s wr => ∃ (k : Nat) (r : List Int), s = .int .i64 ((k : Nat) : Int) ∧ k ≤ l.length ∧ Hid (r.length = l.length ∧ r.take k = l.take k) ∧ Hid (wr.ownsRow w.heap.size 5 1 (.slice (some ⟨w.heap.size, 0, none⟩) l.length l.length) l.length (octs r)) ∧ Below w.heap.size w wr) (fun s _ => l.length - (intOf s).toNat)
  case atStart => exact ⟨0, _, rfl, Nat.zero_le _, hid_ ⟨by simp, by simp⟩, HOWN, hb3⟩
  case round =>
    obtain ⟨k, r, rfl, hk, HR, HO, hbr⟩ := hrel
    by_cases hlt : k < l.length
    · obtain ⟨b, off, rfl, hb, hc⟩ := HH.out.at_ (by omega)
      obtain ⟨x, hx⟩ : ∃ x, l[k]? = some x := ⟨_, List.getElem?_eq_getElem hlt⟩
      have hxb := wordB_get HW.out hx
      have i1 := (hbr.cell (p := ⟨b, off + k, none⟩) hb).trans (hc k _ (ints_at hx))
      obtain ⟨y, hy⟩ : ∃ y, r[k]? = some y := ⟨_, List.getElem?_eq_getElem (by rw [HR.out.1]; exact hlt)⟩
      have cj : wr.cell? ⟨w.heap.size, k, none⟩ = some (.int .u8 y) := by
        rw [HO.out.cellAt k (by omega)]
        exact octs_at hy
      have fj := HO.out.frozenAt k
      have hwx : IntKind.u8.wrap x = x := IntWalk.u8_in x (by omega)
      have t0 : 0 ≤ (k : Int) := by omega
      have HX := hid_ hx
      obtain ⟨x0, x1⟩ := hxb
      clear hc hx hy
      go_wp2_with fail
      go_roundw
      case rel =>
        refine ⟨k + 1, r.set k x, by go_num, by omega, hid_ ⟨by rw [List.length_set]; exact HR.out.1, take_set_step HR.out.1 HX.out HR.out.2⟩, hid_ ?_, hbr.setCell (Nat.le_refl _) _⟩
        rw [← octs_set]
        exact (HO.out.stored k (.int .u8 x)).1
      case measure => simp [intOf]; omega
    · go_wp2_with fail
      go_ret
      have hrl : r = l := by
        have := HR.out.2
        rwa [List.take_of_length_le (by rw [HR.out.1]; omega), List.take_of_length_le (by omega)] at this
      rw [hrl] at HO
      exact ⟨_, rfl, HO.out, hbr⟩

set_option maxRecDepth 100000 in
set_option maxHeartbeats 1000000 in
theorem widen_any (l : List Int) (v : Value) (w : World) (h : Elems w w.heap.size v (octs l)) (hw : wordB 2 l = true) (hl : l.length ≤ 1000000) :
    Calls Try.prog 60 #[v] w fun e w' => ∃ c, e = .returned (.slice (some ⟨w.heap.size, 0, none⟩) l.length c) ∧ w'.ownsRow w.heap.size 3 1 (.slice (some ⟨w.heap.size, 0, none⟩) l.length c) l.length (ints l) ∧ Below w.heap.size w w' := by
  obtain ⟨i0, hi, hz0, hz1, hz2⟩ := info_parts Try.infoI
  obtain ⟨A, c, rfl⟩ := h.form
  rw [octs_len] at h ⊢
  have HH := hid_ h
  have HW := hid_ hw
  clear h hw
  go_enter Try.func60, Try.ntmps60
  go_wp2_with (at_make; refine wpList_make_full _ rfl _ _ 26 rfl w.heap.size 3 i0 (.int .i64 0) 1 Try.underlying26 hi hz0 hz1 .i64 .i64 l.length l.length l.length rfl rfl rfl rfl (by rw [hz2]; omega) (by unfold maxLen; omega) (Nat.le_refl _) ?_; intro w3 hown hgr)
  rw [ints_zero] at hown
  have HOWN := hid_ hown
  have hb3 := make_below hgr
  clear hown hgr
  go_loopw [11] (fun s wr => ∃ (k : Nat) (r : List Int), s = .int .i64 ((k : Nat) : Int) ∧ k ≤ l.length ∧ Hid (r.length = l.length ∧ r.take k = l.take k) ∧ Hid (wr.ownsRow w.heap.size 3 1 (.slice (some ⟨w.heap.size, 0, none⟩) l.length l.length) l.length (ints r)) ∧ Below w.heap.size w wr) (fun s _ => l.length - (intOf s).toNat)
  case atStart => exact ⟨0, _, rfl, Nat.zero_le _, hid_ ⟨by simp, by simp⟩, HOWN, hb3⟩
  case round =>
    obtain ⟨k, r, rfl, hk, HR, HO, hbr⟩ := hrel
    by_cases hlt : k < l.length
    · obtain ⟨b, off, rfl, hb, hc⟩ := HH.out.at_ (by omega)
      obtain ⟨x, hx⟩ : ∃ x, l[k]? = some x := ⟨_, List.getElem?_eq_getElem hlt⟩
      have hxb := wordB_get HW.out hx
      have i1 := (hbr.cell (p := ⟨b, off + k, none⟩) hb).trans (hc k _ (octs_at hx))
      obtain ⟨y, hy⟩ : ∃ y, r[k]? = some y := ⟨_, List.getElem?_eq_getElem (by rw [HR.out.1]; exact hlt)⟩
      have cj : wr.cell? ⟨w.heap.size, k, none⟩ = some (.int .i64 y) := by
        rw [HO.out.cellAt k (by omega)]
        exact ints_at hy
      have fj := HO.out.frozenAt k
      have hwx : IntKind.i64.wrap x = x := IntWalk.i64_in x (by omega)
      have t0 : 0 ≤ (k : Int) := by omega
      have HX := hid_ hx
      obtain ⟨x0, x1⟩ := hxb
      clear hc hx hy
      go_wp2_with fail
      go_roundw
      case rel =>
        refine ⟨k + 1, r.set k x, by go_num, by omega, hid_ ⟨by rw [List.length_set]; exact HR.out.1, take_set_step HR.out.1 HX.out HR.out.2⟩, hid_ ?_, hbr.setCell (Nat.le_refl _) _⟩
        rw [← ints_set]
        exact (HO.out.stored k (.int .i64 x)).1
      case measure => simp [intOf]; omega
    · go_wp2_with fail
      go_ret
      have hrl : r = l := by
        have := HR.out.2
        rwa [List.take_of_length_le (by rw [HR.out.1]; omega), List.take_of_length_le (by omega)] at this
      rw [hrl] at HO
      exact ⟨_, rfl, HO.out, hbr⟩
end Go.Proofs.Ytpnjffdjoacejaa

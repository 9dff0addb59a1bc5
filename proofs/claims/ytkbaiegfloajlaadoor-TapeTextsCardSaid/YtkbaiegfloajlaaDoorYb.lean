/- Contracts: Turned of the specification. -/
import Derived.Test.YtkbaiegfloajlaaDoorYa
namespace Go.Proofs.YtkbaiegfloajlaaDoor.Tp
open Go.RowKit

theorem rev_take {l : List Int} {j : Nat} {x : Int} (hj : j < l.length) (hx : l[l.length - 1 - j]? = some x) : l.reverse.take j ++ [x] = l.reverse.take (j + 1) := by
  rw [List.take_add_one, List.getElem?_reverse hj, hx]
  rfl

set_option maxRecDepth 100000 in
set_option maxHeartbeats 8000000 in
theorem turned_any (l : List Int) (v : Value) (w : World) (hE : Elems w w.heap.size v (ints l)) (hl : l.length ≤ 1000000) :
    Calls Tryd.prog 75 #[v] w fun e w' => ∃ A d, e = .returned (.slice A l.length d) ∧ w'.ownsRow w.heap.size 3 1 (.slice A l.length d) l.length (ints l.reverse) ∧ Below w.heap.size w w' ∧ (l.length = 0 → A = none ∧ d = 0) := by
  obtain ⟨A, c, rfl⟩ := hE.form
  rw [ints_len] at hE ⊢
  have HE := hid_ hE
  clear hE
  have m0 : IntKind.i64.wrap ((l.length : Int) - 1) = (l.length : Int) - 1 := IntWalk.i64_in _ (by omega)
  obtain ⟨i0, hi, hz0, hz1, hz2⟩ := info_parts Tryd.infoI
  go_enter Tryd.func75, Tryd.ntmps75
  go_wp2_with fail
  go_loopw [3, 4] (fun s i wr => ∃ (j : Nat) (A8 : Option Addr) (c8 : Nat), s = .slice A8 j c8 ∧ i = .int .i64 ((l.length : Int) - 1 - (j : Int)) ∧ j ≤ l.length ∧ Hid (wr.ownsRow w.heap.size 3 1 (.slice A8 j c8) j (ints (l.reverse.take j))) ∧ Below w.heap.size w wr ∧ (j = 0 → A8 = none ∧ c8 = 0)) (fun _ i _ => ((RowKit.intOf i) + 1).toNat)
  case atStart => exact ⟨0, none, 0, rfl, by simp, Nat.zero_le _, hid_ (own_nil _ _ _), Below.refl _ _, fun _ => ⟨rfl, rfl⟩⟩
  case round =>
    obtain ⟨j, A8, c8, rfl, rfl, hj, HU, hbr, hz8⟩ := hrel
    have HZ8 := hid_ hz8
    clear hz8
    by_cases hlt : j < l.length
    · obtain ⟨b1, o1, rfl, hb1, hc1⟩ := HE.out.at_ (by omega)
      obtain ⟨t, ht⟩ : ∃ t : Nat, t = l.length - 1 - j := ⟨_, rfl⟩
      have hti : (l.length : Int) - 1 - (j : Int) = (t : Int) := by omega
      rw [hti]
      obtain ⟨x, hx⟩ : ∃ x, l[t]? = some x := ⟨_, List.getElem?_eq_getElem (by omega)⟩
      have i1 := keepc hbr (hc1 t _ (ints_at hx))
      have t0 : 0 ≤ (t : Int) := by omega
      have t1 : (t : Int) < (l.length : Int) := by omega
      have HRT := hid_ (rev_take hlt (by rw [← ht]; exact hx))
      have h63 : j + 1 ≤ maxLen := by unfold maxLen; omega
      have hby : (j + 1) * 8 ≤ 140737488355328 := by omega
      have m1 : IntKind.i64.wrap ((t : Int) - 1) = (l.length : Int) - 1 - ((j + 1 : Nat) : Int) := by rw [IntWalk.i64_in _ (by omega)]; omega
      have HT := hid_ ht
      clear hx hc1 hti ht
      go_upto_region 4 with (at_builtin; refine wpList_append_own_at _ rfl _ _ 25 rfl w.heap.size 3 i0 (.int .i64 0) 1 8 Tryd.underlying25 hi hz0 hz1 hz2 rfl (by omega) (.slice A8 j c8) j _ rfl (HU.out.alloc _) ⟨wr.heap.size, 0, none⟩ 1 1 [.int .i64 x] rfl rfl (newsA wr _ [.int .i64 x]) (by simp [Value.oneCell']) h63 hby (Nat.le_trans hbr.size (by simp)) ?_; intro u2 Z2 hown2 hg2 _ hat2)
      have HU3 : Hid (Z2.ownsRow w.heap.size 3 1 u2 (j + 1) (ints (l.reverse.take (j + 1)))) := hid_ (by rw [← HRT.out, ints_snoc]; exact hown2)
      have hbx2 : Below w.heap.size w Z2 := Below.grown (hbr.alloc hbr.size _) hg2 (Nat.le_trans hbr.size (by simp)) (own_lt HU.out)
      obtain ⟨A9, c9, rfl⟩ := own_form HU3.out
      clear hown2 hg2 hat2
      go_wp2_with fail
      go_roundw
      case rel => exact ⟨j + 1, A9, c9, rfl, by go_num, by omega, HU3, hbx2, fun h => absurd h (by omega)⟩
      case measure => have := HT.out; simp [RowKit.intOf]; omega
    · obtain rfl : j = l.length := by omega
      have t9 : ¬ (0 : Int) ≤ (l.length : Int) - 1 - (l.length : Int) := by omega
      have HU2 : Hid (wr.ownsRow w.heap.size 3 1 (.slice A8 l.length c8) l.length (ints l.reverse)) := hid_ (by
        have := HU.out
        rwa [List.take_of_length_le (by simp)] at this)
      go_wp2_with fail
      go_ret
      exact ⟨A8, c8, rfl, HU2.out, hbr, fun h => HZ8.out (by simp [h])⟩
end Go.Proofs.YtkbaiegfloajlaaDoor.Tp

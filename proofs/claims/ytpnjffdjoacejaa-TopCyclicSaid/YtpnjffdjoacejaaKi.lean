/- Contracts: drop and list of a queue; stopped. -/
import Derived.Test.YtpnjffdjoacejaaKh
namespace Go.Proofs.Ytpnjffdjoacejaa
open Go.RowKit

theorem qdrop_any (l : List Int) (d B go : Nat) (w : World) (h : QAt w B go l) (hl : l.length ≤ 2000000) (hd : d ≤ l.length) :
    Calls Try.prog 51 #[.pointer (some ⟨go, 0, none⟩), .int .i64 d] w fun e w' => e = .returned (.tuple #[]) ∧ QAt w' B go (l.drop d) ∧ Below B w w' := by
  obtain ⟨v, n, f, items, hbx, hown, h2f, rfl, hB, hne⟩ := h
  have hlen := QAt.len hown
  rw [List.length_drop, hlen] at hl hd
  obtain ⟨A, c, rfl⟩ := own_form hown
  by_cases hfd : 2 * (f + d) ≤ n
  · refine (qdrop_stay d go n f c A w hbx (by omega) hfd).mono ?_
    rintro e w' ⟨rfl, k, rfl⟩
    refine ⟨rfl, ⟨_, n, f + d, items, by simpa using (hbx.set_ 1 (.int .i64 ((f : Int) + d))).dN k, ?_, hfd, by rw [List.drop_drop], hB, hne⟩, below_drewN ((Below.refl B w).setCell hB _) k⟩
    exact ownsRow_setCell_other (a := ⟨go, 1, none⟩) hown hne.symm _
  · obtain ⟨g, cur, rfl, hBg, hg, hnc, hcm, hcs, htk⟩ := own_cells hown (by omega)
    have hgo : g ≠ go := fun e => hne (by simp [Value.ownBlock, e])
    have hint : cur.toList.take n = ints items := htk
    have h1 : ∀ v ∈ (cur.toList.take n).drop (f + d), v.oneCell' = true := fun v hv => by
      rw [hint] at hv
      exact ints_one v (List.mem_of_mem_drop hv)
    refine (qdrop_move d go g n f c cur _ w hbx hg hgo (by omega) hnc hcs (by omega) (by omega) rfl h1).mono ?_
    rintro e w' ⟨rfl, w2, k1, k2, k3, k4, k5, k6, k7, rfl⟩
    refine ⟨rfl, ⟨_, n - (f + d), 0, items.drop (f + d), k7, ?_, Nat.zero_le _, by rw [List.drop_drop]; rfl, hB, hne⟩, ⟨k3, k4, k5, by omega, fun k hk => ?_⟩⟩
    · have hl2 : ((cur.toList.take n).drop (f + d)).length = n - (f + d) := by rw [hint]; simp [ints_len, hlen]
      refine ⟨by rw [ints_len]; simp [hlen], .inr ⟨g, c, _, rfl, hBg, k1, by omega, hcm, ?_, ?_⟩⟩
      · simp only [List.size_toArray, List.length_append, hl2, List.length_drop, Array.length_toList]
        omega
      · rw [Nat.mul_one, List.take_append_of_le_length (by rw [hl2]; exact Nat.le_refl _), List.take_of_length_le (by rw [hl2]; exact Nat.le_refl _), hint]
        simp [ints]
    · refine k2 k ?_ (by omega) (by omega)
      have := hbx.lt
      omega

theorem own_block {w : World} {base n c e : Nat} {A : Option Addr} {xs : List Value} (h : w.ownsRow base e 1 (.slice A n c) n xs) : (A = none ∧ n = 0 ∧ c = 0 ∧ xs = []) ∨ ∃ g, A = some ⟨g, 0, none⟩ ∧ base ≤ g ∧ n ≤ c ∧ g < w.heap.size := by
  rcases h.2 with ⟨hv, h0⟩ | ⟨g, cap, cur, hv, hg, hh, h1, _⟩
  · simp at hv
    have := h.1
    rw [h0, Nat.zero_mul] at this
    exact .inl ⟨hv.1, h0, hv.2.2, List.length_eq_zero_iff.1 this⟩
  · simp only [Value.slice.injEq, true_and] at hv
    obtain ⟨rfl, rfl⟩ := hv
    exact .inr ⟨g, rfl, hg, h1, (Array.getElem?_eq_some_iff.1 hh).1⟩

set_option maxRecDepth 100000 in
set_option maxHeartbeats 1000000 in
theorem qlist_any (l : List Int) (B go : Nat) (w : World) (h : QAt w B go l) (hl : l.length ≤ 1000000) :
    Calls Try.prog 53 #[.pointer (some ⟨go, 0, none⟩)] w fun e w' => ∃ v, e = .returned v ∧ w'.ownsRow w.heap.size 3 1 v l.length (ints l) ∧ Below w.heap.size w w' := by
  obtain ⟨v, n, f, items, hbx, hown, h2f, rfl, hB, hne⟩ := h
  have hlen := QAt.len hown
  obtain ⟨A, c, rfl⟩ := own_form hown
  have c0 := hbx.cell 0
  have c1 := hbx.cell 1
  simp at c0 c1
  have hn : n ≤ 4000000 := by rw [List.length_drop, hlen] at hl; omega
  rcases own_block hown with ⟨rfl, rfl, rfl, hnil⟩ | ⟨g, rfl, hBg, hnc, hgl⟩
  · have hf : f = 0 := by omega
    subst hf
    have hit : items = [] := List.eq_nil_of_length_eq_zero hlen
    subst hit
    clear hbx hown hne hlen hnil hl
    go_enter Try.func53, Try.ntmps53
    go_wp2_with fail
    go_region_held3 (fun w' => w'.cell? ⟨go, 0, none⟩ = some (.slice none 0 0) ∧ w'.cell? ⟨go, 1, none⟩ = some (.int .i64 0))
      (first | assumption | exact ⟨c0, c1⟩ | exact ⟨keepc hb1 (by assumption), keepc hb1 (by assumption)⟩)
      (first | (go_at_call 66; refine (clone_any [] _ w.drew (Elems.nil _ _) (by simp)).mono ?_; rintro e w1 ⟨v1, rfl, hown1, hb1⟩))
    all_goals
      go_wp2_with fail
      go_ret
      exact ⟨v1, rfl, hown1, hb1.drewl⟩
  · rcases Nat.eq_zero_or_pos c with hc0 | hc0
    · have hf : f = 0 := by omega
      have hn0 : n = 0 := by omega
      subst hf hn0 hc0
      have hit : items = [] := List.eq_nil_of_length_eq_zero hlen
      subst hit
      have HE : Hid (Elems w w.heap.size (.slice (some ⟨g, 0, none⟩) 0 0) []) := hid_ (.inr ⟨g, 0, 0, rfl, hgl, fun k u hu => by simp at hu⟩)
      clear hbx hown hne hlen hl
      go_enter Try.func53, Try.ntmps53
      go_wp2_with fail
      go_region_held3 (fun w' => w'.cell? ⟨go, 0, none⟩ = some (.slice (some ⟨g, 0, none⟩) 0 0) ∧ w'.cell? ⟨go, 1, none⟩ = some (.int .i64 0))
        (first | assumption | exact ⟨c0, c1⟩ | exact ⟨keepc hb1 (by assumption), keepc hb1 (by assumption)⟩)
        (first | (go_at_call 66; refine (clone_any [] _ w.drew (HE.out.to (Below.refl _ w).drew) (by simp)).mono ?_; rintro e w1 ⟨v1, rfl, hown1, hb1⟩))
      all_goals
        go_wp2_with fail
        go_ret
        exact ⟨v1, rfl, hown1, hb1.drewl⟩
    · have hcf : ¬ c = f := by omega
      have hE : Elems w w.heap.size (.slice (some ⟨g, f, none⟩) (n - f) (c - f)) (ints (items.drop f)) := by
        have hl2 : (ints (items.drop f)).length = n - f := by rw [ints_len, List.length_drop, hlen]
        refine .inr ⟨g, f, c - f, by rw [hl2], hgl, fun k u hu => ?_⟩
        have hk := (List.getElem?_eq_some_iff.1 hu).1
        rw [hown.cellAt (f + k) (by omega)]
        simp only [ints, List.map_drop, List.getElem?_drop] at hu
        exact hu
      have HE := hid_ hE
      have hdl : (items.drop f).length ≤ 1000000 := hl
      have HDL := hid_ hdl
      have t1 : (f : Int) ≤ n := by omega
      have t2 : 0 ≤ (f : Int) := by omega
      have t3 : (n : Int) ≤ c := by omega
      have t4 : (f : Int) ≤ c := by omega
      clear hbx hown hne hlen hE hl hdl
      go_enter Try.func53, Try.ntmps53
      go_wp2_with fail
      go_region_held3 (fun w' => w'.cell? ⟨go, 0, none⟩ = some (.slice (some ⟨g, 0, none⟩) n c) ∧ w'.cell? ⟨go, 1, none⟩ = some (.int .i64 (f : Int)))
        (first | assumption | exact ⟨c0, c1⟩ | exact ⟨keepc hb1 (by assumption), keepc hb1 (by assumption)⟩)
        (first | (go_at_call 66; refine (clone_any (items.drop f) _ w.drew (HE.out.to (Below.refl _ w).drew) HDL.out).mono ?_; rintro e w1 ⟨v1, rfl, hown1, hb1⟩))
      all_goals
        go_wp2_with fail
        go_ret
        exact ⟨v1, rfl, by rw [ints_len] at hown1; exact hown1, hb1.drewl⟩
end Go.Proofs.Ytpnjffdjoacejaa

/- Contracts: SameCount, In, wide. -/
import Derived.Test.YtckabinmmficlaaCg
namespace Go.Proofs.Ytckabinmmficlaa.Cn
open Go.RowKit

def sameB (a : Int) (xs : List Int) (b : Int) (ys : List Int) : Bool := decide (a = b ∧ xs = ys)

theorem take_eq_step {xs ys : List Int} {k : Nat} {x : Int} (hx : xs[k]? = some x) (hy : ys[k]? = some x) (h : xs.take k = ys.take k) : xs.take (k + 1) = ys.take (k + 1) := by
  rw [List.take_add_one, List.take_add_one, h, hx, hy]

set_option maxHeartbeats 1000000 in
theorem same_in (a b : Int) (b1 o1 b2 o2 n c1 c2 : Nat) (xs ys : List Int) (w : World) (hx : xs.length = n) (hy : ys.length = n) (hn : n ≤ 4000) (hb1 : b1 < w.heap.size) (hb2 : b2 < w.heap.size) (h1 : IntsIn w b1 o1 xs) (h2 : IntsIn w b2 o2 ys) (hab : a = b) :
    Calls Try.prog 22 #[.agg #[.int .i64 a, .slice (some ⟨b1, o1, none⟩) n c1], .agg #[.int .i64 b, .slice (some ⟨b2, o2, none⟩) n c2]] w fun e w' => e = .returned (.bool (decide (xs = ys))) ∧ Below w.heap.size w w' := by
  subst hab
  have HX := hid_ hx; clear hx
  have HY := hid_ hy; clear hy
  have H1 := hid_ h1; clear h1
  have H2 := hid_ h2; clear h2
  go_enter Try.func22, Try.ntmps22
  go_wp2_with fail
  go_loopw [5] (fun s wr => ∃ k nd : Nat, s = .int .i64 ((k : Nat) : Int) ∧ k ≤ n ∧ Hid (xs.take k = ys.take k) ∧ wr = ((w.alloc (.cells #[.int .i64 a, .slice (some ⟨b1, o1, none⟩) n c1] 47)).alloc (.cells #[.int .i64 a, .slice (some ⟨b2, o2, none⟩) n c2] 47)).drewN nd)
    (fun s _ => n - (intOf s).toNat)
  case atStart => exact ⟨0, 0, rfl, Nat.zero_le _, hid_ (by simp), rfl⟩
  case round =>
    obtain ⟨k, nd, rfl, hk, HT, rfl⟩ := hrel
    have hw2 := below2 w (.cells #[.int .i64 a, .slice (some ⟨b1, o1, none⟩) n c1] 47) (.cells #[.int .i64 a, .slice (some ⟨b2, o2, none⟩) n c2] 47)
    by_cases hlt : k < n
    · obtain ⟨x, hx⟩ : ∃ x, xs[k]? = some x := ⟨_, List.getElem?_eq_getElem (by rw [HX.out]; exact hlt)⟩
      obtain ⟨y, hy⟩ : ∃ y, ys[k]? = some y := ⟨_, List.getElem?_eq_getElem (by rw [HY.out]; exact hlt)⟩
      have i0 := (H1.out.below hw2 hb1) k x hx
      have i1 := (H2.out.below hw2 hb2) k y hy
      have HXk := hid_ hx
      have HYk := hid_ hy
      clear hx hy
      by_cases hxy : x = y
      · subst hxy
        go_wp2_with fail
        go_quiet (fail)
        go_wp2_with fail
        go_roundw
        case rel => exact ⟨k + 1, _, by go_num, by omega, hid_ (take_eq_step HXk.out HYk.out HT.out), rfl⟩
        case measure => simp [intOf]; omega
      · have hne : (x != y) = true := by simpa using hxy
        go_wp2_with fail
        go_quiet (fail)
        go_wp2_with fail
        go_ret
        refine ⟨ret_bool ?_, below_drewN (below_drewN hw2 _) _⟩
        refine (decide_eq_false fun e => hxy ?_).symm
        have h1 := HXk.out
        rw [e, HYk.out] at h1
        exact (Option.some.inj h1).symm
    · have hkn : k = n := by omega
      go_wp2_with fail
      go_ret
      refine ⟨ret_bool ?_, below_drewN hw2 _⟩
      have h1 := HT.out
      rw [hkn] at h1
      have e1 : xs.take n = xs := List.take_of_length_le (by rw [HX.out]; exact Nat.le_refl _)
      have e2 : ys.take n = ys := List.take_of_length_le (by rw [HY.out]; exact Nat.le_refl _)
      rw [e1, e2] at h1
      exact (decide_eq_true h1).symm

set_option maxHeartbeats 1000000 in
theorem same_any (a b : Int) (A1 A2 : Option Addr) (n1 n2 c1 c2 : Nat) (xs ys : List Int) (w : World) (h1 : IntsAt w w.heap.size A1 n1 xs) (h2 : IntsAt w w.heap.size A2 n2 ys) (hn : n1 ≤ 4000) :
    Calls Try.prog 22 #[.agg #[.int .i64 a, .slice A1 n1 c1], .agg #[.int .i64 b, .slice A2 n2 c2]] w fun e w' => e = .returned (.bool (sameB a xs b ys)) ∧ Below w.heap.size w w' := by
  have l1 := h1.len
  have l2 := h2.len
  by_cases hab : a = b
  · by_cases hnn : n1 = n2
    · subst hnn
      by_cases h0 : n1 = 0
      · subst h0
        have e1 : xs = [] := List.eq_nil_of_length_eq_zero l1
        have e2 : ys = [] := List.eq_nil_of_length_eq_zero l2
        have HS : Hid (sameB a xs b ys = true) := by simp [Hid, sameB, e1, e2, hab]
        subst hab
        clear h1 h2 l1 l2 e1 e2
        go_enter Try.func22, Try.ntmps22
        go_wp2_with fail
        refine wp_loop_rounds 1 ?_
        rw [rounds_succ]
        go_wp2_with fail
        go_ret
        exact ⟨ret_bool HS.out.symm, below2 w _ _⟩
      · obtain ⟨b1, o1, rfl, hb1, i1⟩ := h1.at_ (by omega)
        obtain ⟨b2, o2, rfl, hb2, i2⟩ := h2.at_ (by omega)
        refine (same_in a b b1 o1 b2 o2 n1 c1 c2 xs ys w l1 l2 hn hb1 hb2 i1 i2 hab).mono ?_
        rintro e w' ⟨rfl, hb⟩
        exact ⟨ret_bool (by simp [sameB, hab]), hb⟩
    · have hne : xs ≠ ys := fun e => hnn (by rw [← l1, ← l2, e])
      have HS : Hid (sameB a xs b ys = false) := by simp [Hid, sameB, hne]
      have ht : ((n1 : Int) != n2) = true := by rw [bne_iff_ne]; omega
      have ha : (a != b) = false := by simpa using hab
      clear h1 h2 l1 l2 hne hnn hab
      go_enter Try.func22, Try.ntmps22
      go_wp2_with fail
      go_ret
      exact ⟨ret_bool HS.out.symm, below2 w _ _⟩
  · have HS : Hid (sameB a xs b ys = false) := by simp [Hid, sameB, hab]
    have ha : (a != b) = true := by simpa using hab
    clear h1 h2 l1 l2 hab
    go_enter Try.func22, Try.ntmps22
    go_wp2_with fail
    go_ret
    exact ⟨ret_bool HS.out.symm, below2 w _ _⟩

def memB (x : Int) (l : List Int) : Bool := l.contains x
theorem memB_step {x y : Int} {l : List Int} {k : Nat} (hy : l[k]? = some y) (h : (l.take k).contains x = false) (hne : y ≠ x) : (l.take (k + 1)).contains x = false := by
  rw [List.take_add_one, hy]
  simp at h ⊢
  exact ⟨h, fun e => hne e.symm⟩

end Go.Proofs.Ytckabinmmficlaa.Cn

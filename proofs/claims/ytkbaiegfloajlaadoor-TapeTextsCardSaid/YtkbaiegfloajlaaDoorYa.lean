/- Contracts: Ones, Some, named and Permutes of the specification. -/
import Derived.Test.YtkbaiegfloajlaaDoorXh
import Derived.Test.YtkbaiegfloajlaaDoorVg
namespace Go.Proofs.YtkbaiegfloajlaaDoor.Tp
open Go.RowKit

set_option maxRecDepth 100000 in
set_option maxHeartbeats 8000000 in
theorem rones_any (c : CfgS) (v : Value) (w : World) (hE : Elems w w.heap.size v (ints c.cells)) (hl : c.cells.length ≤ 17592186044416) :
    Calls Tryd.prog 27 #[.agg #[.int .i64 c.st, .int .i64 c.pos, .int .i64 c.frm, v]] w fun e w' => e = .returned (.int .i64 (onesL c.cells : Int)) ∧ Below w.heap.size w w' := by
  obtain ⟨A, cc, rfl⟩ := hE.form
  rw [ints_len] at hE ⊢
  have hbW := below1 w (.cells #[.int .i64 c.st, .int .i64 c.pos, .int .i64 c.frm, .slice A c.cells.length cc] 27)
  have HE := hid_ (hE.to hbW)
  have HB := hid_ (Blk.new w 27 #[.int .i64 c.st, .int .i64 c.pos, .int .i64 c.frm, .slice A c.cells.length cc])
  clear hE
  go_enter Tryd.func27, Tryd.ntmps27
  go_wp2_with fail
  generalize w.alloc (.cells #[.int .i64 c.st, .int .i64 c.pos, .int .i64 c.frm, .slice A c.cells.length cc] 27) = W at *
  go_loopw [3, 4] (fun s t wr => ∃ (k n : Nat), s = .int .i64 (n : Int) ∧ t = .int .i64 (k : Int) ∧ k ≤ c.cells.length ∧ n ≤ k ∧ Hid (n = onesL (c.cells.take k)) ∧ Below W.heap.size W wr) (fun _ t _ => c.cells.length - (intOf t).toNat)
  case atStart => exact ⟨0, 0, rfl, rfl, Nat.zero_le _, Nat.le_refl _, hid_ rfl, Below.refl _ _⟩
  case round =>
    obtain ⟨k, n, rfl, rfl, hk, hn, HN, hbr⟩ := hrel
    have q3 := (HB.out.to hbr).cell 3
    simp at q3
    by_cases hlt : k < c.cells.length
    · obtain ⟨b1, o1, rfl, hb1, hc1⟩ := (HE.out.to hbr).at_ (by omega)
      obtain ⟨x, hx⟩ : ∃ x, c.cells[k]? = some x := ⟨_, List.getElem?_eq_getElem hlt⟩
      have i1 := hc1 k _ (ints_at hx)
      have t0 : 0 ≤ (k : Int) := by omega
      have HX := hid_ (onesL_step hx)
      clear hx hc1
      by_cases hx0 : x = 0
      · subst hx0
        have m1 : IntKind.i64.wrap ((k : Int) + 1) = ((k + 1 : Nat) : Int) := by rw [IntWalk.i64_in _ (by omega)]; omega
        go_wp2_with fail
        go_roundw
        case rel => exact ⟨k + 1, n, rfl, by go_num, by omega, by omega, hid_ (by rw [HX.out, HN.out]; simp), hbr⟩
        case measure => simp [intOf]; omega
      · have hne : (x != 0) = true := by simpa using hx0
        have hne2 : (x == 0) = false := by simpa using hx0
        have HX0 := hid_ hx0
        have m1 : IntKind.i64.wrap ((n : Int) + 1) = ((n + 1 : Nat) : Int) := by rw [IntWalk.i64_in _ (by omega)]; omega
        have m2 : IntKind.i64.wrap ((k : Int) + 1) = ((k + 1 : Nat) : Int) := by rw [IntWalk.i64_in _ (by omega)]; omega
        go_wp2_with fail
        go_roundw
        case rel => exact ⟨k + 1, n + 1, by go_num, by go_num, by omega, by omega, hid_ (by rw [HX.out, HN.out, if_neg HX0.out]), hbr⟩
        case measure => simp [intOf]; omega
    · obtain rfl : k = c.cells.length := by omega
      have HN2 : Hid (n = onesL c.cells) := hid_ (by rw [HN.out, List.take_length])
      go_wp2_with fail
      go_ret
      rw [← HN2.out]
      exact ⟨rfl, bnext hbW hbr⟩

theorem rsome_any (c : CfgS) (v : Value) (w : World) (hE : Elems w w.heap.size v (ints c.cells)) (hl : c.cells.length ≤ 17592186044416) :
    Calls Tryd.prog 60 #[.agg #[.int .i64 c.st, .int .i64 c.pos, .int .i64 c.frm, v]] w fun e w' => e = .returned (.bool (someC c)) ∧ Below w.heap.size w w' := by
  obtain ⟨A, cc, rfl⟩ := hE.form
  rw [ints_len] at hE ⊢
  have hbW := below1 w (.cells #[.int .i64 c.st, .int .i64 c.pos, .int .i64 c.frm, .slice A c.cells.length cc] 27)
  have HE := hid_ (hE.to hbW)
  have HB := hid_ (Blk.new w 27 #[.int .i64 c.st, .int .i64 c.pos, .int .i64 c.frm, .slice A c.cells.length cc])
  clear hE
  go_enter Tryd.func60, Tryd.ntmps60
  go_upto_region 1 with fail
  generalize w.alloc (.cells #[.int .i64 c.st, .int .i64 c.pos, .int .i64 c.frm, .slice A c.cells.length cc] 27) = W at *
  have q0 := HB.out.cell 0
  have q1 := HB.out.cell 1
  have q2 := HB.out.cell 2
  have q3 := HB.out.cell 3
  simp at q0 q1 q2 q3
  go_wp2_with fail
  refine (rwithin_any c 6 4 _ W HE.out hl).mono ?_
  rintro e w2 ⟨rfl, hb⟩
  go_wp2_with fail
  go_ret
  exact ⟨rfl, bnext hbW hb⟩

theorem named_any (l : List Int) (s : Int) (v : Value) (w : World) (hE : Elems w w.heap.size v (ints l)) (hs : s = -1 ∨ (0 ≤ s ∧ s < (l.length : Int))) :
    Calls Tryd.prog 59 #[.int .i64 s, v] w fun e w' => e = .returned (.int .i64 (nameS l s)) ∧ w' = w := by
  obtain ⟨A, c, rfl⟩ := hE.form
  rw [ints_len] at hE ⊢
  have HE := hid_ hE
  clear hE
  rcases hs with rfl | ⟨h0, h1⟩
  · go_enter Tryd.func59, Tryd.ntmps59
    go_wp2_with fail
    go_ret
    exact ⟨by rw [nameS, if_pos rfl]; rfl, rfl⟩
  · obtain ⟨t, rfl⟩ := Int.eq_ofNat_of_zero_le h0
    obtain ⟨b, o, rfl, hb, hc⟩ := HE.out.at_ (by omega)
    have hlt : t < l.length := by omega
    obtain ⟨x, hx⟩ : ∃ x, l[t]? = some x := ⟨_, List.getElem?_eq_getElem hlt⟩
    have i1 := hc t _ (ints_at hx)
    have t1 : ¬ (t : Int) < 0 := by omega
    have HN : Hid (nameS l (t : Int) = x) := hid_ (by rw [nameS, if_neg (by omega), Int.toNat_natCast, List.getD_eq_getElem?_getD, hx]; rfl)
    clear hc hx
    go_enter Tryd.func59, Tryd.ntmps59
    go_wp2_with fail
    go_ret
    exact ⟨by rw [HN.out]; rfl, rfl⟩

set_option maxRecDepth 100000 in
set_option maxHeartbeats 8000000 in
theorem permutes_any (l : List Int) (v : Value) (w : World) (hE : Elems w w.heap.size v (ints l)) (hl : l.length ≤ 17592186044416) :
    Calls Tryd.prog 33 #[v] w fun e w' => e = .returned (.bool (permB l)) ∧ Below w.heap.size w w' := by
  obtain ⟨A, c, rfl⟩ := hE.form
  rw [ints_len] at hE ⊢
  have HE := hid_ hE
  clear hE
  go_enter Tryd.func33, Tryd.ntmps33
  go_wp2_with fail
  go_loopw [3] (fun s wr => ∃ k : Nat, s = .int .i64 (k : Int) ∧ k ≤ l.length ∧ Hid (Good l k) ∧ Below w.heap.size w wr) (fun s _ => l.length - (intOf s).toNat)
  case atStart => exact ⟨0, rfl, Nat.zero_le _, hid_ (fun i x h => absurd h (by omega)), Below.refl _ _⟩
  case round =>
    obtain ⟨k, rfl, hk, HG, hbr⟩ := hrel
    by_cases hlt : k < l.length
    · obtain ⟨b1, o1, rfl, hb1, hc1⟩ := HE.out.at_ (by omega)
      obtain ⟨x, hx⟩ : ∃ x, l[k]? = some x := ⟨_, List.getElem?_eq_getElem hlt⟩
      have i1 := keepc hbr (hc1 k _ (ints_at hx))
      have t0 : 0 ≤ (k : Int) := by omega
      have HX := hid_ hx
      have HC := hid_ hc1
      clear hc1 hx
      by_cases n1 : x < 0
      · have HP : Hid (permB l = false) := hid_ (perm_bad HX.out (.inl n1))
        go_wp2_with fail
        all_goals
          go_ret
          exact ⟨by rw [HP.out]; rfl, hbr⟩
      by_cases n2 : (l.length : Int) ≤ x
      · have HP : Hid (permB l = false) := hid_ (perm_bad HX.out (.inr (.inl n2)))
        go_wp2_with fail
        all_goals
          go_ret
          exact ⟨by rw [HP.out]; rfl, hbr⟩
      obtain ⟨X, rfl⟩ : ∃ X : World, X = wr := ⟨_, rfl⟩
      go_wp2_with fail
      go_loopw [4] (fun s wx => ∃ j : Nat, s = .int .i64 (j : Int) ∧ j ≤ k ∧ Hid (∀ i, i < j → l[i]? ≠ some x) ∧ Below w.heap.size w wx) (fun s _ => k - (intOf s).toNat)
      case atStart => exact ⟨0, rfl, Nat.zero_le _, hid_ (fun i h => absurd h (by omega)), hbr⟩
      case round =>
        obtain ⟨j, rfl, hj, HJ, hbx⟩ := hrel
        clear i1 hbr
        have i1 := keepc hbx (HC.out k _ (ints_at HX.out))
        by_cases hjl : j < k
        · obtain ⟨y, hy⟩ : ∃ y, l[j]? = some y := ⟨_, List.getElem?_eq_getElem (by omega)⟩
          have i2 := keepc hbx (HC.out j _ (ints_at hy))
          have HY := hid_ hy
          have t1 : 0 ≤ (j : Int) := by omega
          have t2 : (j : Int) < (l.length : Int) := by omega
          have t3 : (k : Int) < (l.length : Int) := by omega
          clear hy
          by_cases he : y = x
          · have HP : Hid (permB l = false) := hid_ (perm_bad HX.out (.inr (.inr ⟨j, hjl, by rw [HY.out, he]⟩)))
            subst he
            go_upto_region 8 with fail
            go_quiet (fail)
            go_wp2_with fail
            all_goals
              go_ret
              exact ⟨by rw [HP.out]; rfl, by first | exact hbx | exact below_drewN hbx _⟩
          · have t4 : (y == x) = false := by simpa using he
            have m1 : IntKind.i64.wrap ((j : Int) + 1) = ((j + 1 : Nat) : Int) := by rw [IntWalk.i64_in _ (by omega)]; omega
            have HE9 := hid_ he
            clear he
            go_upto_region 8 with fail
            go_quiet (fail)
            go_wp2_with fail
            all_goals
              go_roundw
              case rel =>
                refine ⟨j + 1, by go_num, by omega, hid_ (fun i hi => ?_), by first | exact hbx | exact below_drewN hbx _⟩
                rcases Nat.eq_or_lt_of_le (Nat.le_of_lt_succ hi) with e | e
                · subst e; rw [HY.out]; intro h; exact HE9.out (Option.some.inj h)
                · exact HJ.out i e
              case measure => simp [intOf]; omega
        · obtain rfl : j = k := by omega
          have HGN : Hid (Good l (j + 1)) := hid_ (good_step HG.out HX.out (by omega) (by omega) HJ.out)
          have m1 : IntKind.i64.wrap ((j : Int) + 1) = ((j + 1 : Nat) : Int) := by rw [IntWalk.i64_in _ (by omega)]; omega
          go_wp2_with fail
          go_roundw
          case rel => exact ⟨j + 1, by go_num, by omega, HGN, hbx⟩
          case measure => simp [intOf]; omega
    · obtain rfl : k = l.length := by omega
      rcases Nat.eq_zero_or_pos l.length with h0 | h0
      · have HP : Hid (permB l = false) := hid_ (by simp [permB, h0])
        have t1 : ¬ (0 : Int) < (l.length : Int) := by omega
        clear h0
        go_wp2_with fail
        all_goals
          go_ret
          exact ⟨by rw [HP.out]; rfl, by first | exact hbr | exact hbr.drew⟩
      · obtain ⟨b1, o1, rfl, hb1, hc1⟩ := HE.out.at_ h0
        obtain ⟨x, hx⟩ : ∃ x, l[0]? = some x := ⟨_, List.getElem?_eq_getElem h0⟩
        have i1 := keepc hbr (hc1 0 _ (ints_at hx))
        rw [Nat.add_zero] at i1
        have t1 : (0 : Int) < (l.length : Int) := by omega
        have hg0 : l.getD 0 1 = x := by rw [List.getD_eq_getElem?_getD, hx]; rfl
        by_cases hz : x = 0
        · have HP : Hid (permB l = true) := hid_ (perm_iff.2 ⟨h0, hg0.trans hz, HG.out⟩)
          subst hz
          clear hg0 hx hc1
          go_wp2_with fail
          all_goals
            go_ret
            exact ⟨by rw [HP.out]; rfl, by first | exact hbr | exact hbr.drew⟩
        · have HP : Hid (permB l = false) := hid_ (by
            cases hp : permB l with
            | false => rfl
            | true => exact absurd (hg0.symm.trans (perm_iff.1 hp).2.1) hz)
          have t2 : (x == 0) = false := by simpa using hz
          clear hg0 hx hc1 hz
          go_wp2_with fail
          all_goals
            go_ret
            exact ⟨by rw [HP.out]; rfl, by first | exact hbr | exact hbr.drew⟩
end Go.Proofs.YtkbaiegfloajlaaDoor.Tp

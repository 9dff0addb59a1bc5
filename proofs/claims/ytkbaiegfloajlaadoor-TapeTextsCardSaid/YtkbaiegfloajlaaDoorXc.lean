/- Contracts: renaming. -/
import Derived.Test.YtkbaiegfloajlaaDoorXb
namespace Go.Proofs.YtkbaiegfloajlaaDoor.Tp
open Go.RowKit

def permB (l : List Int) : Bool := decide (0 < l.length) && decide (l.getD 0 1 = 0) && l.all (fun x => decide (0 ≤ x) && decide (x < (l.length : Int))) && decide l.Nodup
/-- The first k numbers of a list are in range, and each is there once. -/
def Good (l : List Int) (k : Nat) : Prop := ∀ (i : Nat) (x : Int), i < k → l[i]? = some x → 0 ≤ x ∧ x < (l.length : Int) ∧ ∀ j, j < i → l[j]? ≠ some x
theorem good_step {l : List Int} {k : Nat} {x : Int} (h : Good l k) (hx : l[k]? = some x) (h0 : 0 ≤ x) (h1 : x < (l.length : Int)) (h2 : ∀ j, j < k → l[j]? ≠ some x) : Good l (k + 1) := fun i y hi hy => by
  rcases Nat.eq_or_lt_of_le (Nat.le_of_lt_succ hi) with e | e
  · subst e
    rw [hx] at hy
    cases hy
    exact ⟨h0, h1, h2⟩
  · exact h i y e hy
theorem perm_iff {l : List Int} : permB l = true ↔ 0 < l.length ∧ l.getD 0 1 = 0 ∧ Good l l.length := by
  simp only [permB, Bool.and_eq_true, decide_eq_true_eq, List.all_eq_true, and_assoc]
  constructor
  · rintro ⟨h1, h2, h3, h4⟩
    refine ⟨h1, h2, fun i x hi hx => ?_⟩
    have hm := h3 x (List.mem_of_getElem? hx)
    refine ⟨hm.1, hm.2, fun j hj he => ?_⟩
    have hjl : j < l.length := by omega
    rw [List.getElem?_eq_getElem hjl] at he
    rw [List.getElem?_eq_getElem hi] at hx
    exact List.pairwise_iff_getElem.1 h4 j i hjl hi hj ((Option.some.inj he).trans (Option.some.inj hx).symm)
  · rintro ⟨h1, h2, h3⟩
    refine ⟨h1, h2, fun x hx => ?_, ?_⟩
    · obtain ⟨i, hi⟩ := List.mem_iff_getElem?.1 hx
      have hil : i < l.length := by
        rcases Nat.lt_or_ge i l.length with h | h
        · exact h
        · rw [List.getElem?_eq_none h] at hi; cases hi
      exact ⟨(h3 i x hil hi).1, (h3 i x hil hi).2.1⟩
    · rw [List.Nodup, List.pairwise_iff_getElem]
      intro i j hi hj hij he
      exact (h3 j l[j] hj (List.getElem?_eq_getElem hj)).2.2 i hij (by rw [List.getElem?_eq_getElem hi, he])
theorem perm_bad {l : List Int} {k : Nat} {x : Int} (hx : l[k]? = some x) (h : x < 0 ∨ (l.length : Int) ≤ x ∨ ∃ j, j < k ∧ l[j]? = some x) : permB l = false := by
  cases hp : permB l with
  | false => rfl
  | true =>
    obtain ⟨_, _, hg⟩ := perm_iff.1 hp
    have hk : k < l.length := by
      rcases Nat.lt_or_ge k l.length with h' | h'
      · exact h'
      · rw [List.getElem?_eq_none h'] at hx; cases hx
    obtain ⟨g1, g2, g3⟩ := hg k x hk hx
    rcases h with h | h | ⟨j, hj, h⟩
    · omega
    · omega
    · exact absurd h (g3 j hj)
/-- What has been met, as the array says it. -/
def metA (l : List Int) (k : Nat) : Array Value := ((List.range 6).map fun (t : Nat) => Value.bool ((l.take k).contains (t : Int))).toArray
theorem metA_zero (l : List Int) : metA l 0 = #[.bool false, .bool false, .bool false, .bool false, .bool false, .bool false] := by simp [metA, List.range, List.range.loop]
theorem metA_get (l : List Int) (k t : Nat) (h : t < 6) : (metA l k)[t]? = some (.bool ((l.take k).contains (t : Int))) := by
  simp [metA, h]
theorem metA_set {l : List Int} {k t : Nat} (h : l[k]? = some (t : Int)) : (metA l k).setIfInBounds t (.bool true) = metA l (k + 1) := by
  apply Array.ext_getElem?
  intro i
  rw [Array.getElem?_setIfInBounds]
  have hs : (metA l k).size = 6 := by simp [metA]
  rcases Nat.lt_or_ge i 6 with hi | hi
  · rw [metA_get _ _ _ hi, metA_get _ _ _ hi, List.take_add_one, h]
    by_cases e : t = i
    · subst e
      simp [hs, hi]
    · rw [if_neg e]
      have : ¬ (i : Int) = (t : Int) := by omega
      simp [this]
  · rw [Array.getElem?_eq_none (by omega), Array.getElem?_eq_none (by simp [metA]; omega)]
    split <;> simp_all
    

set_option maxRecDepth 100000 in
set_option maxHeartbeats 8000000 in
theorem renaming_any (l : List Int) (v : Value) (w : World) (hE : Elems w w.heap.size v (ints l)) (hl : l.length ≤ 17592186044416) :
    Calls Tryd.prog 57 #[v] w fun e w' => e = .returned (.bool (permB l && decide (l.length ≤ 6))) ∧ Below w.heap.size w w' := by
  obtain ⟨A, c, rfl⟩ := hE.form
  rw [ints_len] at hE ⊢
  have HE := hid_ hE
  clear hE
  rcases Nat.eq_zero_or_pos l.length with h0 | h0
  · have HP : Hid (permB l = false) := hid_ (by simp [permB, h0])
    have t1 : ((l.length : Int) == 0) = true := by simp [h0]
    clear h0
    go_enter Tryd.func57, Tryd.ntmps57
    go_wp2_with fail
    go_ret
    exact ⟨by rw [HP.out]; rfl, Below.refl _ _⟩
  have t1 : ((l.length : Int) == 0) = false := beq_eq_false_iff_ne.2 (by omega)
  by_cases h6 : 6 < l.length
  · have HP : Hid (decide (l.length ≤ 6) = false) := hid_ (decide_eq_false (by omega))
    have t2 : (6 : Int) < (l.length : Int) := by omega
    clear h6
    go_enter Tryd.func57, Tryd.ntmps57
    go_wp2_with fail
    go_ret
    exact ⟨by rw [HP.out, Bool.and_false]; rfl, Below.refl _ _⟩
  have t2 : ¬ (6 : Int) < (l.length : Int) := by omega
  have HD : Hid (decide (l.length ≤ 6) = true) := hid_ (decide_eq_true (by omega))
  obtain ⟨b0, o0, rfl, hb0, hc0⟩ := HE.out.at_ h0
  obtain ⟨x0, hx0⟩ : ∃ x, l[0]? = some x := ⟨_, List.getElem?_eq_getElem h0⟩
  have i0 := hc0 0 _ (ints_at hx0)
  rw [Nat.add_zero] at i0
  have hg0 : l.getD 0 1 = x0 := by rw [List.getD_eq_getElem?_getD, hx0]; rfl
  have t3 : (0 : Int) < (l.length : Int) := by omega
  by_cases hz : x0 ≠ 0
  · have HP : Hid (permB l = false) := hid_ (by
      cases hp : permB l with
      | false => rfl
      | true => exact absurd (hg0.symm.trans (perm_iff.1 hp).2.1) hz)
    have t4 : (x0 != 0) = true := by simpa using hz
    clear hz hg0 hx0 hc0 h6
    go_enter Tryd.func57, Tryd.ntmps57
    go_wp2_with fail
    go_ret
    exact ⟨by rw [HP.out]; rfl, Below.refl _ _⟩
  obtain rfl : x0 = 0 := by omega
  have HG0 := hid_ hg0
  clear hg0 hx0 hc0
  go_enter Tryd.func57, Tryd.ntmps57
  go_upto_region 4 with fail

  have HM : Hid (Blk (w.alloc (.cells (metA l 0) 106)) w.heap.size 106 (metA l 0)) := hid_ (Blk.new w _ _)
  have hb1 := below1 w (.cells (metA l 0) 106)
  rw [metA_zero] at hb1
  rw [show metA l 0 = #[.bool false, .bool false, .bool false, .bool false, .bool false, .bool false] from metA_zero l] at HM
  generalize w.alloc (.cells #[.bool false, .bool false, .bool false, .bool false, .bool false, .bool false] 106) = W at *
  rw [← metA_zero l] at HM
  clear i0
  go_wp2_with fail
  go_loopw [22] (fun s wr => ∃ k : Nat, s = .int .i64 (k : Int) ∧ k ≤ l.length ∧ Hid (Blk wr w.heap.size 106 (metA l k)) ∧ Hid (Good l k) ∧ Below w.heap.size w wr) (fun s _ => l.length - (intOf s).toNat)
  case atStart => exact ⟨0, rfl, Nat.zero_le _, HM, hid_ (fun i x h => absurd h (by omega)), hb1⟩
  case round =>
    obtain ⟨k, rfl, hk, HMr, HGr, hbr⟩ := hrel
    by_cases hlt : k < l.length
    · obtain ⟨b1, o1, hA1, hb9, hc1⟩ := (HE.out.to hbr).at_ h0
      simp only [Option.some.injEq, Addr.mk.injEq, and_true] at hA1
      obtain ⟨rfl, rfl⟩ := hA1
      obtain ⟨x, hx⟩ : ∃ x, l[k]? = some x := ⟨_, List.getElem?_eq_getElem hlt⟩
      have i1 := hc1 k _ (ints_at hx)
      have s0 : 0 ≤ (k : Int) := by omega
      have HX := hid_ hx
      clear hc1 hx hb9
      by_cases n1 : x < 0
      · have HP : Hid (permB l = false) := hid_ (perm_bad HX.out (.inl n1))
        go_wp2_with fail
        go_ret
        exact ⟨by rw [HP.out]; rfl, hbr⟩
      by_cases n2 : (l.length : Int) ≤ x
      · have HP : Hid (permB l = false) := hid_ (perm_bad HX.out (.inr (.inl n2)))
        go_wp2_with fail
        go_ret
        exact ⟨by rw [HP.out]; rfl, hbr⟩
      obtain ⟨t, rfl⟩ := Int.eq_ofNat_of_zero_le (show 0 ≤ x by omega)
      have s1 : 0 ≤ (t : Int) := by omega
      have s2 : (t : Int) < 6 := by omega
      have s3 : t < 6 := by omega
      have y1 := HMr.out.cell t
      have f1 := HMr.out.free t
      rw [metA_get _ _ _ s3] at y1
      obtain ⟨bm, hbm⟩ : ∃ b, b = (l.take k).contains (t : Int) := ⟨_, rfl⟩
      rw [← hbm] at y1
      have HBM := hid_ hbm
      clear hbm
      cases bm with
      | true =>
        have HP : Hid (permB l = false) := hid_ (perm_bad HX.out (.inr (.inr (by
          have h1 := HBM.out
          have h2 : (t : Int) ∈ l.take k := by simpa using h1.symm
          obtain ⟨j, hj⟩ := List.mem_iff_getElem?.1 h2
          rw [List.getElem?_take] at hj
          split at hj
          · exact ⟨j, by omega, hj⟩
          · cases hj))))
        go_wp2_with fail
        go_ret
        exact ⟨by rw [HP.out]; rfl, hbr⟩
      | false =>
        have HGN : Hid (Good l (k + 1)) := hid_ (good_step HGr.out HX.out (by omega) (by omega) (fun j hj he => by
          have h1 := HBM.out
          have h2 : (t : Int) ∈ l.take k := by
            rw [List.mem_iff_getElem?]
            exact ⟨j, by rw [List.getElem?_take, if_pos hj]; exact he⟩
          have h3 : (l.take k).contains (t : Int) = true := by simpa using h2
          rw [h3] at h1
          cases h1))
        have HMN : Hid (Blk (wr.setCell ⟨w.heap.size, t, none⟩ (.bool true)) w.heap.size 106 (metA l (k + 1))) := hid_ (by
          have := HMr.out.set_ t (.bool true)
          rw [metA_set HX.out] at this
          exact this)
        have hbn : Below w.heap.size w (wr.setCell ⟨w.heap.size, t, none⟩ (.bool true)) := hbr.setCell (Nat.le_refl _) _
        go_wp2_with fail
        go_roundw
        case rel => exact ⟨k + 1, by go_num, by omega, HMN, HGN, hbn⟩
        case measure => simp [intOf]; omega
    · obtain rfl : k = l.length := by omega
      have HP : Hid (permB l = true) := hid_ (perm_iff.2 ⟨h0, HG0.out, HGr.out⟩)
      go_wp2_with fail
      go_ret
      exact ⟨by rw [HP.out, HD.out]; rfl, hbr⟩
end Go.Proofs.YtkbaiegfloajlaaDoor.Tp

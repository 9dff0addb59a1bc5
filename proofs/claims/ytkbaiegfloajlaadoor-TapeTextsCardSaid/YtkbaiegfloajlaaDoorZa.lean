/- Plain mathematics: texts of machines, cut and joined. -/
import Derived.Test.YtkbaiegfloajlaaDoorVe
import Derived.Test.YtkbaiegfloajlaaDoorVc
namespace Go.Proofs.YtkbaiegfloajlaaDoor.Tp
open Go.RowKit Go.Lib

def spl : List UInt8 → List (List UInt8)
  | [] => [[]]
  | x :: l => if x = 95 then [] :: spl l else (x :: (spl l).headD []) :: (spl l).tail
def jn : List (List UInt8) → List UInt8
  | [] => []
  | [a] => a
  | a :: b :: l => a ++ 95 :: jn (b :: l)
theorem spl_ne : ∀ l, spl l ≠ []
  | [] => by simp [spl]
  | x :: l => by unfold spl; split <;> simp
theorem jn_cons {a : List UInt8} {L : List (List UInt8)} (h : L ≠ []) : jn (a :: L) = a ++ 95 :: jn L := by
  cases L with
  | nil => exact absurd rfl h
  | cons b l => rfl
theorem jn_head (x : UInt8) (L : List (List UInt8)) (h : L ≠ []) : jn ((x :: L.headD []) :: L.tail) = x :: jn L := by
  cases L with
  | nil => exact absurd rfl h
  | cons b l => cases l <;> rfl
theorem jn_spl : ∀ l, jn (spl l) = l
  | [] => rfl
  | x :: l => by
    unfold spl
    split
    · next h => rw [jn_cons (spl_ne l), jn_spl l, h]; rfl
    · rw [jn_head _ _ (spl_ne l), jn_spl l]
theorem spl_jn : ∀ L : List (List UInt8), L ≠ [] → (∀ p ∈ L, ∀ x ∈ p, x ≠ (95 : UInt8)) → spl (jn L) = L
  | [], h, _ => absurd rfl h
  | [a], _, h => by
    have : ∀ (a : List UInt8), (∀ x ∈ a, x ≠ (95 : UInt8)) → spl a = [a] := fun a ha => by
      induction a with
      | nil => rfl
      | cons x l ih =>
        rw [spl, if_neg (ha x (by simp)), ih (fun y hy => ha y (by simp [hy]))]
        rfl
    exact this a (h a (by simp))
  | a :: b :: l, hne, h => by
    have ih := spl_jn (b :: l) (by simp) (fun p hp => h p (by simp only [List.mem_cons] at hp ⊢; exact .inr hp))
    have ha := h a (by simp)
    rw [jn_cons (by simp)]
    clear h hne
    induction a with
    | nil => rw [List.nil_append, spl, if_pos rfl, ih]
    | cons x t iht =>
      rw [List.cons_append, spl, if_neg (ha x (by simp)), iht (fun y hy => ha y (by simp [hy]))]
      rfl
theorem split_spl : ∀ s : List UInt8, splitK [95] 0 (s.count 95) s = spl s
  | [] => rfl
  | x :: l => by
    have ih := split_spl l
    by_cases h : x = 95
    · subst h
      rw [List.count_cons_self, splitK, spl, if_pos rfl]
      have hix : index ((95 : UInt8) :: l) [95] = 0 := by rw [index]; simp [List.isPrefixOf]
      rw [hix, if_neg (by decide)]
      simpa using ih
    · rw [List.count_cons_of_ne (by simpa using h), spl, if_neg h]
      have hp : ([95] : List UInt8).isPrefixOf (x :: l) = false := by simp [List.isPrefixOf, Ne.symm h]
      have hix : index (x :: l) [95] = if index l [95] == -1 then -1 else index l [95] + 1 := by rw [index, hp]; simp
      cases hc : l.count 95 with
      | zero =>
        rw [hc] at ih
        rw [← ih]
        rfl
      | succ k =>
        rw [hc] at ih
        by_cases hm : index l [95] = -1
        · have := count_miss hm
          rw [count_one] at this
          omega
        · have hge := index_ge l [95]
          obtain ⟨j, hj⟩ : ∃ j : Nat, index l [95] = j := ⟨(index l [95]).toNat, by omega⟩
          rw [hj, if_neg (by simp <;> omega)] at hix
          rw [splitK, hj, if_neg (by simp <;> omega)] at ih
          rw [splitK, hix, if_neg (by simp <;> omega), ← ih]
          simp
/-- What strings.Split gives, as lists of bytes. -/
theorem splitB_spl (s : ByteArray) : (splitB ⟨#[95]⟩ 0 (countB s ⟨#[95]⟩) s).map (·.data.toList) = spl s.data.toList := by
  rw [splitB_data]
  have : countB s ⟨#[95]⟩ = s.data.toList.count 95 := count_one 95 s.data.toList
  rw [this]
  exact split_spl _

theorem chunks_row : ∀ row : List RuleS, (∀ r ∈ row, 0 ≤ r.w ∧ r.w < 4 ∧ (r.m = -1 ∨ r.m = 1) ∧ -1 ≤ r.n ∧ r.n < 6) → chunksL (rowText row) = row
  | [], _ => rfl
  | r :: l, h => by
    obtain ⟨h1, h2, h3, h4, h5⟩ := h r (by simp)
    have ih := chunks_row l (fun r hr => h r (by simp [hr]))
    obtain ⟨w, m, n⟩ := r
    simp only at h1 h2 h3 h4 h5
    obtain ⟨W, rfl⟩ := Int.eq_ofNat_of_zero_le h1
    rw [rowText, List.flatMap_cons]
    show chunksL (_ :: _ :: _ :: rowText l) = _
    rw [chunksL, ih]
    congr 1
    have e1 : ((UInt8.ofNat (48 + W)).toNat : Int) - 48 = W := by rw [ofNat_to (by omega)]; omega
    unfold pruleB
    simp only [Int.toNat_natCast, e1, RuleS.mk.injEq, true_and]
    constructor
    · rcases h3 with rfl | rfl <;> simp
    · by_cases hn : n = -1
      · subst hn; simp
      · obtain ⟨N, rfl⟩ := Int.eq_ofNat_of_zero_le (show 0 ≤ n by omega)
        rw [if_neg hn, Int.toNat_natCast, ofNat_to (by omega), if_neg (by omega), if_neg (by omega)]
        omega
theorem row_chunks : ∀ (k : Nat) (p : List UInt8), p.length = 3 * k → (∀ r ∈ chunksL p, 0 ≤ r.w ∧ r.w < 4 ∧ (r.m = -1 ∨ r.m = 1) ∧ -1 ≤ r.n ∧ r.n < 6) → rowText (chunksL p) = p
  | 0, p, hp, _ => by
    obtain rfl := List.eq_nil_of_length_eq_zero hp
    rfl
  | k + 1, p, hp, h => by
    match p, hp with
    | x :: y :: z :: l, hp =>
      have ih := row_chunks k l (by simp at hp; omega) (fun r hr => h r (by rw [chunksL]; simp [hr]))
      have h0 := h (pruleB x y z) (by rw [chunksL]; simp)
      rw [chunksL, rowText, List.flatMap_cons]
      show ruleText (pruleB x y z) ++ rowText (chunksL l) = _
      rw [ih]
      obtain ⟨h1, h2, h3, h4, h5⟩ := h0
      have hx : UInt8.ofNat (48 + (pruleB x y z).w.toNat) = x := by
        apply UInt8.toNat_inj.1
        simp only [pruleB] at h1 h2 ⊢
        rw [ofNat_to (by omega)]
        omega
      have hy : (if (pruleB x y z).m = -1 then 76 else 82 : UInt8) = y := by
        apply UInt8.toNat_inj.1
        by_cases e : y.toNat = 76
        · have hm : (pruleB x y z).m = -1 := by simp [pruleB, e]
          rw [if_pos hm, e]; rfl
        · by_cases e2 : y.toNat = 82
          · have hm : (pruleB x y z).m = 1 := by simp [pruleB, e2]
            rw [if_neg (by rw [hm]; decide), e2]; rfl
          · have hm : (pruleB x y z).m = 0 := by simp [pruleB, e, e2]
            omega
      have hz : (if (pruleB x y z).n = -1 then 90 else UInt8.ofNat (65 + (pruleB x y z).n.toNat) : UInt8) = z := by
        apply UInt8.toNat_inj.1
        by_cases e : z.toNat = 90
        · have hm : (pruleB x y z).n = -1 := by simp [pruleB, e]
          rw [if_pos hm, e]; rfl
        · by_cases e2 : (z.toNat : Int) - 65 < 0
          · have hm : (pruleB x y z).n = 6 := by simp only [pruleB]; rw [if_neg e, if_pos e2]
            omega
          · have hm : (pruleB x y z).n = (z.toNat : Int) - 65 := by simp only [pruleB]; rw [if_neg e, if_neg e2]
            rw [if_neg (by omega), hm, ofNat_to (by omega)]
            omega
      rw [ruleText, hx, hy, hz]
      rfl
end Go.Proofs.YtkbaiegfloajlaaDoor.Tp

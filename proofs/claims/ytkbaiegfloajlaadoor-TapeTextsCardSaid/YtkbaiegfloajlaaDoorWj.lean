/- Plain mathematics: the cells that Put of the specification lays out, and what is left of them. -/
import Derived.Test.YtkbaiegfloajlaaDoorWc
namespace Go.Proofs.YtkbaiegfloajlaaDoor.Tp
open Go.RowKit

def putB (c : CfgS) (x : Int) : Int × Int := if x = 0 then (c.frm, c.frm + c.cells.length) else if c.cells.length = 0 then (c.pos, c.pos + 1) else (min c.frm c.pos, max (c.frm + c.cells.length) (c.pos + 1))
def putV (c : CfgS) (x q : Int) : Int := if q = c.pos then x else cellAt c.frm c.cells q
theorem putV_put (c : CfgS) (x q : Int) : cellAt (normL (putL c.frm c.cells c.pos x).1 (putL c.frm c.cells c.pos x).2).1 (normL (putL c.frm c.cells c.pos x).1 (putL c.frm c.cells c.pos x).2).2 q = putV c x q := by
  rw [normL_cell, putL_cell]; rfl
theorem putV_in {c : CfgS} {x q : Int} (h : putV c x q ≠ 0) : (putB c x).1 ≤ q ∧ q < (putB c x).2 := by
  unfold putV at h
  unfold putB
  split at h
  · rename_i e
    subst e
    rw [if_neg h]
    split
    · exact ⟨Int.le_refl _, by simp; omega⟩
    · constructor <;> simp <;> omega
  · have := cellAt_in h
    split
    · exact this
    · split
      · rename_i h0; omega
      · constructor <;> simp <;> omega
theorem putB_size (c : CfgS) (x : Int) : (putB c x).1 ≤ (putB c x).2 := by
  unfold putB
  split
  · simp; omega
  · split
    · simp; omega
    · simp; omega
theorem put_long {c : CfgS} {x : Int} (hn : Norm c.frm c.cells) (hl : c.cells.length ≤ 100000) (h : 100001 < (putB c x).2 - (putB c x).1) : 100000 < (normL (putL c.frm c.cells c.pos x).1 (putL c.frm c.cells c.pos x).2).2.length := by
  by_cases hx : x = 0
  · unfold putB at h
    rw [if_pos hx] at h
    simp at h
    omega
  · by_cases h0 : c.cells.length = 0
    · unfold putB at h
      rw [if_neg hx, if_pos h0] at h
      simp at h
      omega
    · have hne : c.cells ≠ [] := fun e => h0 (by rw [e]; rfl)
      have hB : putB c x = (min c.frm c.pos, max (c.frm + c.cells.length) (c.pos + 1)) := by unfold putB; rw [if_neg hx, if_neg h0]
      have f1 : putV c x (min c.frm c.pos) ≠ 0 := by
        unfold putV
        split
        · exact hx
        · rename_i e
          rw [show min c.frm c.pos = c.frm by omega]
          exact hn.first hne
      have f2 : putV c x (max (c.frm + c.cells.length) (c.pos + 1) - 1) ≠ 0 := by
        unfold putV
        split
        · exact hx
        · rename_i e
          rw [show max (c.frm + (c.cells.length : Int)) (c.pos + 1) - 1 = c.frm + c.cells.length - 1 by omega]
          exact hn.last hne
      rw [← putV_put] at f1 f2
      have g1 := cellAt_in f1
      have g2 := cellAt_in f2
      rw [hB] at h
      simp at h
      omega

def fullL (F : Int) (n : Nat) (f : Int → Int) : List Int := (List.range n).map fun (t : Nat) => f (F + t)
theorem full_len (F : Int) (n : Nat) (f : Int → Int) : (fullL F n f).length = n := by simp [fullL]
theorem full_get {F : Int} {n : Nat} {f : Int → Int} {t : Nat} (h : t < n) : (fullL F n f)[t]? = some (f (F + t)) := by
  simp [fullL, h]
theorem full_snoc (F : Int) (n : Nat) (f : Int → Int) : fullL F (n + 1) f = fullL F n f ++ [f (F + n)] := by
  simp [fullL, List.range_succ]
theorem full_cell {F : Int} {n : Nat} {f : Int → Int} {q : Int} : cellAt F (fullL F n f) q = if F ≤ q ∧ q < F + n then f q else 0 := by
  split
  · rename_i h
    refine cellAt_get (k := (q - F).toNat) (by omega) ?_
    rw [full_get (by omega)]
    congr 2
    omega
  · rename_i h
    rcases Int.lt_or_le q F with g | g
    · exact cellAt_lt g
    · exact cellAt_ge (by rw [full_len]; omega)
/-- What is left when the zeros at both ends are taken away. -/
theorem trim_norm {F : Int} {N n k : Nat} {f : Int → Int} (hn : n ≤ N) (h2 : ∀ t : Nat, n ≤ t → t < N → f (F + t) = 0) (h1 : ∀ t : Nat, t < k → f (F + t) = 0) (hk : k < n) (hx : f (F + k) ≠ 0) (hy : f (F + ((n - 1 : Nat) : Int)) ≠ 0) :
    Norm (F + k) (((fullL F N f).drop k).take (n - k)) ∧ ∀ q, cellAt (F + k) (((fullL F N f).drop k).take (n - k)) q = cellAt F (fullL F N f) q := by
  have hlen : (((fullL F N f).drop k).take (n - k)).length = n - k := by rw [List.length_take, List.length_drop, full_len]; omega
  have hg : ∀ t, t < n - k → (((fullL F N f).drop k).take (n - k)).getD t 0 = f (F + (k + t : Nat)) := fun t ht => by
    rw [List.getD_eq_getElem?_getD, List.getElem?_take, if_pos ht, List.getElem?_drop, full_get (by omega)]
    rfl
  constructor
  · refine .inr ⟨fun e => ?_, ?_, ?_⟩
    · rw [e] at hlen
      simp at hlen
      omega
    · rw [hg 0 (by omega)]; exact hx
    · rw [hlen, hg _ (by omega), show k + (n - k - 1) = n - 1 by omega]; exact hy
  · intro q
    have := cellAt_part (b := F) (l := fullL F N f) (lo := F + k) (hi := F + n - 1) (by omega) (by omega) (by rw [full_len]; omega) (fun p hp => by
      rw [full_cell] at hp
      split at hp
      · rename_i hb
        constructor
        · rcases Int.lt_or_le p (F + k) with g | g
          · have := h1 (p - F).toNat (by omega)
            rw [show F + ((p - F).toNat : Int) = p by omega] at this
            exact absurd this hp
          · exact g
        · rcases Int.lt_or_le (F + n - 1) p with g | g
          · have := h2 (p - F).toNat (by omega) (by omega)
            rw [show F + ((p - F).toNat : Int) = p by omega] at this
            exact absurd this hp
          · exact g
      · exact absurd rfl hp) q
    rw [show (F + (k : Int) - F).toNat = k by omega, show (F + (n : Int) - 1 - (F + k) + 1).toNat = n - k by omega] at this
    exact this
/-- The outcome of Put, when it isn't too long. -/
theorem put_some {c : CfgS} {x : Int} {N n k : Nat} (hN : (putB c x).1 + N = (putB c x).2) (hn : n ≤ N) (h2 : ∀ t : Nat, n ≤ t → t < N → putV c x ((putB c x).1 + t) = 0) (h1 : ∀ t : Nat, t < k → putV c x ((putB c x).1 + t) = 0) (hk : k < n) (hx : putV c x ((putB c x).1 + k) ≠ 0) (hy : putV c x ((putB c x).1 + ((n - 1 : Nat) : Int)) ≠ 0) :
    normL (putL c.frm c.cells c.pos x).1 (putL c.frm c.cells c.pos x).2 = ((putB c x).1 + k, ((fullL (putB c x).1 N (putV c x)).drop k).take (n - k)) := by
  obtain ⟨g1, g2⟩ := trim_norm hn h2 h1 hk hx hy
  obtain ⟨e1, e2⟩ := (normL_norm (putL c.frm c.cells c.pos x).1 (putL c.frm c.cells c.pos x).2).unique g1 (fun q => by
    rw [putV_put, g2, full_cell]
    split
    · rfl
    · rename_i h
      cases Decidable.em (putV c x q = 0) with
      | inl h0 => exact h0
      | inr h0 => exact absurd (by have := putV_in h0; omega) h)
  exact Prod.ext e1 e2
theorem put_none {c : CfgS} {x : Int} {N : Nat} (hN : (putB c x).1 + N = (putB c x).2) (h2 : ∀ t : Nat, t < N → putV c x ((putB c x).1 + t) = 0) :
    normL (putL c.frm c.cells c.pos x).1 (putL c.frm c.cells c.pos x).2 = (0, []) := by
  obtain ⟨e1, e2⟩ := (normL_norm (putL c.frm c.cells c.pos x).1 (putL c.frm c.cells c.pos x).2).unique (c := 0) (r := []) (.inl ⟨rfl, rfl⟩) (fun q => by
    rw [putV_put, cellAt_nil]
    cases Decidable.em (putV c x q = 0) with
    | inl h0 => exact h0
    | inr h0 =>
      have hb := putV_in h0
      have := h2 (q - (putB c x).1).toNat (by omega)
      rw [show (putB c x).1 + ((q - (putB c x).1).toNat : Int) = q by omega] at this
      exact this)
  exact Prod.ext e1 e2
end Go.Proofs.YtkbaiegfloajlaaDoor.Tp

/- Plain mathematics for the law TopSteps: runs from the blank configuration stay within the limits. -/
import Derived.Test.YtkbaiegfloajlaaTa
namespace Go.Proofs.Ytkbaiegfloajlaa.Tp

/-- What holds after k steps from the blank configuration: the cells that are not 0 lie among k cells that were visited. -/
structure Visit (k : Nat) (d : CfgS) (lo hi : Int) : Prop where
  few : hi - lo + 1 ≤ k
  ord : lo ≤ hi + 1
  sup : ∀ p, cellAt d.frm d.cells p ≠ 0 → lo ≤ p ∧ p ≤ hi
  pos : lo - 1 ≤ d.pos ∧ d.pos ≤ hi + 1
  low : -(k : Int) ≤ lo
  high : hi ≤ k
  near : -(k : Int) ≤ d.pos ∧ d.pos ≤ k
theorem visit_zero : Visit 0 ⟨0, 0, 0, []⟩ 0 (-1) := by
  refine ⟨by simp, by simp, fun p h => absurd (cellAt_nil _ _) h, by simp, by simp, by simp, by simp⟩
theorem visit_step {m : MachS} {k : Nat} {d : CfgS} {lo hi : Int} (h : Visit k d lo hi) (hk : k < 100000) (hm : ∀ r, r = ruleAt m d.st (cellAt d.frm d.cells d.pos) → r.m = -1 ∨ r.m = 1) :
    ∃ e lo' hi', stepC m d = some e ∧ Visit (k + 1) e lo' hi' ∧ (∀ p, cellAt e.frm e.cells p = if p = d.pos then (ruleAt m d.st (cellAt d.frm d.cells d.pos)).w else cellAt d.frm d.cells p) ∧ e.st = (ruleAt m d.st (cellAt d.frm d.cells d.pos)).n ∧ e.pos = d.pos + (ruleAt m d.st (cellAt d.frm d.cells d.pos)).m ∧ Norm e.frm e.cells := by
  obtain ⟨r, hr⟩ : ∃ r, r = ruleAt m d.st (cellAt d.frm d.cells d.pos) := ⟨_, rfl⟩
  have hmr := hm r hr
  obtain ⟨n, hn⟩ : ∃ n, n = normL (putL d.frm d.cells d.pos r.w).1 (putL d.frm d.cells d.pos r.w).2 := ⟨_, rfl⟩
  have hnn : Norm n.1 n.2 := by rw [hn]; exact normL_norm _ _
  have hnc : ∀ p, cellAt n.1 n.2 p = if p = d.pos then r.w else cellAt d.frm d.cells p := fun p => by rw [hn, normL_cell, putL_cell]
  have h1 := h.few; have h2 := h.ord; have h3 := h.pos; have h4 := h.low; have h5 := h.high; have h6 := h.near
  obtain ⟨lo', hlo⟩ : ∃ x, x = if d.pos < lo then d.pos else lo := ⟨_, rfl⟩
  obtain ⟨hi', hhi⟩ : ∃ x, x = if hi < d.pos then d.pos else hi := ⟨_, rfl⟩
  have g1 : lo' ≤ lo ∧ lo' ≤ d.pos ∧ (lo' = lo ∨ lo' = d.pos) := by split at hlo <;> omega
  have g2 : hi ≤ hi' ∧ d.pos ≤ hi' ∧ (hi' = hi ∨ hi' = d.pos) := by split at hhi <;> omega
  have hs : ∀ p, cellAt n.1 n.2 p ≠ 0 → lo' ≤ p ∧ p ≤ hi' := by
    intro p hp
    rw [hnc] at hp
    split at hp
    · rename_i e; rw [e]; omega
    · have := h.sup p hp; omega
  have hull := norm_hull hnn hs
  have hpos : inR (d.pos + r.m) = true := inR_iff.2 (by unfold maxPos; rcases hmr with e | e <;> rw [e] <;> omega)
  have hlen : n.2.length ≤ 100000 := by
    rcases hull with e | ⟨_, e1, e2⟩
    · rw [e]; simp
    · omega
  have hfrm : inR n.1 = true := inR_iff.2 (by
    unfold maxPos
    rcases hull with e | ⟨e0, e1, e2⟩
    · rcases hnn with ⟨_, e3⟩ | ⟨e3, _⟩
      · omega
      · exact absurd e e3
    · have : 0 < n.2.length := List.length_pos_iff.2 e0
      omega)
  refine ⟨⟨r.n, d.pos + r.m, n.1, n.2⟩, lo', hi', ?_, ⟨?_, ?_, hs, ?_, ?_, ?_, ?_⟩, by rw [← hr]; exact hnc, by rw [← hr], by rw [← hr], hnn⟩
  · rw [stepC, ← hr, ← hn]
    rw [if_pos ⟨hlen, hpos, hfrm⟩]
  all_goals (try simp only [Int.natCast_add, Int.natCast_one])
  all_goals (rcases hmr with e | e <;> (try rw [e]) <;> omega)
end Go.Proofs.Ytkbaiegfloajlaa.Tp

/- Lemmas for the law CounterJoined, more: an append that may append nothing. -/
import Derived.Test.YtgpcgjdnehlaeaaAj
import Derived.Deep.CutBlock
namespace Go.Proofs.Ytgpcgjdnehlaeaa
open Go.RowKit

theorem step_append_ints {w : World} {ops : Array Oper} {o : Oper} {a : Act} {K : Act → World → Prop} {Q : Exit → Act → World → Prop} {E : Prop} (hgd : o.guard = none) (s x : Operand)
    (ho : o.op = .call { callee := .builtin .append, args := #[s, x], argTypes := #[25, 25] })
    (base n m c : Nat) (xs news : List Int) (v : Value) (ad : Addr) (hs : a.eval s = v) (hx : a.eval x = .slice (some ad) m c)
    (hown : w.ownsRow base 3 1 v n (ints xs)) (hl : news.length = m) (hnews : ∀ j u, (ints news)[j]? = some u → w.cell? (ad.add j) = some u)
    (hm : 0 < n + m) (hsz : n + m ≤ 1000) (hbase : base ≤ w.heap.size) (H : Nat) (hH : w.heap.size = H)
    (h : ∀ g cap w', w'.ownsRow base 3 1 (.slice (some ⟨g, 0, none⟩) (n + m) cap) (n + m) (ints (xs ++ news)) → w.grownBy w' v.ownBlock → (v.ownBlock = some g ∨ g = H) → g < w'.heap.size → K (a.put o.dst (.slice (some ⟨g, 0, none⟩) (n + m) cap)) w') :
    if Region.wanted o (yielded ops a.tmps) = true then Oper.wp Try.prog o a w K Q else E := by
  have hw : Region.wanted o (yielded ops a.tmps) = true := by simp [Region.wanted, hgd]
  rw [if_pos hw]
  obtain ⟨z0, hz0, hz1, hz2, hz3⟩ := info_parts Try.info3
  obtain ⟨v', w', hr, h2, h3, _, h5⟩ := run_append_own_at (P := Try.prog) w base 25 o.type 3 z0 (.int .i64 0) 1 8 Try.underlying25 hz0 hz1 hz2 hz3 rfl (by omega) v n (ints xs) hown ad m c (ints news) (by simpa [ints] using hl) hnews ints_one (by unfold maxLen; omega) (by omega) hbase
  rw [show ints xs ++ ints news = ints (xs ++ news) by simp [ints]] at h2
  obtain ⟨g, cap, rfl, _, hlt⟩ := h2.form hm
  have h6 : v.ownBlock = some g ∨ g = H := by
    rcases h5 with h5 | h5
    · exact .inl (by rw [← h5]; rfl)
    · right
      have : g = w.heap.size := by simpa [Value.ownBlock] using h5
      rw [this, hH]
  unfold Oper.wp execOp
  simp only [ho, resolve, invoke, builtin, Sem.run_bind, Sem.run_pure, Result.andThen_ok, List.map_toArray, List.map_cons, List.map_nil, hs, hx, hr]
  exact h g cap w' h2 h3 h6 hlt

theorem keep22 {w w' : World} {b b2 j1 j2 : Nat} {v1 v2 : Value} {row : Option Nat} (hg : w.grownBy w' row) (hne : some b ≠ row) (hne2 : some b2 ≠ row) (h : w.cell? ⟨b, j1, none⟩ = some v1 ∧ w.cell? ⟨b2, j2, none⟩ = some v2) : w'.cell? ⟨b, j1, none⟩ = some v1 ∧ w'.cell? ⟨b2, j2, none⟩ = some v2 :=
  ⟨(hg.cell_far _ (cell_lt h.1) hne).trans h.1, (hg.cell_far _ (cell_lt h.2) hne2).trans h.2⟩
theorem lie_ne {H g1 z m c : Nat} (h : (Value.slice (some ⟨H, 0, none⟩) 0 0).ownBlock = some g1 ∨ g1 = H + 1) (hz : z < H) : some z ≠ (Value.slice (some ⟨g1, 0, none⟩) m c).ownBlock := by
  have hg : H ≤ g1 := by
    rcases h with h | h
    · simp [Value.ownBlock] at h; omega
    · omega
  simp [Value.ownBlock]
  omega
/-- A row whose length may be said in another way. -/
theorem own_cap {w : World} {base e size g n c m : Nat} {xs : List Value} (h : w.ownsRow base e size (.slice (some ⟨g, 0, none⟩) n c) m xs) : n = m ∧ m ≤ c ∧ base ≤ g ∧ c ≤ maxLen := by
  rcases h.2 with ⟨hv, _⟩ | ⟨g', cap, cur, hv, hg', hh, h1, h2, _⟩
  · cases hv
  · simp only [Value.slice.injEq, Option.some.injEq, Addr.mk.injEq, and_true] at hv
    obtain ⟨rfl, rfl, rfl⟩ := hv
    exact ⟨rfl, h1, hg', h2⟩
theorem own_keep' {w w' : World} {B base e size g n c m : Nat} {xs : List Value} (h : w.ownsRow base e size (.slice (some ⟨g, 0, none⟩) n c) m xs) (hb : Below B w w') (hg : g < B) : w'.ownsRow base e size (.slice (some ⟨g, 0, none⟩) n c) m xs := by
  rcases h.2 with ⟨hv, _⟩ | ⟨g', cap, cur, hv, hg', hh, r⟩
  · cases hv
  · have : g = g' := by simp at hv; omega
    subst this
    exact ⟨h.1, .inr ⟨g, cap, cur, hv, hg', (hb.block g hg).trans hh, r⟩⟩
/-- A row that the call has made: its length, its capacity, the block. -/
def RowAt (W0 wx : World) (g M c : Nat) (L : List Int) : Prop := wx.ownsRow W0.heap.size 3 1 (.slice (some ⟨g, 0, none⟩) M c) M (ints L) ∧ Below W0.heap.size W0 wx
end Go.Proofs.Ytgpcgjdnehlaeaa

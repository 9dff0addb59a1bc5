/- Words for memory that layer 8 uses. -/
import Derived.Test.YtonammaecpapmaaKa
import Derived.Test.YtonammaecpapmaaAa
namespace Go.Proofs.Ytonammaecpapmaa.Pp
open Go.RowKit

theorem own_form {w : World} {base n size : Nat} {e : TypeId} {v : Value} {xs : List Value} (h : w.ownsRow base e size v n xs) : ∃ A c, v = .slice A n c := by
  rcases h.2 with ⟨rfl, rfl⟩ | ⟨g, cap, cur, rfl, _⟩
  · exact ⟨none, 0, rfl⟩
  · exact ⟨_, cap, rfl⟩
theorem own_addr {w : World} {base n c size : Nat} {e : TypeId} {A : Option Addr} {xs : List Value} (h : w.ownsRow base e size (.slice A n c) n xs) (hn : 0 < n) : ∃ g, A = some ⟨g, 0, none⟩ ∧ base ≤ g := by
  rcases h.2 with ⟨hv, h0⟩ | ⟨g, cap, cur, hv, hg, _⟩
  · omega
  · simp at hv
    exact ⟨g, hv.1, hg⟩
theorem own_nil (w : World) (B : Nat) (e : TypeId) : w.ownsRow B e 1 (.slice none 0 0) 0 [] := ⟨rfl, .inl ⟨rfl, rfl⟩⟩
theorem own_cells {w : World} {base n c e : Nat} {A : Option Addr} {xs : List Value} (h : w.ownsRow base e 1 (.slice A n c) n xs) (hn : 0 < n) :
    ∃ g cur, A = some ⟨g, 0, none⟩ ∧ base ≤ g ∧ w.heap[g]? = some (.cells cur e (0, 0)) ∧ n ≤ c ∧ c ≤ maxLen ∧ cur.size = c ∧ cur.toList.take n = xs := by
  rcases h.2 with ⟨hv, h0⟩ | ⟨g, cap, cur, hv, hg, hh, h1, h2, h3, h4⟩
  · omega
  · simp only [Value.slice.injEq, true_and] at hv
    obtain ⟨rfl, rfl⟩ := hv
    exact ⟨g, cur, rfl, hg, hh, h1, h2, by simpa using h3, by simpa using h4⟩
theorem blk_elems {w : World} {g n c : Nat} {t : TypeId} {cs : Array Value} {l : List Value} (h : Blk w g t cs) (hl : cs = l.toArray) (hn : n = l.length := by rfl) : Elems w w.heap.size (.slice (some ⟨g, 0, none⟩) n c) l := by
  subst hn
  refine .inr ⟨g, 0, c, rfl, h.lt, fun k u hu => ?_⟩
  rw [h.cell, hl]
  simpa using hu

theorem newsA (Z : World) (T : TypeId) (cs : List Value) : ∀ j u, cs[j]? = some u → (Z.alloc (.cells cs.toArray T)).cell? ((⟨Z.heap.size, 0, none⟩ : Addr).add j) = some u := fun j u h => by
  rw [addr_add, Nat.zero_add, (Blk.new Z T cs.toArray).cell j]
  simpa using h
theorem set_size (w : World) (p : Addr) (u : Value) : (w.setCell p u).heap.size = w.heap.size := by simp [World.setCell]
theorem elems_out {w : World} {p : Addr} {u v : Value} {cs : List Value} (h : Elems w w.heap.size v cs) (hp : v.ownBlock ≠ some p.block) : Elems (w.setCell p u) (w.setCell p u).heap.size v cs := by
  rw [set_size]
  rcases h with h | ⟨b, off, c, rfl, hb, hc⟩
  · exact .inl h
  · have hbp : b ≠ p.block := fun e => hp (by simp [Value.ownBlock, e])
    exact .inr ⟨b, off, c, rfl, hb, fun k x hx => (World.cell?_of_block (Below.heap_setCell w p u b hbp)).trans (hc k x hx)⟩
theorem own_elems9 {w : World} {base e n c : Nat} {A : Option Addr} {xs : List Value} (h : w.ownsRow base e 1 (.slice A n c) n xs) (hn : xs.length = n) : Elems w w.heap.size (.slice A n c) xs := by
  rcases h.2 with ⟨hv, h0⟩ | ⟨g, cap, cur, hv, _⟩
  · subst hn
    simp only [Value.slice.injEq] at hv
    have hx : xs = [] := List.eq_nil_of_length_eq_zero hv.2.1
    subst hx
    simp only [hv]
    exact Elems.nil _ _
  · simp only [Value.slice.injEq] at hv
    obtain ⟨rfl, _⟩ := hv
    exact own_elems h

theorem Try.infoI : (Try.prog.info? 3).map (fun i => (i.zero, i.size, i.bytes)) = some (some (.int .i64 0), 1, 8) := by kernel_rfl
def YesL (w : World) (e : Ending) (w' : World) : Prop := e = .returned (.bool true) ∧ Below w.heap.size w w'
end Go.Proofs.Ytonammaecpapmaa.Pp

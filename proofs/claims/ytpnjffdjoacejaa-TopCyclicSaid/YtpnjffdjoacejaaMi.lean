/- Contracts: the specification's Turn. -/
import Derived.Test.YtpnjffdjoacejaaMh
import Derived.StillTailTactics
namespace Go.Proofs.Ytpnjffdjoacejaa
open Go.RowKit

/-- A slice's length is within its capacity. -/
def Capped (v : Value) : Prop := ∀ A n c, v = .slice A n c → n ≤ c
theorem own_capped {w : World} {base n c e : Nat} {A : Option Addr} {xs : List Value} (h : w.ownsRow base e 1 (.slice A n c) n xs) : Capped (.slice A n c) := by
  intro A' n' c' hv
  obtain ⟨-, rfl, rfl⟩ := Value.slice.inj hv
  rcases own_block h with ⟨_, h1, _⟩ | ⟨g, _, _, h1, _⟩
  · omega
  · exact h1
/-- What the specification's Turn leaves. -/
def RURan (w : World) (p : Nat) (o : List Int) (e : Ending) (w' : World) : Prop :=
  ∃ v, e = .returned (.tuple #[.agg #[.int .i64 (if o.length ≤ 1000000 then (p : Int) else 0), v], .bool (decide (o.length ≤ 1000000))]) ∧ Elems w' w'.heap.size v (ints (if o.length ≤ 1000000 then o else [])) ∧ Capped v ∧ (∀ b, v.ownBlock = some b → w.heap.size ≤ b) ∧ Below w.heap.size w w'
theorem Elems.tail {w : World} {B n c b off : Nat} {xs : List Int} (h : Elems w B (.slice (some ⟨b, off, none⟩) n c) (ints xs)) (hn : 1 ≤ n) : Elems w B (.slice (if c = 1 then some ⟨b, off, none⟩ else some ⟨b, off + 1, none⟩) (n - 1) (c - 1)) (ints (xs.drop 1)) ∨ (c = 1 ∧ n ≠ 1) := by
  have hl := h.len
  rw [ints_len] at hl
  have hl2 : (ints (xs.drop 1)).length = n - 1 := by rw [ints_len, List.length_drop, hl]
  obtain ⟨b', off', e, hb, hcell⟩ := h.at_ (by omega)
  simp only [Option.some.injEq, Addr.mk.injEq, and_true] at e
  obtain ⟨rfl, rfl⟩ := e
  by_cases hc1 : c = 1
  · by_cases hn1 : n = 1
    · left
      subst hn1
      rw [show 1 - 1 = 0 from rfl] at hl2 ⊢
      rw [List.eq_nil_of_length_eq_zero hl2, if_pos hc1]
      exact .inl ⟨.inr ⟨_, _, rfl⟩, rfl⟩
    · exact .inr ⟨hc1, hn1⟩
  · left
    rw [if_neg hc1]
    refine .inr ⟨b, off + 1, c - 1, by rw [hl2], hb, fun k u hu => ?_⟩
    simp only [ints, List.map_drop, List.getElem?_drop] at hu
    rw [Nat.add_assoc]
    exact hcell _ u hu
/-- The state that the specification's Turn makes, in a box of its own. -/
def OutAt (WW : World) (g : Nat) (p : Int) (l : List Int) (wx : World) : Prop :=
  ∃ A n c, Blk wx g 45 #[.int .i64 p, .slice A n c] ∧ wx.ownsRow WW.heap.size 3 1 (.slice A n c) n (ints l) ∧ WW.heap.size ≤ g ∧ some g ≠ (Value.slice A n c).ownBlock ∧ Below WW.heap.size WW wx
def OutU (WW : World) (p : Int) (l : List Int) (s : Value) (wx : World) : Prop := ∃ g, s = .pointer (some ⟨g, 0, none⟩) ∧ OutAt WW g p l wx
theorem ru_big {w w' : World} {p : Nat} {o : List Int} (h : ¬ o.length ≤ 1000000) (hb : Below w.heap.size w w') : RURan w p o (.returned (.tuple #[.agg #[.int .i64 0, .slice none 0 0], .bool false])) w' :=
  ⟨_, by rw [decide_eq_false h, if_neg h], by rw [if_neg h]; exact Elems.nil _ _, (fun A n c e => by obtain ⟨-, rfl, rfl⟩ := Value.slice.inj e; exact Nat.le_refl _), (fun b e => by simp [Value.ownBlock] at e), hb⟩
theorem ru_ok {w w' : World} {p : Nat} {o : List Int} {v : Value} {P : Int} (h : o.length ≤ 1000000) (hp : P = (p : Int)) (he : Elems w' w'.heap.size v (ints o)) (hc : Capped v) (hf : ∀ b, v.ownBlock = some b → w.heap.size ≤ b) (hb : Below w.heap.size w w') : RURan w p o (.returned (.tuple #[.agg #[.int .i64 P, v], .bool true])) w' :=
  ⟨_, by rw [decide_eq_true h, if_pos h, hp], by rw [if_pos h]; exact he, hc, hf, hb⟩
theorem out_new {WW w1 : World} {A : Option Addr} {n c : Nat} {p : Int} {l : List Int} (h : w1.ownsRow WW.heap.size 3 1 (.slice A n c) n (ints l)) (hb : Below WW.heap.size WW w1) : OutU WW p l (.pointer (some ⟨w1.heap.size, 0, none⟩)) (w1.alloc (.cells #[.int .i64 p, .slice A n c] 45)) :=
  ⟨_, rfl, A, n, c, Blk.new _ _ _, h.alloc _, hb.size, fun e => by have := (h.lt _ e.symm).2; omega, bnext hb (below1 w1 _)⟩
theorem out_one1 (WW : World) (p : Int) : OutU WW p [] (.pointer (some ⟨WW.heap.size + 1, 0, none⟩)) ((WW.alloc (.cells #[] 3)).alloc (.cells #[.int .i64 p, .slice (some ⟨WW.heap.size, 0, none⟩) 0 0] 45)).drew := by
  have hk : Blk ((WW.alloc (.cells #[] 3)).alloc (.cells #[.int .i64 p, .slice (some ⟨WW.heap.size, 0, none⟩) 0 0] 45)) (WW.heap.size + 1) 45 #[.int .i64 p, .slice (some ⟨WW.heap.size, 0, none⟩) 0 0] := by
    have h := Blk.new (WW.alloc (.cells #[] 3)) 45 #[.int .i64 p, .slice (some ⟨WW.heap.size, 0, none⟩) 0 0]
    simpa using h
  exact ⟨_, rfl, _, 0, 0, hk, (own_empty WW 3).alloc _, by omega, by simp [Value.ownBlock], (below2 WW _ _).drew⟩
theorem out_one2 (WW : World) (p : Int) : OutU WW p [] (.pointer (some ⟨WW.heap.size, 0, none⟩)) ((WW.alloc (.cells #[.int .i64 p, .slice (some ⟨WW.heap.size + 1, 0, none⟩) 0 0] 45)).alloc (.cells #[] 3)).drew := by
  have ho : ((WW.alloc (.cells #[.int .i64 p, .slice (some ⟨WW.heap.size + 1, 0, none⟩) 0 0] 45)).alloc (.cells #[] 3)).ownsRow WW.heap.size 3 1 (.slice (some ⟨WW.heap.size + 1, 0, none⟩) 0 0) 0 [] := by
    have h := own_base (B' := WW.heap.size) (own_empty (WW.alloc (.cells #[.int .i64 p, .slice (some ⟨WW.heap.size + 1, 0, none⟩) 0 0] 45)) 3) (by simp)
    simpa using h
  exact ⟨_, rfl, _, 0, 0, (Blk.new WW _ _).alloc _, ho, Nat.le_refl _, by simp [Value.ownBlock], (below2 WW _ _).drew⟩
theorem out_set {WW w1 : World} {A : Option Addr} {n c g : Nat} {p : Int} {l : List Int} {a0 a1 : Value} (h : w1.ownsRow WW.heap.size 3 1 (.slice A n c) n (ints l)) (hb : Below WW.heap.size WW w1) (hk : Blk w1 g 45 #[a0, a1]) (hg : WW.heap.size ≤ g) (hne : some g ≠ (Value.slice A n c).ownBlock) :
    OutU WW p l (.pointer (some ⟨g, 0, none⟩)) ((w1.setCell ⟨g, 0, none⟩ (.int .i64 p)).setCell ⟨g, 1, none⟩ (.slice A n c)) :=
  ⟨_, rfl, A, n, c, by simpa using (hk.set_ 0 (.int .i64 p)).set_ 1 (.slice A n c), ownsRow_setCell_other (a := ⟨g, 1, none⟩) (ownsRow_setCell_other (a := ⟨g, 0, none⟩) h (fun e => hne e.symm) _) (fun e => hne e.symm) _, hg, hne, (hb.setCell hg _).setCell hg _⟩

end Go.Proofs.Ytpnjffdjoacejaa

/- Lemmas for the law CounterJoined. -/
import Derived.Test.YtgpcgjdnehlaeaaAh
import Derived.Test.YtgpcgjdnehlaeaaAi
import Derived.Test.YtgpcgjdnehlaeaaI
namespace Go.Proofs.Ytgpcgjdnehlaeaa
open Go.RowKit

/-- The contents behind the copying of the first k given ones. -/
def fillR (M : Nat) (regs : List Int) (k : Nat) : List Int := regs.take k ++ List.replicate (M - k) 0
theorem fillR_len {M k : Nat} {regs : List Int} (hk : k ≤ regs.length) (hM : k ≤ M) : (fillR M regs k).length = M := by
  simp [fillR]; omega
theorem fillR_step {M k : Nat} {regs : List Int} {x : Int} (hx : regs[k]? = some x) (hM : k < M) : (fillR M regs k).set k x = fillR M regs (k + 1) := by
  have hk : k < regs.length := (List.getElem?_eq_some_iff.1 hx).1
  have ht : (regs.take k).length = k := by simp; omega
  rw [fillR, fillR, List.set_append_right _ _ (by omega), ht, Nat.sub_self, show M - k = (M - (k + 1)) + 1 by omega, List.replicate_succ, List.set_cons_zero, List.take_add_one, hx]
  simp
theorem ints_set {xs : List Int} {k : Nat} {x : Int} : (ints xs).set k (.int .i64 x) = ints (xs.set k x) := by
  simp [ints]
theorem _root_.Go.Proofs.Ytgpcgjdnehlaeaa.IntsAt.take {w : World} {B n k : Nat} {A : Option Addr} {xs : List Int} (h : IntsAt w B A n xs) (hk : k ≤ n) : IntsAt w B A k (xs.take k) :=
  ⟨by have := h.len; simp; omega, fun hk0 => by
    obtain ⟨b, off, e, hlt, hc⟩ := h.at_ (by omega)
    exact ⟨b, off, e, hlt, fun j x hx => hc j x (by
      rw [List.getElem?_take] at hx
      split at hx
      · exact hx
      · cases hx)⟩⟩
theorem keepc' {B : Nat} {w w' : World} {a : Addr} {v : Value} (hb : Below B w w') (h : w.cell? a = some v) (hl : a.block < B) : w'.cell? a = some v := (hb.cell hl).trans h
/-- What a run without an error is. -/
theorem run_ok {R at_ N xa xn : Int} {code : List Ins} {rs xr : List Int} (h : runS R code at_ rs N = ⟨xa, xr, xn, 0⟩) :
    fitsB R code at_ rs = true ∧ 0 ≤ N ∧ ∃ o, walkC code ff N.toNat at_.toNat rs = some o ∧ xa = o.at_ ∧ xr = o.rs ∧ xn = o.k := by
  cases hf : fitsB R code at_ rs
  · simp [runS, hf] at h
  · by_cases hN : N < 0 ∨ 1000000 < N
    · rw [runS, hf, if_neg (by simp), if_pos hN] at h
      simp at h
    · rw [runS_eq hf (by omega) (by omega)] at h
      cases hw : walkC code ff N.toNat at_.toNat rs with
      | none => rw [hw] at h; simp [resOf] at h
      | some o =>
        rw [hw] at h
        simp [resOf] at h
        exact ⟨rfl, by omega, o, rfl, h.1.symm, h.2.1.symm, h.2.2.symm⟩
/-- A state in a box of its own. -/
def BoxAt (wr : World) (xa : Int) (xr : List Int) (gx : Nat) (wx : World) : Prop :=
  ∃ Ax mx cx, wr.heap.size ≤ gx ∧ Blk wx gx 27 #[.int .i64 xa, .slice Ax mx cx] ∧ IntsAt wx wx.heap.size Ax mx xr ∧ Below wr.heap.size wr wx
theorem box_after {wr w' : World} {xa : Int} {xr : List Int} {Ax : Option Addr} {mx : Nat} (cx : Nat) (hi : IntsAt w' w'.heap.size Ax mx xr) (hb : Below wr.drew.heap.size wr.drew w') :
    BoxAt wr xa xr w'.heap.size (w'.alloc (.cells #[.int .i64 xa, .slice Ax mx cx] 27)) :=
  ⟨Ax, mx, cx, hb.drewl.size, Blk.new _ _ _, hi.to ((Below.refl _ w').alloc (Nat.le_refl _) _), hb.drewl.alloc hb.drewl.size _⟩
theorem box_before {wr w' : World} {xa : Int} {xr : List Int} {Ax : Option Addr} {mx : Nat} (cx : Nat) {u v : Value} (hi : IntsAt w' w'.heap.size Ax mx xr) (hf : Fresh (wr.alloc (.cells #[u, v] 27)).drew.heap.size Ax) (hb : Below (wr.alloc (.cells #[u, v] 27)).drew.heap.size (wr.alloc (.cells #[u, v] 27)).drew w') :
    BoxAt wr xa xr wr.heap.size ((w'.setCell ⟨wr.heap.size, 0, none⟩ (.int .i64 xa)).setCell ⟨wr.heap.size, 1, none⟩ (.slice Ax mx cx)) := by
  rw [size_ad] at hf
  exact ⟨Ax, mx, cx, Nat.le_refl _, by simpa using ((newblk hb).set_ 0 (.int .i64 xa)).set_ 1 (.slice Ax mx cx), hi.res2 hf _ _, below_res (((Below.refl _ wr).alloc (Nat.le_refl _) _).drew.trans (hb.mono (by rw [size_ad]; omega))) (Nat.le_refl _) _ _⟩
theorem ints_zero (M : Nat) : (madeCells (Value.int .i64 0).cells (M * 1)).toList = ints (fillR M [] 0) := by
  rw [Nat.mul_one]
  refine (toList_madeCells_one _ _).trans ?_
  simp [ints, fillR]

end Go.Proofs.Ytgpcgjdnehlaeaa

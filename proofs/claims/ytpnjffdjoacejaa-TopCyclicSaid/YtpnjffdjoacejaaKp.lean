/- Contracts: three, awake of the law package. -/
import Derived.Test.YtpnjffdjoacejaaKo
namespace Go.Proofs.Ytpnjffdjoacejaa
open Go.RowKit

def threeT : TagS := ⟨2, [[1, 2], [0], [0, 0, 0]], [false, false, false]⟩

/-- A block that the call has made, as a slice. -/
theorem blk_elems {w : World} {g n c : Nat} {t : TypeId} {cs : Array Value} {l : List Value} (h : Blk w g t cs) (hl : cs = l.toArray) (hn : n = l.length := by rfl) : Elems w w.heap.size (.slice (some ⟨g, 0, none⟩) n c) l := by
  subst hn
  refine .inr ⟨g, 0, c, rfl, h.lt, fun k u hu => ?_⟩
  rw [h.cell, hl]
  simpa using hu

set_option maxHeartbeats 1000000 in
theorem three_any (w : World) : Calls Try.prog 44 #[] w fun e w' => ∃ v2 v3, e = .returned (.agg #[.int .i64 2, v2, v3]) ∧ TagIn w' w'.heap.size v2 v3 threeT ∧ Below w.heap.size w w' := by
  go_enter Try.func44, Try.ntmps44
  go_wp2_with fail
  obtain ⟨W, hW⟩ : ∃ W, W = ((((((w.alloc (.cells #[.int .i64 2, .slice (some ⟨w.heap.size + 1 + 1 + 1 + 1, 0, none⟩) 3 3, .slice (some ⟨w.heap.size + 1 + 1 + 1 + 1 + 1, 0, none⟩) 3 3] 25)).alloc (.cells #[.int .i64 1, .int .i64 2] 3)).alloc (.cells #[.int .i64 0] 3)).alloc (.cells #[.int .i64 0, .int .i64 0, .int .i64 0] 3)).alloc (.cells #[.slice (some ⟨w.heap.size + 1, 0, none⟩) 2 2, .slice (some ⟨w.heap.size + 1 + 1, 0, none⟩) 1 1, .slice (some ⟨w.heap.size + 1 + 1 + 1, 0, none⟩) 3 3] 26)).alloc (.cells #[.bool false, .bool false, .bool false] 4)) := ⟨_, rfl⟩
  rw [← hW]
  have hsz : W.heap.size = w.heap.size + 1 + 1 + 1 + 1 + 1 + 1 := by rw [hW]; simp
  have hbw : Below w.heap.size w W := by
    rw [hW]
    exact (((((below1 w _).alloc (by simp) _).alloc (by simp; omega) _).alloc (by simp; omega) _).alloc (by simp; omega) _).alloc (by simp; omega) _
  have B0 : Blk W (w.heap.size) 25 #[.int .i64 2, .slice (some ⟨w.heap.size + 1 + 1 + 1 + 1, 0, none⟩) 3 3, .slice (some ⟨w.heap.size + 1 + 1 + 1 + 1 + 1, 0, none⟩) 3 3] := by
    rw [hW]
    have := ((((((Blk.new w 25 #[.int .i64 2, .slice (some ⟨w.heap.size + 1 + 1 + 1 + 1, 0, none⟩) 3 3, .slice (some ⟨w.heap.size + 1 + 1 + 1 + 1 + 1, 0, none⟩) 3 3]).alloc (.cells #[.int .i64 1, .int .i64 2] 3)).alloc (.cells #[.int .i64 0] 3)).alloc (.cells #[.int .i64 0, .int .i64 0, .int .i64 0] 3)).alloc (.cells #[.slice (some ⟨w.heap.size + 1, 0, none⟩) 2 2, .slice (some ⟨w.heap.size + 1 + 1, 0, none⟩) 1 1, .slice (some ⟨w.heap.size + 1 + 1 + 1, 0, none⟩) 3 3] 26)).alloc (.cells #[.bool false, .bool false, .bool false] 4))
    simpa using this
  have B1 : Blk W (w.heap.size + 1) 3 #[.int .i64 1, .int .i64 2] := by
    rw [hW]
    have := (((((Blk.new (w.alloc (.cells #[.int .i64 2, .slice (some ⟨w.heap.size + 1 + 1 + 1 + 1, 0, none⟩) 3 3, .slice (some ⟨w.heap.size + 1 + 1 + 1 + 1 + 1, 0, none⟩) 3 3] 25)) 3 #[.int .i64 1, .int .i64 2]).alloc (.cells #[.int .i64 0] 3)).alloc (.cells #[.int .i64 0, .int .i64 0, .int .i64 0] 3)).alloc (.cells #[.slice (some ⟨w.heap.size + 1, 0, none⟩) 2 2, .slice (some ⟨w.heap.size + 1 + 1, 0, none⟩) 1 1, .slice (some ⟨w.heap.size + 1 + 1 + 1, 0, none⟩) 3 3] 26)).alloc (.cells #[.bool false, .bool false, .bool false] 4))
    simpa using this
  have B2 : Blk W (w.heap.size + 1 + 1) 3 #[.int .i64 0] := by
    rw [hW]
    have := ((((Blk.new ((w.alloc (.cells #[.int .i64 2, .slice (some ⟨w.heap.size + 1 + 1 + 1 + 1, 0, none⟩) 3 3, .slice (some ⟨w.heap.size + 1 + 1 + 1 + 1 + 1, 0, none⟩) 3 3] 25)).alloc (.cells #[.int .i64 1, .int .i64 2] 3)) 3 #[.int .i64 0]).alloc (.cells #[.int .i64 0, .int .i64 0, .int .i64 0] 3)).alloc (.cells #[.slice (some ⟨w.heap.size + 1, 0, none⟩) 2 2, .slice (some ⟨w.heap.size + 1 + 1, 0, none⟩) 1 1, .slice (some ⟨w.heap.size + 1 + 1 + 1, 0, none⟩) 3 3] 26)).alloc (.cells #[.bool false, .bool false, .bool false] 4))
    simpa using this
  have B3 : Blk W (w.heap.size + 1 + 1 + 1) 3 #[.int .i64 0, .int .i64 0, .int .i64 0] := by
    rw [hW]
    have := (((Blk.new (((w.alloc (.cells #[.int .i64 2, .slice (some ⟨w.heap.size + 1 + 1 + 1 + 1, 0, none⟩) 3 3, .slice (some ⟨w.heap.size + 1 + 1 + 1 + 1 + 1, 0, none⟩) 3 3] 25)).alloc (.cells #[.int .i64 1, .int .i64 2] 3)).alloc (.cells #[.int .i64 0] 3)) 3 #[.int .i64 0, .int .i64 0, .int .i64 0]).alloc (.cells #[.slice (some ⟨w.heap.size + 1, 0, none⟩) 2 2, .slice (some ⟨w.heap.size + 1 + 1, 0, none⟩) 1 1, .slice (some ⟨w.heap.size + 1 + 1 + 1, 0, none⟩) 3 3] 26)).alloc (.cells #[.bool false, .bool false, .bool false] 4))
    simpa using this
  have B4 : Blk W (w.heap.size + 1 + 1 + 1 + 1) 26 #[.slice (some ⟨w.heap.size + 1, 0, none⟩) 2 2, .slice (some ⟨w.heap.size + 1 + 1, 0, none⟩) 1 1, .slice (some ⟨w.heap.size + 1 + 1 + 1, 0, none⟩) 3 3] := by
    rw [hW]
    have := ((Blk.new ((((w.alloc (.cells #[.int .i64 2, .slice (some ⟨w.heap.size + 1 + 1 + 1 + 1, 0, none⟩) 3 3, .slice (some ⟨w.heap.size + 1 + 1 + 1 + 1 + 1, 0, none⟩) 3 3] 25)).alloc (.cells #[.int .i64 1, .int .i64 2] 3)).alloc (.cells #[.int .i64 0] 3)).alloc (.cells #[.int .i64 0, .int .i64 0, .int .i64 0] 3)) 26 #[.slice (some ⟨w.heap.size + 1, 0, none⟩) 2 2, .slice (some ⟨w.heap.size + 1 + 1, 0, none⟩) 1 1, .slice (some ⟨w.heap.size + 1 + 1 + 1, 0, none⟩) 3 3]).alloc (.cells #[.bool false, .bool false, .bool false] 4))
    simpa using this
  have B5 : Blk W (w.heap.size + 1 + 1 + 1 + 1 + 1) 4 #[.bool false, .bool false, .bool false] := by
    rw [hW]
    have := (Blk.new (((((w.alloc (.cells #[.int .i64 2, .slice (some ⟨w.heap.size + 1 + 1 + 1 + 1, 0, none⟩) 3 3, .slice (some ⟨w.heap.size + 1 + 1 + 1 + 1 + 1, 0, none⟩) 3 3] 25)).alloc (.cells #[.int .i64 1, .int .i64 2] 3)).alloc (.cells #[.int .i64 0] 3)).alloc (.cells #[.int .i64 0, .int .i64 0, .int .i64 0] 3)).alloc (.cells #[.slice (some ⟨w.heap.size + 1, 0, none⟩) 2 2, .slice (some ⟨w.heap.size + 1 + 1, 0, none⟩) 1 1, .slice (some ⟨w.heap.size + 1 + 1 + 1, 0, none⟩) 3 3] 26)) 4 #[.bool false, .bool false, .bool false])
    simpa using this
  clear hW
  have e0 := B0.cell 0
  have e1 := B0.cell 1
  have e2 := B0.cell 2
  simp at e0 e1 e2
  refine bodyPost_ret (v := .agg #[.int .i64 2, .slice (some ⟨w.heap.size + 1 + 1 + 1 + 1, 0, none⟩) 3 3, .slice (some ⟨w.heap.size + 1 + 1 + 1 + 1 + 1, 0, none⟩) 3 3]) (by simp [results, Try.results44, go_sem, e0, e1, e2]) rfl ?_
  refine ⟨_, _, rfl, ⟨⟨[.slice (some ⟨w.heap.size + 1, 0, none⟩) 2 2, .slice (some ⟨w.heap.size + 1 + 1, 0, none⟩) 1 1, .slice (some ⟨w.heap.size + 1 + 1 + 1, 0, none⟩) 3 3], blk_elems B4 rfl, rfl, ?_⟩, blk_elems B5 rfl, by decide⟩, hbw⟩
  intro k u r hu hr
  match k, hu, hr with
  | 0, hu, hr =>
    obtain rfl := Option.some.inj hu
    obtain rfl := Option.some.inj hr
    exact blk_elems B1 rfl
  | 1, hu, hr =>
    obtain rfl := Option.some.inj hu
    obtain rfl := Option.some.inj hr
    exact blk_elems B2 rfl
  | 2, hu, hr =>
    obtain rfl := Option.some.inj hu
    obtain rfl := Option.some.inj hr
    exact blk_elems B3 rfl
  | k + 3, hu, hr => simp [threeT] at hr
end Go.Proofs.Ytpnjffdjoacejaa

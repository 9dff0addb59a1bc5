/- Contracts: the specification's Copy. -/
import Derived.Test.YtckabinmmficlaaCu
import Derived.Deep.AppendLies
namespace Go.Proofs.Ytckabinmmficlaa.Cn
open Go.RowKit

def Copied (w : World) (a : Int) (m : Nat) (rs : List Int) (e : Ending) (w' : World) : Prop :=
  ∃ g cap, e = .returned (.agg #[.int .i64 a, .slice (some ⟨g, 0, none⟩) m cap]) ∧ w.heap.size ≤ g ∧ w'.ownsRow w.heap.size 3 1 (.slice (some ⟨g, 0, none⟩) m cap) m (ints rs) ∧ Below w.heap.size w w'

theorem keep2g {w w' : World} {b j1 j2 : Nat} {v1 v2 : Value} {row : Option Nat} (hg : w.grownBy w' row) (hne : some b ≠ row) (h : w.cell? ⟨b, j1, none⟩ = some v1 ∧ w.cell? ⟨b, j2, none⟩ = some v2) : w'.cell? ⟨b, j1, none⟩ = some v1 ∧ w'.cell? ⟨b, j2, none⟩ = some v2 :=
  ⟨(World.cell?_of_block (hg.block b (cell_lt h.1) hne)).trans h.1, (World.cell?_of_block (hg.block b (cell_lt h.1) hne)).trans h.2⟩
theorem farbox {w w' : World} {g : Nat} {t : TypeId} {a b : Value} {row : Option Nat} (h : Blk w g t #[a, b]) (hg : w.drew.grownBy w' row) (hne : some g ≠ row) :
    w'.cell? ⟨g, 0, none⟩ = some a ∧ w'.cell? ⟨g, 1, none⟩ = some b ∧ w'.frozen? ⟨g, 0, none⟩ = false ∧ w'.frozen? ⟨g, 1, none⟩ = false ∧ Hid (Blk w' g t #[a, b]) := by
  have b1 : Blk w' g t #[a, b] := Blk.grownby (w := w.drew) h hg hne
  exact ⟨b1.cell 0, b1.cell 1, b1.free 0, b1.free 1, b1⟩

set_option maxHeartbeats 2000000 in
theorem copy_any (a : Int) (b off m d : Nat) (rs : List Int) (w : World) (hr : IntsIn w b off rs) (hl : rs.length = m) (hm : 0 < m) (hm2 : m ≤ 4000) (HB : b < w.heap.size) :
    Calls Try.prog 31 #[.agg #[.int .i64 a, .slice (some ⟨b, off, none⟩) m d]] w (Copied w a m rs) := by
  obtain ⟨i0, hi0, hz0, hz1, hz2⟩ := info_parts Try.info3
  have HR := hid_ hr; clear hr
  have HL := hid_ hl; clear hl
  go_enter Try.func31, Try.ntmps31
  go_wp2_with fail
  generalize hW2 : (w.alloc (.cells #[.int .i64 a, .slice (some ⟨b, off, none⟩) m d] 47)).alloc (.cells #[.int .i64 0, .slice none 0 0] 47) = W2
  have HW2 := hid_ hW2
  clear hW2
  have hs2 : w.heap.size + 1 < W2.heap.size := by rw [← HW2.out]; simp
  have hw2 : Below w.heap.size w W2 := by rw [← HW2.out]; exact below2 w _ _
  have B1 := (Blk.new w 47 #[.int .i64 a, .slice (some ⟨b, off, none⟩) m d]).alloc (.cells #[.int .i64 0, .slice none 0 0] 47)
  have B2 := Blk.new (w.alloc (.cells #[.int .i64 a, .slice (some ⟨b, off, none⟩) m d] 47)) 47 #[.int .i64 0, .slice none 0 0]
  rw [HW2.out] at B1 B2
  rw [show (w.alloc (.cells #[.int .i64 a, .slice (some ⟨b, off, none⟩) m d] 47)).heap.size = w.heap.size + 1 by simp] at B2
  have c0 := B1.cell 0
  have c1 := B1.cell 1
  simp at c0 c1
  have hsrc := HR.out.below hw2 (HB)
  have own0 : (W2.alloc (.cells #[] 3)).drew.ownsRow W2.heap.size 3 1 (.slice (some ⟨W2.heap.size, 0, none⟩) 0 0) 0 [] :=
    ⟨rfl, .inr ⟨W2.heap.size, 0, #[], rfl, Nat.le_refl _, heap_alloc_new W2 _, Nat.le_refl _, by unfold maxLen; omega, rfl, rfl⟩⟩
  have hnews : ∀ j u, (ints rs)[j]? = some u → (W2.alloc (.cells #[] 3)).drew.cell? ((⟨b, off, none⟩ : Addr).add j) = some u := by
    intro j u hu
    obtain ⟨x, hx, rfl⟩ := ints_get hu
    rw [addr_add]
    exact keepa _ (hsrc j x hx)
  have HN := hid_ hnews
  have HO := hid_ own0
  clear hnews own0 hsrc
  have hil : (ints rs).length = m * 1 := by simp [ints, HL.out]
  have HIL := hid_ hil
  clear hil
  have HNE : Hid (some w.heap.size ≠ (Value.slice (some ⟨W2.heap.size, 0, none⟩) 0 0).ownBlock) := by simp [Hid, Value.ownBlock]; omega
  have HNE2 : Hid (some (w.heap.size + 1) ≠ (Value.slice (some ⟨W2.heap.size, 0, none⟩) 0 0).ownBlock) := by simp [Hid, Value.ownBlock]; omega
  have hne12 : w.heap.size ≠ w.heap.size + 1 := by omega
  go_region_held3 (fun w' => w'.cell? ⟨w.heap.size, 0, none⟩ = some (.int .i64 a) ∧ w'.cell? ⟨w.heap.size, 1, none⟩ = some (.slice (some ⟨b, off, none⟩) m d))
    (first | exact ⟨c0, c1⟩ | exact keep2a _ (by assumption) | exact keep2c hne12 (by assumption) | exact keep2g hgrow hk1 (by assumption))
    ((refine step_append_lies _ (by rfl) _ _ _ (by rfl) W2.heap.size 3 i0 (.int .i64 0) 1 8 Try.underlying22 hi0 hz0 hz1 hz2 rfl (by omega) (.slice (some ⟨W2.heap.size, 0, none⟩) 0 0) 0 [] (by rfl) HO.out
        ⟨b, off, none⟩ m d (ints rs) (by rfl) HIL.out HN.out ints_one hm (by unfold maxLen; omega) (by omega) (by simp) (W2.heap.size + 1) (by simp) ?_; intro gg cap w1 hown1 hgrow hat hlt; have hk1 : some w.heap.size ≠ (Value.slice (some ⟨W2.heap.size, 0, none⟩) 0 0).ownBlock := HNE.out; obtain ⟨r0, r1, f0, f1, HD⟩ := farbox (B2.alloc (.cells #[] 3)) hgrow HNE2.out))
  have HOWN := hid_ hown1
  clear hown1
  have hgg : W2.heap.size ≤ gg := by
    rcases hat with e | e
    · simp [Value.ownBlock] at e; omega
    · omega
  have hbel : Below w.heap.size w w1 := ((hw2.alloc (by omega) (.cells #[] 3)).drew).grown hgrow (by simp; omega) (fun k hk => by simp [Value.ownBlock] at hk; omega)
  go_wp2_with fail
  obtain ⟨e0, e1⟩ := res_cells HD.out (.int .i64 a) (.slice (some ⟨gg, 0, none⟩) m cap)
  refine bodyPost_ret (v := .agg #[.int .i64 a, .slice (some ⟨gg, 0, none⟩) m cap]) (by simp [results, Try.results31, go_sem, e0, e1]) rfl ?_
  exact ⟨gg, cap, rfl, by omega, own_res (own_base (by simpa using HOWN.out) (by omega)) (by omega) _ _, below_res hbel (by omega) _ _⟩
end Go.Proofs.Ytckabinmmficlaa.Cn

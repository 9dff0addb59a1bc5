/- Contracts: drop and list of the queue of package tag (of integers). -/
import Derived.Test.YtpnjffdjoacejaaMb
namespace Go.Proofs.Ytpnjffdjoacejaa
open Go.RowKit

set_option maxRecDepth 100000 in
set_option maxHeartbeats 1000000 in
theorem qdrop_stay8 (d go n f c : Nat) (A : Option Addr) (w : World) (hbx : Blk w go 104 #[.slice A n c, .int .i64 ((f : Nat) : Int)])
    (hn : n ≤ 4000000) (hfd : 2 * (f + d) ≤ n) :
    Calls Try.prog 58 #[.pointer (some ⟨go, 0, none⟩), .int .i64 d] w fun e w' => e = .returned (.tuple #[]) ∧ ∃ k, w' = (w.setCell ⟨go, 1, none⟩ (.int .i64 ((f : Int) + d))).drewN k := by
  have c0 := hbx.cell 0
  have c1 := hbx.cell 1
  have f1 := hbx.free 1
  simp at c0 c1
  have t1 : ¬ ((n : Int) / 2 < (f : Int) + d) := by omega
  have t2 : 0 ≤ (f : Int) + d := by omega
  have t3 : (f : Int) + d ≤ 4000000 := by omega
  have t4 : 0 ≤ (n : Int) := by omega
  clear hbx
  go_enter Try.func58, Try.ntmps58
  go_wp2_with fail
  go_quiet (fail)
  go_wp2_with fail
  go_end0
  exact ⟨rfl, _, rfl⟩

set_option maxRecDepth 100000 in
set_option maxHeartbeats 2000000 in
theorem qdrop_move8 (d go g n f c : Nat) (cur : Array Value) (cs : List Value) (w : World) (hbx : Blk w go 104 #[.slice (some ⟨g, 0, none⟩) n c, .int .i64 ((f : Nat) : Int)])
    (hg : w.heap[g]? = some (.cells cur 5 (0, 0))) (hne : g ≠ go) (hn : n ≤ 4000000) (hnc : n ≤ c) (hcur : cur.size = c) (hfd : n < 2 * (f + d)) (hfd2 : f + d ≤ n)
    (hcs : cs = (cur.toList.take n).drop (f + d)) (h1 : ∀ v ∈ cs, v.oneCell' = true) :
    Calls Try.prog 58 #[.pointer (some ⟨go, 0, none⟩), .int .i64 d] w fun e w' => e = .returned (.tuple #[]) ∧
      ∃ w2, w2.heap[g]? = some (.cells (cs ++ cur.toList.drop (n - (f + d))).toArray 5 (0, 0)) ∧ (∀ k, k < w.heap.size → k ≠ g → k ≠ go → w2.heap[k]? = w.heap[k]?) ∧ w2.os = w.os ∧ w2.tape = w.tape ∧ w2.output = w.output ∧ w2.heap.size = w.heap.size ∧
        Blk w2 go 104 #[.slice (some ⟨g, 0, none⟩) (n - (f + d)) c, .int .i64 0] ∧ w' = w2 := by
  have c0 := hbx.cell 0
  have c1 := hbx.cell 1
  have f1 := hbx.free 1
  have f0 := hbx.free 0
  simp at c0 c1
  have hgo := hbx.lt
  have t1 : (n : Int) / 2 < (f : Int) + d := by omega
  have t2 : 0 ≤ (f : Int) + d := by omega
  have t3 : (f : Int) + d ≤ n := by omega
  have t4 : 0 ≤ (n : Int) := by omega
  have t5 : (f : Int) + d ≤ c := by omega
  have t6 : (n : Int) ≤ c := by omega
  have HX := hid_ hbx
  have HG := hid_ hg
  have HC := hid_ hcs
  have HCUR := hid_ hcur
  have HS : Hid ((Try.prog.info? 5).map (·.size) = some 1) := hid_ (by kernel_rfl)
  clear hbx hg hcs hcur
  go_enter Try.func58, Try.ntmps58
  go_wp2_with fail
  go_quiet (fail)
  go_wp2_with fail
  obtain ⟨W, hW⟩ : ∃ W, W = (w.setCell ⟨go, 1, none⟩ (.int .i64 ((f : Int) + d))).drewN nq := ⟨_, rfl⟩
  rw [← hW]
  have e0 : ∀ b o, b ≠ go → W.cell? ⟨b, o, none⟩ = w.cell? ⟨b, o, none⟩ := fun b o h => by
    rw [hW]; exact World.cell?_of_block (Below.heap_setCell w ⟨go, 1, none⟩ _ b h)
  have HBW : Hid (Blk W go 104 #[.slice (some ⟨g, 0, none⟩) n c, .int .i64 ((f : Int) + d)]) := by
    rw [hW]; exact hid_ (by simpa using (HX.out.set_ 1 (.int .i64 ((f : Int) + d))).dN nq)
  have HGW : Hid (W.heap[g]? = some (.cells cur 5 (0, 0))) := by
    rw [hW]; exact hid_ ((Below.heap_setCell w ⟨go, 1, none⟩ _ g hne).trans HG.out)
  have HSW : Hid (∀ k, k < w.heap.size → k ≠ go → W.heap[k]? = w.heap[k]?) := by
    rw [hW]; exact hid_ (fun k _ hk => Below.heap_setCell w ⟨go, 1, none⟩ _ k hk)
  have HST : Hid (W.os = w.os ∧ W.tape = w.tape ∧ W.output = w.output ∧ W.heap.size = w.heap.size) := by
    rw [hW]; exact hid_ ⟨rfl, rfl, rfl, by simp [World.setCell]⟩
  clear hW e0 c0 c1 f0 f1
  have c0 := HBW.out.cell 0
  have c1 := HBW.out.cell 1
  simp at c0 c1
  have hS : ((f : Int) + d).toNat = f + d := by omega
  have hlen : cs.length = n - ((f : Int) + d).toNat := by rw [HC.out, hS]; simp; have := HCUR.out; omega
  have HLEN := hid_ hlen
  have hsrc : 0 < n - ((f : Int) + d).toNat → ∃ ad, (if c = ((f : Int) + d).toNat then some (⟨g, 0, none⟩ : Addr) else some ⟨g, ((f : Int) + d).toNat, none⟩) = some ad ∧ ∀ j v, cs[j]? = some v → W.cell? (ad.add j) = some v := fun hpos => ⟨⟨g, f + d, none⟩, by rw [if_neg (by omega), hS], fun j v hv => by
    rw [addr_add, cell_of_row W g (f + d + j) cur 5 (0, 0) HGW.out]
    rw [HC.out, List.getElem?_drop, List.getElem?_take] at hv
    split at hv
    · simpa using hv
    · cases hv⟩
  have HSRC := hid_ hsrc
  have hmn : n - ((f : Int) + d).toNat ≤ n := Nat.sub_le _ _
  have hncur : n ≤ cur.size := by have := HCUR.out; omega
  have HSS := hid_ hS
  have t7 : ((n - ((f : Int) + d).toNat : Nat) : Int) ≤ c := by omega
  have t8 : 0 ≤ ((n - ((f : Int) + d).toNat : Nat) : Int) := by omega
  clear hlen hsrc hS
  go_region_held3 (fun w' => w'.cell? ⟨go, 0, none⟩ = some (.slice (some ⟨g, 0, none⟩) n c) ∧ w'.cell? ⟨go, 1, none⟩ = some (.int .i64 ((f : Int) + d)))
    (first | assumption | exact ⟨c0, c1⟩ | exact keepg hg3 (fun e => hne (by simpa using e.symm)) (by assumption))
    (first | (refine step_copy_e (by rfl) _ _ 81 (by rfl) 5 Try.underlying81 HS.out g n c (n - ((f : Int) + d).toNat) (c - ((f : Int) + d).toNat) (if c = ((f : Int) + d).toNat then some (⟨g, 0, none⟩ : Addr) else some ⟨g, ((f : Int) + d).toNat, none⟩) (by rfl) (by rfl) cur 5 HGW.out cs HLEN.out hmn hncur HSRC.out h1 ?_; intro w3 hh3 hg3 hs3))
  have HH3 := hid_ hh3
  have B3 := hid_ (HBW.out.dN 1 |>.grownby hg3 (fun e => hne (by simpa using e.symm)))
  have b0 := B3.out.cell 0
  have b1 := B3.out.free 0
  have b2 := B3.out.cell 1
  have b3 := B3.out.free 1
  simp at b0 b2
  have HG3 := hid_ hg3
  have HS3 := hid_ hs3
  clear hh3 c0 c1 hg3 hs3
  go_wp2_with fail
  all_goals
    go_end0
    have hS := HSS.out
    refine ⟨rfl, _, ?_, ?_, ?_, ?_, ?_, ?_, ?_, rfl⟩
    · rw [← hS]
      exact (Below.heap_setCell _ ⟨go, 1, none⟩ _ g hne).trans ((Below.heap_setCell _ ⟨go, 0, none⟩ _ g hne).trans HH3.out)
    · intro k hk hkg hkgo
      refine (Below.heap_setCell _ ⟨go, 1, none⟩ _ k hkgo).trans ((Below.heap_setCell _ ⟨go, 0, none⟩ _ k hkgo).trans ?_)
      exact (HG3.out.block k (by show k < W.heap.size; have := HST.out.2.2.2; omega) (by simpa using hkg)).trans (HSW.out k hk hkgo)
    · exact HG3.out.os.trans HST.out.1
    · exact HG3.out.tape.trans HST.out.2.1
    · exact HG3.out.output.trans HST.out.2.2.1
    · have e1 : w3.heap.size = W.heap.size := HS3.out
      have e2 := HST.out.2.2.2
      simp only [World.setCell, Array.size_modify]
      omega
    · first
        | (have hc2 : c = ((f : Int) + d).toNat := by assumption
           rw [← hc2]
           simpa using (B3.out.set_ 0 (.slice (some ⟨g, 0, none⟩) (n - (f + d)) c)).set_ 1 (.int .i64 0))
        | simpa using (B3.out.set_ 0 (.slice (some ⟨g, 0, none⟩) (n - (f + d)) c)).set_ 1 (.int .i64 0)
end Go.Proofs.Ytpnjffdjoacejaa

/- Contracts: drop and list of the queue of package tag (of integers). -/
import Derived.Test.YtpnjffdjoacejaaKg
namespace Go.Proofs.Ytpnjffdjoacejaa
open Go.RowKit

/-- A copy to the head of a row, as a step of a region that draws: the row, and no other block, is written. -/
theorem step_copy_e {P : Program} {ops : Array Oper} {o : Oper} {a : Act} {w : World} {K : Act → World → Prop} {Q : Exit → Act → World → Prop} {E : Prop} (hgd : o.guard = none) (d s : Operand) (T : TypeId)
    (ho : o.op = .call { callee := .builtin .copy, args := #[d, s], argTypes := #[T, T] }) (elem : TypeId) (hu : P.underlying T = some (.slice elem)) (hsz : (P.info? elem).map (·.size) = some 1)
    (g n c m c2 : Nat) (A2 : Option Addr) (hd : a.eval d = .slice (some ⟨g, 0, none⟩) n c) (hs : a.eval s = .slice A2 m c2)
    (cur : Array Value) (t : TypeId) (hg : w.heap[g]? = some (.cells cur t (0, 0))) (cs : List Value) (hcs : cs.length = m) (hmn : m ≤ n) (hnc : n ≤ cur.size)
    (hsrc : 0 < m → ∃ ad, A2 = some ad ∧ ∀ j v, cs[j]? = some v → w.cell? (ad.add j) = some v) (h1 : ∀ v ∈ cs, v.oneCell' = true)
    (h : ∀ w', w'.heap[g]? = some (.cells (cs ++ cur.toList.drop m).toArray t (0, 0)) → w.grownBy w' (some g) → w'.heap.size = w.heap.size → K (a.put o.dst (.int .i64 ((m : Nat) : Int))) w') :
    if Region.wanted o (yielded ops a.tmps) = true then Oper.wp P o a w K Q else E := by
  have hw : Region.wanted o (yielded ops a.tmps) = true := by simp [Region.wanted, hgd]
  rw [if_pos hw]
  rcases Nat.eq_zero_or_pos m with h0 | h0
  · subst h0
    have hcn : cs = [] := List.eq_nil_of_length_eq_zero hcs
    subst hcn
    have hrun := run_copy_none (P := P) w T T o.type elem (some ⟨g, 0, none⟩) A2 n c 0 c2 hu hsz (by simp)
    unfold Oper.wp execOp
    simp only [ho, resolve, invoke, builtin, Sem.run_bind, Sem.run_pure, Result.andThen_ok, List.map_toArray, List.map_cons, List.map_nil, hd, hs, hrun]
    exact h w (by simpa using hg) (World.grownBy.refl w _) rfl
  · obtain ⟨ad, rfl, hc⟩ := hsrc h0
    have hrun := run_copy_row (P := P) w T T o.type elem g 0 n c ad m c2 cur t cs hu hsz hg (by rw [hcs]; simp [Nat.min_eq_left hmn]) hc (by omega) h1
    unfold Oper.wp execOp
    simp only [ho, resolve, invoke, builtin, Sem.run_bind, Sem.run_pure, Result.andThen_ok, List.map_toArray, List.map_cons, List.map_nil, hd, hs, hrun]
    have := h (w.setRow g (cs ++ cur.toList.drop m).toArray) (setRow_heap w g _ _ t _ hg) ⟨rfl, rfl, rfl, by simp [World.setRow], fun k _ hk => setRow_other w g k _ (fun e => hk (by rw [e]))⟩ (by simp [World.setRow])
    simpa [hcs, goInt, Oper.upon] using this

theorem own_cells {w : World} {base n c e : Nat} {A : Option Addr} {xs : List Value} (h : w.ownsRow base e 1 (.slice A n c) n xs) (hn : 0 < n) :
    ∃ g cur, A = some ⟨g, 0, none⟩ ∧ base ≤ g ∧ w.heap[g]? = some (.cells cur e (0, 0)) ∧ n ≤ c ∧ c ≤ maxLen ∧ cur.size = c ∧ cur.toList.take n = xs := by
  rcases h.2 with ⟨hv, h0⟩ | ⟨g, cap, cur, hv, hg, hh, h1, h2, h3, h4⟩
  · omega
  · simp only [Value.slice.injEq, true_and] at hv
    obtain ⟨rfl, rfl⟩ := hv
    exact ⟨g, cur, rfl, hg, hh, h1, h2, by simpa using h3, by simpa using h4⟩

set_option maxRecDepth 100000 in
set_option maxHeartbeats 1000000 in
theorem qdrop_stay (d go n f c : Nat) (A : Option Addr) (w : World) (hbx : Blk w go 101 #[.slice A n c, .int .i64 ((f : Nat) : Int)])
    (hn : n ≤ 4000000) (hfd : 2 * (f + d) ≤ n) :
    Calls Try.prog 51 #[.pointer (some ⟨go, 0, none⟩), .int .i64 d] w fun e w' => e = .returned (.tuple #[]) ∧ ∃ k, w' = (w.setCell ⟨go, 1, none⟩ (.int .i64 ((f : Int) + d))).drewN k := by
  have c0 := hbx.cell 0
  have c1 := hbx.cell 1
  have f1 := hbx.free 1
  simp at c0 c1
  have t1 : ¬ ((n : Int) / 2 < (f : Int) + d) := by omega
  have t2 : 0 ≤ (f : Int) + d := by omega
  have t3 : (f : Int) + d ≤ 4000000 := by omega
  have t4 : 0 ≤ (n : Int) := by omega
  clear hbx
  go_enter Try.func51, Try.ntmps51
  go_wp2_with fail
  go_quiet (fail)
  go_wp2_with fail
  go_end0
  exact ⟨rfl, _, rfl⟩

theorem keepg {w w' : World} {g b j1 j2 : Nat} {v1 v2 : Value} (hg : w.grownBy w' (some g)) (hne : some b ≠ some g) (h : w.cell? ⟨b, j1, none⟩ = some v1 ∧ w.cell? ⟨b, j2, none⟩ = some v2) : w'.cell? ⟨b, j1, none⟩ = some v1 ∧ w'.cell? ⟨b, j2, none⟩ = some v2 :=
  ⟨(hg.cell_far _ (cell_lt h.1) hne).trans h.1, (hg.cell_far _ (cell_lt h.2) hne).trans h.2⟩

set_option maxRecDepth 100000 in
set_option maxHeartbeats 2000000 in
theorem qdrop_move (d go g n f c : Nat) (cur : Array Value) (cs : List Value) (w : World) (hbx : Blk w go 101 #[.slice (some ⟨g, 0, none⟩) n c, .int .i64 ((f : Nat) : Int)])
    (hg : w.heap[g]? = some (.cells cur 3 (0, 0))) (hne : g ≠ go) (hn : n ≤ 4000000) (hnc : n ≤ c) (hcur : cur.size = c) (hfd : n < 2 * (f + d)) (hfd2 : f + d ≤ n)
    (hcs : cs = (cur.toList.take n).drop (f + d)) (h1 : ∀ v ∈ cs, v.oneCell' = true) :
    Calls Try.prog 51 #[.pointer (some ⟨go, 0, none⟩), .int .i64 d] w fun e w' => e = .returned (.tuple #[]) ∧
      ∃ w2, w2.heap[g]? = some (.cells (cs ++ cur.toList.drop (n - (f + d))).toArray 3 (0, 0)) ∧ (∀ k, k < w.heap.size → k ≠ g → k ≠ go → w2.heap[k]? = w.heap[k]?) ∧ w2.os = w.os ∧ w2.tape = w.tape ∧ w2.output = w.output ∧ w2.heap.size = w.heap.size ∧
        Blk w2 go 101 #[.slice (some ⟨g, 0, none⟩) (n - (f + d)) c, .int .i64 0] ∧ w' = w2 := by
  have c0 := hbx.cell 0
  have c1 := hbx.cell 1
  have f1 := hbx.free 1
  have f0 := hbx.free 0
  simp at c0 c1
  have hgo := hbx.lt
  have t1 : (n : Int) / 2 < (f : Int) + d := by omega
  have t2 : 0 ≤ (f : Int) + d := by omega
  have t3 : (f : Int) + d ≤ n := by omega
  have t4 : 0 ≤ (n : Int) := by omega
  have t5 : (f : Int) + d ≤ c := by omega
  have t6 : (n : Int) ≤ c := by omega
  have HX := hid_ hbx
  have HG := hid_ hg
  have HC := hid_ hcs
  have HCUR := hid_ hcur
  have HS : Hid ((Try.prog.info? 3).map (·.size) = some 1) := hid_ (by kernel_rfl)
  clear hbx hg hcs hcur
  go_enter Try.func51, Try.ntmps51
  go_wp2_with fail
  go_quiet (fail)
  go_wp2_with fail
  obtain ⟨W, hW⟩ : ∃ W, W = (w.setCell ⟨go, 1, none⟩ (.int .i64 ((f : Int) + d))).drewN nq := ⟨_, rfl⟩
  rw [← hW]
  have e0 : ∀ b o, b ≠ go → W.cell? ⟨b, o, none⟩ = w.cell? ⟨b, o, none⟩ := fun b o h => by
    rw [hW]; exact World.cell?_of_block (Below.heap_setCell w ⟨go, 1, none⟩ _ b h)
  have HBW : Hid (Blk W go 101 #[.slice (some ⟨g, 0, none⟩) n c, .int .i64 ((f : Int) + d)]) := by
    rw [hW]; exact hid_ (by simpa using (HX.out.set_ 1 (.int .i64 ((f : Int) + d))).dN nq)
  have HGW : Hid (W.heap[g]? = some (.cells cur 3 (0, 0))) := by
    rw [hW]; exact hid_ ((Below.heap_setCell w ⟨go, 1, none⟩ _ g hne).trans HG.out)
  have HSW : Hid (∀ k, k < w.heap.size → k ≠ go → W.heap[k]? = w.heap[k]?) := by
    rw [hW]; exact hid_ (fun k _ hk => Below.heap_setCell w ⟨go, 1, none⟩ _ k hk)
  have HST : Hid (W.os = w.os ∧ W.tape = w.tape ∧ W.output = w.output ∧ W.heap.size = w.heap.size) := by
    rw [hW]; exact hid_ ⟨rfl, rfl, rfl, by simp [World.setCell]⟩
  clear hW e0 c0 c1 f0 f1
  have c0 := HBW.out.cell 0
  have c1 := HBW.out.cell 1
  simp at c0 c1
  have hS : ((f : Int) + d).toNat = f + d := by omega
  have hlen : cs.length = n - ((f : Int) + d).toNat := by rw [HC.out, hS]; simp; have := HCUR.out; omega
  have HLEN := hid_ hlen
  have hsrc : 0 < n - ((f : Int) + d).toNat → ∃ ad, (if c = ((f : Int) + d).toNat then some (⟨g, 0, none⟩ : Addr) else some ⟨g, ((f : Int) + d).toNat, none⟩) = some ad ∧ ∀ j v, cs[j]? = some v → W.cell? (ad.add j) = some v := fun hpos => ⟨⟨g, f + d, none⟩, by rw [if_neg (by omega), hS], fun j v hv => by
    rw [addr_add, cell_of_row W g (f + d + j) cur 3 (0, 0) HGW.out]
    rw [HC.out, List.getElem?_drop, List.getElem?_take] at hv
    split at hv
    · simpa using hv
    · cases hv⟩
  have HSRC := hid_ hsrc
  have hmn : n - ((f : Int) + d).toNat ≤ n := Nat.sub_le _ _
  have hncur : n ≤ cur.size := by have := HCUR.out; omega
  have HSS := hid_ hS
  have t7 : ((n - ((f : Int) + d).toNat : Nat) : Int) ≤ c := by omega
  have t8 : 0 ≤ ((n - ((f : Int) + d).toNat : Nat) : Int) := by omega
  clear hlen hsrc hS
  go_region_held3 (fun w' => w'.cell? ⟨go, 0, none⟩ = some (.slice (some ⟨g, 0, none⟩) n c) ∧ w'.cell? ⟨go, 1, none⟩ = some (.int .i64 ((f : Int) + d)))
    (first | assumption | exact ⟨c0, c1⟩ | exact keepg hg3 (fun e => hne (by simpa using e.symm)) (by assumption))
    (first | (refine step_copy_e (by rfl) _ _ 26 (by rfl) 3 Try.underlying26 HS.out g n c (n - ((f : Int) + d).toNat) (c - ((f : Int) + d).toNat) (if c = ((f : Int) + d).toNat then some (⟨g, 0, none⟩ : Addr) else some ⟨g, ((f : Int) + d).toNat, none⟩) (by rfl) (by rfl) cur 3 HGW.out cs HLEN.out hmn hncur HSRC.out h1 ?_; intro w3 hh3 hg3 hs3))
  have HH3 := hid_ hh3
  have B3 := hid_ (HBW.out.dN 1 |>.grownby hg3 (fun e => hne (by simpa using e.symm)))
  have b0 := B3.out.cell 0
  have b1 := B3.out.free 0
  have b2 := B3.out.cell 1
  have b3 := B3.out.free 1
  simp at b0 b2
  have HG3 := hid_ hg3
  have HS3 := hid_ hs3
  clear hh3 c0 c1 hg3 hs3
  go_wp2_with fail
  all_goals
    go_end0
    have hS := HSS.out
    refine ⟨rfl, _, ?_, ?_, ?_, ?_, ?_, ?_, ?_, rfl⟩
    · rw [← hS]
      exact (Below.heap_setCell _ ⟨go, 1, none⟩ _ g hne).trans ((Below.heap_setCell _ ⟨go, 0, none⟩ _ g hne).trans HH3.out)
    · intro k hk hkg hkgo
      refine (Below.heap_setCell _ ⟨go, 1, none⟩ _ k hkgo).trans ((Below.heap_setCell _ ⟨go, 0, none⟩ _ k hkgo).trans ?_)
      exact (HG3.out.block k (by show k < W.heap.size; have := HST.out.2.2.2; omega) (by simpa using hkg)).trans (HSW.out k hk hkgo)
    · exact HG3.out.os.trans HST.out.1
    · exact HG3.out.tape.trans HST.out.2.1
    · exact HG3.out.output.trans HST.out.2.2.1
    · have e1 : w3.heap.size = W.heap.size := HS3.out
      have e2 := HST.out.2.2.2
      simp only [World.setCell, Array.size_modify]
      omega
    · first
        | (have hc2 : c = ((f : Int) + d).toNat := by assumption
           rw [← hc2]
           simpa using (B3.out.set_ 0 (.slice (some ⟨g, 0, none⟩) (n - (f + d)) c)).set_ 1 (.int .i64 0))
        | simpa using (B3.out.set_ 0 (.slice (some ⟨g, 0, none⟩) (n - (f + d)) c)).set_ 1 (.int .i64 0)
end Go.Proofs.Ytpnjffdjoacejaa

/- Contracts: copied, and the band of package tape: symbol, empty, clear. Contracts: the band of package tape: drawIn, reach. -/
import Derived.Test.YtonammaecpapmaaTc
import Derived.Deep.LoopGhost
import Derived.StillTailTactics
namespace Go.Proofs.Ytonammaecpapmaa.Tp
open Go.RowKit

theorem Try.infoI : (Try.prog.info? 3).map (fun i => (i.zero, i.size, i.bytes)) = some (some (.int .i64 0), 1, 8) := by kernel_rfl
theorem own_of {w : World} {base g : Nat} {e : TypeId} {cur : Array Value} {n : Nat} (hg : base ≤ g) (h : w.heap[g]? = some (.cells cur e (0, 0))) (hn : cur.size = n) (hm : n ≤ maxLen) : w.ownsRow base e 1 (.slice (some ⟨g, 0, none⟩) n n) n cur.toList := by
  refine ⟨by simp [hn], .inr ⟨g, n, cur, rfl, hg, h, Nat.le_refl _, hm, by simp [hn], ?_⟩⟩
  rw [Nat.mul_one, List.take_of_length_le (by simp [hn])]

set_option maxRecDepth 100000 in
set_option maxHeartbeats 1000000 in
theorem copied_any (xs : List Int) (v : Value) (w : World) (h : Elems w w.heap.size v (ints xs)) (hl : xs.length ≤ 1000000000000) :
    Calls Try.prog 42 #[v] w fun e w' => e = .returned (.slice (some ⟨w.heap.size, 0, none⟩) xs.length xs.length) ∧ w'.ownsRow w.heap.size 3 1 (.slice (some ⟨w.heap.size, 0, none⟩) xs.length xs.length) xs.length (ints xs) ∧ Below w.heap.size w w' := by
  obtain ⟨i0, hi, hz0, hz1, hz2⟩ := info_parts Try.infoI
  have HS : Hid ((Try.prog.info? 3).map (·.size) = some 1) := hid_ (by kernel_rfl)
  obtain ⟨A, c, rfl⟩ := h.form
  rw [ints_len] at h ⊢
  have HH := hid_ h
  obtain ⟨n, hn⟩ : ∃ n, n = xs.length := ⟨_, rfl⟩
  rw [← hn] at h hl HH ⊢
  have HN := hid_ hn
  clear h hn
  go_enter Try.func42, Try.ntmps42
  go_upto_region 2 with (at_make; refine wpList_make_full _ rfl _ _ 25 rfl w.heap.size 3 i0 (.int .i64 0) 1 Try.underlying25 hi hz0 hz1 .i64 .i64 n n n rfl rfl rfl rfl (by rw [hz2]; omega) (by unfold maxLen; omega) (Nat.le_refl _) ?_; intro w3 hown hgr)
  have hb3 := make_below hgr
  have hblk : ∃ cur, w3.heap[w.heap.size]? = some (.cells cur 3 (0, 0)) ∧ cur.size = n := by
    rcases hown.2 with ⟨hv, _⟩ | ⟨g, cap, cur, hv, hg, hh, _, _, h4, _⟩
    · cases hv
    · simp only [Value.slice.injEq, Option.some.injEq, Addr.mk.injEq, and_true, true_and] at hv
      obtain ⟨rfl, rfl⟩ := hv
      exact ⟨cur, hh, by simpa using h4⟩
  obtain ⟨cur, hcur, hsz⟩ := hblk
  have HC := hid_ hcur
  have HSZ := hid_ hsz
  have hsrc : 0 < n → ∃ ad, A = some ad ∧ ∀ j v, (ints xs)[j]? = some v → w3.cell? (ad.add j) = some v := fun hp => by
    obtain ⟨b, off, rfl, hb, hc⟩ := HH.out.at_ hp
    refine ⟨_, rfl, fun j v hv => ?_⟩
    rw [addr_add]
    exact keepc hb3 (hc j v hv)
  have HSRC := hid_ hsrc
  clear hown hgr hcur hsz hsrc
  go_wp2_with (refine wpList_copy_e rfl (.tmp 7) (.tmp 8) 25 rfl 3 Try.underlying25 HS.out w.heap.size 0 n n n c A rfl rfl cur 3 HC.out (ints xs) (by rw [ints_len, HN.out]) (Nat.le_refl _) (by rw [HSZ.out]; omega) HSRC.out ints_one ?_; intro w4 hh4 hg4 hs4)
  go_wp2_with fail
  go_ret
  refine ⟨rfl, ?_, ?_⟩
  · have := own_of (w := w4) (base := w.heap.size) (n := n) (Nat.le_refl _) hh4 (by
      have := HSZ.out
      have := HN.out
      simp [ints_len]
      omega) (by unfold maxLen; omega)
    have hd : cur.toList.drop n = [] := List.drop_of_length_le (by simp [HSZ.out])
    simpa [hd] using this
  · exact hb3.grown hg4 hb3.size (fun k hk => by cases hk; exact Nat.le_refl _)

/-- A band in memory: its box go, from block B on, as its row is. -/
def BAt (w : World) (B go : Nat) (b : Band) : Prop :=
  ∃ (A : Option Addr) (c : Nat), Blk w go 74 #[.int .i64 b.st, .int .i64 b.pos, .int .i64 b.base, .slice A b.cells.length c, .int .i64 b.low, .int .i64 b.high, .int .i64 b.inner, .bool b.outer] ∧
    w.ownsRow B 3 1 (.slice A b.cells.length c) b.cells.length (ints b.cells) ∧ B ≤ go ∧ some go ≠ (Value.slice A b.cells.length c).ownBlock
theorem BAt.below {w w' : World} {B go : Nat} {b : Band} (h : BAt w B go b) (hb : Below w.heap.size w w') : BAt w' B go b := by
  obtain ⟨A, c, h1, h2, h3, h4⟩ := h
  exact ⟨A, c, h1.to hb, own_below h2 hb, h3, h4⟩
/-- The numbers of a band are far from the limits of an int. -/
structure BandSm (b : Band) : Prop where
  pos : -4398046511104 ≤ b.pos ∧ b.pos ≤ 4398046511104
  base : -4398046511104 ≤ b.base ∧ b.base ≤ 4398046511104
  low : -4398046511104 ≤ b.low ∧ b.low ≤ 4398046511104
  high : -4398046511104 ≤ b.high ∧ b.high ≤ 4398046511104
  inner : 0 ≤ b.inner ∧ b.inner ≤ 1000000000000
  len : b.cells.length ≤ 1000000000000

set_option maxRecDepth 100000 in
set_option maxHeartbeats 1000000 in
theorem symbol_any (b : Band) (B go : Nat) (w : World) (h : BAt w B go b) (hs : BandSm b) :
    Calls Try.prog 43 #[.pointer (some ⟨go, 0, none⟩)] w fun e w' => e = .returned (.int .i64 b.sym) ∧ ∃ n, w' = w.drewN n := by
  obtain ⟨st, pos, base, cells, low, high, inner, outer⟩ := b
  obtain ⟨⟨s1, s2⟩, ⟨s3, s4⟩, _, _, _, s5⟩ := hs
  obtain ⟨A, c, hbx, hown, _, _⟩ := h
  simp only at s1 s2 s3 s4 s5 hbx hown
  have c1 := hbx.cell 1
  have c2 := hbx.cell 2
  have c3 := hbx.cell 3
  simp at c1 c2 c3
  have m1 : IntKind.i64.wrap (pos - base) = pos - base := IntWalk.i64_in _ (by omega)
  by_cases h1 : pos < base
  · rw [show Band.sym ⟨st, pos, base, cells, low, high, inner, outer⟩ = 0 from cellAt_lt h1]
    have t1 : pos - base < 0 := by omega
    clear hbx hown
    go_enter Try.func43, Try.ntmps43
    go_wp2_with fail
    go_quiet (fail)
    go_wp2_with fail
    go_ret
    exact ⟨rfl, _, rfl⟩
  · by_cases h2 : base + cells.length ≤ pos
    · rw [show Band.sym ⟨st, pos, base, cells, low, high, inner, outer⟩ = 0 from cellAt_ge h2]
      have t1 : ¬ pos - base < 0 := by omega
      have t2 : (cells.length : Int) ≤ pos - base := by omega
      clear hbx hown
      go_enter Try.func43, Try.ntmps43
      go_wp2_with fail
      go_quiet (fail)
      go_wp2_with fail
      go_ret
      exact ⟨rfl, _, rfl⟩
    · obtain ⟨k, hk⟩ : ∃ k : Nat, pos - base = k := ⟨(pos - base).toNat, by omega⟩
      have hkl : k < cells.length := by omega
      obtain ⟨x, hx⟩ : ∃ x, cells[k]? = some x := ⟨_, List.getElem?_eq_getElem hkl⟩
      rw [show Band.sym ⟨st, pos, base, cells, low, high, inner, outer⟩ = x from cellAt_get (show pos = base + (k : Int) by omega) hx]
      obtain ⟨g, rfl, hg⟩ := own_addr hown (by omega)
      have ck : w.cell? ⟨g, k, none⟩ = some (.int .i64 x) := by
        rw [hown.cellAt k (by omega)]
        exact ints_at hx
      have t1 : ¬ pos - base < 0 := by omega
      have t2 : ¬ (cells.length : Int) ≤ pos - base := by omega
      have t3 : (pos - base).toNat = k := by omega
      have t4 : 0 ≤ pos - base := by omega
      have t5 : pos - base < cells.length := by omega
      clear hbx hown hx hk
      go_enter Try.func43, Try.ntmps43
      go_wp2_with fail
      go_quiet (fail)
      go_wp2_with fail
      go_ret
      exact ⟨rfl, _, rfl⟩

set_option maxRecDepth 100000 in
set_option maxHeartbeats 1000000 in
theorem empty_any (b : Band) (B go : Nat) (w : World) (h : BAt w B go b) :
    Calls Try.prog 46 #[.pointer (some ⟨go, 0, none⟩)] w fun e w' => e = .returned (.bool b.empty) ∧ w' = w := by
  obtain ⟨st, pos, base, cells, low, high, inner, outer⟩ := b
  obtain ⟨A, c, hbx, _, _, _⟩ := h
  simp only at hbx
  have c1 := hbx.cell 6
  have c2 := hbx.cell 7
  simp at c1 c2
  clear hbx
  by_cases h1 : inner = 0
  · rw [show Band.empty ⟨st, pos, base, cells, low, high, inner, outer⟩ = !outer by simp [Band.empty, h1]]
    subst h1
    go_enter Try.func46, Try.ntmps46
    go_wp2_with fail
    go_ret
    exact ⟨rfl, rfl⟩
  · rw [show Band.empty ⟨st, pos, base, cells, low, high, inner, outer⟩ = false by simp [Band.empty, h1]]
    have t1 : (inner == 0) = false := by simpa using h1
    clear h1
    go_enter Try.func46, Try.ntmps46
    go_wp2_with fail
    go_ret
    exact ⟨rfl, rfl⟩

/-- The block of a band's row. -/
def bandRow (w : World) (go : Nat) : Option Nat := match w.cell? ⟨go, 3, none⟩ with
  | some v => v.ownBlock
  | none => none
/-- What a call keeps that changes a band alone: all blocks but the band's box and its row. -/
structure Kept (w w' : World) (go : Nat) : Prop where
  same : ∀ k, k < w.heap.size → k ≠ go → some k ≠ bandRow w go → w'.heap[k]? = w.heap[k]?
  row : bandRow w' go = bandRow w go ∨ ∀ k, bandRow w' go = some k → w.heap.size ≤ k
  size : w.heap.size ≤ w'.heap.size
theorem Kept.refl (w : World) (go : Nat) : Kept w w go := ⟨fun _ _ _ _ => rfl, .inl rfl, Nat.le_refl _⟩
theorem Kept.trans {a b c : World} {go : Nat} (h : Kept a b go) (g : Kept b c go) : Kept a c go := by
  refine ⟨fun k h1 h2 h3 => ?_, ?_, Nat.le_trans h.size g.size⟩
  · rw [g.same k (Nat.lt_of_lt_of_le h1 h.size) h2 ?_, h.same k h1 h2 h3]
    intro e
    rcases h.row with r | r
    · exact h3 (e.trans r)
    · have := r k e.symm
      omega
  · rcases g.row with r | r
    · rcases h.row with q | q
      · exact .inl (r.trans q)
      · exact .inr fun k e => q k (r ▸ e)
    · exact .inr fun k e => Nat.le_trans h.size (r k e)
theorem Kept.dN {a w : World} {go : Nat} (h : Kept a w go) (n : Nat) : Kept a (w.drewN n) go := ⟨h.same, h.row, h.size⟩
theorem Kept.d {a w : World} {go : Nat} (h : Kept a w go) : Kept a w.drew go := ⟨h.same, h.row, h.size⟩
theorem kept_dl {a w : World} {go : Nat} (h : Kept a.drew w go) : Kept a w go := ⟨h.same, h.row, h.size⟩
theorem Kept.cell {w w' : World} {go k i : Nat} {v : Value} (h : Kept w w' go) (hk : k ≠ go) (hr : some k ≠ bandRow w go) (hc : w.cell? ⟨k, i, none⟩ = some v) : w'.cell? ⟨k, i, none⟩ = some v := by
  have := h.same k (cell_lt hc) hk hr
  simp only [World.cell?] at hc ⊢
  rw [this]
  exact hc
theorem set_size (w : World) (p : Addr) (u : Value) : (w.setCell p u).heap.size = w.heap.size := by simp [World.setCell]
theorem bandRow_far {w : World} {go : Nat} {p : Addr} {u : Value} (h : p.block ≠ go) : bandRow (w.setCell p u) go = bandRow w go := by
  unfold bandRow
  rw [World.cell?_of_block (Below.heap_setCell w p u go (Ne.symm h))]
/-- A store into a field of the box, not the row. -/
theorem Kept.box {a w : World} {go : Nat} (h : Kept a w go) (i : Nat) (hi : i ≠ 3) (u : Value) : Kept a (w.setCell ⟨go, i, none⟩ u) go := by
  have hrow : bandRow (w.setCell ⟨go, i, none⟩ u) go = bandRow w go := by
    unfold bandRow
    simp only [World.cell?, World.setCell, Array.getElem?_modify]
    cases hh : w.heap[go]? with
    | none => simp
    | some o => cases o <;> simp [hi]
  refine ⟨fun k h1 h2 h3 => ?_, by rw [hrow]; exact h.row, by rw [set_size]; exact h.size⟩
  rw [Below.heap_setCell w ⟨go, i, none⟩ u k h2]
  exact h.same k h1 h2 h3
theorem Kept.row3 {a w : World} {go : Nat} (h : Kept a w go) (u : Value) (hc : (w.cell? ⟨go, 3, none⟩).isSome = true) (hu : u.ownBlock = bandRow w go ∨ ∀ k, u.ownBlock = some k → a.heap.size ≤ k) : Kept a (w.setCell ⟨go, 3, none⟩ u) go := by
  have hrow : bandRow (w.setCell ⟨go, 3, none⟩ u) go = u.ownBlock := by
    unfold bandRow
    rw [World.cell?_setCell_same' w _ _ hc]
  refine ⟨fun k h1 h2 h3 => ?_, ?_, by rw [set_size]; exact h.size⟩
  · rw [Below.heap_setCell w ⟨go, 3, none⟩ u k h2]
    exact h.same k h1 h2 h3
  · rw [hrow]
    rcases hu with e | e
    · rw [e]; exact h.row
    · exact .inr e
theorem Kept.inrow {a w : World} {go g : Nat} (h : Kept a w go) (hg : bandRow w go = some g) (hne : g ≠ go) (i : Nat) (u : Value) : Kept a (w.setCell ⟨g, i, none⟩ u) go := by
  refine ⟨fun k h1 h2 h3 => ?_, by rw [bandRow_far hne]; exact h.row, by rw [set_size]; exact h.size⟩
  rw [Below.heap_setCell w ⟨g, i, none⟩ u k ?_]
  · exact h.same k h1 h2 h3
  · show k ≠ g
    rintro rfl
    rcases h.row with r | r
    · exact h3 (by rw [← r, hg])
    · have := r k hg
      omega
theorem Kept.grown {a w w' : World} {go : Nat} {gm : Option Nat} (h : Kept a w go) (hb : w.grownBy w' gm) (hgo : go < w.heap.size) (h1 : some go ≠ gm) (h2 : ∀ k, gm = some k → a.heap.size ≤ k) : Kept a w' go := by
  have hrow : bandRow w' go = bandRow w go := by
    unfold bandRow
    rw [World.cell?_of_block (hb.block go hgo h1)]
  refine ⟨fun k k1 k2 k3 => ?_, by rw [hrow]; exact h.row, Nat.le_trans h.size hb.size⟩
  rw [hb.block k (Nat.lt_of_lt_of_le k1 h.size) (fun e => by have := h2 k e.symm; omega)]
  exact h.same k k1 k2 k3
theorem row_of {w : World} {go : Nat} {v : Value} (h : w.cell? ⟨go, 3, none⟩ = some v) : bandRow w go = v.ownBlock := by
  unfold bandRow
  rw [h]
theorem own_any_len {n m c : Nat} {A : Option Addr} : (Value.slice A n c).ownBlock = (Value.slice A m c).ownBlock := by cases A <;> rfl

theorem BAt.cells {w : World} {B go : Nat} {b : Band} (h : BAt w B go b) : ∃ (A : Option Addr) (c : Nat), (w.cell? ⟨go, 0, none⟩ = some (.int .i64 b.st) ∧ w.cell? ⟨go, 1, none⟩ = some (.int .i64 b.pos) ∧ w.cell? ⟨go, 2, none⟩ = some (.int .i64 b.base) ∧ w.cell? ⟨go, 3, none⟩ = some (.slice A b.cells.length c) ∧
    w.cell? ⟨go, 4, none⟩ = some (.int .i64 b.low) ∧ w.cell? ⟨go, 5, none⟩ = some (.int .i64 b.high) ∧ w.cell? ⟨go, 6, none⟩ = some (.int .i64 b.inner) ∧ w.cell? ⟨go, 7, none⟩ = some (.bool b.outer)) ∧ (∀ i, w.frozen? ⟨go, i, none⟩ = false) ∧
    w.ownsRow B 3 1 (.slice A b.cells.length c) b.cells.length (ints b.cells) ∧ B ≤ go ∧ some go ≠ (Value.slice A b.cells.length c).ownBlock ∧ Blk w go 74 #[.int .i64 b.st, .int .i64 b.pos, .int .i64 b.base, .slice A b.cells.length c, .int .i64 b.low, .int .i64 b.high, .int .i64 b.inner, .bool b.outer] := by
  obtain ⟨A, c, h1, h2, h3, h4⟩ := h
  exact ⟨A, c, ⟨h1.cell 0, h1.cell 1, h1.cell 2, h1.cell 3, h1.cell 4, h1.cell 5, h1.cell 6, h1.cell 7⟩, h1.free, h2, h3, h4, h1⟩
theorem cap_own {w : World} {B n c : Nat} {A : Option Addr} {xs : List Value} (h : w.ownsRow B 3 1 (.slice A n c) n xs) : w.ownsRow B 3 1 (.slice A 0 c) 0 [] := by
  rcases h.2 with ⟨hv, h0⟩ | ⟨g, cap, cur, hv, hg, hh, h1, h2, h3, h4⟩
  · obtain ⟨rfl, -, rfl⟩ := Value.slice.inj hv
    exact own_nil _ _ _
  · obtain ⟨rfl, -, rfl⟩ := Value.slice.inj hv
    exact ⟨rfl, .inr ⟨g, c, cur, rfl, hg, hh, Nat.zero_le _, h2, h3, by simp⟩⟩

theorem below_set {B g : Nat} {a w : World} (h : Below B a w) (hg : B ≤ g) (i : Nat) (u : Value) : Below B a (w.setCell ⟨g, i, none⟩ u) := h.setCell hg u
theorem ne_own {go n m c : Nat} {A : Option Addr} (h : some go ≠ (Value.slice A n c).ownBlock) : (Value.slice A m c).ownBlock ≠ some go := by
  intro e
  apply h
  rw [← e]
  cases A <;> rfl

set_option maxRecDepth 100000 in
set_option maxHeartbeats 2000000 in
theorem clear_any (b : Band) (B go : Nat) (w : World) (h : BAt w B go b) (hs : BandSm b) :
    Calls Try.prog 52 #[.pointer (some ⟨go, 0, none⟩)] w fun e w' => e = .returned (.tuple #[]) ∧ BAt w' B go b.clear ∧ Below B w w' ∧ Kept w w' go := by
  obtain ⟨st, pos, base, cells, low, high, inner, outer⟩ := b
  obtain ⟨⟨s1, s2⟩, _, _, _, _, _⟩ := hs
  obtain ⟨A, c, ⟨c0, c1, c2, c3, c4, c5, c6, c7⟩, hf, hown, hB, hne, hbx⟩ := h.cells
  simp only at s1 s2 c1 c3 hown hne hbx
  have f2 := hf 2
  have f3 := hf 3
  have f4 := hf 4
  have f5 := hf 5
  have m1 : IntKind.i64.wrap (pos - 1) = pos - 1 := IntWalk.i64_in _ (by omega)
  have hcap : 0 ≤ (c : Int) := by omega
  have HO := hid_ (cap_own hown)
  have HB := hid_ hbx
  have HN := hid_ hne
  have hlt := hbx.lt
  clear h c0 c6 c7 hf hown hbx hne
  go_enter Try.func52, Try.ntmps52
  go_wp2_with fail
  go_region
  go_wp2_with fail
  go_region
  go_wp2_with fail
  go_end0
  refine ⟨rfl, ⟨A, c, ?_, ?_, hB, ?_⟩, ?_, ?_⟩
  · have := (((HB.out.set_ 2 (.int .i64 pos)).set_ 3 (.slice A 0 c)).set_ 4 (.int .i64 pos)).set_ 5 (.int .i64 (pos - 1))
    simp at this
    exact this
  · exact ownsRow_setCell_other (a := ⟨go, 5, none⟩) (ownsRow_setCell_other (a := ⟨go, 4, none⟩) (ownsRow_setCell_other (a := ⟨go, 3, none⟩) (ownsRow_setCell_other (a := ⟨go, 2, none⟩) HO.out (ne_own HN.out) _) (ne_own HN.out) _) (ne_own HN.out) _) (ne_own HN.out) _
  · exact (ne_own HN.out).symm
  · exact (below_set (below_set (below_set (below_set (Below.refl B w) hB 2 _) hB 3 _) hB 4 _) hB 5 _).drew.drew
  · have k2 := (Kept.refl w go).box 2 (by decide) (.int .i64 pos)
    have hc3 : (w.setCell ⟨go, 2, none⟩ (.int .i64 pos)).cell? ⟨go, 3, none⟩ = some (.slice A cells.length c) := by
      have := (HB.out.set_ 2 (.int .i64 pos)).cell 3
      simpa using this
    have k3 := k2.row3 (.slice A 0 c) (by rw [hc3]; rfl) (.inl (by rw [row_of hc3]; exact own_any_len))
    exact ((k3.box 4 (by decide) (.int .i64 pos)).box 5 (by decide) (.int .i64 (pos - 1))).d.d
end Go.Proofs.Ytonammaecpapmaa.Tp
namespace Go.Proofs.Ytonammaecpapmaa.Tp
open Go.RowKit

section
variable {w w' : World} {B go : Nat} {b : Band}
theorem BAt.dN (h : BAt w B go b) (n : Nat) : BAt (w.drewN n) B go b := h
theorem BAt.set0 (h : BAt w B go b) (x : Int) : BAt (w.setCell ⟨go, 0, none⟩ (.int .i64 x)) B go { b with st := x } := by
  obtain ⟨A, c, h1, h2, h3, h4⟩ := h
  exact ⟨A, c, by simpa using h1.set_ 0 (.int .i64 x), ownsRow_setCell_other (a := ⟨go, 0, none⟩) h2 h4.symm _, h3, h4⟩
theorem BAt.set1 (h : BAt w B go b) (x : Int) : BAt (w.setCell ⟨go, 1, none⟩ (.int .i64 x)) B go { b with pos := x } := by
  obtain ⟨A, c, h1, h2, h3, h4⟩ := h
  exact ⟨A, c, by simpa using h1.set_ 1 (.int .i64 x), ownsRow_setCell_other (a := ⟨go, 1, none⟩) h2 h4.symm _, h3, h4⟩
theorem BAt.set4 (h : BAt w B go b) (x : Int) : BAt (w.setCell ⟨go, 4, none⟩ (.int .i64 x)) B go { b with low := x } := by
  obtain ⟨A, c, h1, h2, h3, h4⟩ := h
  exact ⟨A, c, by simpa using h1.set_ 4 (.int .i64 x), ownsRow_setCell_other (a := ⟨go, 4, none⟩) h2 h4.symm _, h3, h4⟩
theorem BAt.set5 (h : BAt w B go b) (x : Int) : BAt (w.setCell ⟨go, 5, none⟩ (.int .i64 x)) B go { b with high := x } := by
  obtain ⟨A, c, h1, h2, h3, h4⟩ := h
  exact ⟨A, c, by simpa using h1.set_ 5 (.int .i64 x), ownsRow_setCell_other (a := ⟨go, 5, none⟩) h2 h4.symm _, h3, h4⟩
theorem BAt.set6 (h : BAt w B go b) (x : Int) : BAt (w.setCell ⟨go, 6, none⟩ (.int .i64 x)) B go { b with inner := x } := by
  obtain ⟨A, c, h1, h2, h3, h4⟩ := h
  exact ⟨A, c, by simpa using h1.set_ 6 (.int .i64 x), ownsRow_setCell_other (a := ⟨go, 6, none⟩) h2 h4.symm _, h3, h4⟩
theorem BAt.set7 (h : BAt w B go b) (x : Bool) : BAt (w.setCell ⟨go, 7, none⟩ (.bool x)) B go { b with outer := x } := by
  obtain ⟨A, c, h1, h2, h3, h4⟩ := h
  exact ⟨A, c, by simpa using h1.set_ 7 (.bool x), ownsRow_setCell_other (a := ⟨go, 7, none⟩) h2 h4.symm _, h3, h4⟩
end

set_option maxRecDepth 100000 in
set_option maxHeartbeats 2000000 in
theorem drawIn_any (b : Band) (B go : Nat) (w : World) (h : BAt w B go b) (hs : BandSm b) (q : Int) (hq : b.low ≤ q ∧ q ≤ b.high) (hc : cellAt b.base b.cells q ≠ 0) (hlo : b.base ≤ b.low) (hhi : b.high < b.base + b.cells.length) (hfew : b.high - b.low ≤ 1000000) :
    Calls Try.prog 47 #[.pointer (some ⟨go, 0, none⟩)] w fun e w' => e = .returned (.tuple #[]) ∧ BAt w' B go b.drawIn ∧ Below B w w' ∧ Kept w w' go := by
  obtain ⟨st, pos, base, cells, low, high, inner, outer⟩ := b
  obtain ⟨_, ⟨s3, s4⟩, ⟨s5, s6⟩, ⟨s7, s8⟩, _, s9⟩ := hs
  simp only at s3 s4 s5 s6 s7 s8 s9 hq hc hlo hhi hfew
  obtain ⟨q1, q2⟩ := hq
  have HC := hid_ hc
  have HH := hid_ h
  clear hc h
  obtain ⟨N, hN⟩ : ∃ N : Nat, (N : Int) = high - low := ⟨(high - low).toNat, by omega⟩
  have hNN : (high - low).toNat = N := by omega
  have hB : B ≤ go := by obtain ⟨_, _, _, _, h3, _⟩ := HH.out; exact h3
  go_enter Try.func47, Try.ntmps47
  go_wp2_with fail
  go_loopg [] N (fun g wr => ∃ p : Int, p + g = high ∧ p ≤ q ∧ low ≤ p ∧ Hid (upTo base cells N low = upTo base cells g p) ∧ Hid (BAt wr B go ⟨st, pos, base, cells, p, high, inner, outer⟩) ∧ Below B w wr ∧ Kept w wr go)
  case atStart => exact ⟨low, by omega, q1, Int.le_refl _, hid_ rfl, HH, Below.refl _ _, Kept.refl _ _⟩
  case round =>
    obtain ⟨p, hp1, hp2, hp3, HU, HB, hbr, hkr⟩ := hrel
    obtain ⟨A, c, ⟨c0, c1, c2, c3, c4, c5, c6, c7⟩, hf, hown, _, hne, hbx⟩ := HB.out.cells
    simp only at c0 c1 c2 c3 c4 c5 c6 c7 hown
    have f4 := hf 4
    obtain ⟨k, hk⟩ : ∃ k : Nat, p - base = k := ⟨(p - base).toNat, by omega⟩
    have hkl : k < cells.length := by omega
    obtain ⟨x, hx⟩ : ∃ x, cells[k]? = some x := ⟨_, List.getElem?_eq_getElem hkl⟩
    have hcx : cellAt base cells p = x := cellAt_get (by omega) hx
    obtain ⟨g, rfl, hg⟩ := own_addr hown (by omega)
    have ck : wr.cell? ⟨g, k, none⟩ = some (.int .i64 x) := by
      rw [hown.cellAt k (by omega)]
      exact ints_at hx
    have m1 : IntKind.i64.wrap (p - base) = p - base := IntWalk.i64_in _ (by omega)
    have m2 : IntKind.i64.wrap (p + 1) = p + 1 := IntWalk.i64_in _ (by omega)
    have m3 : (p - base).toNat = k := by omega
    have m4 : 0 ≤ p - base := by omega
    have m5 : p - base < cells.length := by omega
    have HCX := hid_ hcx
    clear hf hown hne hbx hx hcx hk c0 c1 c5 c6 c7
    by_cases hx0 : x = 0
    · subst hx0
      have hpq : p ≠ q := fun e => HC.out (by rw [← e]; exact HCX.out)
      obtain ⟨g', rfl⟩ : ∃ g', gk = g' + 1 := ⟨gk - 1, by omega⟩
      go_wp2_with fail
      go_quiet (fail)
      go_wp2_with fail
      go_roundg g'
      case measure => omega
      case rel => exact ⟨p + 1, by omega, by omega, by omega, hid_ (by rw [HU.out, upTo, if_pos HCX.out]), hid_ (HB.out.set4 (p + 1)), below_drewN (below_set hbr hB 4 _) _, (hkr.box 4 (by decide) _).dN _⟩
    · have hx1 : (x == 0) = false := by simpa using hx0
      have HU2 : Hid (upTo base cells N low = p) := hid_ (by
        rw [HU.out]
        cases gk with
        | zero => rfl
        | succ n => rw [upTo, if_neg (by rw [HCX.out]; exact hx0)])
      clear hx0 HU
      go_wp2_with fail
      go_quiet (fail)
      go_wp2_with fail
      have HB0 := hid_ (HB.out.dN nq)
      have hbr0 := below_drewN hbr nq
      have hkr0 := hkr.dN nq
      clear c2 c3 c4 f4 ck m1 m2 m3 m4 m5 hx1 HCX HB hbr hkr
      go_loopg [] N (fun g2 wr => ∃ p2 : Int, p2 - g2 = low ∧ q ≤ p2 ∧ p2 ≤ high ∧ Hid (downTo base cells N high = downTo base cells g2 p2) ∧ Hid (BAt wr B go ⟨st, pos, base, cells, p, p2, inner, outer⟩) ∧ Below B w wr ∧ Kept w wr go)
      case atStart => exact ⟨high, by omega, q2, Int.le_refl _, hid_ rfl, HB0, hbr0, hkr0⟩
      case round =>
        obtain ⟨p2, hp21, hp22, hp23, HU, HB, hbr, hkr⟩ := hrel
        obtain ⟨A, c, ⟨c0, c1, c2, c3, c4, c5, c6, c7⟩, hf, hown, _, hne, hbx⟩ := HB.out.cells
        simp only at c0 c1 c2 c3 c4 c5 c6 c7 hown
        have f5 := hf 5
        obtain ⟨k2, hk⟩ : ∃ k : Nat, p2 - base = k := ⟨(p2 - base).toNat, by omega⟩
        have hkl2 : k2 < cells.length := by omega
        obtain ⟨y, hx⟩ : ∃ x, cells[k2]? = some x := ⟨_, List.getElem?_eq_getElem hkl2⟩
        have hcx : cellAt base cells p2 = y := cellAt_get (by omega) hx
        obtain ⟨g2, rfl, hg⟩ := own_addr hown (by omega)
        have ck : wr.cell? ⟨g2, k2, none⟩ = some (.int .i64 y) := by
          rw [hown.cellAt k2 (by omega)]
          exact ints_at hx
        have m1 : IntKind.i64.wrap (p2 - base) = p2 - base := IntWalk.i64_in _ (by omega)
        have m2 : IntKind.i64.wrap (p2 - 1) = p2 - 1 := IntWalk.i64_in _ (by omega)
        have m3 : (p2 - base).toNat = k2 := by omega
        have m4 : 0 ≤ p2 - base := by omega
        have m5 : p2 - base < cells.length := by omega
        have HCX := hid_ hcx
        clear hf hown hne hbx hx hcx hk c0 c1 c4 c6 c7
        by_cases hy0 : y = 0
        · subst hy0
          have hpq : p2 ≠ q := fun e => HC.out (by rw [← e]; exact HCX.out)
          obtain ⟨g', rfl⟩ : ∃ g', gk = g' + 1 := ⟨gk - 1, by omega⟩
          go_wp2_with fail
          go_quiet (fail)
          go_wp2_with fail
          go_roundg g'
          case measure => omega
          case rel => exact ⟨p2 - 1, by omega, by omega, by omega, hid_ (by rw [HU.out, downTo, if_pos HCX.out]), hid_ (HB.out.set5 (p2 - 1)), below_drewN (below_set hbr hB 5 _) _, (hkr.box 5 (by decide) _).dN _⟩
        · have hy1 : (y == 0) = false := by simpa using hy0
          have HU3 : Hid (downTo base cells N high = p2) := hid_ (by
            rw [HU.out]
            cases gk with
            | zero => rfl
            | succ n => rw [downTo, if_neg (by rw [HCX.out]; exact hy0)])
          clear hy0 HU
          go_wp2_with fail
          go_quiet (fail)
          go_wp2_with fail
          go_end0
          refine ⟨rfl, ?_, below_drewN hbr _, hkr.dN _⟩
          have : Band.drawIn ⟨st, pos, base, cells, low, high, inner, outer⟩ = ⟨st, pos, base, cells, p, p2, inner, outer⟩ := by
            simp only [Band.drawIn, hNN, HU2.out, HU3.out]
          rw [this]
          exact HB.out.dN _
end Go.Proofs.Ytonammaecpapmaa.Tp

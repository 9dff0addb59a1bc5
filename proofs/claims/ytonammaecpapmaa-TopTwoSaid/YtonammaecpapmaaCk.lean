/- Contracts: risingTargets, the function that Until hands to walk. -/
import Derived.Test.YtonammaecpapmaaCh
namespace Go.Proofs.Ytonammaecpapmaa.Cn
open Go.RowKit

def riseAt (n : Int) (l : List Int) (j : Nat) : Bool := inB (l.getD j 0) n && (j == 0 || decide (l.getD (j - 1) 0 < l.getD j 0))
def riseB (n : Int) (l : List Int) : Bool := (List.range l.length).all (riseAt n l)
theorem rise_step {n : Int} {l : List Int} {k : Nat} (h : (List.range k).all (riseAt n l) = true) (hk : riseAt n l k = true) : (List.range (k + 1)).all (riseAt n l) = true := by
  rw [List.range_succ, List.all_append, h]
  simp [hk]
theorem rise_not {n : Int} {l : List Int} {k : Nat} (hk : k < l.length) (h : riseAt n l k = false) : riseB n l = false := by
  rw [riseB, List.all_eq_false]
  exact ⟨k, List.mem_range.2 hk, by simp [h]⟩
theorem getD_of {l : List Int} {k : Nat} {x : Int} (h : l[k]? = some x) : l.getD k 0 = x := by simp [List.getD_eq_getElem?_getD, h]

set_option maxHeartbeats 1000000 in
theorem rising_any (R : Int) (A A' : Option Addr) (n c q d : Nat) (l : List Int) (w : World) (h : IntsAt w w.heap.size A' q l) (hq : q ≤ 4000) :
    Calls Try.prog 20 #[.agg #[.int .i64 R, .slice A n c], .slice A' q d] w fun e w' => e = .returned (.bool (riseB n l)) ∧ Below w.heap.size w w' := by
  have HL := hid_ h.len
  by_cases h0 : q = 0
  · subst h0
    have HS : Hid (riseB n l = true) := by rw [List.eq_nil_of_length_eq_zero HL.out]; rfl
    clear h
    go_enter Try.func20, Try.ntmps20
    go_wp2_with fail
    refine wp_loop_rounds 1 ?_
    rw [rounds_succ]
    go_wp2_with fail
    go_ret
    exact ⟨ret_bool HS.out.symm, (Below.refl _ w).alloc (Nat.le_refl _) _⟩
  · obtain ⟨b, off, rfl, hb, hin⟩ := h.at_ (by omega)
    have HI := hid_ hin
    clear hin h
    go_enter Try.func20, Try.ntmps20
    go_wp2_with fail
    go_loopw [9] (fun s wr => ∃ k : Nat, s = .int .i64 ((k : Nat) : Int) ∧ k ≤ q ∧ Hid ((List.range k).all (riseAt n l) = true) ∧ Below (w.heap.size + 1) (w.alloc (.cells #[.int .i64 R, .slice A n c] 24)) wr) (fun s _ => q - (intOf s).toNat)
    case atStart => exact ⟨0, rfl, Nat.zero_le _, hid_ (by simp), Below.refl _ _⟩
    case round =>
      obtain ⟨k, rfl, hk, HT, hbr⟩ := hrel
      have B1 := (Blk.new w 24 #[.int .i64 R, .slice A n c]).below hbr (by omega)
      have p0 := B1.cell 0
      have p1 := B1.cell 1
      simp at p0 p1
      have hbw : Below w.heap.size w wr := ((Below.refl _ w).alloc (Nat.le_refl _) _).trans (hbr.mono (by omega))
      have hpz := B1.lt
      by_cases hlt : k < q
      · obtain ⟨x, hx⟩ : ∃ x, l[k]? = some x := ⟨_, List.getElem?_eq_getElem (by rw [HL.out]; exact hlt)⟩
        have i0 := (HI.out.below hbw hb) k x hx
        have HX := hid_ hx
        clear hx
        cases ht : inB x n
        · go_wp2_with fail
          refine (isTarget_any _ _ _ _ _ _).mono ?_
          rintro e w2 ⟨rfl, hb2⟩
          go_wp2_with fail
          go_ret
          exact ⟨ret_bool (rise_not (by rw [HL.out]; exact hlt) (by rw [riseAt, getD_of HX.out, ht]; rfl)).symm, bnext hbw hb2⟩
        · by_cases hk0 : k = 0
          · have hk0' : ¬ (0 : Int) < k := by omega
            have HK0 := hid_ hk0
            clear hk0
            go_wp2_with fail
            refine (isTarget_any _ _ _ _ _ _).mono ?_
            rintro e w2 ⟨rfl, hb2⟩
            go_wp2_with fail
            go_roundw
            case rel => exact ⟨k + 1, by go_num, by omega, hid_ (rise_step HT.out (by rw [riseAt, getD_of HX.out, ht, HK0.out]; rfl)), hbr.trans (hb2.mono (by omega))⟩
            case measure => simp [intOf]; omega
          · obtain ⟨y, hy⟩ : ∃ y, l[k - 1]? = some y := ⟨_, List.getElem?_eq_getElem (by rw [HL.out]; omega)⟩
            have hkp : 0 < (k : Int) := by omega
            by_cases hxy : y < x
            · have hxy' : ¬ x ≤ y := by omega
              go_wp2_with fail
              refine (isTarget_any _ _ _ _ _ _).mono ?_
              rintro e w2 ⟨rfl, hb2⟩
              have hb3 := bnext hbw hb2
              have i1 := (HI.out.below hb3 hb) (k - 1) y hy
              have HY := hid_ hy
              clear hy
              go_wp2_with fail
              go_roundw
              case rel => exact ⟨k + 1, by go_num, by omega, hid_ (rise_step HT.out (by rw [riseAt, getD_of HX.out, ht, getD_of HY.out]; simp [hxy])), hbr.trans (hb2.mono (by omega))⟩
              case measure => simp [intOf]; omega
            · have hxy' : x ≤ y := by omega
              go_wp2_with fail
              refine (isTarget_any _ _ _ _ _ _).mono ?_
              rintro e w2 ⟨rfl, hb2⟩
              have hb3 := bnext hbw hb2
              have i1 := (HI.out.below hb3 hb) (k - 1) y hy
              have HY := hid_ hy
              clear hy
              go_wp2_with fail
              go_ret
              exact ⟨ret_bool (rise_not (by rw [HL.out]; exact hlt) (by rw [riseAt, getD_of HX.out, getD_of HY.out]; simp [hxy, hk0])).symm, hb3⟩
      · have hkq : k = q := by omega
        go_wp2_with fail
        go_ret
        refine ⟨ret_bool ?_, hbw⟩
        rw [riseB, HL.out, ← hkq]
        exact HT.out.symm

set_option maxHeartbeats 400000 in
theorem until1_any (a n cp bx g mt : Nat) (b f : Bool) (w : World) (hbx : Blk w bx 66 #[.slice (some ⟨g, 0, none⟩) n cp]) (hp : w.cell? ⟨g, a, none⟩ = some (.bool f)) (ha : a < n) (hm : Blk w mt 4 #[.bool b]) :
    Calls Try.prog 22 #[.int .i64 (a : Int), .pointer (some ⟨bx, 0, none⟩), .pointer (some ⟨mt, 0, none⟩)] w fun e w' => e = .returned (.bool f) ∧ w' = w.setCell ⟨mt, 0, none⟩ (.bool f) := by
  have c0 := hbx.cell 0
  have m0 := hm.cell 0
  have f0 := hm.free 0
  simp at c0 m0
  clear hbx hm
  go_enter Try.func22, Try.ntmps22
  go_wp2_with fail
  go_ret
  exact ⟨rfl, rfl⟩

/-- The memory of the function that Until hands to walk: the table of points, and whether one has been met. -/
structure Pts (bx g mt n cp : Nat) (fin : Nat → Bool) (b : Bool) (w : World) : Prop where
  box : Blk w bx 66 #[.slice (some ⟨g, 0, none⟩) n cp]
  row : ∀ k, k < n → w.cell? ⟨g, k, none⟩ = some (.bool (fin k))
  met : Blk w mt 4 #[.bool b]

theorem enter33 (args : Array Value) (w : World) : (callFunc 22 args).run Try.prog w = .ok (.enter 22 args) w := by kernel_rfl

theorem ends_until {bx g mt n cp B : Nat} {fin : Nat → Bool} (h1 : bx < B) (h2 : g < B) (h3 : mt < B) (hne : bx ≠ mt) (hne2 : g ≠ mt) :
    Ends 22 #[.pointer (some ⟨bx, 0, none⟩), .pointer (some ⟨mt, 0, none⟩)] fin n B (some mt) (Pts bx g mt n cp fin) where
  call a b w ha _ hJ := by
    refine (until1_any a n cp bx g mt b (fin a) w hJ.box (hJ.row a ha) ha hJ.met).mono ?_
    rintro e w' ⟨rfl, rfl⟩
    exact ⟨rfl, ⟨hJ.box.far hne _, fun k hk => (World.cell?_of_block (a := ⟨g, k, none⟩) (Below.heap_setCell _ _ _ _ hne2)).trans (hJ.row k hk), by simpa using hJ.met.set_ 0 (.bool (fin a))⟩,
      ⟨rfl, rfl, rfl, by simp [World.setCell], fun k _ hk => Below.heap_setCell _ _ _ _ (fun e => hk (by rw [e]))⟩⟩
  keep b w w' hJ hb := ⟨hJ.box.below hb h1, fun k hk => (hb.cell (p := ⟨g, k, none⟩) h2).trans (hJ.row k hk), hJ.met.below hb h3⟩
  enter := enter33
end Go.Proofs.Ytonammaecpapmaa.Cn

/- The contract of Join. -/
import Derived.Test.YtgpcgjdnehlaeaaAc
import Derived.Deep.AppendLies
import Derived.Deep.RegionLaw
namespace Go.Proofs.Ytgpcgjdnehlaeaa
open Go.RowKit

theorem Try.info50 : (Try.prog.info? 50).map (fun i => (i.zero, i.size, i.bytes)) = some (some (.agg #[.int .i64 0, .int .i64 0, .int .i64 0, .int .i64 0]), 4, 32) := by kernel_rfl

def halts (a : List Ins) : Bool := a.any fun i => i.op == 2
def firstI (n : Nat) (a : List Ins) : Int := if halts a = true then (n : Int) + 1 else n
def linkI (n : Int) (i : Ins) : Ins := if i.op = 2 then ⟨0, 0, n, 0⟩ else i

theorem flat_step {f : Ins → Ins} {a : List Ins} {k : Nat} {i : Ins} (hi : a[k]? = some i) : flat ((a.take (k + 1)).map f) = flat ((a.take k).map f) ++ (f i).cells := by
  rw [List.take_add_one, hi, List.map_append]
  simp [flat]
theorem first_halt {n : Nat} {a : List Ins} {k : Nat} {i : Ins} (hi : a[k]? = some i) (ho : i.op = 2) : firstI n (a.take (k + 1)) = (n : Int) + 1 := by
  rw [List.take_add_one, hi, firstI, if_pos]
  simp [halts, ho]
theorem first_on {n : Nat} {a : List Ins} {k : Nat} {i : Ins} (hi : a[k]? = some i) (ho : i.op ≠ 2) : firstI n (a.take (k + 1)) = firstI n (a.take k) := by
  rw [List.take_add_one, hi, firstI, firstI]
  have : halts (a.take k ++ (some i).toList) = halts (a.take k) := by simp [halts, ho]
  rw [this]
theorem out_next {w w' : World} {o g k cap t : Nat} {Rm : Value} {v : Value} {xs : List Value} (hB : Blk w' o t #[Rm, v]) (ho : w'.ownsRow (o + 1) 50 4 (.slice (some ⟨g, 0, none⟩) (k + 1) cap) (k + 1) xs) (hb : Below o w w') :
    Blk (w'.setCell ⟨o, 1, none⟩ (.slice (some ⟨g, 0, none⟩) (k + 1) cap)) o t #[Rm, .slice (some ⟨g, 0, none⟩) (k + 1) cap] ∧
    (w'.setCell ⟨o, 1, none⟩ (.slice (some ⟨g, 0, none⟩) (k + 1) cap)).ownsRow (o + 1) 50 4 (.slice (some ⟨g, 0, none⟩) (k + 1) cap) (k + 1) xs ∧
    Below o w (w'.setCell ⟨o, 1, none⟩ (.slice (some ⟨g, 0, none⟩) (k + 1) cap)) :=
  ⟨by simpa using hB.set_ 1 (.slice (some ⟨g, 0, none⟩) (k + 1) cap), ownsRow_setCell_below ho (Nat.lt_succ_self o) _, hb.setCell (Nat.le_refl _) _⟩
theorem news4 (w : World) (o : Obj) (p q r s : Value) (t : TypeId) : ∀ j u, [p, q, r, s][j]? = some u → ((w.alloc o).alloc (.cells #[p, q, r, s] t)).cell? ((⟨w.heap.size + 1, 0, none⟩ : Addr).add j) = some u := by
  have h := heap_alloc_new (w.alloc o) (.cells #[p, q, r, s] t)
  rw [show (w.alloc o).heap.size = w.heap.size + 1 by simp] at h
  exact World.news_of_block h
theorem own_ne {w : World} {base o size n : Nat} {e : TypeId} {v : Value} {xs : List Value} (h : w.ownsRow base e size v n xs) (ho : o < base) : some o ≠ v.ownBlock := by
  rcases h.2 with ⟨rfl, _⟩ | ⟨g, cap, cur, rfl, hb, _⟩
  · simp [Value.ownBlock]
  · simp [Value.ownBlock]; omega
theorem own_lt {w : World} {base size n : Nat} {e : TypeId} {v : Value} {xs : List Value} (h : w.ownsRow base e size v n xs) (k : Nat) (hk : v.ownBlock = some k) : base ≤ k := by
  rcases h.2 with ⟨rfl, _⟩ | ⟨g, cap, cur, rfl, hb, _⟩
  · simp [Value.ownBlock] at hk
  · simp [Value.ownBlock] at hk; omega
theorem ints4 (p q r s : Int) : ∀ u ∈ ([.int .i64 p, .int .i64 q, .int .i64 r, .int .i64 s] : List Value), u.oneCell' = true := by
  intro u hu
  simp at hu
  rcases hu with rfl | rfl | rfl | rfl <;> rfl

theorem moved_is (i : Ins) (d : Int) (w : World) {j0 j1 j2 j3 : Int} (h : shiftI d i = ⟨j0, j1, j2, j3⟩) (h1 : (0 ≤ i.nx ∧ i.nx ≤ 5000) ∧ 0 ≤ i.zr ∧ i.zr ≤ 5000) (hd : 0 ≤ d ∧ d ≤ 5000) :
    Calls Try.prog 39 #[.agg #[.int .i64 i.op, .int .i64 i.rg, .int .i64 i.nx, .int .i64 i.zr], .int .i64 d] w fun e w' => e = .returned (.agg #[.int .i64 j0, .int .i64 j1, .int .i64 j2, .int .i64 j3]) ∧ Below w.heap.size w w' := by
  have := moved_any i d w h1.1 h1.2 hd
  rw [h] at this
  exact this
theorem vIns_small {R : Int} {n : Nat} {i : Ins} (h : vIns R n i = true) (hn : n ≤ 5000) : (0 ≤ i.nx ∧ i.nx ≤ 5000) ∧ 0 ≤ i.zr ∧ i.zr ≤ 5000 := by
  obtain ⟨op, rg, nx, zr⟩ := i
  rcases vIns_op h with ho | ho | ho
  · simp only at ho
    subst ho
    simp [vIns, vInc, inB] at h
    simp only
    omega
  · simp only at ho
    subst ho
    simp [vIns, vDec, inB] at h
    simp only
    omega
  · simp only at ho
    subst ho
    simp [vIns, vHalt] at h
    simp only
    omega
theorem own_drew {w : World} {base size n : Nat} {e : TypeId} {v : Value} {xs : List Value} (h : w.ownsRow base e size v n xs) : w.drew.ownsRow base e size v n xs := h
theorem own_below {w w' : World} {base size n : Nat} {e : TypeId} {v : Value} {xs : List Value} (h : w.ownsRow base e size v n xs) (hb : Below w.heap.size w w') (_h : base ≤ w.heap.size) : w'.ownsRow base e size v n xs := by
  rcases h.2 with ⟨rfl, h0⟩ | ⟨g, cap, cur, hv, hg, hh, h1, h2, h3, h4⟩
  · exact ⟨h.1, .inl ⟨rfl, h0⟩⟩
  · have hlt : g < w.heap.size := by
      rcases Nat.lt_or_ge g w.heap.size with hlt | hge
      · exact hlt
      · rw [Array.getElem?_eq_none hge] at hh; cases hh
    exact ⟨h.1, .inr ⟨g, cap, cur, hv, hg, (hb.block g hlt).trans hh, h1, h2, h3, h4⟩⟩
theorem news4d (w : World) (p q r s : Value) (t : TypeId) : ∀ j u, [p, q, r, s][j]? = some u → (w.alloc (.cells #[p, q, r, s] t)).cell? ((⟨w.heap.size, 0, none⟩ : Addr).add j) = some u :=
  World.news_of_block (heap_alloc_new w (.cells #[p, q, r, s] t))

theorem flat_step2 {f : Ins → Ins} {FR b : List Ins} {k : Nat} {i : Ins} (hi : b[k]? = some i) : flat (FR ++ (b.take (k + 1)).map f) = flat (FR ++ (b.take k).map f) ++ (f i).cells := by
  rw [List.take_add_one, hi, List.map_append]
  simp [flat]
theorem flat_len (code : List Ins) : (flat code).length = code.length * 4 := by
  induction code with
  | nil => rfl
  | cons i r ih => simp only [flat, List.flatMap_cons, List.length_append, List.length_cons] at ih ⊢; rw [ih]; simp [Ins.cells]; omega
theorem flat_get {code : List Ins} {k : Nat} {i : Ins} (hi : code[k]? = some i) (j : Nat) (hj : j < 4) : (flat code)[k * 4 + j]? = i.cells[j]? := by
  induction code generalizing k with
  | nil => simp at hi
  | cons x r ih =>
    rw [flat, List.flatMap_cons]
    have hx : x.cells.length = 4 := rfl
    cases k with
    | zero =>
      simp at hi
      subst hi
      rw [List.getElem?_append_left (by rw [hx]; omega)]
      simp
    | succ k =>
      simp at hi
      rw [List.getElem?_append_right (by rw [hx]; omega), hx, show (k + 1) * 4 + j - 4 = k * 4 + j by omega]
      exact ih hi
theorem row_code {w : World} {B g cap m : Nat} {code : List Ins} (h : w.ownsRow B 50 4 (.slice (some ⟨g, 0, none⟩) m cap) m (flat code)) : CodeAt w w.heap.size (some ⟨g, 0, none⟩) m code := by
  have hl := h.1
  rw [flat_len] at hl
  refine ⟨by omega, fun _ => ?_⟩
  rcases h.2 with ⟨hv, _⟩ | ⟨g', cap', cur, hv, _, hh, _, _, hs, hx⟩
  · cases hv
  · simp only [Value.slice.injEq, Option.some.injEq, Addr.mk.injEq, and_true, true_and] at hv
    obtain ⟨rfl, rfl⟩ := hv
    refine ⟨g, 0, rfl, ?_, fun k i hi => ?_⟩
    · rcases Nat.lt_or_ge g w.heap.size with hlt | hge
      · exact hlt
      · rw [Array.getElem?_eq_none hge] at hh; cases hh
    · have hk : k < code.length := (List.getElem?_eq_some_iff.1 hi).1
      have key : ∀ j, j < 4 → w.cell? ⟨g, 0 + k * 4 + j, none⟩ = i.cells[j]? := fun j hj => by
        rw [cell_of_row w g (0 + k * 4 + j) cur 50 (0, 0) hh, ← flat_get hi j hj, ← hx, List.getElem?_take_of_lt (by omega)]
        simp
      exact ⟨key 0 (by omega), key 1 (by omega), key 2 (by omega), key 3 (by omega)⟩
theorem own_res2 {w : World} {B q m : Nat} {v0 : Value} {xs : List Value} (h : w.ownsRow B 50 4 v0 m xs) (hq : q < B) (u v : Value) :
    ((w.setCell ⟨q, 0, none⟩ u).setCell ⟨q, 1, none⟩ v).ownsRow B 50 4 v0 m xs := ownsRow_setCell_below (ownsRow_setCell_below h hq u) hq v

def joinC (a b : List Ins) : List Ins := (a.map (linkI a.length) ++ (if halts a = true then [⟨1, 0, (a.length : Int) + 1, (a.length : Int) + 1⟩] else [])) ++ b.map (shiftI (firstI a.length a))
def JRet (w : World) (M : Int) (code : List Ins) (e : Ending) (w' : World) : Prop :=
  (code.length ≤ 2000 ∧ ∃ A n c, e = .returned (.tuple #[.agg #[.int .i64 M, .slice A n c], .int .i64 0]) ∧ CodeAt w' w'.heap.size A n code ∧ Below w.heap.size w w') ∨
  (2000 < code.length ∧ e = .returned (.tuple #[.agg #[.int .i64 0, .slice none 0 0], .int .i64 4]) ∧ Below w.heap.size w w')

set_option maxRecDepth 100000 in
set_option maxHeartbeats 8000000 in
theorem join_lt (R1 R2 : Int) (A1 A2 : Option Addr) (n1 c1 n2 c2 : Nat) (a b : List Ins) (w : World) (h1 : CodeAt w w.heap.size A1 n1 a) (h2 : CodeAt w w.heap.size A2 n2 b) (hv1 : vCode R1 a = true) (hv2 : vCode R2 b = true) (hRR : R1 < R2) :
    Calls Try.prog 21 #[.agg #[.int .i64 R1, .slice A1 n1 c1], .agg #[.int .i64 R2, .slice A2 n2 c2]] w (JRet w R2 (joinC a b)) := by
  have H1 := hid_ h1; clear h1
  have H2 := hid_ h2; clear h2
  have V1 := hid_ hv1; clear hv1
  have V2 := hid_ hv2; clear hv2
  go_enter Try.func21, Try.ntmps21
  go_wp2_with fail
  refine (valid_any _ _ _ _ a _ (H1.out.to ((below2 w _ _).alloc (by simp; omega) _))).mono ?_
  rw [V1.out]
  rintro e w1 ⟨rfl, hb1⟩
  obtain ⟨B1, B2, B3, hz, hw1⟩ := boxes3 hb1
  have p0 := B1.cell 0
  have p1 := B1.cell 1
  have q0 := B2.cell 0
  have q1 := B2.cell 1
  simp at p0 p1 q0 q1
  go_wp2_with fail
  refine (valid_any _ _ _ _ b _ (H2.out.to hw1)).mono ?_
  rw [V2.out]
  rintro e w2 ⟨rfl, hb2⟩
  have C1 := B1.below hb2 (by omega)
  have C2 := B2.below hb2 (by omega)
  have C3 := B3.below hb2 (by omega)
  have hw2 := bnext hw1 hb2
  have hz2 : w.heap.size + 1 + 1 < w2.heap.size := by have := hb2.size; omega
  have hz20 : w.heap.size < w2.heap.size := by omega
  have hz21 : w.heap.size + 1 < w2.heap.size := by omega
  clear p0 p1 q0 q1 B1 B2 B3 hb2 hb1
  have p0 := C1.cell 0
  have p1 := C1.cell 1
  have q0 := C2.cell 0
  have q1 := C2.cell 1
  simp at p0 p1 q0 q1
  go_wp2_with fail
  have HC1 := hid_ C1; clear C1
  have HC2 := hid_ C2; clear C2
  have HC3 := hid_ C3; clear C3
  clear p0 p1 q0 q1
  have ha1 : 0 < n1 := by have := vCode_reg V1.out; have := H1.out.len; omega
  obtain ⟨b1, off1, rfl, hb1, hin1⟩ := H1.out.at_ ha1
  have HI1 := hid_ hin1; clear hin1
  have hlen1 := hid_ H1.out.len
  have hn1 : n1 ≤ 2000 := by have := vCode_reg V1.out; have := H1.out.len; omega
  obtain ⟨z0, hz0, hz1, hz2, hz3⟩ := info_parts Try.info50
  go_loopw [7, 35] (fun s7 s35 wr => ∃ k A cap, s35 = .int .i64 ((k : Nat) : Int) ∧ k ≤ n1 ∧ s7 = .int .i64 (firstI n1 (a.take k)) ∧ Blk wr w2.heap.size 24 #[.int .i64 R2, .slice A k cap] ∧ Hid (wr.ownsRow (w2.heap.size + 1) 50 4 (.slice A k cap) k (flat ((a.take k).map (linkI n1)))) ∧ Below w2.heap.size w2 wr)
    (fun _ s _ => n1 - (intOf s).toNat)
  case atStart => exact ⟨0, none, 0, rfl, Nat.zero_le _, by simp [firstI, halts], Blk.new _ _ _, hid_ ⟨rfl, .inl ⟨rfl, rfl⟩⟩, (Below.refl _ _).alloc (Nat.le_refl _) _⟩
  case round =>
    obtain ⟨k, A, cap, rfl, hk, rfl, hB, HO, hbr⟩ := hrel
    have o0 := hB.cell 0
    have o1 := hB.cell 1
    have of0 := hB.free 0
    have of1 := hB.free 1
    have hoz := hB.lt
    simp at o0 o1
    have hbw := hw2.trans (hbr.mono hw2.size)
    by_cases hlt : k < n1
    · obtain ⟨i, hi⟩ : ∃ i, a[k]? = some i := ⟨_, List.getElem?_eq_getElem (by rw [hlen1.out]; exact hlt)⟩
      obtain ⟨i0, i1, i2, i3⟩ := (HI1.out.below hbw hb1) k i hi
      have HI := hid_ hi
      clear hi
      obtain ⟨op, rg, nx, zr⟩ := i
      simp only at i0 i1 i2 i3
      by_cases ho : op = 2
      · subst ho
        have HOa := hid_ ((HO.out.alloc (.cells #[.int .i64 0, .int .i64 0, .int .i64 n1, .int .i64 0] 50)).alloc (.cells #[.int .i64 0, .int .i64 0, .int .i64 n1, .int .i64 0] 50))
        go_wp2_with (at_builtin; refine wpList_append_lies _ rfl _ _ _ rfl (w2.heap.size + 1) 50 z0 (.agg #[.int .i64 0, .int .i64 0, .int .i64 0, .int .i64 0]) 4 32 Try.underlying22 hz0 hz1 hz2 hz3 rfl (by omega) (.slice A k cap) k _ rfl HOa.out ⟨wr.heap.size + 1, 0, none⟩ 1 1 [.int .i64 0, .int .i64 0, .int .i64 n1, .int .i64 0] rfl rfl (news4 _ _ _ _ _ _ _) (ints4 _ _ _ _) (by omega) (by unfold maxLen; omega) (by omega) (by simp; omega) (wr.heap.size + 1 + 1) (by simp) ?_; intro g' cap' w' hown' hgrow hat hlt'; have BX := ((hB.alloc (.cells #[.int .i64 0, .int .i64 0, .int .i64 n1, .int .i64 0] 50)).alloc (.cells #[.int .i64 0, .int .i64 0, .int .i64 n1, .int .i64 0] 50)).grownby hgrow (own_ne HO.out (by omega)); have r1 := BX.cell 1; have f1 := BX.free 1; simp at r1)
        go_roundw
        case rel =>
          obtain ⟨n1', n2', n3'⟩ := out_next BX hown' (((hbr.alloc (by omega) (.cells #[.int .i64 0, .int .i64 0, .int .i64 n1, .int .i64 0] 50)).alloc (by simp; omega) (.cells #[.int .i64 0, .int .i64 0, .int .i64 n1, .int .i64 0] 50)).grown hgrow (by simp; omega) (fun k hk => by have := own_lt HO.out k hk; omega))
          exact ⟨k + 1, _, _, by go_num, by omega, by rw [first_halt HI.out rfl], n1', hid_ (by rw [flat_step HI.out]; simpa [linkI, Ins.cells] using n2'), n3'⟩
        case measure => simp [intOf]; omega
      · have HOa := hid_ ((HO.out.alloc (.cells #[.int .i64 op, .int .i64 rg, .int .i64 nx, .int .i64 zr] 50)).alloc (.cells #[.int .i64 op, .int .i64 rg, .int .i64 nx, .int .i64 zr] 50))
        go_wp2_with (at_builtin; refine wpList_append_lies _ rfl _ _ _ rfl (w2.heap.size + 1) 50 z0 (.agg #[.int .i64 0, .int .i64 0, .int .i64 0, .int .i64 0]) 4 32 Try.underlying22 hz0 hz1 hz2 hz3 rfl (by omega) (.slice A k cap) k _ rfl HOa.out ⟨wr.heap.size + 1, 0, none⟩ 1 1 [.int .i64 op, .int .i64 rg, .int .i64 nx, .int .i64 zr] rfl rfl (news4 _ _ _ _ _ _ _) (ints4 _ _ _ _) (by omega) (by unfold maxLen; omega) (by omega) (by simp; omega) (wr.heap.size + 1 + 1) (by simp) ?_; intro g' cap' w' hown' hgrow hat hlt'; have BX := ((hB.alloc (.cells #[.int .i64 op, .int .i64 rg, .int .i64 nx, .int .i64 zr] 50)).alloc (.cells #[.int .i64 op, .int .i64 rg, .int .i64 nx, .int .i64 zr] 50)).grownby hgrow (own_ne HO.out (by omega)); have r1 := BX.cell 1; have f1 := BX.free 1; simp at r1)
        go_roundw
        case rel =>
          obtain ⟨n1', n2', n3'⟩ := out_next BX hown' (((hbr.alloc (by omega) (.cells #[.int .i64 op, .int .i64 rg, .int .i64 nx, .int .i64 zr] 50)).alloc (by simp; omega) (.cells #[.int .i64 op, .int .i64 rg, .int .i64 nx, .int .i64 zr] 50)).grown hgrow (by simp; omega) (fun k hk => by have := own_lt HO.out k hk; omega))
          exact ⟨k + 1, _, _, by go_num, by omega, by rw [first_on HI.out ho], n1', hid_ (by rw [flat_step HI.out]; simpa [linkI, ho, Ins.cells] using n2'), n3'⟩
        case measure => simp [intOf]; omega
    · have hkn : k = n1 := by omega
      subst hkn
      rw [List.take_of_length_le (by rw [hlen1.out]; exact Nat.le_refl _)] at HO ⊢
      have E1 := HC1.out.below hbr (by omega)
      have E2 := HC2.out.below hbr (by omega)
      have E3 := HC3.out.below hbr (by omega)
      have p0 := E2.cell 0
      have p1 := E2.cell 1
      have x0 := E3.cell 0
      have x1 := E3.cell 1
      have y0 := E3.free 0
      have y1 := E3.free 1
      simp at p0 p1 x0 x1
      cases hh : halts a
      · have hf : firstI k a = (k : Int) := by rw [firstI, hh]; rfl
        rw [hf]
        go_wp2_with fail
        have ha2 : 0 < n2 := by have := vCode_reg V2.out; have := H2.out.len; omega
        have hn2 : n2 ≤ 2000 := by have := vCode_reg V2.out; have := H2.out.len; omega
        obtain ⟨b2, off2, rfl, hb2, hin2⟩ := H2.out.at_ ha2
        have HI2 := hid_ hin2; clear hin2
        have hlen2 := hid_ H2.out.len
        go_loopw [67] (fun s wq => ∃ kb A cap, s = .int .i64 ((kb : Nat) : Int) ∧ kb ≤ n2 ∧ Blk wq w2.heap.size 24 #[.int .i64 R2, .slice A (k + kb) cap] ∧ Hid (wq.ownsRow (w2.heap.size + 1) 50 4 (.slice A (k + kb) cap) (k + kb) (flat (a.map (linkI k) ++ (b.take kb).map (shiftI ((k : Nat) : Int))))) ∧ Below w2.heap.size w2 wq)
          (fun s _ => n2 - (intOf s).toNat)
        case atStart => exact ⟨0, _, _, rfl, Nat.zero_le _, hB, hid_ (by simpa using HO.out), hbr⟩
        case round =>
          obtain ⟨kb, A, cap, rfl, hkb, hB, HO, hbr⟩ := hrel
          have o0 := hB.cell 0
          have o1 := hB.cell 1
          have of0 := hB.free 0
          have of1 := hB.free 1
          have hoz := hB.lt
          simp at o0 o1
          have hbw := hw2.trans (hbr.mono hw2.size)
          by_cases hlt : kb < n2
          · obtain ⟨i, hi⟩ : ∃ i, b[kb]? = some i := ⟨_, List.getElem?_eq_getElem (by rw [hlen2.out]; exact hlt)⟩
            obtain ⟨i0, i1, i2, i3⟩ := (HI2.out.below hbw hb2) kb i hi
            have hsm := vIns_small (n := n2) (by rw [← hlen2.out]; exact vCode_ins V2.out hi) (by omega)
            have HI := hid_ hi
            have HSM := hid_ hsm
            clear hi hsm
            cases hsh : shiftI ((k : Nat) : Int) i with | mk j0 j1 j2 j3
            have HSH := hid_ hsh
            clear hsh
            obtain ⟨op, rg, nx, zr⟩ := i
            simp only at i0 i1 i2 i3
            go_wp2_with fail
            have HO2 := hid_ (own_drew (HO.out.alloc (.cells #[.int .i64 op, .int .i64 rg, .int .i64 nx, .int .i64 zr] 50)))
            have HB2 := hid_ (hB.alloc (.cells #[.int .i64 op, .int .i64 rg, .int .i64 nx, .int .i64 zr] 50))
            have hbr2 := hbr.alloc (by omega) (.cells #[.int .i64 op, .int .i64 rg, .int .i64 nx, .int .i64 zr] 50)
            go_region_law (first
              | (refine step_append_lies _ (by rfl) _ _ _ (by rfl) (w2.heap.size + 1) 50 z0 (.agg #[.int .i64 0, .int .i64 0, .int .i64 0, .int .i64 0]) 4 32 Try.underlying22 hz0 hz1 hz2 hz3 rfl (by omega) (.slice A (k + kb) cap) (k + kb) _ (by rfl) (HO5.out.alloc (.cells #[.int .i64 j0, .int .i64 j1, .int .i64 j2, .int .i64 j3] 50)) ⟨w5.heap.size, 0, none⟩ 1 1 [.int .i64 j0, .int .i64 j1, .int .i64 j2, .int .i64 j3] (by rfl) rfl (news4d _ _ _ _ _ _) (ints4 _ _ _ _) (by omega) (by unfold maxLen; omega) (by omega) (by simp; omega) (w5.heap.size + 1) (by simp) ?_; intro g' cap' w' hown' hgrow hat hlt'; have BX := (HB5.out.alloc (.cells #[.int .i64 j0, .int .i64 j1, .int .i64 j2, .int .i64 j3] 50)).grownby hgrow (own_ne HO.out (by omega)); have r1 := BX.cell 1; have f1 := BX.free 1; simp at r1)
              | (go_simp; go_at_call 39; refine (moved_is ⟨op, rg, nx, zr⟩ _ _ HSH.out HSM.out (by omega)).mono ?_; rintro e w5 ⟨rfl, hb5⟩; have HB5 := hid_ (HB2.out.below hb5.drewl (by simp; omega)); have HO5 := hid_ (own_below HO2.out hb5 (by simp; omega)); have o5 := HB5.out.cell 1; have hz5 := HB5.out.lt; simp at o5))
            · go_wp2_with fail
              go_roundw
              case rel =>
                obtain ⟨m1', m2', m3'⟩ := out_next BX hown' (((hbr2.drew.trans (hb5.mono (by have := hbr2.size; simpa using this))).alloc (by have := hb5.size; have := hbr2.size; simp at this ⊢; omega) (.cells #[.int .i64 j0, .int .i64 j1, .int .i64 j2, .int .i64 j3] 50)).grown hgrow (by have := hb5.size; have := hbr2.size; simp at this ⊢; omega) (fun k hk => by have := own_lt HO.out k hk; omega))
                exact ⟨kb + 1, _, _, by go_num, by omega, m1', hid_ (by rw [flat_step2 HI.out, HSH.out]; exact m2'), m3'⟩
              case measure => simp [intOf]; omega
            · go_wp2_with fail
              go_roundw
              case rel =>
                obtain ⟨m1', m2', m3'⟩ := out_next BX hown' (((hbr2.drew.trans (hb5.mono (by have := hbr2.size; simpa using this))).alloc (by have := hb5.size; have := hbr2.size; simp at this ⊢; omega) (.cells #[.int .i64 j0, .int .i64 j1, .int .i64 j2, .int .i64 j3] 50)).grown hgrow (by have := hb5.size; have := hbr2.size; simp at this ⊢; omega) (fun k hk => by have := own_lt HO.out k hk; omega))
                exact ⟨kb + 1, _, _, by go_num, by omega, m1', hid_ (by rw [flat_step2 HI.out, HSH.out]; exact m2'), m3'⟩
              case measure => simp [intOf]; omega
            · go_wp2_with fail
              go_roundw
              case rel =>
                obtain ⟨m1', m2', m3'⟩ := out_next BX hown' (((hbr2.drew.trans (hb5.mono (by have := hbr2.size; simpa using this))).alloc (by have := hb5.size; have := hbr2.size; simp at this ⊢; omega) (.cells #[.int .i64 j0, .int .i64 j1, .int .i64 j2, .int .i64 j3] 50)).grown hgrow (by have := hb5.size; have := hbr2.size; simp at this ⊢; omega) (fun k hk => by have := own_lt HO.out k hk; omega))
                exact ⟨kb + 1, _, _, by go_num, by omega, m1', hid_ (by rw [flat_step2 HI.out, HSH.out]; exact m2'), m3'⟩
              case measure => simp [intOf]; omega
            · go_wp2_with fail
              go_roundw
              case rel =>
                obtain ⟨m1', m2', m3'⟩ := out_next BX hown' (((hbr2.drew.trans (hb5.mono (by have := hbr2.size; simpa using this))).alloc (by have := hb5.size; have := hbr2.size; simp at this ⊢; omega) (.cells #[.int .i64 j0, .int .i64 j1, .int .i64 j2, .int .i64 j3] 50)).grown hgrow (by have := hb5.size; have := hbr2.size; simp at this ⊢; omega) (fun k hk => by have := own_lt HO.out k hk; omega))
                exact ⟨kb + 1, _, _, by go_num, by omega, m1', hid_ (by rw [flat_step2 HI.out, HSH.out]; exact m2'), m3'⟩
              case measure => simp [intOf]; omega
          · have hkn : kb = n2 := by omega
            subst hkn
            rw [List.take_of_length_le (by rw [hlen2.out]; exact Nat.le_refl _)] at HO
            have E3 := HC3.out.below hbr (by omega)
            have x0 := E3.cell 0
            have x1 := E3.cell 1
            have y0 := E3.free 0
            have y1 := E3.free 1
            simp at x0 x1
            have hez := E3.lt
            have hcl : (joinC a b).length = k + kb := by rw [show joinC a b = a.map (linkI k) ++ b.map (shiftI ((k : Nat) : Int)) by simp [joinC, firstI, hh, hlen1.out]]; simp [hlen1.out, hlen2.out] <;> omega
            by_cases hbig : 2000 < k + kb
            · have hbig' : (2000 : Int) < ((k + kb : Nat) : Int) := by omega
              go_wp2_with fail
              obtain ⟨e0, e1⟩ := res_cells E3 (.int .i64 0) (.slice none 0 0)
              refine bodyPost_ret (v := .tuple #[.agg #[.int .i64 0, .slice none 0 0], .int .i64 4]) (by simp [results, Try.results21, go_sem, e0, e1]) rfl ?_
              exact .inr ⟨by omega, rfl, below_res hbw (by omega) _ _⟩
            · have hbig' : ¬ (2000 : Int) < ((k + kb : Nat) : Int) := by omega
              go_wp2_with fail
              obtain ⟨e0, e1⟩ := res_cells E3 (.int .i64 R2) (.slice A (k + kb) cap)
              refine bodyPost_ret (v := .tuple #[.agg #[.int .i64 R2, .slice A (k + kb) cap], .int .i64 0]) (by simp [results, Try.results21, go_sem, e0, e1]) rfl ?_
              have hown := own_res2 (q := w.heap.size + 1 + 1) HO.out (by omega) (.int .i64 R2) (.slice A (k + kb) cap)
              obtain ⟨gg, cc, hv, _, _⟩ := hown.form (by omega)
              simp only [Value.slice.injEq, true_and] at hv
              obtain ⟨rfl, rfl⟩ := hv
              refine .inl ⟨by omega, _, _, _, rfl, ?_, below_res hbw (by omega) _ _⟩
              rw [show joinC a b = a.map (linkI k) ++ b.map (shiftI ((k : Nat) : Int)) by simp [joinC, firstI, hh, hlen1.out]]
              exact row_code hown
      · have hf : firstI k a = (k : Int) + 1 := by rw [firstI, hh]; rfl
        rw [hf]
        have HOa := hid_ (HO.out.alloc (.cells #[.int .i64 1, .int .i64 0, .int .i64 ((k : Int) + 1), .int .i64 ((k : Int) + 1)] 50))
        go_wp2_with (at_builtin; refine wpList_append_lies _ rfl _ _ _ rfl (w2.heap.size + 1) 50 z0 (.agg #[.int .i64 0, .int .i64 0, .int .i64 0, .int .i64 0]) 4 32 Try.underlying22 hz0 hz1 hz2 hz3 rfl (by omega) (.slice A k cap) k _ rfl HOa.out ⟨wr.heap.size, 0, none⟩ 1 1 [.int .i64 1, .int .i64 0, .int .i64 ((k : Int) + 1), .int .i64 ((k : Int) + 1)] rfl rfl (news4d _ _ _ _ _ _) (ints4 _ _ _ _) (by omega) (by unfold maxLen; omega) (by omega) (by simp; omega) (wr.heap.size + 1) (by simp) ?_; intro g1 cap1 w4 hown1 hgrow1 hat1 hlt1; have BX1 := (hB.alloc (.cells #[.int .i64 1, .int .i64 0, .int .i64 ((k : Int) + 1), .int .i64 ((k : Int) + 1)] 50)).grownby hgrow1 (own_ne HO.out (by omega)); have r1 := BX1.cell 1; have f1 := BX1.free 1; simp at r1; have F2 := E2.alloc (.cells #[.int .i64 1, .int .i64 0, .int .i64 ((k : Int) + 1), .int .i64 ((k : Int) + 1)] 50) |>.grownby hgrow1 (by intro e; have := own_lt HO.out _ e.symm; omega); have p0' := F2.cell 0; have p1' := F2.cell 1; simp at p0' p1'; have hz41 := F2.lt)
        have hbr1 := (hbr.alloc (by omega) (.cells #[.int .i64 1, .int .i64 0, .int .i64 ((k : Int) + 1), .int .i64 ((k : Int) + 1)] 50)).grown hgrow1 (by simp; omega) (fun k hk => by have := own_lt HO.out k hk; omega)
        obtain ⟨m1, m2, m3⟩ := out_next BX1 hown1 hbr1
        have M1 := hid_ m1
        have M2 := hid_ m2
        have M3 := hid_ m3
        clear m1 m2 m3 hgrow1 hown1 HOa HO hB hbr BX1 F2 E1 E2 E3
        have ha2 : 0 < n2 := by have := vCode_reg V2.out; have := H2.out.len; omega
        have hn2 : n2 ≤ 2000 := by have := vCode_reg V2.out; have := H2.out.len; omega
        obtain ⟨b2, off2, rfl, hb2, hin2⟩ := H2.out.at_ ha2
        have HI2 := hid_ hin2; clear hin2
        have hlen2 := hid_ H2.out.len
        go_loopw [67] (fun s wq => ∃ kb A cap, s = .int .i64 ((kb : Nat) : Int) ∧ kb ≤ n2 ∧ Blk wq w2.heap.size 24 #[.int .i64 R2, .slice A ((k + 1) + kb) cap] ∧ Hid (wq.ownsRow (w2.heap.size + 1) 50 4 (.slice A ((k + 1) + kb) cap) ((k + 1) + kb) (flat ((a.map (linkI k) ++ [⟨1, 0, (k : Int) + 1, (k : Int) + 1⟩]) ++ (b.take kb).map (shiftI ((k : Int) + 1))))) ∧ Below w2.heap.size w2 wq)
          (fun s _ => n2 - (intOf s).toNat)
        case atStart => exact ⟨0, _, _, rfl, Nat.zero_le _, M1.out, hid_ (by simpa using (show _ from (by have h := M2.out; rwa [show flat (List.map (linkI k) a) ++ [.int .i64 1, .int .i64 0, .int .i64 ((k : Int) + 1), .int .i64 ((k : Int) + 1)] = flat (List.map (linkI k) a ++ [⟨1, 0, (k : Int) + 1, (k : Int) + 1⟩]) from by simp [flat, Ins.cells]] at h))), M3.out⟩
        case round =>
          obtain ⟨kb, A, cap, rfl, hkb, hB, HO, hbr⟩ := hrel
          have o0 := hB.cell 0
          have o1 := hB.cell 1
          have of0 := hB.free 0
          have of1 := hB.free 1
          have hoz := hB.lt
          simp at o0 o1
          have hbw := hw2.trans (hbr.mono hw2.size)
          by_cases hlt : kb < n2
          · obtain ⟨i, hi⟩ : ∃ i, b[kb]? = some i := ⟨_, List.getElem?_eq_getElem (by rw [hlen2.out]; exact hlt)⟩
            obtain ⟨i0, i1, i2, i3⟩ := (HI2.out.below hbw hb2) kb i hi
            have hsm := vIns_small (n := n2) (by rw [← hlen2.out]; exact vCode_ins V2.out hi) (by omega)
            have HI := hid_ hi
            have HSM := hid_ hsm
            clear hi hsm
            cases hsh : shiftI ((k : Int) + 1) i with | mk j0 j1 j2 j3
            have HSH := hid_ hsh
            clear hsh
            obtain ⟨op, rg, nx, zr⟩ := i
            simp only at i0 i1 i2 i3
            go_wp2_with fail
            have HO2 := hid_ (own_drew (HO.out.alloc (.cells #[.int .i64 op, .int .i64 rg, .int .i64 nx, .int .i64 zr] 50)))
            have HB2 := hid_ (hB.alloc (.cells #[.int .i64 op, .int .i64 rg, .int .i64 nx, .int .i64 zr] 50))
            have hbr2 := hbr.alloc (by omega) (.cells #[.int .i64 op, .int .i64 rg, .int .i64 nx, .int .i64 zr] 50)
            go_region_law (first
              | (refine step_append_lies _ (by rfl) _ _ _ (by rfl) (w2.heap.size + 1) 50 z0 (.agg #[.int .i64 0, .int .i64 0, .int .i64 0, .int .i64 0]) 4 32 Try.underlying22 hz0 hz1 hz2 hz3 rfl (by omega) (.slice A ((k + 1) + kb) cap) ((k + 1) + kb) _ (by rfl) (HO5.out.alloc (.cells #[.int .i64 j0, .int .i64 j1, .int .i64 j2, .int .i64 j3] 50)) ⟨w5.heap.size, 0, none⟩ 1 1 [.int .i64 j0, .int .i64 j1, .int .i64 j2, .int .i64 j3] (by rfl) rfl (news4d _ _ _ _ _ _) (ints4 _ _ _ _) (by omega) (by unfold maxLen; omega) (by omega) (by simp; omega) (w5.heap.size + 1) (by simp) ?_; intro g' cap' w' hown' hgrow hat hlt'; have BX := (HB5.out.alloc (.cells #[.int .i64 j0, .int .i64 j1, .int .i64 j2, .int .i64 j3] 50)).grownby hgrow (own_ne HO.out (by omega)); have r1 := BX.cell 1; have f1 := BX.free 1; simp at r1)
              | (go_simp; go_at_call 39; refine (moved_is ⟨op, rg, nx, zr⟩ _ _ HSH.out HSM.out (by omega)).mono ?_; rintro e w5 ⟨rfl, hb5⟩; have HB5 := hid_ (HB2.out.below hb5.drewl (by simp; omega)); have HO5 := hid_ (own_below HO2.out hb5 (by simp; omega)); have o5 := HB5.out.cell 1; have hz5 := HB5.out.lt; simp at o5))
            · go_wp2_with fail
              go_roundw
              case rel =>
                obtain ⟨m1', m2', m3'⟩ := out_next BX hown' (((hbr2.drew.trans (hb5.mono (by have := hbr2.size; simpa using this))).alloc (by have := hb5.size; have := hbr2.size; simp at this ⊢; omega) (.cells #[.int .i64 j0, .int .i64 j1, .int .i64 j2, .int .i64 j3] 50)).grown hgrow (by have := hb5.size; have := hbr2.size; simp at this ⊢; omega) (fun k hk => by have := own_lt HO.out k hk; omega))
                exact ⟨kb + 1, _, _, by go_num, by omega, m1', hid_ (by rw [flat_step2 HI.out, HSH.out]; exact m2'), m3'⟩
              case measure => simp [intOf]; omega
            · go_wp2_with fail
              go_roundw
              case rel =>
                obtain ⟨m1', m2', m3'⟩ := out_next BX hown' (((hbr2.drew.trans (hb5.mono (by have := hbr2.size; simpa using this))).alloc (by have := hb5.size; have := hbr2.size; simp at this ⊢; omega) (.cells #[.int .i64 j0, .int .i64 j1, .int .i64 j2, .int .i64 j3] 50)).grown hgrow (by have := hb5.size; have := hbr2.size; simp at this ⊢; omega) (fun k hk => by have := own_lt HO.out k hk; omega))
                exact ⟨kb + 1, _, _, by go_num, by omega, m1', hid_ (by rw [flat_step2 HI.out, HSH.out]; exact m2'), m3'⟩
              case measure => simp [intOf]; omega
            · go_wp2_with fail
              go_roundw
              case rel =>
                obtain ⟨m1', m2', m3'⟩ := out_next BX hown' (((hbr2.drew.trans (hb5.mono (by have := hbr2.size; simpa using this))).alloc (by have := hb5.size; have := hbr2.size; simp at this ⊢; omega) (.cells #[.int .i64 j0, .int .i64 j1, .int .i64 j2, .int .i64 j3] 50)).grown hgrow (by have := hb5.size; have := hbr2.size; simp at this ⊢; omega) (fun k hk => by have := own_lt HO.out k hk; omega))
                exact ⟨kb + 1, _, _, by go_num, by omega, m1', hid_ (by rw [flat_step2 HI.out, HSH.out]; exact m2'), m3'⟩
              case measure => simp [intOf]; omega
            · go_wp2_with fail
              go_roundw
              case rel =>
                obtain ⟨m1', m2', m3'⟩ := out_next BX hown' (((hbr2.drew.trans (hb5.mono (by have := hbr2.size; simpa using this))).alloc (by have := hb5.size; have := hbr2.size; simp at this ⊢; omega) (.cells #[.int .i64 j0, .int .i64 j1, .int .i64 j2, .int .i64 j3] 50)).grown hgrow (by have := hb5.size; have := hbr2.size; simp at this ⊢; omega) (fun k hk => by have := own_lt HO.out k hk; omega))
                exact ⟨kb + 1, _, _, by go_num, by omega, m1', hid_ (by rw [flat_step2 HI.out, HSH.out]; exact m2'), m3'⟩
              case measure => simp [intOf]; omega
          · have hkn : kb = n2 := by omega
            subst hkn
            rw [List.take_of_length_le (by rw [hlen2.out]; exact Nat.le_refl _)] at HO
            have E3 := HC3.out.below hbr (by omega)
            have x0 := E3.cell 0
            have x1 := E3.cell 1
            have y0 := E3.free 0
            have y1 := E3.free 1
            simp at x0 x1
            have hez := E3.lt
            have hcl : (joinC a b).length = (k + 1) + kb := by rw [show joinC a b = (a.map (linkI k) ++ [⟨1, 0, (k : Int) + 1, (k : Int) + 1⟩]) ++ b.map (shiftI ((k : Int) + 1)) by simp [joinC, firstI, hh, hlen1.out]]; simp [hlen1.out, hlen2.out] <;> omega
            by_cases hbig : 2000 < (k + 1) + kb
            · have hbig' : (2000 : Int) < (((k + 1) + kb : Nat) : Int) := by omega
              go_wp2_with fail
              obtain ⟨e0, e1⟩ := res_cells E3 (.int .i64 0) (.slice none 0 0)
              refine bodyPost_ret (v := .tuple #[.agg #[.int .i64 0, .slice none 0 0], .int .i64 4]) (by simp [results, Try.results21, go_sem, e0, e1]) rfl ?_
              exact .inr ⟨by omega, rfl, below_res hbw (by omega) _ _⟩
            · have hbig' : ¬ (2000 : Int) < (((k + 1) + kb : Nat) : Int) := by omega
              go_wp2_with fail
              obtain ⟨e0, e1⟩ := res_cells E3 (.int .i64 R2) (.slice A ((k + 1) + kb) cap)
              refine bodyPost_ret (v := .tuple #[.agg #[.int .i64 R2, .slice A ((k + 1) + kb) cap], .int .i64 0]) (by simp [results, Try.results21, go_sem, e0, e1]) rfl ?_
              have hown := own_res2 (q := w.heap.size + 1 + 1) HO.out (by omega) (.int .i64 R2) (.slice A ((k + 1) + kb) cap)
              obtain ⟨gg, cc, hv, _, _⟩ := hown.form (by omega)
              simp only [Value.slice.injEq, true_and] at hv
              obtain ⟨rfl, rfl⟩ := hv
              refine .inl ⟨by omega, _, _, _, rfl, ?_, below_res hbw (by omega) _ _⟩
              rw [show joinC a b = (a.map (linkI k) ++ [⟨1, 0, (k : Int) + 1, (k : Int) + 1⟩]) ++ b.map (shiftI ((k : Int) + 1)) by simp [joinC, firstI, hh, hlen1.out]]
              exact row_code hown

set_option maxRecDepth 100000 in
set_option maxHeartbeats 8000000 in
theorem join_ge (R1 R2 : Int) (A1 A2 : Option Addr) (n1 c1 n2 c2 : Nat) (a b : List Ins) (w : World) (h1 : CodeAt w w.heap.size A1 n1 a) (h2 : CodeAt w w.heap.size A2 n2 b) (hv1 : vCode R1 a = true) (hv2 : vCode R2 b = true) (hRR : R2 ≤ R1) :
    Calls Try.prog 21 #[.agg #[.int .i64 R1, .slice A1 n1 c1], .agg #[.int .i64 R2, .slice A2 n2 c2]] w (JRet w R1 (joinC a b)) := by
  have H1 := hid_ h1; clear h1
  have H2 := hid_ h2; clear h2
  have V1 := hid_ hv1; clear hv1
  have V2 := hid_ hv2; clear hv2
  go_enter Try.func21, Try.ntmps21
  go_wp2_with fail
  refine (valid_any _ _ _ _ a _ (H1.out.to ((below2 w _ _).alloc (by simp; omega) _))).mono ?_
  rw [V1.out]
  rintro e w1 ⟨rfl, hb1⟩
  obtain ⟨B1, B2, B3, hz, hw1⟩ := boxes3 hb1
  have p0 := B1.cell 0
  have p1 := B1.cell 1
  have q0 := B2.cell 0
  have q1 := B2.cell 1
  simp at p0 p1 q0 q1
  go_wp2_with fail
  refine (valid_any _ _ _ _ b _ (H2.out.to hw1)).mono ?_
  rw [V2.out]
  rintro e w2 ⟨rfl, hb2⟩
  have C1 := B1.below hb2 (by omega)
  have C2 := B2.below hb2 (by omega)
  have C3 := B3.below hb2 (by omega)
  have hw2 := bnext hw1 hb2
  have hz2 : w.heap.size + 1 + 1 < w2.heap.size := by have := hb2.size; omega
  have hz20 : w.heap.size < w2.heap.size := by omega
  have hz21 : w.heap.size + 1 < w2.heap.size := by omega
  clear p0 p1 q0 q1 B1 B2 B3 hb2 hb1
  have p0 := C1.cell 0
  have p1 := C1.cell 1
  have q0 := C2.cell 0
  have q1 := C2.cell 1
  simp at p0 p1 q0 q1
  go_wp2_with fail
  have HC1 := hid_ C1; clear C1
  have HC2 := hid_ C2; clear C2
  have HC3 := hid_ C3; clear C3
  clear p0 p1 q0 q1
  have ha1 : 0 < n1 := by have := vCode_reg V1.out; have := H1.out.len; omega
  obtain ⟨b1, off1, rfl, hb1, hin1⟩ := H1.out.at_ ha1
  have HI1 := hid_ hin1; clear hin1
  have hlen1 := hid_ H1.out.len
  have hn1 : n1 ≤ 2000 := by have := vCode_reg V1.out; have := H1.out.len; omega
  obtain ⟨z0, hz0, hz1, hz2, hz3⟩ := info_parts Try.info50
  go_loopw [7, 35] (fun s7 s35 wr => ∃ k A cap, s35 = .int .i64 ((k : Nat) : Int) ∧ k ≤ n1 ∧ s7 = .int .i64 (firstI n1 (a.take k)) ∧ Blk wr w2.heap.size 24 #[.int .i64 R1, .slice A k cap] ∧ Hid (wr.ownsRow (w2.heap.size + 1) 50 4 (.slice A k cap) k (flat ((a.take k).map (linkI n1)))) ∧ Below w2.heap.size w2 wr)
    (fun _ s _ => n1 - (intOf s).toNat)
  case atStart => exact ⟨0, none, 0, rfl, Nat.zero_le _, by simp [firstI, halts], Blk.new _ _ _, hid_ ⟨rfl, .inl ⟨rfl, rfl⟩⟩, (Below.refl _ _).alloc (Nat.le_refl _) _⟩
  case round =>
    obtain ⟨k, A, cap, rfl, hk, rfl, hB, HO, hbr⟩ := hrel
    have o0 := hB.cell 0
    have o1 := hB.cell 1
    have of0 := hB.free 0
    have of1 := hB.free 1
    have hoz := hB.lt
    simp at o0 o1
    have hbw := hw2.trans (hbr.mono hw2.size)
    by_cases hlt : k < n1
    · obtain ⟨i, hi⟩ : ∃ i, a[k]? = some i := ⟨_, List.getElem?_eq_getElem (by rw [hlen1.out]; exact hlt)⟩
      obtain ⟨i0, i1, i2, i3⟩ := (HI1.out.below hbw hb1) k i hi
      have HI := hid_ hi
      clear hi
      obtain ⟨op, rg, nx, zr⟩ := i
      simp only at i0 i1 i2 i3
      by_cases ho : op = 2
      · subst ho
        have HOa := hid_ ((HO.out.alloc (.cells #[.int .i64 0, .int .i64 0, .int .i64 n1, .int .i64 0] 50)).alloc (.cells #[.int .i64 0, .int .i64 0, .int .i64 n1, .int .i64 0] 50))
        go_wp2_with (at_builtin; refine wpList_append_lies _ rfl _ _ _ rfl (w2.heap.size + 1) 50 z0 (.agg #[.int .i64 0, .int .i64 0, .int .i64 0, .int .i64 0]) 4 32 Try.underlying22 hz0 hz1 hz2 hz3 rfl (by omega) (.slice A k cap) k _ rfl HOa.out ⟨wr.heap.size + 1, 0, none⟩ 1 1 [.int .i64 0, .int .i64 0, .int .i64 n1, .int .i64 0] rfl rfl (news4 _ _ _ _ _ _ _) (ints4 _ _ _ _) (by omega) (by unfold maxLen; omega) (by omega) (by simp; omega) (wr.heap.size + 1 + 1) (by simp) ?_; intro g' cap' w' hown' hgrow hat hlt'; have BX := ((hB.alloc (.cells #[.int .i64 0, .int .i64 0, .int .i64 n1, .int .i64 0] 50)).alloc (.cells #[.int .i64 0, .int .i64 0, .int .i64 n1, .int .i64 0] 50)).grownby hgrow (own_ne HO.out (by omega)); have r1 := BX.cell 1; have f1 := BX.free 1; simp at r1)
        go_roundw
        case rel =>
          obtain ⟨n1', n2', n3'⟩ := out_next BX hown' (((hbr.alloc (by omega) (.cells #[.int .i64 0, .int .i64 0, .int .i64 n1, .int .i64 0] 50)).alloc (by simp; omega) (.cells #[.int .i64 0, .int .i64 0, .int .i64 n1, .int .i64 0] 50)).grown hgrow (by simp; omega) (fun k hk => by have := own_lt HO.out k hk; omega))
          exact ⟨k + 1, _, _, by go_num, by omega, by rw [first_halt HI.out rfl], n1', hid_ (by rw [flat_step HI.out]; simpa [linkI, Ins.cells] using n2'), n3'⟩
        case measure => simp [intOf]; omega
      · have HOa := hid_ ((HO.out.alloc (.cells #[.int .i64 op, .int .i64 rg, .int .i64 nx, .int .i64 zr] 50)).alloc (.cells #[.int .i64 op, .int .i64 rg, .int .i64 nx, .int .i64 zr] 50))
        go_wp2_with (at_builtin; refine wpList_append_lies _ rfl _ _ _ rfl (w2.heap.size + 1) 50 z0 (.agg #[.int .i64 0, .int .i64 0, .int .i64 0, .int .i64 0]) 4 32 Try.underlying22 hz0 hz1 hz2 hz3 rfl (by omega) (.slice A k cap) k _ rfl HOa.out ⟨wr.heap.size + 1, 0, none⟩ 1 1 [.int .i64 op, .int .i64 rg, .int .i64 nx, .int .i64 zr] rfl rfl (news4 _ _ _ _ _ _ _) (ints4 _ _ _ _) (by omega) (by unfold maxLen; omega) (by omega) (by simp; omega) (wr.heap.size + 1 + 1) (by simp) ?_; intro g' cap' w' hown' hgrow hat hlt'; have BX := ((hB.alloc (.cells #[.int .i64 op, .int .i64 rg, .int .i64 nx, .int .i64 zr] 50)).alloc (.cells #[.int .i64 op, .int .i64 rg, .int .i64 nx, .int .i64 zr] 50)).grownby hgrow (own_ne HO.out (by omega)); have r1 := BX.cell 1; have f1 := BX.free 1; simp at r1)
        go_roundw
        case rel =>
          obtain ⟨n1', n2', n3'⟩ := out_next BX hown' (((hbr.alloc (by omega) (.cells #[.int .i64 op, .int .i64 rg, .int .i64 nx, .int .i64 zr] 50)).alloc (by simp; omega) (.cells #[.int .i64 op, .int .i64 rg, .int .i64 nx, .int .i64 zr] 50)).grown hgrow (by simp; omega) (fun k hk => by have := own_lt HO.out k hk; omega))
          exact ⟨k + 1, _, _, by go_num, by omega, by rw [first_on HI.out ho], n1', hid_ (by rw [flat_step HI.out]; simpa [linkI, ho, Ins.cells] using n2'), n3'⟩
        case measure => simp [intOf]; omega
    · have hkn : k = n1 := by omega
      subst hkn
      rw [List.take_of_length_le (by rw [hlen1.out]; exact Nat.le_refl _)] at HO ⊢
      have E1 := HC1.out.below hbr (by omega)
      have E2 := HC2.out.below hbr (by omega)
      have E3 := HC3.out.below hbr (by omega)
      have p0 := E2.cell 0
      have p1 := E2.cell 1
      have x0 := E3.cell 0
      have x1 := E3.cell 1
      have y0 := E3.free 0
      have y1 := E3.free 1
      simp at p0 p1 x0 x1
      cases hh : halts a
      · have hf : firstI k a = (k : Int) := by rw [firstI, hh]; rfl
        rw [hf]
        go_wp2_with fail
        have ha2 : 0 < n2 := by have := vCode_reg V2.out; have := H2.out.len; omega
        have hn2 : n2 ≤ 2000 := by have := vCode_reg V2.out; have := H2.out.len; omega
        obtain ⟨b2, off2, rfl, hb2, hin2⟩ := H2.out.at_ ha2
        have HI2 := hid_ hin2; clear hin2
        have hlen2 := hid_ H2.out.len
        go_loopw [67] (fun s wq => ∃ kb A cap, s = .int .i64 ((kb : Nat) : Int) ∧ kb ≤ n2 ∧ Blk wq w2.heap.size 24 #[.int .i64 R1, .slice A (k + kb) cap] ∧ Hid (wq.ownsRow (w2.heap.size + 1) 50 4 (.slice A (k + kb) cap) (k + kb) (flat (a.map (linkI k) ++ (b.take kb).map (shiftI ((k : Nat) : Int))))) ∧ Below w2.heap.size w2 wq)
          (fun s _ => n2 - (intOf s).toNat)
        case atStart => exact ⟨0, _, _, rfl, Nat.zero_le _, hB, hid_ (by simpa using HO.out), hbr⟩
        case round =>
          obtain ⟨kb, A, cap, rfl, hkb, hB, HO, hbr⟩ := hrel
          have o0 := hB.cell 0
          have o1 := hB.cell 1
          have of0 := hB.free 0
          have of1 := hB.free 1
          have hoz := hB.lt
          simp at o0 o1
          have hbw := hw2.trans (hbr.mono hw2.size)
          by_cases hlt : kb < n2
          · obtain ⟨i, hi⟩ : ∃ i, b[kb]? = some i := ⟨_, List.getElem?_eq_getElem (by rw [hlen2.out]; exact hlt)⟩
            obtain ⟨i0, i1, i2, i3⟩ := (HI2.out.below hbw hb2) kb i hi
            have hsm := vIns_small (n := n2) (by rw [← hlen2.out]; exact vCode_ins V2.out hi) (by omega)
            have HI := hid_ hi
            have HSM := hid_ hsm
            clear hi hsm
            cases hsh : shiftI ((k : Nat) : Int) i with | mk j0 j1 j2 j3
            have HSH := hid_ hsh
            clear hsh
            obtain ⟨op, rg, nx, zr⟩ := i
            simp only at i0 i1 i2 i3
            go_wp2_with fail
            have HO2 := hid_ (own_drew (HO.out.alloc (.cells #[.int .i64 op, .int .i64 rg, .int .i64 nx, .int .i64 zr] 50)))
            have HB2 := hid_ (hB.alloc (.cells #[.int .i64 op, .int .i64 rg, .int .i64 nx, .int .i64 zr] 50))
            have hbr2 := hbr.alloc (by omega) (.cells #[.int .i64 op, .int .i64 rg, .int .i64 nx, .int .i64 zr] 50)
            go_region_law (first
              | (refine step_append_lies _ (by rfl) _ _ _ (by rfl) (w2.heap.size + 1) 50 z0 (.agg #[.int .i64 0, .int .i64 0, .int .i64 0, .int .i64 0]) 4 32 Try.underlying22 hz0 hz1 hz2 hz3 rfl (by omega) (.slice A (k + kb) cap) (k + kb) _ (by rfl) (HO5.out.alloc (.cells #[.int .i64 j0, .int .i64 j1, .int .i64 j2, .int .i64 j3] 50)) ⟨w5.heap.size, 0, none⟩ 1 1 [.int .i64 j0, .int .i64 j1, .int .i64 j2, .int .i64 j3] (by rfl) rfl (news4d _ _ _ _ _ _) (ints4 _ _ _ _) (by omega) (by unfold maxLen; omega) (by omega) (by simp; omega) (w5.heap.size + 1) (by simp) ?_; intro g' cap' w' hown' hgrow hat hlt'; have BX := (HB5.out.alloc (.cells #[.int .i64 j0, .int .i64 j1, .int .i64 j2, .int .i64 j3] 50)).grownby hgrow (own_ne HO.out (by omega)); have r1 := BX.cell 1; have f1 := BX.free 1; simp at r1)
              | (go_simp; go_at_call 39; refine (moved_is ⟨op, rg, nx, zr⟩ _ _ HSH.out HSM.out (by omega)).mono ?_; rintro e w5 ⟨rfl, hb5⟩; have HB5 := hid_ (HB2.out.below hb5.drewl (by simp; omega)); have HO5 := hid_ (own_below HO2.out hb5 (by simp; omega)); have o5 := HB5.out.cell 1; have hz5 := HB5.out.lt; simp at o5))
            · go_wp2_with fail
              go_roundw
              case rel =>
                obtain ⟨m1', m2', m3'⟩ := out_next BX hown' (((hbr2.drew.trans (hb5.mono (by have := hbr2.size; simpa using this))).alloc (by have := hb5.size; have := hbr2.size; simp at this ⊢; omega) (.cells #[.int .i64 j0, .int .i64 j1, .int .i64 j2, .int .i64 j3] 50)).grown hgrow (by have := hb5.size; have := hbr2.size; simp at this ⊢; omega) (fun k hk => by have := own_lt HO.out k hk; omega))
                exact ⟨kb + 1, _, _, by go_num, by omega, m1', hid_ (by rw [flat_step2 HI.out, HSH.out]; exact m2'), m3'⟩
              case measure => simp [intOf]; omega
            · go_wp2_with fail
              go_roundw
              case rel =>
                obtain ⟨m1', m2', m3'⟩ := out_next BX hown' (((hbr2.drew.trans (hb5.mono (by have := hbr2.size; simpa using this))).alloc (by have := hb5.size; have := hbr2.size; simp at this ⊢; omega) (.cells #[.int .i64 j0, .int .i64 j1, .int .i64 j2, .int .i64 j3] 50)).grown hgrow (by have := hb5.size; have := hbr2.size; simp at this ⊢; omega) (fun k hk => by have := own_lt HO.out k hk; omega))
                exact ⟨kb + 1, _, _, by go_num, by omega, m1', hid_ (by rw [flat_step2 HI.out, HSH.out]; exact m2'), m3'⟩
              case measure => simp [intOf]; omega
            · go_wp2_with fail
              go_roundw
              case rel =>
                obtain ⟨m1', m2', m3'⟩ := out_next BX hown' (((hbr2.drew.trans (hb5.mono (by have := hbr2.size; simpa using this))).alloc (by have := hb5.size; have := hbr2.size; simp at this ⊢; omega) (.cells #[.int .i64 j0, .int .i64 j1, .int .i64 j2, .int .i64 j3] 50)).grown hgrow (by have := hb5.size; have := hbr2.size; simp at this ⊢; omega) (fun k hk => by have := own_lt HO.out k hk; omega))
                exact ⟨kb + 1, _, _, by go_num, by omega, m1', hid_ (by rw [flat_step2 HI.out, HSH.out]; exact m2'), m3'⟩
              case measure => simp [intOf]; omega
            · go_wp2_with fail
              go_roundw
              case rel =>
                obtain ⟨m1', m2', m3'⟩ := out_next BX hown' (((hbr2.drew.trans (hb5.mono (by have := hbr2.size; simpa using this))).alloc (by have := hb5.size; have := hbr2.size; simp at this ⊢; omega) (.cells #[.int .i64 j0, .int .i64 j1, .int .i64 j2, .int .i64 j3] 50)).grown hgrow (by have := hb5.size; have := hbr2.size; simp at this ⊢; omega) (fun k hk => by have := own_lt HO.out k hk; omega))
                exact ⟨kb + 1, _, _, by go_num, by omega, m1', hid_ (by rw [flat_step2 HI.out, HSH.out]; exact m2'), m3'⟩
              case measure => simp [intOf]; omega
          · have hkn : kb = n2 := by omega
            subst hkn
            rw [List.take_of_length_le (by rw [hlen2.out]; exact Nat.le_refl _)] at HO
            have E3 := HC3.out.below hbr (by omega)
            have x0 := E3.cell 0
            have x1 := E3.cell 1
            have y0 := E3.free 0
            have y1 := E3.free 1
            simp at x0 x1
            have hez := E3.lt
            have hcl : (joinC a b).length = k + kb := by rw [show joinC a b = a.map (linkI k) ++ b.map (shiftI ((k : Nat) : Int)) by simp [joinC, firstI, hh, hlen1.out]]; simp [hlen1.out, hlen2.out] <;> omega
            by_cases hbig : 2000 < k + kb
            · have hbig' : (2000 : Int) < ((k + kb : Nat) : Int) := by omega
              go_wp2_with fail
              obtain ⟨e0, e1⟩ := res_cells E3 (.int .i64 0) (.slice none 0 0)
              refine bodyPost_ret (v := .tuple #[.agg #[.int .i64 0, .slice none 0 0], .int .i64 4]) (by simp [results, Try.results21, go_sem, e0, e1]) rfl ?_
              exact .inr ⟨by omega, rfl, below_res hbw (by omega) _ _⟩
            · have hbig' : ¬ (2000 : Int) < ((k + kb : Nat) : Int) := by omega
              go_wp2_with fail
              obtain ⟨e0, e1⟩ := res_cells E3 (.int .i64 R1) (.slice A (k + kb) cap)
              refine bodyPost_ret (v := .tuple #[.agg #[.int .i64 R1, .slice A (k + kb) cap], .int .i64 0]) (by simp [results, Try.results21, go_sem, e0, e1]) rfl ?_
              have hown := own_res2 (q := w.heap.size + 1 + 1) HO.out (by omega) (.int .i64 R1) (.slice A (k + kb) cap)
              obtain ⟨gg, cc, hv, _, _⟩ := hown.form (by omega)
              simp only [Value.slice.injEq, true_and] at hv
              obtain ⟨rfl, rfl⟩ := hv
              refine .inl ⟨by omega, _, _, _, rfl, ?_, below_res hbw (by omega) _ _⟩
              rw [show joinC a b = a.map (linkI k) ++ b.map (shiftI ((k : Nat) : Int)) by simp [joinC, firstI, hh, hlen1.out]]
              exact row_code hown
      · have hf : firstI k a = (k : Int) + 1 := by rw [firstI, hh]; rfl
        rw [hf]
        have HOa := hid_ (HO.out.alloc (.cells #[.int .i64 1, .int .i64 0, .int .i64 ((k : Int) + 1), .int .i64 ((k : Int) + 1)] 50))
        go_wp2_with (at_builtin; refine wpList_append_lies _ rfl _ _ _ rfl (w2.heap.size + 1) 50 z0 (.agg #[.int .i64 0, .int .i64 0, .int .i64 0, .int .i64 0]) 4 32 Try.underlying22 hz0 hz1 hz2 hz3 rfl (by omega) (.slice A k cap) k _ rfl HOa.out ⟨wr.heap.size, 0, none⟩ 1 1 [.int .i64 1, .int .i64 0, .int .i64 ((k : Int) + 1), .int .i64 ((k : Int) + 1)] rfl rfl (news4d _ _ _ _ _ _) (ints4 _ _ _ _) (by omega) (by unfold maxLen; omega) (by omega) (by simp; omega) (wr.heap.size + 1) (by simp) ?_; intro g1 cap1 w4 hown1 hgrow1 hat1 hlt1; have BX1 := (hB.alloc (.cells #[.int .i64 1, .int .i64 0, .int .i64 ((k : Int) + 1), .int .i64 ((k : Int) + 1)] 50)).grownby hgrow1 (own_ne HO.out (by omega)); have r1 := BX1.cell 1; have f1 := BX1.free 1; simp at r1; have F2 := E2.alloc (.cells #[.int .i64 1, .int .i64 0, .int .i64 ((k : Int) + 1), .int .i64 ((k : Int) + 1)] 50) |>.grownby hgrow1 (by intro e; have := own_lt HO.out _ e.symm; omega); have p0' := F2.cell 0; have p1' := F2.cell 1; simp at p0' p1'; have hz41 := F2.lt)
        have hbr1 := (hbr.alloc (by omega) (.cells #[.int .i64 1, .int .i64 0, .int .i64 ((k : Int) + 1), .int .i64 ((k : Int) + 1)] 50)).grown hgrow1 (by simp; omega) (fun k hk => by have := own_lt HO.out k hk; omega)
        obtain ⟨m1, m2, m3⟩ := out_next BX1 hown1 hbr1
        have M1 := hid_ m1
        have M2 := hid_ m2
        have M3 := hid_ m3
        clear m1 m2 m3 hgrow1 hown1 HOa HO hB hbr BX1 F2 E1 E2 E3
        have ha2 : 0 < n2 := by have := vCode_reg V2.out; have := H2.out.len; omega
        have hn2 : n2 ≤ 2000 := by have := vCode_reg V2.out; have := H2.out.len; omega
        obtain ⟨b2, off2, rfl, hb2, hin2⟩ := H2.out.at_ ha2
        have HI2 := hid_ hin2; clear hin2
        have hlen2 := hid_ H2.out.len
        go_loopw [67] (fun s wq => ∃ kb A cap, s = .int .i64 ((kb : Nat) : Int) ∧ kb ≤ n2 ∧ Blk wq w2.heap.size 24 #[.int .i64 R1, .slice A ((k + 1) + kb) cap] ∧ Hid (wq.ownsRow (w2.heap.size + 1) 50 4 (.slice A ((k + 1) + kb) cap) ((k + 1) + kb) (flat ((a.map (linkI k) ++ [⟨1, 0, (k : Int) + 1, (k : Int) + 1⟩]) ++ (b.take kb).map (shiftI ((k : Int) + 1))))) ∧ Below w2.heap.size w2 wq)
          (fun s _ => n2 - (intOf s).toNat)
        case atStart => exact ⟨0, _, _, rfl, Nat.zero_le _, M1.out, hid_ (by simpa using (show _ from (by have h := M2.out; rwa [show flat (List.map (linkI k) a) ++ [.int .i64 1, .int .i64 0, .int .i64 ((k : Int) + 1), .int .i64 ((k : Int) + 1)] = flat (List.map (linkI k) a ++ [⟨1, 0, (k : Int) + 1, (k : Int) + 1⟩]) from by simp [flat, Ins.cells]] at h))), M3.out⟩
        case round =>
          obtain ⟨kb, A, cap, rfl, hkb, hB, HO, hbr⟩ := hrel
          have o0 := hB.cell 0
          have o1 := hB.cell 1
          have of0 := hB.free 0
          have of1 := hB.free 1
          have hoz := hB.lt
          simp at o0 o1
          have hbw := hw2.trans (hbr.mono hw2.size)
          by_cases hlt : kb < n2
          · obtain ⟨i, hi⟩ : ∃ i, b[kb]? = some i := ⟨_, List.getElem?_eq_getElem (by rw [hlen2.out]; exact hlt)⟩
            obtain ⟨i0, i1, i2, i3⟩ := (HI2.out.below hbw hb2) kb i hi
            have hsm := vIns_small (n := n2) (by rw [← hlen2.out]; exact vCode_ins V2.out hi) (by omega)
            have HI := hid_ hi
            have HSM := hid_ hsm
            clear hi hsm
            cases hsh : shiftI ((k : Int) + 1) i with | mk j0 j1 j2 j3
            have HSH := hid_ hsh
            clear hsh
            obtain ⟨op, rg, nx, zr⟩ := i
            simp only at i0 i1 i2 i3
            go_wp2_with fail
            have HO2 := hid_ (own_drew (HO.out.alloc (.cells #[.int .i64 op, .int .i64 rg, .int .i64 nx, .int .i64 zr] 50)))
            have HB2 := hid_ (hB.alloc (.cells #[.int .i64 op, .int .i64 rg, .int .i64 nx, .int .i64 zr] 50))
            have hbr2 := hbr.alloc (by omega) (.cells #[.int .i64 op, .int .i64 rg, .int .i64 nx, .int .i64 zr] 50)
            go_region_law (first
              | (refine step_append_lies _ (by rfl) _ _ _ (by rfl) (w2.heap.size + 1) 50 z0 (.agg #[.int .i64 0, .int .i64 0, .int .i64 0, .int .i64 0]) 4 32 Try.underlying22 hz0 hz1 hz2 hz3 rfl (by omega) (.slice A ((k + 1) + kb) cap) ((k + 1) + kb) _ (by rfl) (HO5.out.alloc (.cells #[.int .i64 j0, .int .i64 j1, .int .i64 j2, .int .i64 j3] 50)) ⟨w5.heap.size, 0, none⟩ 1 1 [.int .i64 j0, .int .i64 j1, .int .i64 j2, .int .i64 j3] (by rfl) rfl (news4d _ _ _ _ _ _) (ints4 _ _ _ _) (by omega) (by unfold maxLen; omega) (by omega) (by simp; omega) (w5.heap.size + 1) (by simp) ?_; intro g' cap' w' hown' hgrow hat hlt'; have BX := (HB5.out.alloc (.cells #[.int .i64 j0, .int .i64 j1, .int .i64 j2, .int .i64 j3] 50)).grownby hgrow (own_ne HO.out (by omega)); have r1 := BX.cell 1; have f1 := BX.free 1; simp at r1)
              | (go_simp; go_at_call 39; refine (moved_is ⟨op, rg, nx, zr⟩ _ _ HSH.out HSM.out (by omega)).mono ?_; rintro e w5 ⟨rfl, hb5⟩; have HB5 := hid_ (HB2.out.below hb5.drewl (by simp; omega)); have HO5 := hid_ (own_below HO2.out hb5 (by simp; omega)); have o5 := HB5.out.cell 1; have hz5 := HB5.out.lt; simp at o5))
            · go_wp2_with fail
              go_roundw
              case rel =>
                obtain ⟨m1', m2', m3'⟩ := out_next BX hown' (((hbr2.drew.trans (hb5.mono (by have := hbr2.size; simpa using this))).alloc (by have := hb5.size; have := hbr2.size; simp at this ⊢; omega) (.cells #[.int .i64 j0, .int .i64 j1, .int .i64 j2, .int .i64 j3] 50)).grown hgrow (by have := hb5.size; have := hbr2.size; simp at this ⊢; omega) (fun k hk => by have := own_lt HO.out k hk; omega))
                exact ⟨kb + 1, _, _, by go_num, by omega, m1', hid_ (by rw [flat_step2 HI.out, HSH.out]; exact m2'), m3'⟩
              case measure => simp [intOf]; omega
            · go_wp2_with fail
              go_roundw
              case rel =>
                obtain ⟨m1', m2', m3'⟩ := out_next BX hown' (((hbr2.drew.trans (hb5.mono (by have := hbr2.size; simpa using this))).alloc (by have := hb5.size; have := hbr2.size; simp at this ⊢; omega) (.cells #[.int .i64 j0, .int .i64 j1, .int .i64 j2, .int .i64 j3] 50)).grown hgrow (by have := hb5.size; have := hbr2.size; simp at this ⊢; omega) (fun k hk => by have := own_lt HO.out k hk; omega))
                exact ⟨kb + 1, _, _, by go_num, by omega, m1', hid_ (by rw [flat_step2 HI.out, HSH.out]; exact m2'), m3'⟩
              case measure => simp [intOf]; omega
            · go_wp2_with fail
              go_roundw
              case rel =>
                obtain ⟨m1', m2', m3'⟩ := out_next BX hown' (((hbr2.drew.trans (hb5.mono (by have := hbr2.size; simpa using this))).alloc (by have := hb5.size; have := hbr2.size; simp at this ⊢; omega) (.cells #[.int .i64 j0, .int .i64 j1, .int .i64 j2, .int .i64 j3] 50)).grown hgrow (by have := hb5.size; have := hbr2.size; simp at this ⊢; omega) (fun k hk => by have := own_lt HO.out k hk; omega))
                exact ⟨kb + 1, _, _, by go_num, by omega, m1', hid_ (by rw [flat_step2 HI.out, HSH.out]; exact m2'), m3'⟩
              case measure => simp [intOf]; omega
            · go_wp2_with fail
              go_roundw
              case rel =>
                obtain ⟨m1', m2', m3'⟩ := out_next BX hown' (((hbr2.drew.trans (hb5.mono (by have := hbr2.size; simpa using this))).alloc (by have := hb5.size; have := hbr2.size; simp at this ⊢; omega) (.cells #[.int .i64 j0, .int .i64 j1, .int .i64 j2, .int .i64 j3] 50)).grown hgrow (by have := hb5.size; have := hbr2.size; simp at this ⊢; omega) (fun k hk => by have := own_lt HO.out k hk; omega))
                exact ⟨kb + 1, _, _, by go_num, by omega, m1', hid_ (by rw [flat_step2 HI.out, HSH.out]; exact m2'), m3'⟩
              case measure => simp [intOf]; omega
          · have hkn : kb = n2 := by omega
            subst hkn
            rw [List.take_of_length_le (by rw [hlen2.out]; exact Nat.le_refl _)] at HO
            have E3 := HC3.out.below hbr (by omega)
            have x0 := E3.cell 0
            have x1 := E3.cell 1
            have y0 := E3.free 0
            have y1 := E3.free 1
            simp at x0 x1
            have hez := E3.lt
            have hcl : (joinC a b).length = (k + 1) + kb := by rw [show joinC a b = (a.map (linkI k) ++ [⟨1, 0, (k : Int) + 1, (k : Int) + 1⟩]) ++ b.map (shiftI ((k : Int) + 1)) by simp [joinC, firstI, hh, hlen1.out]]; simp [hlen1.out, hlen2.out] <;> omega
            by_cases hbig : 2000 < (k + 1) + kb
            · have hbig' : (2000 : Int) < (((k + 1) + kb : Nat) : Int) := by omega
              go_wp2_with fail
              obtain ⟨e0, e1⟩ := res_cells E3 (.int .i64 0) (.slice none 0 0)
              refine bodyPost_ret (v := .tuple #[.agg #[.int .i64 0, .slice none 0 0], .int .i64 4]) (by simp [results, Try.results21, go_sem, e0, e1]) rfl ?_
              exact .inr ⟨by omega, rfl, below_res hbw (by omega) _ _⟩
            · have hbig' : ¬ (2000 : Int) < (((k + 1) + kb : Nat) : Int) := by omega
              go_wp2_with fail
              obtain ⟨e0, e1⟩ := res_cells E3 (.int .i64 R1) (.slice A ((k + 1) + kb) cap)
              refine bodyPost_ret (v := .tuple #[.agg #[.int .i64 R1, .slice A ((k + 1) + kb) cap], .int .i64 0]) (by simp [results, Try.results21, go_sem, e0, e1]) rfl ?_
              have hown := own_res2 (q := w.heap.size + 1 + 1) HO.out (by omega) (.int .i64 R1) (.slice A ((k + 1) + kb) cap)
              obtain ⟨gg, cc, hv, _, _⟩ := hown.form (by omega)
              simp only [Value.slice.injEq, true_and] at hv
              obtain ⟨rfl, rfl⟩ := hv
              refine .inl ⟨by omega, _, _, _, rfl, ?_, below_res hbw (by omega) _ _⟩
              rw [show joinC a b = (a.map (linkI k) ++ [⟨1, 0, (k : Int) + 1, (k : Int) + 1⟩]) ++ b.map (shiftI ((k : Int) + 1)) by simp [joinC, firstI, hh, hlen1.out]]
              exact row_code hown
end Go.Proofs.Ytgpcgjdnehlaeaa

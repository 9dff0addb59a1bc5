/- Plain mathematics: the mirrored, the shifted and the renamed run. -/
import Derived.Test.YtkbaiegfloajlaaDoorXi
namespace Go.Proofs.YtkbaiegfloajlaaDoor.Tp

theorem sim_unique {e t : Int} {sg xi : Int → Int} {a b c : CfgS} (he : e = 1 ∨ e = -1) (h : Sim e t sg xi a b) (h' : Sim e t sg xi a c) (nb : Norm b.frm b.cells) (nc : Norm c.frm c.cells) : b = c := by
  obtain ⟨h1, h2⟩ := nb.unique nc (fun q => by
    have hq : ∃ p, q = e * p + t := by
      rcases he with rfl | rfl
      · exact ⟨q - t, by omega⟩
      · exact ⟨t - q, by omega⟩
    obtain ⟨p, rfl⟩ := hq
    rw [h.cell, h'.cell])
  obtain ⟨b1, b2, b3, b4⟩ := b
  obtain ⟨c1, c2, c3, c4⟩ := c
  have e1 := h.st.trans h'.st.symm
  have e2 := h.pos.trans h'.pos.symm
  simp only at e1 e2 h1 h2
  rw [e1, e2, h1, h2]
theorem some_of {c : CfgS} {S X : Int} (h : withinC c S X = true) (hS : S ≤ 6) (hX : X ≤ 4) : someC c = true := by
  obtain ⟨w1, w2, w3, w4, w5, w6, w7⟩ := within_iff.1 h
  refine within_iff.2 ⟨w1, by omega, w3, w4, w5, w6, ?_⟩
  rw [List.all_eq_true] at w7 ⊢
  intro x hx
  have := w7 x hx
  simp only [symB, Bool.and_eq_true, decide_eq_true_eq] at this ⊢
  omega
/-- A Box with room around it. -/
theorem far_box2 {c : CfgS} (h : farC c = true) : ∃ Lo Hi, Box c.pos Lo Hi c ∧ -1099511430000 ≤ Lo ∧ Hi ≤ 1099511430000 := by
  have hf := of_decide_eq_true h
  obtain ⟨f1, f2, f3, f4, f5, f6⟩ := hf
  have hmx : maxPos = 1099511627776 := rfl
  unfold gapC at f6
  split at f6
  · rename_i h0
    refine ⟨c.pos - 1001, c.pos + 1001, ⟨by omega, by omega, by omega, by omega, by omega, fun p hp => ?_⟩, by omega, by omega⟩
    rw [List.eq_nil_of_length_eq_zero h0, cellAt_nil] at hp
    exact absurd rfl hp
  · have g1 : c.frm - c.pos ≤ 50000 := by omega
    have g2 : c.pos - c.frm - c.cells.length + 1 ≤ 50000 := by omega
    refine ⟨min c.frm (c.pos - 1001), max (c.frm + c.cells.length - 1) (c.pos + 1001), ⟨by omega, by omega, by omega, by omega, by omega, fun p hp => ?_⟩, by omega, by omega⟩
    have := cellAt_in hp
    omega
/-- Two runs, in other words. -/
theorem sim_run {m m' : MachS} {e t : Int} {sg xi : Int → Int} {c y : CfgS} {k : Nat} (hf : fitsC m c = true) (hv' : validM m' = true) (hm : SimM e sg xi m m') (hs : Sim e t sg xi c y) (wy : withinC y m'.states m'.symbols = true) (hk : k ≤ 1000)
    {Lx Hx Ly Hy : Int} (bx : Box c.pos Lx Hx c) (bY : Box (e * c.pos + t) Ly Hy y) (z : CfgS → CfgS) (hz : ∀ a, withinC a m.states m.symbols = true → Sim e t sg xi a (z a) ∧ Norm (z a).frm (z a).cells) :
    ∃ d i, runC m k c = some (d, i) ∧ runS m c (k : Int) = ⟨d, (i : Nat), 0⟩ ∧ withinC d m.states m.symbols = true ∧ runS m' y (k : Int) = ⟨z d, (i : Nat), 0⟩ ∧ withinC (z d) m'.states m'.symbols = true := by
  have hv : validM m = true := by rw [fitsC, Bool.and_eq_true] at hf; exact hf.1
  have wc : withinC c m.states m.symbols = true := by rw [fitsC, Bool.and_eq_true] at hf; exact hf.2
  obtain ⟨a, b, i, r1, r2, r3, r4, r5⟩ := sim_go hv hv' hm c.pos k hk Lx Hx Ly Hy k 0 c y (by omega) wc wy hs (by simp) (by simp) bx bY
  obtain ⟨z1, z2⟩ := hz a r4
  obtain ⟨_, _, _, _, _, nb, _⟩ := within_iff.1 r5
  have hb : b = z a := sim_unique hm.dir r3 z1 nb z2
  subst hb
  have hfy : fitsC m' y = true := by rw [fitsC, hv', wy]; rfl
  refine ⟨a, i, r1, ?_, r4, ?_, r5⟩
  · rw [runS, if_neg (by rw [hf]; simp), if_neg (by omega), Int.toNat_natCast, r1]
  · rw [runS, if_neg (by rw [hfy]; simp), if_neg (by omega), Int.toNat_natCast, r2]

theorem reflect_cell (c : CfgS) (p : Int) : cellAt (reflectO c).frm (reflectO c).cells (-p) = cellAt c.frm c.cells p := by
  by_cases h0 : c.cells.length = 0
  · have : c.cells = [] := List.eq_nil_of_length_eq_zero h0
    simp [reflectO, this, cellAt_nil]
  · simp only [reflectO, if_neg h0]
    unfold cellAt
    by_cases h1 : p < c.frm
    · rw [if_pos h1, if_neg (by omega), List.getD_eq_getElem?_getD, List.getElem?_eq_none (by simp; omega)]
      rfl
    · rw [if_neg h1]
      by_cases h2 : c.frm + c.cells.length ≤ p
      · rw [if_pos (by omega), List.getD_eq_getElem?_getD, List.getElem?_eq_none (by omega)]
        rfl
      · rw [if_neg (by omega), List.getD_eq_getElem?_getD, List.getD_eq_getElem?_getD, List.getElem?_reverse (by omega)]
        rw [show c.cells.length - 1 - (-p - -(c.frm + (c.cells.length : Int) - 1)).toNat = (p - c.frm).toNat by omega]
theorem reflect_norm {c : CfgS} (h : Norm c.frm c.cells) : Norm (reflectO c).frm (reflectO c).cells := by
  rcases h with ⟨h, _⟩ | ⟨h, h1, h2⟩
  · exact .inl ⟨by simp [reflectO, h], by simp [reflectO, h]⟩
  · have h0 : 0 < c.cells.length := List.length_pos_iff.2 h
    refine .inr ⟨by simpa [reflectO] using h, ?_, ?_⟩
    · simp only [reflectO, List.getD_eq_getElem?_getD] at h2 ⊢
      rw [List.getElem?_reverse h0]
      simpa using h2
    · simp only [reflectO, List.getD_eq_getElem?_getD, List.length_reverse] at h1 ⊢
      rw [List.getElem?_reverse (by omega), show c.cells.length - 1 - (c.cells.length - 1) = 0 by omega]
      exact h1
theorem reflect_sim (c : CfgS) : Sim (-1) 0 id id c (reflectO c) := ⟨rfl, by simp [reflectO], fun p => by rw [show -1 * p + 0 = -p by omega, reflect_cell]; rfl⟩
theorem reflect_in {c : CfgS} {S X : Int} (h : withinC c S X = true) (hf : inR (reflectO c).frm = true) : withinC (reflectO c) S X = true := by
  obtain ⟨w1, w2, w3, w4, w5, w6, w7⟩ := within_iff.1 h
  refine within_iff.2 ⟨w1, w2, ?_, hf, by simpa [reflectO] using w5, reflect_norm w6, by simpa [reflectO] using w7⟩
  have := inR_iff.1 w3
  exact inR_iff.2 (by simp only [reflectO]; omega)
theorem reflect_box {c : CfgS} {P Lo Hi : Int} (h : Box P Lo Hi c) : Box (-1 * P + 0) (-Hi) (-Lo) (reflectO c) := by
  refine ⟨by have := h.few; omega, by have := h.high; omega, by have := h.low; omega, by have := h.right; omega, by have := h.left; omega, fun p hp => ?_⟩
  rw [show p = -(-p) by omega, reflect_cell] at hp
  have := h.sup _ hp
  omega
theorem reflect_ok {c : CfgS} (h1 : someC c = true) (h2 : someC (reflectO c) = true) : reflectC c = (reflectO c, 0) := by rw [reflectC, if_neg (by rw [h1]; simp), if_pos h2]
theorem far_within {c : CfgS} (h : farC c = true) : -1099511427776 ≤ c.pos ∧ c.pos ≤ 1099511427776 ∧ -1099511427776 ≤ c.frm ∧ c.frm ≤ 1099511427776 ∧ c.cells.length ≤ 1000 := by
  have hf := of_decide_eq_true h
  exact ⟨hf.1, hf.2.1, hf.2.2.1, hf.2.2.2.1, hf.2.2.2.2.1⟩
theorem same_mirror {m : MachS} {c : CfgS} {k : Nat} (hf : fitsC m c = true) (fc : farC c = true) (hk : k ≤ 1000) :
    ∃ d i, runC m k c = some (d, i) ∧ runS m c (k : Int) = ⟨d, (i : Nat), 0⟩ ∧ withinC d m.states m.symbols = true ∧ mirrorC m = (mirrorM m, 0) ∧ reflectC c = (reflectO c, 0) ∧ runS (mirrorM m) (reflectO c) (k : Int) = ⟨reflectO d, (i : Nat), 0⟩ ∧ reflectC d = (reflectO d, 0) ∧ (reflectO c).cells.length ≤ 100000 ∧ someC (reflectO d) = true := by
  have hv : validM m = true := by rw [fitsC, Bool.and_eq_true] at hf; exact hf.1
  have wc : withinC c m.states m.symbols = true := by rw [fitsC, Bool.and_eq_true] at hf; exact hf.2
  obtain ⟨v1, v2, v3, v4, _⟩ := validM_parts hv
  obtain ⟨f1, f2, f3, f4, f5⟩ := far_within fc
  obtain ⟨Lo, Hi, bx⟩ := far_box fc
  have wy : withinC (reflectO c) m.states m.symbols = true := reflect_in wc (by
    have hmx : maxPos = 1099511627776 := rfl
    refine inR_iff.2 ?_
    simp only [reflectO]
    split <;> omega)
  obtain ⟨d, i, r1, r2, r3, r4, r5⟩ := sim_run hf (valid_mirror hv) (simM_mirror m) (reflect_sim c) wy hk bx (reflect_box bx) reflectO (fun a ha => ⟨reflect_sim a, reflect_norm (within_iff.1 ha).2.2.2.2.2.1⟩)
  exact ⟨d, i, r1, r2, r3, by rw [mirrorC, if_neg (by rw [hv]; simp)], reflect_ok (some_of wc v2 v4) (some_of wy v2 v4), r4, reflect_ok (some_of r3 v2 v4) (some_of r5 v2 v4), (within_iff.1 wy).2.2.2.2.1, some_of r5 v2 v4⟩

theorem shift_cell (c : CfgS) (k p : Int) : cellAt (shiftO c k).frm (shiftO c k).cells (p + k) = cellAt c.frm c.cells p := by
  by_cases h0 : c.cells.length = 0
  · have : c.cells = [] := List.eq_nil_of_length_eq_zero h0
    simp [shiftO, this, cellAt_nil]
  · simp only [shiftO, if_neg h0]
    unfold cellAt
    by_cases h1 : p < c.frm
    · rw [if_pos h1, if_pos (by omega)]
    · rw [if_neg h1, if_neg (by omega), show p + k - (c.frm + k) = p - c.frm by omega]
theorem shift_norm {c : CfgS} (k : Int) (h : Norm c.frm c.cells) : Norm (shiftO c k).frm (shiftO c k).cells := by
  rcases h with ⟨h, h1⟩ | ⟨h, h1, h2⟩
  · exact .inl ⟨h, by simp [shiftO, h, h1]⟩
  · exact .inr ⟨h, h1, h2⟩
theorem shift_sim (c : CfgS) (k : Int) : Sim 1 k id id c (shiftO c k) := ⟨rfl, by simp [shiftO], fun p => by rw [Int.one_mul, shift_cell]; rfl⟩
theorem shift_in {c : CfgS} {S X k : Int} (h : withinC c S X = true) (hp : inR (shiftO c k).pos = true) (hf : inR (shiftO c k).frm = true) : withinC (shiftO c k) S X = true := by
  obtain ⟨w1, w2, w3, w4, w5, w6, w7⟩ := within_iff.1 h
  exact within_iff.2 ⟨w1, w2, hp, hf, w5, shift_norm k w6, w7⟩
theorem shift_ok {c : CfgS} {k : Int} (h1 : someC c = true) (hk : -32768 ≤ k ∧ k ≤ 32767) (h2 : someC (shiftO c k) = true) : shiftC c k = (shiftO c k, 0) := by rw [shiftC, if_neg (by rw [h1]; simp), if_neg (by omega), if_pos h2]
theorem same_shift {m : MachS} {c : CfgS} {k : Nat} {t : Int} (hf : fitsC m c = true) (fc : farC c = true) (hk : k ≤ 1000) (ht : -32768 ≤ t ∧ t ≤ 32767) :
    ∃ d i, runC m k c = some (d, i) ∧ shiftC c t = (shiftO c t, 0) ∧ runS m (shiftO c t) (k : Int) = ⟨shiftO d t, (i : Nat), 0⟩ ∧ shiftC d t = (shiftO d t, 0) ∧ (shiftO c t).cells.length ≤ 100000 ∧ someC (shiftO d t) = true := by
  have hv : validM m = true := by rw [fitsC, Bool.and_eq_true] at hf; exact hf.1
  have wc : withinC c m.states m.symbols = true := by rw [fitsC, Bool.and_eq_true] at hf; exact hf.2
  obtain ⟨v1, v2, v3, v4, _⟩ := validM_parts hv
  obtain ⟨f1, f2, f3, f4, f5⟩ := far_within fc
  obtain ⟨Lo, Hi, bx, l1, l2⟩ := far_box2 fc
  have hmx : maxPos = 1099511627776 := rfl
  have wy : withinC (shiftO c t) m.states m.symbols = true := shift_in wc (inR_iff.2 (by simp only [shiftO]; omega)) (inR_iff.2 (by simp only [shiftO]; split <;> omega))
  have by2 : Box (1 * c.pos + t) (Lo + t) (Hi + t) (shiftO c t) := by
    refine ⟨by have := bx.few; omega, by omega, by omega, by have := bx.left; omega, by have := bx.right; omega, fun p hp => ?_⟩
    rw [show p = (p - t) + t by omega, shift_cell] at hp
    have := bx.sup _ hp
    omega
  obtain ⟨d, i, r1, r2, r3, r4, r5⟩ := sim_run hf hv (simM_self m) (shift_sim c t) wy hk bx by2 (fun a => shiftO a t) (fun a ha => ⟨shift_sim a t, shift_norm t (within_iff.1 ha).2.2.2.2.2.1⟩)
  exact ⟨d, i, r1, shift_ok (some_of wc v2 v4) ht (some_of wy v2 v4), r4, shift_ok (some_of r3 v2 v4) ht (some_of r5 v2 v4), (within_iff.1 wy).2.2.2.2.1, some_of r5 v2 v4⟩

theorem nameX_zero {xs : List Int} (h : permB xs = true) : nameX xs 0 = 0 := by
  obtain ⟨h0, h1, _⟩ := perm_iff.1 h
  rw [nameX]
  show xs.getD 0 0 = 0
  rw [List.getD_eq_getElem?_getD, List.getElem?_eq_getElem h0] at h1 ⊢
  exact h1
theorem nameX_ne {xs : List Int} (h : permB xs = true) {x : Int} (h0 : 0 ≤ x) (h1 : x < (xs.length : Int)) (hx : x ≠ 0) : nameX xs x ≠ 0 := by
  obtain ⟨g0, _, _⟩ := perm_iff.1 h
  obtain ⟨t, rfl⟩ := Int.eq_ofNat_of_zero_le h0
  have e0 := nameX_zero h
  have a := (nameS_get h (s := t) (by omega)).2
  have b := (nameS_get h (s := 0) g0).2
  intro he
  rw [a] at he
  have b' : (pS xs 0 : Int) = 0 := by rw [← b]; exact e0
  have := pS_inj h (s := t) (t := 0) (by omega) g0 (by omega)
  omega
theorem renamed_cell {c : CfgS} {ss xs : List Int} (h : permB xs = true) (p : Int) : cellAt (renamedO c ss xs).frm (renamedO c ss xs).cells p = nameX xs (cellAt c.frm c.cells p) := by
  simp only [renamedO]
  unfold cellAt
  split
  · exact (nameX_zero h).symm
  · rw [List.getD_eq_getElem?_getD, List.getD_eq_getElem?_getD, List.getElem?_map]
    cases c.cells[(p - c.frm).toNat]? with
    | none => exact (nameX_zero h).symm
    | some x => rfl
theorem renamed_norm {c : CfgS} {ss xs : List Int} {X : Int} (h : permB xs = true) (e2 : (xs.length : Int) = X) (hn : Norm c.frm c.cells) (hc : c.cells.all (symB X) = true) : Norm (renamedO c ss xs).frm (renamedO c ss xs).cells := by
  rcases hn with ⟨h0, h1⟩ | ⟨h0, h1, h2⟩
  · exact .inl ⟨by simp [renamedO, h0], h1⟩
  · have hl : 0 < c.cells.length := List.length_pos_iff.2 h0
    have key : ∀ i, i < c.cells.length → c.cells.getD i 0 ≠ 0 → (c.cells.map (nameX xs)).getD i 0 ≠ 0 := fun i hi hne => by
      obtain ⟨x, hx⟩ : ∃ x, c.cells[i]? = some x := ⟨_, List.getElem?_eq_getElem hi⟩
      have hb := of_symB hc hx
      rw [List.getD_eq_getElem?_getD, hx] at hne
      rw [List.getD_eq_getElem?_getD, List.getElem?_map, hx]
      exact nameX_ne h hb.1 (by omega) hne
    refine .inr ⟨by simpa [renamedO] using h0, ?_, ?_⟩
    · exact key 0 hl h1
    · simp only [renamedO, List.length_map]
      exact key _ (by omega) h2
theorem renamed_sim {c : CfgS} {ss xs : List Int} (h : permB xs = true) : Sim 1 0 (nameS ss) (nameX xs) c (renamedO c ss xs) := ⟨rfl, by simp [renamedO], fun p => by rw [Int.one_mul, Int.add_zero, renamed_cell h]⟩
theorem renamed_in {c : CfgS} {ss xs : List Int} {S X : Int} (h1 : permB ss = true) (h2 : permB xs = true) (e1 : (ss.length : Int) = S) (e2 : (xs.length : Int) = X) (h : withinC c S X = true) : withinC (renamedO c ss xs) S X = true := by
  obtain ⟨w1, w2, w3, w4, w5, w6, w7⟩ := within_iff.1 h
  have hst : -1 ≤ nameS ss c.st ∧ nameS ss c.st < S := by
    by_cases e : c.st = -1
    · rw [nameS, if_pos e]; omega
    · obtain ⟨s, hs⟩ := Int.eq_ofNat_of_zero_le (show 0 ≤ c.st by omega)
      rw [hs, (nameS_get h1 (s := s) (by omega)).1]
      have := (pS_get h1 (s := s) (by omega)).2
      omega
  refine within_iff.2 ⟨hst.1, hst.2, w3, w4, by simpa [renamedO] using w5, renamed_norm h2 e2 w6 w7, ?_⟩
  rw [List.all_eq_true] at w7 ⊢
  intro y hy
  obtain ⟨x, hx, rfl⟩ := List.mem_map.1 hy
  have hb := w7 x hx
  simp only [symB, Bool.and_eq_true, decide_eq_true_eq] at hb ⊢
  obtain ⟨t, rfl⟩ := Int.eq_ofNat_of_zero_le hb.1
  rw [(nameS_get h2 (s := t) (by omega)).2]
  have := (pS_get h2 (s := t) (by omega)).2
  omega
theorem okN_of {c : CfgS} {ss xs : List Int} {m : MachS} (ho : okR m ss xs = true) (hx : m.symbols ≤ 4) (h : withinC c m.states m.symbols = true) : okN c ss xs = true := by
  simp only [okR, Bool.and_eq_true, decide_eq_true_eq] at ho
  obtain ⟨⟨⟨e1, e2⟩, p1, p2⟩, p3, p4⟩ := ho
  obtain ⟨w1, w2, w3, w4, w5, w6, w7⟩ := within_iff.1 h
  simp only [okN, Bool.and_eq_true, decide_eq_true_eq]
  refine ⟨⟨⟨⟨⟨p1, p2⟩, p3, p4⟩, by omega⟩, by omega⟩, ?_⟩
  rw [List.all_eq_true] at w7 ⊢
  intro x hx
  have := w7 x hx
  simp only [symB, Bool.and_eq_true, decide_eq_true_eq] at this ⊢
  omega
theorem same_rename {m : MachS} {c : CfgS} {ss xs : List Int} {k : Nat} (hf : fitsC m c = true) (fc : farC c = true) (hk : k ≤ 1000) (ho : okR m ss xs = true) :
    ∃ d i, runC m k c = some (d, i) ∧ renameC m ss xs = (renameM m ss xs, 0) ∧ renamedC c ss xs = (renamedO c ss xs, 0) ∧ runS (renameM m ss xs) (renamedO c ss xs) (k : Int) = ⟨renamedO d ss xs, (i : Nat), 0⟩ ∧ renamedC d ss xs = (renamedO d ss xs, 0) ∧ (renamedO c ss xs).cells.length ≤ 100000 ∧ someC (renamedO d ss xs) = true := by
  have hv : validM m = true := by rw [fitsC, Bool.and_eq_true] at hf; exact hf.1
  have wc : withinC c m.states m.symbols = true := by rw [fitsC, Bool.and_eq_true] at hf; exact hf.2
  obtain ⟨v1, v2, v3, v4, _⟩ := validM_parts hv
  have ho' := ho
  simp only [okR, Bool.and_eq_true, decide_eq_true_eq] at ho'
  obtain ⟨⟨⟨e1, e2⟩, p1, p2⟩, p3, p4⟩ := ho'
  obtain ⟨Lo, Hi, bx⟩ := far_box fc
  have wy := renamed_in p1 p3 e1 e2 wc
  have by2 : Box (1 * c.pos + 0) Lo Hi (renamedO c ss xs) := by
    refine ⟨bx.few, bx.low, bx.high, by have := bx.left; omega, by have := bx.right; omega, fun p hp => ?_⟩
    rw [renamed_cell p3] at hp
    refine bx.sup p (fun h0 => hp ?_)
    rw [h0]
    exact nameX_zero p3
  obtain ⟨d, i, r1, r2, r3, r4, r5⟩ := sim_run hf (valid_rename hv p1 p3 e1 e2) (simM_rename hv p1 p3 e1 e2) (renamed_sim (ss := ss) p3) wy hk bx by2 (fun a => renamedO a ss xs) (fun a ha => ⟨renamed_sim p3, renamed_norm p3 e2 (within_iff.1 ha).2.2.2.2.2.1 (within_iff.1 ha).2.2.2.2.2.2⟩)
  exact ⟨d, i, r1, by rw [renameC, if_neg (by rw [hv]; simp), if_pos ho], by rw [renamedC, if_neg (by rw [some_of wc v2 v4]; simp), if_pos (okN_of ho v4 wc)], r4, by rw [renamedC, if_neg (by rw [some_of r3 v2 v4]; simp), if_pos (okN_of ho v4 r3)], (within_iff.1 wy).2.2.2.2.1, some_of r5 v2 v4⟩
end Go.Proofs.YtkbaiegfloajlaaDoor.Tp

/- Contracts: Renamed. -/
import Derived.Test.YtkbaiegfloajlaaDoorXc
namespace Go.Proofs.YtkbaiegfloajlaaDoor.Tp
open Go.RowKit

def nameS (l : List Int) (s : Int) : Int := if s = -1 then s else l.getD s.toNat 0
def nameX (l : List Int) (x : Int) : Int := l.getD x.toNat 0
def okN (c : CfgS) (ss xs : List Int) : Bool := (permB ss && decide (ss.length ≤ 6)) && (permB xs && decide (xs.length ≤ 6)) && decide (xs.length ≤ 4) && decide (c.st < (ss.length : Int)) && c.cells.all (fun x => decide (x < (xs.length : Int)))
def renamedO (c : CfgS) (ss xs : List Int) : CfgS := ⟨nameS ss c.st, c.pos, c.frm, c.cells.map (nameX xs)⟩
def renamedC (c : CfgS) (ss xs : List Int) : CfgS × Int := if someC c = false then (noC, 1) else if okN c ss xs = true then (renamedO c ss xs, 0) else (noC, 2)
/-- A row of numbers that stands alone in a block. -/
def RowAt (w : World) (g : Nat) (l : List Int) : Prop := l = [] ∨ Blk w g 3 (ints l).toArray
theorem RowAt.to {w w' : World} {g : Nat} {l : List Int} (h : RowAt w g l) (hb : Below w.heap.size w w') : RowAt w' g l := h.imp id (fun h => h.to hb)
theorem RowAt.far {w : World} {g : Nat} {l : List Int} (h : RowAt w g l) {p : Addr} (hp : g ≠ p.block) (u : Value) : RowAt (w.setCell p u) g l := h.imp id (fun h => h.far hp u)
theorem RowAt.elems {w : World} {g n : Nat} {l : List Int} (h : RowAt w g l) (hn : n = l.length) : Elems w w.heap.size (.slice (some ⟨g, 0, none⟩) n n) (ints l) := by
  subst hn
  rcases h with rfl | h
  · exact .inl ⟨.inr ⟨_, _, rfl⟩, rfl⟩
  · exact blk_elems h rfl (by simp [ints])
def mapN (xs l : List Int) (k : Nat) : List Int := (l.take k).map (nameX xs) ++ l.drop k
theorem mapN_zero (xs l : List Int) : mapN xs l 0 = l := by simp [mapN]
theorem mapN_all (xs l : List Int) : mapN xs l l.length = l.map (nameX xs) := by simp [mapN]
theorem mapN_len (xs l : List Int) (k : Nat) : (mapN xs l k).length = l.length := by
  rw [mapN, List.length_append, List.length_map, List.length_take, List.length_drop]; omega
theorem mapN_get {xs l : List Int} {k : Nat} {x : Int} (h : l[k]? = some x) : (mapN xs l k)[k]? = some x := by
  have hk : k < l.length := by
    rcases Nat.lt_or_ge k l.length with h' | h'
    · exact h'
    · rw [List.getElem?_eq_none h'] at h; cases h
  rw [mapN, List.getElem?_append_right (by simp; omega)]
  simp only [List.length_map, List.length_take, Nat.min_eq_left (Nat.le_of_lt hk), Nat.sub_self, List.getElem?_drop, Nat.add_zero]
  exact h
theorem mapN_step {xs l : List Int} {k : Nat} {x : Int} (h : l[k]? = some x) : (mapN xs l k).set k (nameX xs x) = mapN xs l (k + 1) := by
  have hk : k < l.length := by
    rcases Nat.lt_or_ge k l.length with h' | h'
    · exact h'
    · rw [List.getElem?_eq_none h'] at h; cases h
  have hd : l.drop k = x :: l.drop (k + 1) := by
    rw [List.drop_eq_getElem_cons hk]
    rw [List.getElem?_eq_getElem hk] at h
    rw [Option.some.inj h]
  rw [mapN, mapN, List.set_append, if_neg (by rw [List.length_map, List.length_take]; omega), hd, List.take_add_one, h]
  simp [Nat.min_eq_left (Nat.le_of_lt hk)]
theorem of_symB {X : Int} {l : List Int} (h : l.all (symB X) = true) {k : Nat} {x : Int} (hx : l[k]? = some x) : 0 ≤ x ∧ x < X := by
  have := List.all_eq_true.1 h x (List.mem_of_getElem? hx)
  simpa [symB] using this
theorem copied_row (xs : List Int) (v : Value) (w : World) (h : Elems w w.heap.size v (ints xs)) (hl : xs.length ≤ 1000000000000) :
    Calls Tryd.prog 66 #[v] w fun e w' => ∃ g, e = .returned (.slice (some ⟨g, 0, none⟩) xs.length xs.length) ∧ RowAt w' g xs ∧ Below w.heap.size w w' ∧ w.heap.size ≤ g ∧ g < w'.heap.size :=
  (copied_any xs v w h hl).mono (fun e w' h => by
    obtain ⟨h1, h2, h3⟩ := h
    refine ⟨_, h1, ?_, h3, Nat.le_refl _, (h2.lt _ rfl).2⟩
    rcases Nat.eq_zero_or_pos xs.length with h0 | h0
    · exact .inl (List.eq_nil_of_length_eq_zero h0)
    · exact .inr (row_blk h2 h0))

set_option maxRecDepth 100000 in
set_option maxHeartbeats 8000000 in
theorem renamedState_any (l : List Int) (s : Int) (v : Value) (w : World) (hE : Elems w w.heap.size v (ints l)) (hs : s = -1 ∨ (0 ≤ s ∧ s < (l.length : Int))) :
    Calls Tryd.prog 58 #[.int .i64 s, v] w fun e w' => e = .returned (.int .i64 (nameS l s)) ∧ w' = w := by
  obtain ⟨A, c, rfl⟩ := hE.form
  rw [ints_len] at hE ⊢
  have HE := hid_ hE
  clear hE
  rcases hs with rfl | ⟨h0, h1⟩
  · go_enter Tryd.func58, Tryd.ntmps58
    go_wp2_with fail
    go_ret
    exact ⟨by rw [nameS, if_pos rfl]; rfl, rfl⟩
  · obtain ⟨t, rfl⟩ := Int.eq_ofNat_of_zero_le h0
    obtain ⟨b, o, rfl, hb, hc⟩ := HE.out.at_ (by omega)
    have hlt : t < l.length := by omega
    obtain ⟨x, hx⟩ : ∃ x, l[t]? = some x := ⟨_, List.getElem?_eq_getElem hlt⟩
    have i1 := hc t _ (ints_at hx)
    have t1 : ((t : Int) == -1) = false := beq_eq_false_iff_ne.2 (by omega)
    have HN : Hid (nameS l (t : Int) = x) := hid_ (by rw [nameS, if_neg (by omega), Int.toNat_natCast, List.getD_eq_getElem?_getD, hx]; rfl)
    clear hc hx
    go_enter Tryd.func58, Tryd.ntmps58
    go_wp2_with fail
    go_ret
    exact ⟨by rw [HN.out]; rfl, rfl⟩

set_option maxRecDepth 100000 in
set_option maxHeartbeats 8000000 in
theorem renamed_any (c : CfgS) (ss xs : List Int) (v u1 u2 : Value) (w : World) (hE : Elems w w.heap.size v (ints c.cells)) (hS : Elems w w.heap.size u1 (ints ss)) (hX : Elems w w.heap.size u2 (ints xs)) (hl : c.cells.length ≤ 17592186044416) (hls : ss.length ≤ 17592186044416) (hlx : xs.length ≤ 17592186044416) :
    Calls Tryd.prog 40 #[.agg #[.int .i64 c.st, .int .i64 c.pos, .int .i64 c.frm, v], u1, u2] w (ConfRan (renamedC c ss xs) w) := by
  obtain ⟨A, cc, rfl⟩ := hE.form
  obtain ⟨As, cs, rfl⟩ := hS.form
  obtain ⟨Ax, cx, rfl⟩ := hX.form
  rw [ints_len] at hE hS hX ⊢
  rw [ints_len, ints_len]
  have hbW := below2 w (.cells #[.int .i64 c.st, .int .i64 c.pos, .int .i64 c.frm, .slice A c.cells.length cc] 27) (.cells #[.int .i64 0, .int .i64 0, .int .i64 0, .slice none 0 0] 27)
  have HE := hid_ (hE.to hbW)
  have HSS := hid_ (hS.to hbW)
  have HXX := hid_ (hX.to hbW)
  have B1 := (Blk.new w 27 #[.int .i64 c.st, .int .i64 c.pos, .int .i64 c.frm, .slice A c.cells.length cc]).alloc (.cells #[.int .i64 0, .int .i64 0, .int .i64 0, .slice none 0 0] 27)
  have B2 := Blk.new (w.alloc (.cells #[.int .i64 c.st, .int .i64 c.pos, .int .i64 c.frm, .slice A c.cells.length cc] 27)) 27 #[.int .i64 0, .int .i64 0, .int .i64 0, .slice none 0 0]
  rw [show (w.alloc (.cells #[.int .i64 c.st, .int .i64 c.pos, .int .i64 c.frm, .slice A c.cells.length cc] 27)).heap.size = w.heap.size + 1 by simp] at B2
  have HB1 := hid_ B1
  have HB2 := hid_ B2
  clear hE hS hX B1 B2
  go_enter Tryd.func40, Tryd.ntmps40
  go_upto_region 1 with fail
  generalize (w.alloc (.cells #[.int .i64 c.st, .int .i64 c.pos, .int .i64 c.frm, .slice A c.cells.length cc] 27)).alloc (.cells #[.int .i64 0, .int .i64 0, .int .i64 0, .slice none 0 0] 27) = W at *
  have q0 := HB1.out.cell 0
  have q1 := HB1.out.cell 1
  have q2 := HB1.out.cell 2
  have q3 := HB1.out.cell 3
  simp at q0 q1 q2 q3
  go_wp2_with fail
  refine (fitsSome_any c _ W HE.out hl).mono ?_
  obtain ⟨bs, hbs⟩ : ∃ b, b = someC c := ⟨_, rfl⟩
  rw [← hbs]
  rintro e w2 ⟨rfl, hb2⟩
  replace HE := hid_ (HE.out.to hb2)
  replace HSS := hid_ (HSS.out.to hb2)
  replace HXX := hid_ (HXX.out.to hb2)
  replace HB1 := hid_ (HB1.out.to hb2)
  replace HB2 := hid_ (HB2.out.to hb2)
  replace hbW := bnext hbW hb2
  clear hb2 q0 q1 q2 q3
  cases bs with
  | false =>
    have HN : Hid (renamedC c ss xs = (noC, 1)) := hid_ (by rw [renamedC, if_pos hbs.symm])
    clear hbs
    have s0 := HB2.out.free 0
    have s1 := HB2.out.free 1
    have s2 := HB2.out.free 2
    have s3 := HB2.out.free 3
    have r0 := HB2.out.cell 0
    have r1 := HB2.out.cell 1
    have r2 := HB2.out.cell 2
    have r3 := HB2.out.cell 3
    simp at r0 r1 r2 r3
    go_wp2_with fail
    have BZ := ((((HB2.out).set_ 0 (.int .i64 0)).set_ 1 (.int .i64 0)).set_ 2 (.int .i64 0)).set_ 3 (.slice none 0 0)
    have e0 := BZ.cell 0
    have e1 := BZ.cell 1
    have e2 := BZ.cell 2
    have e3 := BZ.cell 3
    simp at e0 e1 e2 e3
    refine bodyPost_ret (v := .tuple #[.agg #[.int .i64 0, .int .i64 0, .int .i64 0, .slice none 0 0], .int .i64 1]) (by simp [results, Tryd.results40, go_sem, e0, e1, e2, e3]) rfl ?_
    exact ⟨none, 0, by rw [HN.out]; rfl, by rw [HN.out]; exact Elems.nil _ _, ((((hbW).setCell (by simp <;> omega) _).setCell (by simp <;> omega) _).setCell (by simp <;> omega) _).setCell (by simp <;> omega) _, .inl rfl⟩
  | true =>
    obtain ⟨W, rfl⟩ : ∃ X : World, X = w2 := ⟨_, rfl⟩
    have HBS := hid_ hbs
    clear hbs
    obtain ⟨b1, hb1⟩ : ∃ b, b = (permB ss && decide (ss.length ≤ 6)) := ⟨_, rfl⟩
    obtain ⟨b2, hb2⟩ : ∃ b, b = (permB xs && decide (xs.length ≤ 6)) := ⟨_, rfl⟩
    have q0 := HB1.out.cell 0
    have q1 := HB1.out.cell 1
    have q2 := HB1.out.cell 2
    have q3 := HB1.out.cell 3
    simp at q0 q1 q2 q3
    go_upto_region 3 with fail
    go_cut [34] (fun s wx => s = .bool (!(b1 && b2 && decide (xs.length ≤ 4) && decide (c.st < (ss.length : Int)))) ∧ Below W.heap.size W wx)
    case first => as_aux_lemma =>
      have HR1 : Hid (∀ X, Elems X X.heap.size (.slice As ss.length cs) (ints ss) → Calls Tryd.prog 57 #[.slice As ss.length cs] X fun e w' => e = .returned (.bool b1) ∧ Below X.heap.size X w') := hid_ (fun X h => by rw [hb1]; exact renaming_any ss _ X h hls)
      have HR2 : Hid (∀ X, Elems X X.heap.size (.slice Ax xs.length cx) (ints xs) → Calls Tryd.prog 57 #[.slice Ax xs.length cx] X fun e w' => e = .returned (.bool b2) ∧ Below X.heap.size X w') := hid_ (fun X h => by rw [hb2]; exact renaming_any xs _ X h hlx)
      clear hb1 hb2
      cases b1 with
      | false =>
        go_wp2_with fail
        refine (HR1.out W HSS.out).mono ?_
        rintro e w3 ⟨rfl, hb3⟩
        go_wp2_with fail
        go_meet
        exact ⟨rfl, hb3⟩
      | true =>
        go_wp2_with fail
        refine (HR1.out W HSS.out).mono ?_
        rintro e w3 ⟨rfl, hb3⟩
        have HX3 := hid_ (HXX.out.to hb3)
        have HB3 := hid_ (HB1.out.to hb3)
        go_wp2_with fail
        refine (HR2.out w3 HX3.out).mono ?_
        rintro e w4 ⟨rfl, hb4⟩
        have q0' := (HB3.out.to hb4).cell 0
        simp at q0'
        have hb5 := bnext hb3 hb4
        cases b2 with
        | false =>
          go_wp2_with fail
          go_meet
          exact ⟨rfl, hb5⟩
        | true =>
          by_cases h4 : 4 < xs.length
          · have t4 : (4 : Int) < (xs.length : Int) := by omega
            have t5 : ¬ xs.length ≤ 4 := by omega
            have t6 : decide (xs.length ≤ 4) = false := decide_eq_false t5
            have T6 := hid_ t6
            clear t6 t5 h4
            go_wp2_with fail
            go_meet
            exact ⟨by rw [T6.out]; rfl, hb5⟩
          · have t4 : ¬ (4 : Int) < (xs.length : Int) := by omega
            have T6 := hid_ (decide_eq_true (show xs.length ≤ 4 by omega))
            clear h4
            by_cases h5 : (ss.length : Int) ≤ c.st
            · have T7 := hid_ (decide_eq_false (show ¬ c.st < (ss.length : Int) by omega))
              go_wp2_with fail
              go_meet
              exact ⟨by rw [T6.out, T7.out]; rfl, hb5⟩
            · have T7 := hid_ (decide_eq_true (show c.st < (ss.length : Int) by omega))
              go_wp2_with fail
              go_meet
              have e1 : decide ((4 : Int) < (xs.length : Int)) = false := decide_eq_false (by omega)
              have e2 : decide ((ss.length : Int) ≤ c.st) = false := decide_eq_false (by omega)
              exact ⟨by rw [T6.out, T7.out, e1, e2]; rfl, hb5⟩
    case rest => as_aux_lemma =>
    obtain ⟨rfl, hbc⟩ := hcut
    replace HE := hid_ (HE.out.to hbc)
    replace HSS := hid_ (HSS.out.to hbc)
    replace HXX := hid_ (HXX.out.to hbc)
    replace HB1 := hid_ (HB1.out.to hbc)
    replace HB2 := hid_ (HB2.out.to hbc)
    replace hbW := bnext hbW hbc
    clear hbc q0 q1 q2 q3
    obtain ⟨W, rfl⟩ : ∃ X : World, X = wc := ⟨_, rfl⟩
    obtain ⟨op, hop⟩ : ∃ o, o = (b1 && b2 && decide (xs.length ≤ 4) && decide (c.st < (ss.length : Int))) := ⟨_, rfl⟩
    rw [← hop]
    cases op with
    | false =>
      have HN : Hid (renamedC c ss xs = (noC, 2)) := hid_ (by
        rw [renamedC, if_neg (by rw [← HBS.out]; simp), if_neg]
        rw [okN, ← hb1, ← hb2, ← hop]
        simp)
      clear hb1 hb2 hop
      have s0 := HB2.out.free 0
      have s1 := HB2.out.free 1
      have s2 := HB2.out.free 2
      have s3 := HB2.out.free 3
      have r0 := HB2.out.cell 0
      have r1 := HB2.out.cell 1
      have r2 := HB2.out.cell 2
      have r3 := HB2.out.cell 3
      simp at r0 r1 r2 r3
      go_wp2_with fail
      have BZ := ((((HB2.out).set_ 0 (.int .i64 0)).set_ 1 (.int .i64 0)).set_ 2 (.int .i64 0)).set_ 3 (.slice none 0 0)
      have e0 := BZ.cell 0
      have e1 := BZ.cell 1
      have e2 := BZ.cell 2
      have e3 := BZ.cell 3
      simp at e0 e1 e2 e3
      refine bodyPost_ret (v := .tuple #[.agg #[.int .i64 0, .int .i64 0, .int .i64 0, .slice none 0 0], .int .i64 2]) (by simp [results, Tryd.results40, go_sem, e0, e1, e2, e3]) rfl ?_
      exact ⟨none, 0, by rw [HN.out]; rfl, by rw [HN.out]; exact Elems.nil _ _, ((((hbW).setCell (by simp <;> omega) _).setCell (by simp <;> omega) _).setCell (by simp <;> omega) _).setCell (by simp <;> omega) _, .inl rfl⟩
    | true =>
      obtain ⟨⟨⟨P1, P2⟩, P3⟩, P4⟩ : ((b1 = true ∧ b2 = true) ∧ xs.length ≤ 4) ∧ c.st < (ss.length : Int) := by simpa using hop.symm
      have hin := within_iff.1 HBS.out.symm
      have hst : c.st = -1 ∨ (0 ≤ c.st ∧ c.st < (ss.length : Int)) := by have := hin.1; omega
      have w5 := hin.2.2.2.2.1
      have HIN := hid_ hin
      obtain ⟨z, hz⟩ : ∃ z, z = nameS ss c.st := ⟨_, rfl⟩
      have HOKN : Hid (okN c ss xs = c.cells.all (fun x => decide (x < (xs.length : Int)))) := hid_ (by
        rw [okN, ← hb1, ← hb2, P1, P2, decide_eq_true P3, decide_eq_true P4]; rfl)
      have HNS : Hid (∀ X, Elems X X.heap.size (.slice As ss.length cs) (ints ss) → Calls Tryd.prog 58 #[.int .i64 c.st, .slice As ss.length cs] X fun e w' => e = .returned (.int .i64 z) ∧ w' = X) := hid_ (fun X h => by rw [hz]; exact renamedState_any ss c.st _ X h hst)
      have HCP : Hid (∀ X, Elems X X.heap.size (.slice A c.cells.length cc) (ints c.cells) → Calls Tryd.prog 66 #[.slice A c.cells.length cc] X fun e w' => ∃ g, e = .returned (.slice (some ⟨g, 0, none⟩) c.cells.length c.cells.length) ∧ RowAt w' g c.cells ∧ Below X.heap.size X w' ∧ X.heap.size ≤ g ∧ g < w'.heap.size) := hid_ (fun X h => copied_row c.cells _ _ h (by omega))
      have HZ := hid_ hz
      have hx4 := P3
      clear hop hb1 hb2 P1 P2 P3 P4 hin hst hz
      have q0 := HB1.out.cell 0
      have q1 := HB1.out.cell 1
      have q2 := HB1.out.cell 2
      have q3 := HB1.out.cell 3
      simp at q0 q1 q2 q3
      go_upto_region 5 with fail
      go_cut [8] (fun s wx => ∃ a g, s = .pointer (some ⟨a, 0, none⟩) ∧ Blk wx a 27 #[.int .i64 z, .int .i64 c.pos, .int .i64 c.frm, .slice (some ⟨g, 0, none⟩) c.cells.length c.cells.length] ∧ W.heap.size ≤ a ∧ g ≠ a ∧ W.heap.size ≤ g ∧ RowAt wx g c.cells ∧ Below W.heap.size W wx)
      case first => as_aux_lemma =>
        go_region_held3 (fun w' => w'.cell? ⟨w.heap.size, 0, none⟩ = some (.int .i64 c.st) ∧ w'.cell? ⟨w.heap.size, 1, none⟩ = some (.int .i64 c.pos) ∧ w'.cell? ⟨w.heap.size, 2, none⟩ = some (.int .i64 c.frm) ∧ w'.cell? ⟨w.heap.size, 3, none⟩ = some (.slice A c.cells.length cc) ∧ Below W.heap.size W w')
          (first | assumption | (with_reducible exact (let hb := H3.out; ⟨keepc hb q0, keepc hb q1, keepc hb q2, keepc hb q3, hb⟩)) | (with_reducible exact (let hb := H3.out.alloc H3.out.size _; ⟨keepc hb q0, keepc hb q1, keepc hb q2, keepc hb q3, hb⟩)) | (with_reducible exact (let hb := (H3.out.alloc H3.out.size _).drew; ⟨keepc hb q0, keepc hb q1, keepc hb q2, keepc hb q3, hb⟩)) | (with_reducible exact (let hb := below1 W _; ⟨keepc hb q0, keepc hb q1, keepc hb q2, keepc hb q3, hb⟩)) | (with_reducible exact (let hb := (below1 W _).drew; ⟨keepc hb q0, keepc hb q1, keepc hb q2, keepc hb q3, hb⟩)) | (with_reducible exact (let hb := ((((H3.out.setCell (Nat.le_refl W.heap.size) _).setCell (Nat.le_refl W.heap.size) _).setCell (Nat.le_refl W.heap.size) _).setCell (Nat.le_refl W.heap.size) _); ⟨keepc hb q0, keepc hb q1, keepc hb q2, keepc hb q3, hb⟩)) | (with_reducible exact (let hb := (((((H3.out.alloc H3.out.size _).setCell H3.out.size _).setCell H3.out.size _).setCell H3.out.size _).setCell H3.out.size _); ⟨keepc hb q0, keepc hb q1, keepc hb q2, keepc hb q3, hb⟩)) | (with_reducible exact (let hb := (Below.refl W.heap.size W).drew; ⟨keepc hb q0, keepc hb q1, keepc hb q2, keepc hb q3, hb⟩)) | (go_keep; done) | (with_reducible exact (let hb := Below.refl W.heap.size W; ⟨keepc hb q0, keepc hb q1, keepc hb q2, keepc hb q3, hb⟩)))
          (first
            | (go_at_call 58; (with_reducible refine (HNS.out _ (HSS.out.to ((And.right (And.right (And.right (And.right (by assumption)))))))).mono ?_); rintro e w6 ⟨rfl, rfl⟩)
            | (go_at_call 66; (with_reducible refine (HCP.out _ (HE.out.to ((And.right (And.right (And.right (And.right (by assumption)))))))).mono ?_); rintro e w3 ⟨g, rfl, hEg, hz3, hg1, hg2⟩; have H3 : Hid (Below W.heap.size W w3) := hid_ (bnext ((And.right (And.right (And.right (And.right (by assumption)))))) hz3); have B0 : Blk ((W.alloc (.cells #[.int .i64 0, .int .i64 0, .int .i64 0, .slice none 0 0] 27)).drew) W.heap.size 27 #[.int .i64 0, .int .i64 0, .int .i64 0, .slice none 0 0] := Blk.new W 27 #[.int .i64 0, .int .i64 0, .int .i64 0, .slice none 0 0]; have BB : Blk w3 W.heap.size 27 #[.int .i64 0, .int .i64 0, .int .i64 0, .slice none 0 0] := (by with_reducible exact Blk.to B0 hz3); have HBB := hid_ BB; have hgw : W.heap.size ≤ g := Nat.le_trans (Below.size ((And.right (And.right (And.right (And.right (by assumption))))))) hg1; have hga : g ≠ W.heap.size := (by rw [size_ad] at hg1; omega); have HG := hid_ hEg; have y0 := BB.cell 0; have y1 := BB.cell 1; have y2 := BB.cell 2; have y3 := BB.cell 3; have f0 := BB.free 0; have f1 := BB.free 1; have f2 := BB.free 2; have f3 := BB.free 3; simp at y0 y1 y2 y3; clear hz3 BB B0 hEg hg1)
            | (go_at_call 66; (with_reducible refine (HCP.out _ (HE.out.to ((And.right (And.right (And.right (And.right (by assumption)))))))).mono ?_); rintro e w3 ⟨g, rfl, hEg, hz3, hg1, hg2⟩; have H3 : Hid (Below W.heap.size W w3) := hid_ (bnext ((And.right (And.right (And.right (And.right (by assumption)))))) hz3); have hgw : W.heap.size ≤ g := Nat.le_trans (Below.size ((And.right (And.right (And.right (And.right (by assumption))))))) hg1; have hga : g ≠ w3.heap.size := (by omega); have HG := hid_ hEg; clear hz3 hEg hg1; have n0 := World.new_ne w3 _ (keepc H3.out q0); have n1 := World.new_ne w3 _ (keepc H3.out q1); have n2 := World.new_ne w3 _ (keepc H3.out q2); have n3 := World.new_ne w3 _ (keepc H3.out q3); simp only at n0 n1 n2 n3; have z1 : ∀ (cs : Array Value) (t : TypeId) (i : Nat), (w3.alloc (.cells cs t)).cell? ⟨w3.heap.size, i, none⟩ = cs[i]? := fun cs t i => (Blk.new w3 t cs).cell i; have z2 : ∀ (cs : Array Value) (t : TypeId) (i : Nat), (w3.alloc (.cells cs t)).frozen? ⟨w3.heap.size, i, none⟩ = false := fun cs t i => (Blk.new w3 t cs).free i; have z3 : ∀ (cs : Array Value) (t : TypeId) (i : Nat) (u : Value), (w3.alloc (.cells cs t)).setCell ⟨w3.heap.size, i, none⟩ u = w3.alloc (.cells (cs.setIfInBounds i u) t) := fun cs t i u => World.setCell_alloc_at (w := w3) _ _ _ _ _ rfl))
        all_goals
          go_wp2_with fail
          go_meet
          first
            | (with_reducible exact ⟨w3.heap.size, g, rfl, Blk.new w3 _ _, H3.out.size, hga, hgw, HG.out.to (below1 w3 _), H3.out.alloc H3.out.size _⟩)
            | (have hgx : (Value.slice (some ⟨g, 0, none⟩) c.cells.length c.cells.length).ownBlock ≠ some W.heap.size := by simpa [Value.ownBlock] using hga
               with_reducible refine ⟨W.heap.size, g, rfl, ?_, Nat.le_refl _, hga, hgw, ?_, ?_⟩
               · exact ((((HBB.out.set_ 0 _).set_ 1 _).set_ 2 _).set_ 3 _)
               · with_reducible exact (RowAt.far (RowAt.far (RowAt.far (RowAt.far HG.out (p := ⟨W.heap.size, 0, none⟩) hga (.int .i64 z)) (p := ⟨W.heap.size, 1, none⟩) hga (.int .i64 c.pos)) (p := ⟨W.heap.size, 2, none⟩) hga (.int .i64 c.frm)) (p := ⟨W.heap.size, 3, none⟩) hga (.slice (some ⟨g, 0, none⟩) c.cells.length c.cells.length))
               · with_reducible exact ((((H3.out.setCell (Nat.le_refl _) _).setCell (Nat.le_refl _) _).setCell (Nat.le_refl _) _).setCell (Nat.le_refl _) _))
      case rest => as_aux_lemma =>
      obtain ⟨a, g, rfl, hB, ha, hga, hgw, hR, hbc⟩ := hcut
      obtain ⟨X, rfl⟩ : ∃ X : World, X = wc := ⟨_, rfl⟩
      have ho1 := HB2.out.lt
      have HA := hid_ hB
      have HR := hid_ hR
      have y3 := HA.out.cell 3
      simp at y3
      have HMP := hid_ (mapN_zero xs c.cells)
      clear hB hR HCP HNS HE HSS HB1 q0 q1 q2 q3
      go_wp2_with fail
      go_loopw [51] (fun s wr => ∃ k : Nat, s = .int .i64 (k : Int) ∧ k ≤ c.cells.length ∧ Hid (RowAt wr g (mapN xs c.cells k)) ∧ Hid (Blk wr a 27 #[.int .i64 z, .int .i64 c.pos, .int .i64 c.frm, .slice (some ⟨g, 0, none⟩) c.cells.length c.cells.length]) ∧ Hid (∀ (i : Nat) (x : Int), i < k → c.cells[i]? = some x → x < (xs.length : Int)) ∧ Below W.heap.size W wr) (fun s _ => c.cells.length - (intOf s).toNat)
      case atStart => exact ⟨0, rfl, Nat.zero_le _, by rw [HMP.out]; exact HR, HA, hid_ (fun i x h => absurd h (by omega)), hbc⟩
      case round =>
        obtain ⟨k, rfl, hk, HRr, HAr, HLr, hbr⟩ := hrel
        clear y3 HA HR HMP hbc
        by_cases hlt : k < c.cells.length
        · obtain ⟨x, hx⟩ : ∃ x, c.cells[k]? = some x := ⟨_, List.getElem?_eq_getElem hlt⟩
          have hBg : Blk wr g 3 (ints (mapN xs c.cells k)).toArray := HRr.out.resolve_left (fun e => by have h7 := congrArg List.length e; rw [mapN_len] at h7; have h8 : c.cells.length = 0 := h7; omega)
          have i1 := hBg.cell k
          rw [List.getElem?_toArray, ints_at (mapN_get hx)] at i1
          have f1 := hBg.free k
          have s0 : 0 ≤ (k : Int) := by omega
          have HX := hid_ hx
          have HG := hid_ hBg
          have hx0 : 0 ≤ x := (of_symB (HIN.out.2.2.2.2.2.2) hx).1
          have y3 := HAr.out.cell 3
          simp at y3
          clear hx hBg
          by_cases hxx : (xs.length : Int) ≤ x
          · have HN : Hid (renamedC c ss xs = (noC, 2)) := hid_ (by
              rw [renamedC, if_neg (by rw [← HBS.out]; simp), if_neg]
              rw [HOKN.out]
              intro h
              have := of_decide_eq_true (List.all_eq_true.1 h x (List.mem_of_getElem? HX.out))
              omega)
            have HB2r := hid_ (HB2.out.to hbr)
            have hbY := bnext hbW hbr
            have s0 := HB2r.out.free 0
            have s1 := HB2r.out.free 1
            have s2 := HB2r.out.free 2
            have s3 := HB2r.out.free 3
            have r0 := HB2r.out.cell 0
            have r1 := HB2r.out.cell 1
            have r2 := HB2r.out.cell 2
            have r3 := HB2r.out.cell 3
            simp at r0 r1 r2 r3
            go_wp2_with fail
            have BZ := ((((HB2r.out).set_ 0 (.int .i64 0)).set_ 1 (.int .i64 0)).set_ 2 (.int .i64 0)).set_ 3 (.slice none 0 0)
            have e0 := BZ.cell 0
            have e1 := BZ.cell 1
            have e2 := BZ.cell 2
            have e3 := BZ.cell 3
            simp at e0 e1 e2 e3
            refine bodyPost_ret (v := .tuple #[.agg #[.int .i64 0, .int .i64 0, .int .i64 0, .slice none 0 0], .int .i64 2]) (by simp [results, Tryd.results40, go_sem, e0, e1, e2, e3]) rfl ?_
            exact ⟨none, 0, by rw [HN.out]; rfl, by rw [HN.out]; exact Elems.nil _ _, ((((hbY).setCell (by simp <;> omega) _).setCell (by simp <;> omega) _).setCell (by simp <;> omega) _).setCell (by simp <;> omega) _, .inl rfl⟩
          · obtain ⟨t, rfl⟩ := Int.eq_ofNat_of_zero_le hx0
            obtain ⟨bx, ox, hAx, hbx, hcx⟩ := (HXX.out.to hbr).at_ (by omega)
            subst hAx
            have htl : t < xs.length := by omega
            obtain ⟨y, hy⟩ : ∃ y, xs[t]? = some y := ⟨_, List.getElem?_eq_getElem htl⟩
            have j1 := hcx t _ (ints_at hy)
            have HY : Hid (nameX xs (t : Int) = y) := hid_ (by rw [nameX, Int.toNat_natCast, List.getD_eq_getElem?_getD, hy]; rfl)
            have s1 : (t : Int) < (xs.length : Int) := by omega
            have HST := hid_ (mapN_step (xs := xs) HX.out)
            clear hy hcx
            go_upto_region 11 with fail
            go_region
            go_wp2_with fail
            go_roundw
            case rel =>
              refine ⟨k + 1, by go_num, by omega, hid_ (.inr ?_), hid_ ?_, hid_ ?_, ?_⟩
              · have h9 := HG.out.set_ k (.int .i64 y)
                rw [ints_set, ← HY.out, HST.out] at h9
                rw [← HY.out]
                exact h9
              · exact HAr.out.far (p := ⟨g, k, none⟩) (by simp; omega) _
              · intro i x' hi hx'
                rcases Nat.eq_or_lt_of_le (Nat.le_of_lt_succ hi) with e | e
                · subst e
                  rw [HX.out] at hx'
                  cases hx'
                  omega
                · exact HLr.out i x' e hx'
              · exact (hbr.setCell (p := ⟨g, k, none⟩) hgw _).drew
            case measure => simp [intOf]; omega
        · obtain rfl : k = c.cells.length := by omega
          have HN : Hid (renamedC c ss xs = (renamedO c ss xs, 0)) := hid_ (by
            rw [renamedC, if_neg (by rw [← HBS.out]; simp), if_pos]
            rw [HOKN.out, List.all_eq_true]
            intro x hx
            obtain ⟨i, hi⟩ := List.mem_iff_getElem?.1 hx
            have hil : i < c.cells.length := by
              rcases Nat.lt_or_ge i c.cells.length with h | h
              · exact h
              · rw [List.getElem?_eq_none h] at hi; cases hi
            exact decide_eq_true (HLr.out i x hil hi))
          have HMA := hid_ (mapN_all xs c.cells)
          have HB2r := hid_ (HB2.out.to hbr)
          have hbY := bnext hbW hbr
          have hgo : g ≠ w.heap.size + 1 := by omega
          have y0 := HAr.out.cell 0
          have y1 := HAr.out.cell 1
          have y2 := HAr.out.cell 2
          have y3 := HAr.out.cell 3
          simp at y0 y1 y2 y3
          have s0 := HB2r.out.free 0
          have s1 := HB2r.out.free 1
          have s2 := HB2r.out.free 2
          have s3 := HB2r.out.free 3
          have r0 := HB2r.out.cell 0
          have r1 := HB2r.out.cell 1
          have r2 := HB2r.out.cell 2
          have r3 := HB2r.out.cell 3
          simp at r0 r1 r2 r3
          go_wp2_with fail
          have BZ := ((((HB2r.out).set_ 0 (.int .i64 z)).set_ 1 (.int .i64 c.pos)).set_ 2 (.int .i64 c.frm)).set_ 3 (.slice (some ⟨g, 0, none⟩) c.cells.length c.cells.length)
          have e0 := BZ.cell 0
          have e1 := BZ.cell 1
          have e2 := BZ.cell 2
          have e3 := BZ.cell 3
          simp at e0 e1 e2 e3
          refine bodyPost_ret (v := .tuple #[.agg #[.int .i64 z, .int .i64 c.pos, .int .i64 c.frm, .slice (some ⟨g, 0, none⟩) c.cells.length c.cells.length], .int .i64 0]) (by simp [results, Tryd.results40, go_sem, e0, e1, e2, e3]) rfl ?_
          have hR9 : RowAt ((((wr.setCell ⟨w.heap.size + 1, 0, none⟩ (.int .i64 z)).setCell ⟨w.heap.size + 1, 1, none⟩ (.int .i64 c.pos)).setCell ⟨w.heap.size + 1, 2, none⟩ (.int .i64 c.frm)).setCell ⟨w.heap.size + 1, 3, none⟩ (.slice (some ⟨g, 0, none⟩) c.cells.length c.cells.length)) g (mapN xs c.cells c.cells.length) := (((HRr.out.far (p := ⟨w.heap.size + 1, 0, none⟩) hgo (.int .i64 z)).far (p := ⟨w.heap.size + 1, 1, none⟩) hgo (.int .i64 c.pos)).far (p := ⟨w.heap.size + 1, 2, none⟩) hgo (.int .i64 c.frm)).far (p := ⟨w.heap.size + 1, 3, none⟩) hgo (.slice (some ⟨g, 0, none⟩) c.cells.length c.cells.length)
          rw [HMA.out] at hR9
          have hE9 := hR9.elems (n := c.cells.length) (by simp)
          rw [HN.out]
          exact ⟨some ⟨g, 0, none⟩, c.cells.length, by rw [HZ.out]; simp [renamedO], by simpa [renamedO] using hE9, ((((hbY).setCell (by simp <;> omega) _).setCell (by simp <;> omega) _).setCell (by simp <;> omega) _).setCell (by simp <;> omega) _, .inr ⟨g, 0, rfl, by omega⟩⟩
end Go.Proofs.YtkbaiegfloajlaaDoor.Tp

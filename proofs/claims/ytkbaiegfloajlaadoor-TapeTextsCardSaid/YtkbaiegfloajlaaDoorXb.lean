/- Contracts: Reflect. -/
import Derived.Test.YtkbaiegfloajlaaDoorXa
namespace Go.Proofs.YtkbaiegfloajlaaDoor.Tp
open Go.RowKit

def reflectO (c : CfgS) : CfgS := ⟨c.st, -c.pos, if c.cells.length = 0 then 0 else -(c.frm + (c.cells.length : Int) - 1), c.cells.reverse⟩
def reflectC (c : CfgS) : CfgS × Int := if someC c = false then (noC, 1) else if someC (reflectO c) = true then (reflectO c, 0) else (noC, 2)
/-- A list turned around, as far as it is written. -/
def turnL (l : List Int) (k : Nat) : List Int := List.replicate (l.length - k) 0 ++ (l.take k).reverse
theorem turn_len {l : List Int} {k : Nat} (h : k ≤ l.length) : (turnL l k).length = l.length := by
  rw [turnL, List.length_append, List.length_replicate, List.length_reverse, List.length_take]; omega
theorem turn_zero (l : List Int) : turnL l 0 = List.replicate l.length 0 := by simp [turnL]
theorem turn_all (l : List Int) : turnL l l.length = l.reverse := by simp [turnL]
theorem turn_step {l : List Int} {k : Nat} {x : Int} (h : l[k]? = some x) : (turnL l k).set (l.length - 1 - k) x = turnL l (k + 1) := by
  have hk : k < l.length := by
    rcases Nat.lt_or_ge k l.length with h' | h'
    · exact h'
    · rw [List.getElem?_eq_none h'] at h; cases h
  rw [turnL, turnL, show l.length - k = (l.length - 1 - k) + 1 by omega, show l.length - (k + 1) = l.length - 1 - k by omega, List.replicate_succ', List.append_assoc, List.set_append]
  rw [if_neg (by simp), List.length_replicate, Nat.sub_self]
  rw [List.take_add_one, h, List.reverse_append]
  rfl
theorem ints_set (l : List Int) (k : Nat) (x : Int) : (ints l).toArray.setIfInBounds k (.int .i64 x) = (ints (l.set k x)).toArray := by
  simp [ints, List.map_set]
theorem row_blk {w : World} {base g n e : Nat} {xs : List Value} (h : w.ownsRow base e 1 (.slice (some ⟨g, 0, none⟩) n n) n xs) (hn : 0 < n) : Blk w g e xs.toArray := by
  obtain ⟨g', cur, hA, _, hh, _, _, hs, ht⟩ := own_cells h hn
  simp only [Option.some.injEq, Addr.mk.injEq, and_true] at hA
  subst hA
  rw [List.take_of_length_le (by simp [hs])] at ht
  rw [← ht]
  exact hh
theorem made_ints (n : Nat) : (madeCells (Value.int .i64 0).cells (n * 1)).toList = ints (List.replicate n 0) := by
  rw [Nat.mul_one]
  refine (toList_madeCells_one _ _).trans ?_
  simp [ints]

theorem elems_off9 {w : World} {p : Addr} {u : Value} {A : Option Addr} {d n : Nat} {L : List Int} (h : Elems w w.heap.size (.slice A n d) (ints L)) (hp : L = [] ∨ (Value.slice A n d).ownBlock ≠ some p.block) : Elems (w.setCell p u) (w.setCell p u).heap.size (.slice A n d) (ints L) := by
  have hn : n = L.length := by
    obtain ⟨A', c', hf⟩ := h.form
    rw [ints_len] at hf
    simp only [Value.slice.injEq] at hf
    exact hf.2.1
  subst hn
  exact elems_off h hp

set_option maxRecDepth 100000 in
set_option maxHeartbeats 8000000 in
theorem reflect_any (c : CfgS) (v : Value) (w : World) (hE : Elems w w.heap.size v (ints c.cells)) (hl : c.cells.length ≤ 17592186044416) :
    Calls Tryd.prog 38 #[.agg #[.int .i64 c.st, .int .i64 c.pos, .int .i64 c.frm, v]] w (ConfRan (reflectC c) w) := by
  obtain ⟨A, cc, rfl⟩ := hE.form
  rw [ints_len] at hE ⊢
  have hbW := below2 w (.cells #[.int .i64 c.st, .int .i64 c.pos, .int .i64 c.frm, .slice A c.cells.length cc] 27) (.cells #[.int .i64 0, .int .i64 0, .int .i64 0, .slice none 0 0] 27)
  have HE := hid_ (hE.to hbW)
  have B1 := (Blk.new w 27 #[.int .i64 c.st, .int .i64 c.pos, .int .i64 c.frm, .slice A c.cells.length cc]).alloc (.cells #[.int .i64 0, .int .i64 0, .int .i64 0, .slice none 0 0] 27)
  have B2 := Blk.new (w.alloc (.cells #[.int .i64 c.st, .int .i64 c.pos, .int .i64 c.frm, .slice A c.cells.length cc] 27)) 27 #[.int .i64 0, .int .i64 0, .int .i64 0, .slice none 0 0]
  rw [show (w.alloc (.cells #[.int .i64 c.st, .int .i64 c.pos, .int .i64 c.frm, .slice A c.cells.length cc] 27)).heap.size = w.heap.size + 1 by simp] at B2
  have HB1 := hid_ B1
  have HB2 := hid_ B2
  clear hE B1 B2
  go_enter Tryd.func38, Tryd.ntmps38
  go_upto_region 1 with fail
  generalize (w.alloc (.cells #[.int .i64 c.st, .int .i64 c.pos, .int .i64 c.frm, .slice A c.cells.length cc] 27)).alloc (.cells #[.int .i64 0, .int .i64 0, .int .i64 0, .slice none 0 0] 27) = W at *
  have q0 := HB1.out.cell 0
  have q1 := HB1.out.cell 1
  have q2 := HB1.out.cell 2
  have q3 := HB1.out.cell 3
  simp at q0 q1 q2 q3
  go_wp2_with fail
  refine (fitsSome_any c _ W HE.out hl).mono ?_
  obtain ⟨bs, hbs⟩ : ∃ b, b = someC c := ⟨_, rfl⟩
  rw [← hbs]
  rintro e w2 ⟨rfl, hb2⟩
  replace HE := hid_ (HE.out.to hb2)
  replace HB1 := hid_ (HB1.out.to hb2)
  replace HB2 := hid_ (HB2.out.to hb2)
  replace hbW := bnext hbW hb2
  clear hb2 q0 q1 q2 q3
  cases bs with
  | false =>
    have HN : Hid (reflectC c = (noC, 1)) := hid_ (by rw [reflectC, if_pos hbs.symm])
    clear hbs
    have s0 := HB2.out.free 0
    have s1 := HB2.out.free 1
    have s2 := HB2.out.free 2
    have s3 := HB2.out.free 3
    have r0 := HB2.out.cell 0
    have r1 := HB2.out.cell 1
    have r2 := HB2.out.cell 2
    have r3 := HB2.out.cell 3
    simp at r0 r1 r2 r3
    go_wp2_with fail
    have BZ := ((((HB2.out).set_ 0 (.int .i64 0)).set_ 1 (.int .i64 0)).set_ 2 (.int .i64 0)).set_ 3 (.slice none 0 0)
    have e0 := BZ.cell 0
    have e1 := BZ.cell 1
    have e2 := BZ.cell 2
    have e3 := BZ.cell 3
    simp at e0 e1 e2 e3
    refine bodyPost_ret (v := .tuple #[.agg #[.int .i64 0, .int .i64 0, .int .i64 0, .slice none 0 0], .int .i64 1]) (by simp [results, Tryd.results38, go_sem, e0, e1, e2, e3]) rfl ?_
    exact ⟨none, 0, by rw [HN.out]; rfl, by rw [HN.out]; exact Elems.nil _ _, ((((hbW).setCell (by simp <;> omega) _).setCell (by simp <;> omega) _).setCell (by simp <;> omega) _).setCell (by simp <;> omega) _, .inl rfl⟩
  | true =>
    obtain ⟨w1, w2', w3, w4, w5, _, _⟩ := within_iff.1 hbs.symm
    have w3' : -1099511627776 ≤ c.pos ∧ c.pos ≤ 1099511627776 := inR_iff.1 w3
    have w4' : -1099511627776 ≤ c.frm ∧ c.frm ≤ 1099511627776 := inR_iff.1 w4
    have m1 : IntKind.i64.wrap (-c.pos) = -c.pos := IntWalk.i64_in _ (by omega)
    have HW4 := hid_ w4'
    have HS : Hid (reflectC c = if someC (reflectO c) = true then (reflectO c, 0) else (noC, 2)) := hid_ (by rw [reflectC, if_neg (by rw [← hbs]; simp)])
    clear hbs w1 w2' w3 w4 w3' w4'
    obtain ⟨W, rfl⟩ : ∃ X : World, X = w2 := ⟨_, rfl⟩
    have q0 := HB1.out.cell 0
    have q1 := HB1.out.cell 1
    have q2 := HB1.out.cell 2
    have q3 := HB1.out.cell 3
    simp at q0 q1 q2 q3
    go_upto_region 4 with fail
    have HF0 : ∃ F, F = (reflectO c).frm := ⟨_, rfl⟩
    obtain ⟨F, hF⟩ := HF0
    have HF := hid_ hF
    have ho1 := HB2.out.lt
    have HO := hid_ (Blk.new W 27 #[.int .i64 c.st, .int .i64 (-c.pos), .int .i64 0, .slice none 0 0])
    have hb1 := below1 W (.cells #[.int .i64 c.st, .int .i64 (-c.pos), .int .i64 0, .slice none 0 0] 27)
    have HB1x := hid_ (HB1.out.to hb1)
    clear q0 q1 q2 q3 hF m1
    generalize W.alloc (.cells #[.int .i64 c.st, .int .i64 (-c.pos), .int .i64 0, .slice none 0 0] 27) = W1 at *
    have q3 := HB1x.out.cell 3
    simp at q3
    go_upto_if 22 with fail
    go_cut [] (fun wx => ∃ (A9 : Option Addr) (d : Nat), Blk wx W.heap.size 27 #[.int .i64 c.st, .int .i64 (-c.pos), .int .i64 F, .slice A9 c.cells.length d] ∧ Elems wx wx.heap.size (.slice A9 c.cells.length d) (ints c.cells.reverse) ∧ Fresh W A9 ∧ Below W.heap.size W wx)
    case first => as_aux_lemma =>
      by_cases hn : c.cells.length = 0
      · have t6 : ¬ (0 : Int) < (c.cells.length : Int) := by omega
        have hnil : c.cells = [] := List.eq_nil_of_length_eq_zero hn
        have HFF : F = 0 := by rw [HF.out, reflectO]; simp [hn]
        clear HF hn
        subst HFF
        have HNIL := hid_ hnil
        clear hnil
        go_wp2_with fail
        go_meet
        exact ⟨none, 0, by rw [HNIL.out]; exact HO.out, by rw [HNIL.out]; exact Elems.nil _ _, .inl rfl, hb1⟩
      · have t6 : (0 : Int) < (c.cells.length : Int) := by omega
        have hpos : 0 < c.cells.length := by omega
        have HFF : -(c.frm + (c.cells.length : Int) - 1) = F := by rw [HF.out, reflectO]; simp only; rw [if_neg hn]
        have hw4 := HW4.out
        have m2 : IntKind.i64.wrap (c.frm + (c.cells.length : Int)) = c.frm + (c.cells.length : Int) := IntWalk.i64_in _ (by omega)
        have m3 : IntKind.i64.wrap (c.frm + (c.cells.length : Int) - 1) = c.frm + (c.cells.length : Int) - 1 := IntWalk.i64_in _ (by omega)
        have m4 : IntKind.i64.wrap (-(c.frm + (c.cells.length : Int) - 1)) = F := by rw [← HFF]; exact IntWalk.i64_in _ (by omega)
        have q2 := HB1x.out.cell 2
        have y2 := HO.out.cell 2
        have f2 := HO.out.free 2
        simp at q2 y2
        clear HFF hn hw4
        go_upto_region 7 with fail
        have HO2 := hid_ (HO.out.set_ 2 (.int .i64 F))
        have HO3 : Hid (Blk (W1.setCell ⟨W.heap.size, 2, none⟩ (.int .i64 F)) W.heap.size 27 #[.int .i64 c.st, .int .i64 (-c.pos), .int .i64 F, .slice none 0 0]) := hid_ HO2.out
        have hb2 := hb1.setCell (p := ⟨W.heap.size, 2, none⟩) (Nat.le_refl _) (.int .i64 F)
        clear HO HO2 hb1 m2 m3 m4 q2 y2 f2 q3 HB1x
        generalize W1.setCell ⟨W.heap.size, 2, none⟩ (.int .i64 F) = W2 at *
        obtain ⟨i0, hi, hz0, hz1, hz2⟩ := info_parts Tryd.infoI
        go_upto_region 8 with (at_make; refine wpList_make_full _ rfl _ _ 25 rfl W2.heap.size 3 i0 (.int .i64 0) 1 Tryd.underlying25 hi hz0 hz1 .i64 .i64 c.cells.length c.cells.length c.cells.length rfl rfl rfl rfl (by rw [hz2]; omega) (by unfold maxLen; omega) (Nat.le_refl _) ?_; intro w3 hown hgr; have k3 := (HO3.out.to (make_below hgr)).free 3; have l3 := (HO3.out.to (make_below hgr)).cell 3; simp at l3)
        rw [made_ints, ← turn_zero] at hown
        have hg9 : W.heap.size < W2.heap.size := HO3.out.lt
        have hR : Blk (w3.setCell ⟨W.heap.size, 3, none⟩ (.slice (some ⟨W2.heap.size, 0, none⟩) c.cells.length c.cells.length)) W2.heap.size 3 (ints (turnL c.cells 0)).toArray := (row_blk hown hpos).far (by simp; omega) _
        have hO : Blk (w3.setCell ⟨W.heap.size, 3, none⟩ (.slice (some ⟨W2.heap.size, 0, none⟩) c.cells.length c.cells.length)) W.heap.size 27 #[.int .i64 c.st, .int .i64 (-c.pos), .int .i64 F, .slice (some ⟨W2.heap.size, 0, none⟩) c.cells.length c.cells.length] := (HO3.out.to (make_below hgr)).set_ 3 _
        have hb3 : Below W.heap.size W (w3.setCell ⟨W.heap.size, 3, none⟩ (.slice (some ⟨W2.heap.size, 0, none⟩) c.cells.length c.cells.length)) := (bnext hb2 (make_below hgr)).setCell (Nat.le_refl _) _
        generalize w3.setCell ⟨W.heap.size, 3, none⟩ (.slice (some ⟨W2.heap.size, 0, none⟩) c.cells.length c.cells.length) = W4 at *
        generalize W2.heap.size = g at *
        clear hown hgr k3 l3 hb2 HO3
        have q3 := (HB1.out.to hb3).cell 3
        simp at q3
        have HO := hid_ hO
        have HR := hid_ hR
        clear hO hR
        go_wp2_with fail
        go_loopw [36] (fun s wr => ∃ k : Nat, s = .int .i64 (k : Int) ∧ k ≤ c.cells.length ∧ Hid (Blk wr g 3 (ints (turnL c.cells k)).toArray) ∧ Hid (Blk wr W.heap.size 27 #[.int .i64 c.st, .int .i64 (-c.pos), .int .i64 F, .slice (some ⟨g, 0, none⟩) c.cells.length c.cells.length]) ∧ Below W.heap.size W wr) (fun s _ => c.cells.length - (intOf s).toNat)
        case atStart => exact ⟨0, rfl, Nat.zero_le _, HR, HO, hb3⟩
        case round =>
          obtain ⟨k, rfl, hk, HRr, HOr, hbr⟩ := hrel
          clear q3
          by_cases hlt : k < c.cells.length
          · have HEr := HE.out.to hbr
            obtain ⟨b1, o1, rfl, hb9, hc1⟩ := HEr.at_ (by omega)
            obtain ⟨x, hx⟩ : ∃ x, c.cells[k]? = some x := ⟨_, List.getElem?_eq_getElem hlt⟩
            have i1 := hc1 k _ (ints_at hx)
            have t0 : 0 ≤ (k : Int) := by omega
            obtain ⟨j, hj⟩ : ∃ j, j = c.cells.length - 1 - k := ⟨_, rfl⟩
            have m5 : IntKind.i64.wrap ((c.cells.length : Int) - 1) = ((c.cells.length - 1 : Nat) : Int) := by rw [IntWalk.i64_in _ (by omega)]; omega
            have m6 : IntKind.i64.wrap (((c.cells.length - 1 : Nat) : Int) - (k : Int)) = (j : Int) := by rw [IntWalk.i64_in _ (by omega)]; omega
            have t1 : 0 ≤ (j : Int) := by omega
            have t2 : (j : Int) < (c.cells.length : Int) := by omega
            have y3 := HOr.out.cell 3
            have f3 := HRr.out.free j
            have x3 := HRr.out.cell j
            have hjl : j < (ints (turnL c.cells k)).toArray.size := by simp [ints, turn_len hk]; omega
            rw [Array.getElem?_eq_getElem hjl] at x3
            simp only [List.getElem?_toArray] at y3
            simp at y3
            have HTS := hid_ (turn_step hx)
            rw [← hj] at HTS
            clear hx hc1 hj HEr
            generalize (ints (turnL c.cells k)).toArray[j] = old at *
            go_wp2_with fail
            go_roundw
            case rel =>
              refine ⟨k + 1, by go_num, by omega, hid_ ?_, hid_ (HOr.out.far (p := ⟨g, j, none⟩) (by simp; omega) _), hbr.setCell (by simp; omega) _⟩
              have h9 := HRr.out.set_ j (.int .i64 x)
              rw [ints_set, HTS.out] at h9
              exact h9
            case measure => simp [intOf]; omega
          · obtain rfl : k = c.cells.length := by omega
            rw [turn_all] at HRr
            go_wp2_with fail
            go_meet
            exact ⟨some ⟨g, 0, none⟩, c.cells.length, HOr.out, blk_elems HRr.out rfl (by simp [ints]), .inr ⟨g, 0, rfl, by omega⟩, hbr⟩
    case rest => as_aux_lemma =>
    obtain ⟨A9, d, hB, hEg, hne, hbc⟩ := hcut
    obtain ⟨Y, rfl⟩ : ∃ X : World, X = wc := ⟨_, rfl⟩
    have HB2 := hid_ (HB2.out.to hbc)
    have hbY := bnext hbW hbc
    have HA := hid_ hB
    have HG := hid_ hEg
    have HNE := hid_ hne
    clear hB hEg hne hbc q3 HB1 HB1x hbW HE hb1 HO
    obtain ⟨bo, hbo⟩ : ∃ b, b = someC (reflectO c) := ⟨_, rfl⟩
    have HSC : Hid (reflectC c = if bo = true then (reflectO c, 0) else (noC, 2)) := hid_ (by rw [hbo]; exact HS.out)
    have HFT : Hid (∀ X, Elems X X.heap.size (.slice A9 c.cells.length d) (ints c.cells.reverse) → Calls Tryd.prog 65 #[.agg #[.int .i64 c.st, .int .i64 (-c.pos), .int .i64 F, .slice A9 c.cells.length d]] X fun e w' => e = .returned (.bool bo) ∧ Below X.heap.size X w') := hid_ (fun X h => by rw [hbo, HF.out]; exact fitsSome_any (reflectO c) _ X h (by simp [reflectO]; omega))
    clear hbo HS
    have y0 := HA.out.cell 0
    have y1 := HA.out.cell 1
    have y2 := HA.out.cell 2
    have y3 := HA.out.cell 3
    simp at y0 y1 y2 y3
    go_upto_if 52 with (go_at_call 65; (with_reducible refine (HFT.out Y HG.out).mono ?_); rintro e w5 ⟨rfl, hb5⟩)
    have HB2 := hid_ (HB2.out.to hb5)
    have HA := hid_ (HA.out.to hb5)
    have HG := hid_ (HG.out.to hb5)
    have hbY := bnext hbY hb5
    clear hb5 y0 y1 y2 y3 HFT
    cases bo with
    | false =>
      have HN : Hid (reflectC c = (noC, 2)) := hid_ (by rw [HSC.out]; simp)
      have s0 := HB2.out.free 0
      have s1 := HB2.out.free 1
      have s2 := HB2.out.free 2
      have s3 := HB2.out.free 3
      have r0 := HB2.out.cell 0
      have r1 := HB2.out.cell 1
      have r2 := HB2.out.cell 2
      have r3 := HB2.out.cell 3
      simp at r0 r1 r2 r3
      go_wp2_with fail
      have BZ := ((((HB2.out).set_ 0 (.int .i64 0)).set_ 1 (.int .i64 0)).set_ 2 (.int .i64 0)).set_ 3 (.slice none 0 0)
      have e0 := BZ.cell 0
      have e1 := BZ.cell 1
      have e2 := BZ.cell 2
      have e3 := BZ.cell 3
      simp at e0 e1 e2 e3
      refine bodyPost_ret (v := .tuple #[.agg #[.int .i64 0, .int .i64 0, .int .i64 0, .slice none 0 0], .int .i64 2]) (by simp [results, Tryd.results38, go_sem, e0, e1, e2, e3]) rfl ?_
      exact ⟨none, 0, by rw [HN.out]; rfl, by rw [HN.out]; exact Elems.nil _ _, ((((hbY).setCell (by simp <;> omega) _).setCell (by simp <;> omega) _).setCell (by simp <;> omega) _).setCell (by simp <;> omega) _, .inl rfl⟩
    | true =>
      have HN : Hid (reflectC c = (reflectO c, 0)) := hid_ (by rw [HSC.out]; simp)
      have y0 := HA.out.cell 0
      have y1 := HA.out.cell 1
      have y2 := HA.out.cell 2
      have y3 := HA.out.cell 3
      simp at y0 y1 y2 y3
      have hnx : c.cells.reverse = [] ∨ (Value.slice A9 c.cells.length d).ownBlock ≠ some (w.heap.size + 1) := .inr (HNE.out.ne (by omega))
      have s0 := HB2.out.free 0
      have s1 := HB2.out.free 1
      have s2 := HB2.out.free 2
      have s3 := HB2.out.free 3
      have r0 := HB2.out.cell 0
      have r1 := HB2.out.cell 1
      have r2 := HB2.out.cell 2
      have r3 := HB2.out.cell 3
      simp at r0 r1 r2 r3
      go_wp2_with fail
      have BZ := ((((HB2.out).set_ 0 (.int .i64 c.st)).set_ 1 (.int .i64 (-c.pos))).set_ 2 (.int .i64 F)).set_ 3 (.slice A9 c.cells.length d)
      have e0 := BZ.cell 0
      have e1 := BZ.cell 1
      have e2 := BZ.cell 2
      have e3 := BZ.cell 3
      simp at e0 e1 e2 e3
      refine bodyPost_ret (v := .tuple #[.agg #[.int .i64 c.st, .int .i64 (-c.pos), .int .i64 F, .slice A9 c.cells.length d], .int .i64 0]) (by simp [results, Tryd.results38, go_sem, e0, e1, e2, e3]) rfl ?_
      have hEZ := elems_off9 (p := ⟨w.heap.size + 1, 3, none⟩) (u := .slice A9 c.cells.length d) (elems_off9 (p := ⟨w.heap.size + 1, 2, none⟩) (u := .int .i64 F) (elems_off9 (p := ⟨w.heap.size + 1, 1, none⟩) (u := .int .i64 (-c.pos)) (elems_off9 (p := ⟨w.heap.size + 1, 0, none⟩) (u := .int .i64 c.st) (HG.out) hnx) hnx) hnx) hnx
      rw [HN.out]
      exact ⟨A9, d, by rw [HF.out]; simp [reflectO], by simpa [reflectO] using hEZ, ((((hbY).setCell (by simp <;> omega) _).setCell (by simp <;> omega) _).setCell (by simp <;> omega) _).setCell (by simp <;> omega) _, HNE.out.mono (by omega)⟩
end Go.Proofs.YtkbaiegfloajlaaDoor.Tp

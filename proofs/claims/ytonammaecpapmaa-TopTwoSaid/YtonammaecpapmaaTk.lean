/- Contracts: newBand of package tape. -/
import Derived.Test.YtonammaecpapmaaTe
namespace Go.Proofs.Ytonammaecpapmaa.Tp
open Go.RowKit

theorem innerL_snoc {b : Int} {l : List Int} {k : Nat} {x : Int} (h : l[k]? = some x) : innerL b (l.take (k + 1)) = innerL b (l.take k) + (if x ≠ 0 ∧ ¬ maxPos < b + k then 1 else 0) := by
  have hk : k < l.length := (List.getElem?_eq_some_iff.1 h).1
  rw [List.take_add_one, h, Option.toList_some, innerL_append, List.length_take, Nat.min_eq_left (by omega), innerL, innerL]
  omega
theorem outerL_snoc {b : Int} {l : List Int} {k : Nat} {x : Int} (h : l[k]? = some x) : outerL b (l.take (k + 1)) = (outerL b (l.take k) || decide (x ≠ 0 ∧ maxPos < b + k)) := by
  have hk : k < l.length := (List.getElem?_eq_some_iff.1 h).1
  rw [List.take_add_one, h, Option.toList_some, outerL_append, List.length_take, Nat.min_eq_left (by omega), outerL, outerL]
  simp
theorem BAt.base {w : World} {B B' go : Nat} {b : Band} (h : BAt w B go b) (hB : B' ≤ B) : BAt w B' go b := by
  obtain ⟨A, c, h1, h2, h3, h4⟩ := h
  exact ⟨A, c, h1, own_base h2 hB, by omega, h4⟩

set_option maxRecDepth 100000 in
set_option maxHeartbeats 4000000 in
theorem newBand_any (c : CfgS) (v : Value) (w : World) (hE : Elems w w.heap.size v (ints c.cells)) (hl : c.cells.length ≤ 100000) (hf : inR c.frm = true) :
    Calls Try.prog 30 #[.agg #[.int .i64 c.st, .int .i64 c.pos, .int .i64 c.frm, v]] w fun e w' => ∃ go, e = .returned (.pointer (some ⟨go, 0, none⟩)) ∧ BAt w' w.heap.size go (newB c) ∧ Below w.heap.size w w' := by
  obtain ⟨st, pos, frm, cells⟩ := c
  simp only at hE hl hf ⊢
  have hr := inR_iff.1 hf
  unfold maxPos at hr
  obtain ⟨A, cap, rfl⟩ := hE.form
  rw [ints_len] at hE ⊢
  have HE := hid_ hE
  clear hE hf
  go_enter Try.func30, Try.ntmps30
  go_upto_region 1 with fail
  have BX := Blk.new w 50 #[.int .i64 st, .int .i64 pos, .int .i64 frm, .slice A cells.length cap]
  have hbW := below1 w (.cells #[.int .i64 st, .int .i64 pos, .int .i64 frm, .slice A cells.length cap] 50)
  generalize w.alloc (.cells #[.int .i64 st, .int .i64 pos, .int .i64 frm, .slice A cells.length cap] 50) = W at *
  have p0 := BX.cell 0
  have p1 := BX.cell 1
  have p2 := BX.cell 2
  have p3 := BX.cell 3
  have hlt := BX.lt
  simp at p0 p1 p2 p3
  have HBX := hid_ BX
  clear BX
  go_cut [3] (fun s3 wx => ∃ go, s3 = .pointer (some ⟨go, 0, none⟩) ∧ BAt wx W.heap.size go ⟨st, pos, frm, cells, 0, 0, 0, false⟩ ∧ Below W.heap.size W wx)
  case first => as_aux_lemma =>
    go_region_held3 (fun w' => w'.cell? ⟨w.heap.size, 0, none⟩ = some (.int .i64 st) ∧ w'.cell? ⟨w.heap.size, 1, none⟩ = some (.int .i64 pos) ∧ w'.cell? ⟨w.heap.size, 2, none⟩ = some (.int .i64 frm) ∧ w'.cell? ⟨w.heap.size, 3, none⟩ = some (.slice A cells.length cap) ∧ Below W.heap.size W w')
      (first | assumption | exact ⟨p0, p1, p2, p3, (Below.refl _ _).drew⟩ | exact ⟨p0, p1, p2, p3, Below.refl _ _⟩ | exact ⟨keepc HZ.out p0, keepc HZ.out p1, keepc HZ.out p2, keepc HZ.out p3, HZ.out⟩ | exact ⟨keepa _ (keepc HZ.out p0), keepa _ (keepc HZ.out p1), keepa _ (keepc HZ.out p2), keepa _ (keepc HZ.out p3), HZ.out.alloc HZ.out.size _⟩)
      (first
        | (go_at_call 42; obtain ⟨-, -, -, -, hSb⟩ : _ ∧ _ ∧ _ ∧ _ ∧ Below W.heap.size W _ := (by assumption); refine (copied_any cells _ _ (HE.out.to (bnext hbW hSb)) (by omega)).mono ?_; rintro e w3 ⟨rfl, hown, hb3⟩; have HO := hid_ (own_base hown hSb.size); have HZ : Hid (Below W.heap.size W w3) := hid_ (bnext hSb hb3); clear hown hb3))
    go_wp2_with fail
    go_meet
    have hW3 := HO.out.lt W.heap.size rfl
    refine ⟨w3.heap.size, rfl, ⟨some ⟨W.heap.size, 0, none⟩, cells.length, Blk.new _ _ _, HO.out.alloc _, HZ.out.size, fun e => ?_⟩, HZ.out.alloc HZ.out.size _⟩
    simp [Value.ownBlock] at e
    omega
  case rest => as_aux_lemma =>
    obtain ⟨go, rfl, hb, hbx⟩ := hcut
    obtain ⟨X, rfl⟩ : ∃ X : World, X = wc := ⟨_, rfl⟩
    have HB0 := hid_ hb
    replace p2 := keepc hbx p2
    replace p3 := keepc hbx p3
    have hB : W.heap.size ≤ go := by obtain ⟨_, _, _, _, h3, _⟩ := hb; exact h3
    obtain ⟨A9, c9, ⟨c0, c1, c2', c3, c4, c5, c6, c7⟩, hf, hown, _, hne, hbxx⟩ := hb.cells
    have f4 := hf 4
    have f5 := hf 5
    have hneW : go ≠ w.heap.size := by omega
    have m1 : IntKind.i64.wrap (frm + cells.length) = frm + cells.length := IntWalk.i64_in _ (by omega)
    have m2 : IntKind.i64.wrap (frm + cells.length - 1) = frm + cells.length - 1 := IntWalk.i64_in _ (by omega)
    clear hb c0 c1 c2' c3 c6 c7 hf hown hne hbxx p0 p1
    go_upto_region 2 with fail
    go_region
    have HB1 : Hid (BAt ((X.setCell ⟨go, 4, none⟩ (.int .i64 frm)).setCell ⟨go, 5, none⟩ (.int .i64 (frm + cells.length - 1))).drew W.heap.size go ⟨st, pos, frm, cells, frm, frm + cells.length - 1, 0, false⟩) := hid_ (((HB0.out.set4 frm).set5 (frm + cells.length - 1)).dN 1)
    have hb1 : Below W.heap.size W ((X.setCell ⟨go, 4, none⟩ (.int .i64 frm)).setCell ⟨go, 5, none⟩ (.int .i64 (frm + cells.length - 1))).drew := (below_set (below_set hbx hB 4 _) hB 5 _).drew
    clear HB0 hbx p2 p3 c4 c5 f4 f5 m1 m2
    generalize ((X.setCell ⟨go, 4, none⟩ (.int .i64 frm)).setCell ⟨go, 5, none⟩ (.int .i64 (frm + cells.length - 1))).drew = Y at *
    have p3 := (HBX.out.to hb1).cell 3
    simp at p3
    go_wp2_with fail
    go_loopw [35] (fun s wr => ∃ k : Nat, s = .int .i64 ((k : Nat) : Int) ∧ k ≤ cells.length ∧ Hid (BAt wr W.heap.size go ⟨st, pos, frm, cells, frm, frm + cells.length - 1, innerL frm (cells.take k), outerL frm (cells.take k)⟩) ∧ Below W.heap.size W wr) (fun s _ => cells.length - (intOf s).toNat)
    case atStart => exact ⟨0, rfl, Nat.zero_le _, HB1, hb1⟩
    case round =>
      obtain ⟨k, rfl, hk, HB, hbr⟩ := hrel
      have q3 := (HBX.out.to hbr).cell 3
      have q2 := (HBX.out.to hbr).cell 2
      simp at q3 q2
      by_cases hlt : k < cells.length
      · obtain ⟨x, hx⟩ : ∃ x, cells[k]? = some x := ⟨_, List.getElem?_eq_getElem hlt⟩
        obtain ⟨b, off, rfl, hb, hc⟩ := HE.out.at_ (by omega)
        have cx := keepc (bnext hbW hbr) (hc k _ (ints_at hx))
        have HX := hid_ hx
        obtain ⟨A9, c9, ⟨c0, c1, c2', c3, c4, c5, c6, c7⟩, hf, hown, _, hne, hbxx⟩ := HB.out.cells
        have f6 := hf 6
        have f7 := hf 7
        simp only at c6 c7
        have k0 : 0 ≤ ((k : Nat) : Int) := by omega
        have m1 : IntKind.i64.wrap (frm + (k : Int)) = frm + (k : Int) := IntWalk.i64_in _ (by omega)
        have hin := innerL_nonneg frm (cells.take k)
        have hil := innerL_le frm (cells.take k)
        have htl : (cells.take k).length ≤ 100000 := by rw [List.length_take]; omega
        obtain ⟨iv, hiv⟩ : ∃ iv, iv = innerL frm (cells.take k) := ⟨_, rfl⟩
        rw [← hiv] at hin hil c6
        have m2 : IntKind.i64.wrap (iv + 1) = iv + 1 := IntWalk.i64_in _ (by omega)
        have HIV := hid_ hiv
        clear hx hc c0 c1 c2' c3 c4 c5 hf hown hne hbxx hiv hin hil htl
        by_cases hx0 : x = 0
        · subst hx0
          have HI : Hid (innerL frm (cells.take (k + 1)) = innerL frm (cells.take k)) := hid_ (by rw [innerL_snoc HX.out, if_neg (by simp)]; omega)
          have HO : Hid (outerL frm (cells.take (k + 1)) = outerL frm (cells.take k)) := hid_ (by rw [outerL_snoc HX.out]; simp)
          go_wp2_with fail
          go_roundw
          case rel => exact ⟨k + 1, by go_num, by omega, hid_ (by rw [HI.out, HO.out]; exact HB.out), hbr⟩
          case measure => simp [intOf]; omega
        · have hx1 : (x != 0) = true := by simpa using hx0
          have HX0 := hid_ hx0
          clear hx0
          by_cases hp : 1099511627776 < frm + (k : Int)
          · have HI : Hid (innerL frm (cells.take (k + 1)) = innerL frm (cells.take k)) := hid_ (by rw [innerL_snoc HX.out, if_neg (by unfold maxPos; omega)]; omega)
            have HO : Hid (outerL frm (cells.take (k + 1)) = true) := hid_ (by rw [outerL_snoc HX.out, decide_eq_true ⟨HX0.out, hp⟩, Bool.or_true])
            go_wp2_with fail
            go_roundw
            case rel => exact ⟨k + 1, by go_num, by omega, hid_ (by rw [HI.out, HO.out]; exact HB.out.set7 true), below_set hbr hB 7 _⟩
            case measure => simp [intOf]; omega
          · have HI : Hid (innerL frm (cells.take (k + 1)) = iv + 1) := hid_ (by rw [innerL_snoc HX.out, if_pos ⟨HX0.out, hp⟩, HIV.out])
            have HO : Hid (outerL frm (cells.take (k + 1)) = outerL frm (cells.take k)) := hid_ (by rw [outerL_snoc HX.out, decide_eq_false (fun h => hp h.2), Bool.or_false])
            go_wp2_with fail
            go_roundw
            case rel => exact ⟨k + 1, by go_num, by omega, hid_ (by rw [HI.out, HO.out]; exact HB.out.set6 (iv + 1)), below_set hbr hB 6 _⟩
            case measure => simp [intOf]; omega
      · go_wp2_with fail
        go_ret
        have hh := HB.out
        rw [show k = cells.length by omega, List.take_length] at hh
        exact ⟨go, rfl, hh.base hbW.size, bnext hbW hbr⟩
end Go.Proofs.Ytonammaecpapmaa.Tp

/- Contracts: Put of the specification. -/
import Derived.Test.YtkbaiegfloajlaaDoorWj
import Derived.Test.YtkbaiegfloajlaaDoorWd
import Derived.Test.YtkbaiegfloajlaaDoorVd
namespace Go.Proofs.YtkbaiegfloajlaaDoor.Tp
open Go.RowKit

/-- No slice of a block that was there before. -/
def Fresh (w : World) (A : Option Addr) : Prop := A = none ∨ ∃ g k, A = some ⟨g, k, none⟩ ∧ w.heap.size ≤ g

def PutRan (c : CfgS) (x : Int) (w : World) (e : Ending) (w' : World) : Prop :=
  ∃ (s p F : Int) (A : Option Addr) (d : Nat) (L : List Int) (ok : Bool), e = .returned (.tuple #[.agg #[.int .i64 s, .int .i64 p, .int .i64 F, .slice A L.length d], .bool ok]) ∧ Elems w' w'.heap.size (.slice A L.length d) (ints L) ∧ Below w.heap.size w w' ∧ L.length ≤ 100001 ∧ Fresh w A ∧
    ((ok = false ∧ 100000 < (normL (putL c.frm c.cells c.pos x).1 (putL c.frm c.cells c.pos x).2).2.length) ∨ (ok = true ∧ s = c.st ∧ p = c.pos ∧ F = (normL (putL c.frm c.cells c.pos x).1 (putL c.frm c.cells c.pos x).2).1 ∧ L = (normL (putL c.frm c.cells c.pos x).1 (putL c.frm c.cells c.pos x).2).2 ∧ (normL (putL c.frm c.cells c.pos x).1 (putL c.frm c.cells c.pos x).2).2.length ≤ 100000))

def lenS : Value → Nat
  | .slice _ n _ => n
  | _ => 0
theorem ints_snoc (l : List Int) (x : Int) : ints (l ++ [x]) = ints l ++ [.int .i64 x] := by simp [ints]

set_option maxRecDepth 100000 in
set_option maxHeartbeats 8000000 in
theorem rput_any (c : CfgS) (x : Int) (v : Value) (w : World) (hE : Elems w w.heap.size v (ints c.cells)) (hl : c.cells.length ≤ 100000) (hp : -1099511627776 ≤ c.pos ∧ c.pos ≤ 1099511627776) (hf : -1099511627776 ≤ c.frm ∧ c.frm ≤ 1099511627776) (hn : Norm c.frm c.cells) :
    Calls Tryd.prog 49 #[.agg #[.int .i64 c.st, .int .i64 c.pos, .int .i64 c.frm, v], .int .i64 x] w (PutRan c x w) := by
  obtain ⟨A, cc, rfl⟩ := hE.form
  rw [ints_len] at hE ⊢
  have hbW := below2 w (.cells #[.int .i64 c.st, .int .i64 c.pos, .int .i64 c.frm, .slice A c.cells.length cc] 27) (.cells #[.int .i64 0, .int .i64 0, .int .i64 0, .slice none 0 0] 27)
  have HE := hid_ (hE.to hbW)
  have B2 := (Blk.new w 27 #[.int .i64 c.st, .int .i64 c.pos, .int .i64 c.frm, .slice A c.cells.length cc]).alloc (.cells #[.int .i64 0, .int .i64 0, .int .i64 0, .slice none 0 0] 27)
  have B4 := Blk.new (w.alloc (.cells #[.int .i64 c.st, .int .i64 c.pos, .int .i64 c.frm, .slice A c.cells.length cc] 27)) 27 #[.int .i64 0, .int .i64 0, .int .i64 0, .slice none 0 0]
  rw [show (w.alloc (.cells #[.int .i64 c.st, .int .i64 c.pos, .int .i64 c.frm, .slice A c.cells.length cc] 27)).heap.size = w.heap.size + 1 by simp] at B4
  have HB2 := hid_ B2
  have HB4 := hid_ B4
  clear B2 B4 hE
  have m1 : IntKind.i64.wrap (c.frm + (c.cells.length : Int)) = c.frm + (c.cells.length : Int) := IntWalk.i64_in _ (by omega)
  have m2 : IntKind.i64.wrap (c.pos + 1) = c.pos + 1 := IntWalk.i64_in _ (by omega)
  obtain ⟨F0, hF0⟩ : ∃ z, z = if x ≠ 0 ∧ c.cells.length = 0 then c.pos else c.frm := ⟨_, rfl⟩
  obtain ⟨T0, hT0⟩ : ∃ z, z = if x ≠ 0 ∧ c.cells.length = 0 then c.pos else c.frm + (c.cells.length : Int) := ⟨_, rfl⟩
  have HF0 := hid_ hF0
  have HT0 := hid_ hT0
  clear hF0 hT0
  go_enter Tryd.func49, Tryd.ntmps49
  go_upto_region 1 with fail
  generalize (w.alloc (.cells #[.int .i64 c.st, .int .i64 c.pos, .int .i64 c.frm, .slice A c.cells.length cc] 27)).alloc (.cells #[.int .i64 0, .int .i64 0, .int .i64 0, .slice none 0 0] 27) = W at *
  have q0 := HB2.out.cell 0
  have q1 := HB2.out.cell 1
  have q2 := HB2.out.cell 2
  have q3 := HB2.out.cell 3
  simp at q0 q1 q2 q3
  go_quiet (fail)
  go_upto_region 2 with fail
  obtain ⟨W1, hW1⟩ : ∃ X, X = W.drewN nq := ⟨_, rfl⟩
  rw [← hW1]
  have hb1 : Below W.heap.size W W1 := by rw [hW1]; exact below_drewN (Below.refl _ _) _
  have HE1 := hid_ (HE.out.to hb1)
  have HB2a := hid_ (HB2.out.to hb1)
  have HB4a := hid_ (HB4.out.to hb1)
  have hbW1 := bnext hbW hb1
  clear hW1 hb1 HE HB2 HB4 hbW q0 q1 q2 q3
  have q0 := HB2a.out.cell 0
  have q1 := HB2a.out.cell 1
  have q2 := HB2a.out.cell 2
  have q3 := HB2a.out.cell 3
  simp at q0 q1 q2 q3
  obtain ⟨b0, hb0⟩ : ∃ b, b = decide (x ≠ 0 ∧ c.cells.length = 0) := ⟨_, rfl⟩
  go_cut [25] (fun s wx => s = .bool b0 ∧ wx = W1)
  case first => as_aux_lemma =>
    by_cases h1 : x = 0
    · have hb : b0 = false := by rw [hb0]; simp [h1]
      subst hb
      clear hb0
      subst h1
      go_wp2_with fail
      go_meet
      exact ⟨rfl, rfl⟩
    · by_cases h2 : c.cells.length = 0
      · have hb : b0 = true := by rw [hb0]; simp [h1, h2]
        have h3 : (x != 0) = true := by simp [h1]
        have h4 : ((c.cells.length : Int) == 0) = true := by simp [h2]
        subst hb
        clear hb0 h1 h2
        go_wp2_with fail
        go_meet
        exact ⟨rfl, rfl⟩
      · have hb : b0 = false := by rw [hb0]; simp [h2]
        have h3 : (x != 0) = true := by simp [h1]
        have h4 : ((c.cells.length : Int) == 0) = false := beq_eq_false_iff_ne.2 (by omega)
        subst hb
        clear hb0 h1 h2
        go_wp2_with fail
        go_meet
        exact ⟨rfl, rfl⟩
  case rest => as_aux_lemma =>
  obtain ⟨rfl, rfl⟩ := hcut
  obtain ⟨W1, rfl⟩ : ∃ X : World, X = wc := ⟨_, rfl⟩
  go_upto_if 25 with fail
  go_cut [6, 7] (fun s t wx => s = .int .i64 F0 ∧ t = .int .i64 T0 ∧ Below W1.heap.size W1 wx)
  case first => as_aux_lemma =>
    cases b0 with
    | true =>
      have H := hid_ (of_decide_eq_true hb0.symm)
      clear hb0
      go_upto_region 3 with fail
      go_quiet (fail)
      go_wp2_with fail
      go_meet
      exact ⟨by rw [HF0.out, if_pos H.out], by rw [HT0.out, if_pos H.out], below_drewN (Below.refl _ _) _⟩
    | false =>
      have H := hid_ (of_decide_eq_false hb0.symm)
      clear hb0
      go_wp2_with fail
      go_meet
      exact ⟨by rw [HF0.out, if_neg H.out], by rw [HT0.out, if_neg H.out], Below.refl _ _⟩
  case rest => as_aux_lemma =>
  obtain ⟨rfl, rfl, hbc⟩ := hcut
  clear hb0 q0 q1 q2 q3
  have HE2 := hid_ (HE1.out.to hbc)
  have HB2b := hid_ (HB2a.out.to hbc)
  have HB4b := hid_ (HB4a.out.to hbc)
  have hbW2 := bnext hbW1 hbc
  clear HE1 HB2a HB4a hbW1 hbc
  obtain ⟨W2, rfl⟩ : ∃ X : World, X = wc := ⟨_, rfl⟩
  have q1 := HB2b.out.cell 1
  simp at q1
  go_upto_if 31 with fail
  have hfb : (-1099511627776 ≤ F0 ∧ F0 ≤ 1099511627776) ∧ (-1099511727776 ≤ T0 ∧ T0 ≤ 1099511727776) := by
    have h1 := HF0.out; have h2 := HT0.out
    split at h1 <;> split at h2 <;> omega
  have hFB : (x = 0 → (putB c x).1 = F0 ∧ (putB c x).2 = T0) ∧ (x ≠ 0 → (putB c x).1 = min F0 c.pos ∧ (putB c x).2 = max T0 (c.pos + 1)) := by
    have h1 := HF0.out; have h2 := HT0.out
    constructor
    · intro h
      rw [if_neg (by simp [h])] at h1 h2
      unfold putB
      rw [if_pos h, h1, h2]
      exact ⟨rfl, rfl⟩
    · intro h
      unfold putB
      rw [if_neg h]
      by_cases h0 : c.cells.length = 0
      · rw [if_pos ⟨h, h0⟩] at h1 h2
        rw [if_pos h0, h1, h2]
        constructor <;> simp <;> omega
      · rw [if_neg (fun e => h0 e.2)] at h1 h2
        rw [if_neg h0, h1, h2]
        exact ⟨rfl, rfl⟩
  have HFB := hid_ hFB
  obtain ⟨F, hF⟩ : ∃ z, z = (putB c x).1 := ⟨_, rfl⟩
  obtain ⟨T, hT⟩ : ∃ z, z = (putB c x).2 := ⟨_, rfl⟩
  rw [← hF, ← hT] at HFB
  have HF := hid_ hF
  have HT := hid_ hT
  clear hFB hF hT HF0 HT0
  go_cut [6, 7] (fun s t wx => s = .int .i64 F ∧ t = .int .i64 T ∧ Below W2.heap.size W2 wx)
  case first => as_aux_lemma =>
    by_cases h : x = 0
    · obtain ⟨h1, h2⟩ := HFB.out.1 h
      subst h
      go_wp2_with fail
      go_meet
      exact ⟨by rw [h1], by rw [h2], Below.refl _ _⟩
    · obtain ⟨h1, h2⟩ := HFB.out.2 h
      have h3 : (x != 0) = true := by simp [h]
      have H1 := hid_ h1
      have H2 := hid_ h2
      clear h h1 h2
      go_upto_region 5 with fail
      go_region_held3 (fun w' => w'.cell? ⟨w.heap.size, 1, none⟩ = some (.int .i64 c.pos) ∧ Below W2.heap.size W2 w')
        (first | assumption | exact ⟨q1, (Below.refl _ _).drew⟩ | exact ⟨q1, Below.refl _ _⟩)
        (fail)
      go_wp2_with fail
      all_goals
        go_meet
        exact ⟨congrArg _ (by have := H1.out; omega), congrArg _ (by have := H2.out; omega), below_drewN (Below.refl _ _) _⟩
  case rest => as_aux_lemma =>
  obtain ⟨rfl, rfl, hbc⟩ := hcut
  have hfT : F ≤ T := by rw [HF.out, HT.out]; exact putB_size c x
  have hfb2 : (-1099511627776 ≤ F ∧ F ≤ 1099511627776) ∧ (-1099511727776 ≤ T ∧ T ≤ 1099511727776) := by
    by_cases h : x = 0
    · obtain ⟨h1, h2⟩ := HFB.out.1 h
      omega
    · obtain ⟨h1, h2⟩ := HFB.out.2 h
      omega
  have HE3 := hid_ (HE2.out.to hbc)
  have HB2c := hid_ (HB2b.out.to hbc)
  have HB4c := hid_ (HB4b.out.to hbc)
  have hbW3 := bnext hbW2 hbc
  clear q1 HE2 HB2b HB4b hbW2 hbc HFB hfb
  obtain ⟨W3, rfl⟩ : ∃ X : World, X = wc := ⟨_, rfl⟩
  obtain ⟨N, hN⟩ := Int.eq_ofNat_of_zero_le (show 0 ≤ T - F by omega)
  have hN' : F + N = T := by omega
  have m3 : IntKind.i64.wrap (T - F) = (N : Int) := by rw [IntWalk.i64_in _ (by omega)]; exact hN
  clear hN
  by_cases hbig : 100001 < N
  · have HBIG := hid_ (put_long (x := x) hn hl (by rw [← HF.out, ← HT.out]; omega))
    have t1 : (100001 : Int) < (N : Int) := by omega
    have r0 := HB4c.out.cell 0
    have r1 := HB4c.out.cell 1
    have r2 := HB4c.out.cell 2
    have r3 := HB4c.out.cell 3
    have s0 := HB4c.out.free 0
    have s1 := HB4c.out.free 1
    have s2 := HB4c.out.free 2
    have s3 := HB4c.out.free 3
    simp at r0 r1 r2 r3
    clear hbig
    go_wp2_with fail
    have BZ := (((HB4c.out.set_ 0 (.int .i64 0)).set_ 1 (.int .i64 0)).set_ 2 (.int .i64 0)).set_ 3 (.slice none 0 0)
    have e0 := BZ.cell 0
    have e1 := BZ.cell 1
    have e2 := BZ.cell 2
    have e3 := BZ.cell 3
    simp at e0 e1 e2 e3
    refine bodyPost_ret (v := .tuple #[.agg #[.int .i64 0, .int .i64 0, .int .i64 0, .slice none 0 0], .bool false]) (by simp [results, Tryd.results49, go_sem, e0, e1, e2, e3]) rfl ?_
    exact ⟨0, 0, 0, none, 0, [], false, rfl, Elems.nil _ _, (((hbW3.setCell (by simp) _).setCell (by simp) _).setCell (by simp) _).setCell (by simp) _, by simp, .inl rfl, .inl ⟨rfl, HBIG.out⟩⟩
  have t1 : ¬ (100001 : Int) < (N : Int) := by omega
  obtain ⟨i0, hi, hz0, hz1, hz2⟩ := info_parts Tryd.infoI
  go_wp2_with fail
  go_loopw [8, 9] (fun s i wr => ∃ (j : Nat) (A8 : Option Addr) (c8 : Nat), s = .slice A8 j c8 ∧ i = .int .i64 (F + (j : Int)) ∧ j ≤ N ∧ Hid (wr.ownsRow W3.heap.size 3 1 (.slice A8 j c8) j (ints (fullL F j (putV c x)))) ∧ Below W3.heap.size W3 wr) (fun s i _ => (T - RowKit.intOf i).toNat)
  case atStart => exact ⟨0, none, 0, rfl, by simp, Nat.zero_le _, hid_ (own_nil _ _ _), Below.refl _ _⟩
  case round =>
    obtain ⟨j, A8, c8, rfl, rfl, hj, HU, hbr⟩ := hrel
    have hwr := bnext hbW3 hbr
    have HBr := hid_ (HB2c.out.to hbr)
    have HB4r := hid_ (HB4c.out.to hbr)
    by_cases hjN : j < N
    · have HEr := hid_ (HE3.out.to hbr)
      have q0 := HBr.out.cell 0
      have q1 := HBr.out.cell 1
      have q2 := HBr.out.cell 2
      have q3 := HBr.out.cell 3
      simp at q0 q1 q2 q3
      have m4 : IntKind.i64.wrap (F + (j : Int) + 1) = F + ((j + 1 : Nat) : Int) := by rw [IntWalk.i64_in _ (by omega)]; omega
      have t2 : F + (j : Int) < T := by omega
      have h63 : j + 1 ≤ maxLen := by unfold maxLen; omega
      have hby : (j + 1) * 8 ≤ 140737488355328 := by omega
      obtain ⟨p, hpp⟩ : ∃ p, p = F + (j : Int) := ⟨_, rfl⟩
      by_cases hpj : p = c.pos
      · have HV : Hid (putV c x (F + (j : Int)) = x) := hid_ (by rw [← hpp, hpj, putV, if_pos rfl])
        have t3 : (F + (j : Int) == c.pos) = true := by rw [← hpp]; simpa using hpj
        clear hpp hpj
        go_upto_region 11 with (at_builtin; refine wpList_append_own_at _ rfl _ _ 25 rfl W3.heap.size 3 i0 (.int .i64 0) 1 8 Tryd.underlying25 hi hz0 hz1 hz2 rfl (by omega) (.slice A8 j c8) j _ rfl (HU.out.alloc _) ⟨wr.heap.size, 0, none⟩ 1 1 [.int .i64 x] rfl rfl (newsA wr _ [.int .i64 x]) (by simp [Value.oneCell']) h63 hby (Nat.le_trans hbr.size (by simp)) ?_; intro u2 Z2 hown2 hg2 _ hat2)
        have HU3 : Hid (Z2.ownsRow W3.heap.size 3 1 u2 (j + 1) (ints (fullL F (j + 1) (putV c x)))) := hid_ (by rw [full_snoc, ints_snoc, HV.out]; exact hown2)
        have hbx2 : Below W3.heap.size W3 Z2 := Below.grown (hbr.alloc hbr.size _) hg2 (Nat.le_trans hbr.size (by simp)) (own_lt HU.out)
        obtain ⟨A9, c9, rfl⟩ := own_form HU3.out
        clear hown2 hg2 hat2
        go_wp2_with fail
        go_roundw
        case rel => exact ⟨j + 1, A9, c9, rfl, by go_num, by omega, HU3, hbx2⟩
        case measure => simp [RowKit.intOf]; omega
      · have HV : Hid (putV c x (F + (j : Int)) = cellAt c.frm c.cells p) := hid_ (by rw [← hpp, putV, if_neg hpj])
        have t3 : (F + (j : Int) == c.pos) = false := by rw [← hpp]; simpa using hpj
        have HRD : Hid (∀ X, Elems X X.heap.size (.slice A c.cells.length cc) (ints c.cells) → Calls Tryd.prog 29 #[.agg #[.int .i64 c.st, .int .i64 c.pos, .int .i64 c.frm, .slice A c.cells.length cc], .int .i64 (F + (j : Int))] X fun e w' => e = .returned (.int .i64 (cellAt c.frm c.cells p)) ∧ Below X.heap.size X w') := hid_ (fun X h => by rw [hpp]; exact rread_any c _ _ X h (by omega) (by omega) (by omega))
        obtain ⟨z, hz⟩ : ∃ z, z = cellAt c.frm c.cells p := ⟨_, rfl⟩
        rw [← hz] at HRD HV
        clear hz hpp hpj
        go_upto_region 11 with (first
          | (go_at_call 29; (with_reducible refine (HRD.out wr HEr.out).mono ?_); rintro e Z ⟨rfl, hbz⟩; have HUZ := hid_ (own_below HU.out hbz); have hbxz := bnext hbr hbz; clear hbz)
          | (at_builtin; refine wpList_append_own_at _ rfl _ _ 25 rfl W3.heap.size 3 i0 (.int .i64 0) 1 8 Tryd.underlying25 hi hz0 hz1 hz2 rfl (by omega) (.slice A8 j c8) j _ rfl (HUZ.out.alloc _) ⟨Z.heap.size, 0, none⟩ 1 1 [.int .i64 z] rfl rfl (newsA Z _ [.int .i64 z]) (by simp [Value.oneCell']) h63 hby (Nat.le_trans hbxz.size (by simp)) ?_; intro u2 Z2 hown2 hg2 _ hat2))
        have HU3 : Hid (Z2.ownsRow W3.heap.size 3 1 u2 (j + 1) (ints (fullL F (j + 1) (putV c x)))) := hid_ (by rw [full_snoc, ints_snoc, HV.out]; exact hown2)
        have hbx2 : Below W3.heap.size W3 Z2 := Below.grown (hbxz.alloc hbxz.size _) hg2 (Nat.le_trans hbxz.size (by simp)) (own_lt HUZ.out)
        obtain ⟨A9, c9, rfl⟩ := own_form HU3.out
        clear hown2 hg2 hat2
        go_wp2_with fail
        go_roundw
        case rel => exact ⟨j + 1, A9, c9, rfl, by go_num, by omega, HU3, hbx2⟩
        case measure => simp [RowKit.intOf]; omega
    · have e : N = j := by omega
      subst e
      have t2 : ¬ F + (N : Int) < T := by omega
      have HEr := hid_ (HE3.out.to hbr)
      have hW3 := HB4c.out.lt
      obtain ⟨X, rfl⟩ : ∃ X : World, X = wr := ⟨_, rfl⟩
      have HFR : Hid (Fresh w A8) := hid_ (by
        rcases HU.out.2 with ⟨hv, _⟩ | ⟨g', cap, cur, hv, hg', _⟩
        · simp only [Value.slice.injEq] at hv
          exact .inl hv.1
        · simp only [Value.slice.injEq] at hv
          exact .inr ⟨g', 0, hv.1, Nat.le_trans hbW3.size hg'⟩)
      clear hjN hj hbr HE3 HB2c HB4c hbW3
      by_cases hN0 : N = 0
      · subst hN0
        have HEe : Hid (Elems X X.heap.size (.slice A8 0 c8) []) := hid_ (by
          rcases HU.out.2 with ⟨hv, h0⟩ | ⟨g', cap, cur, hv, hg', hh, h1, _⟩
          · rw [hv]; exact Elems.nil _ _
          · simp only [Value.slice.injEq] at hv
            rw [hv.1]
            exact .inl ⟨.inr ⟨_, _, rfl⟩, rfl⟩)
        have HA8 := hid_ HU.out.2
        have HN := hid_ (put_none (c := c) (x := x) (N := 0) (by rw [← HF.out, ← HT.out]; exact hN') (fun t h => absurd h (by omega)))
        have q0 := HBr.out.cell 0
        have q1 := HBr.out.cell 1
        have s0 := HB4r.out.free 0
        have s1 := HB4r.out.free 1
        have s2 := HB4r.out.free 2
        have s3 := HB4r.out.free 3
        have r0 := HB4r.out.cell 0
        have r1 := HB4r.out.cell 1
        have r2 := HB4r.out.cell 2
        have r3 := HB4r.out.cell 3
        simp at q0 q1 r0 r1 r2 r3
        clear HU
        go_wp2_with fail
        go_loopw [8] (fun s wx => s = .slice A8 0 c8 ∧ wx = X) (fun _ _ => 0)
        case atStart => exact ⟨rfl, rfl⟩
        case round =>
          obtain ⟨rfl, rfl⟩ := hrel
          obtain ⟨Y, rfl⟩ : ∃ X : World, X = wr := ⟨_, rfl⟩
          go_wp2_with fail
          go_loopw [8, 6] (fun s f wx => s = .slice A8 0 c8 ∧ f = .int .i64 F ∧ wx = Y) (fun _ _ _ => 0)
          case atStart => exact ⟨rfl, rfl, rfl⟩
          case round =>
            obtain ⟨rfl, rfl, rfl⟩ := hrel
            go_wp2_with fail
            have BZ := (((HB4r.out.set_ 0 (.int .i64 c.st)).set_ 1 (.int .i64 c.pos)).set_ 2 (.int .i64 0)).set_ 3 (.slice A8 0 c8)
            have e0 := BZ.cell 0
            have e1 := BZ.cell 1
            have e2 := BZ.cell 2
            have e3 := BZ.cell 3
            simp at e0 e1 e2 e3
            refine bodyPost_ret (v := .tuple #[.agg #[.int .i64 c.st, .int .i64 c.pos, .int .i64 0, .slice A8 0 c8], .bool true]) (by simp [results, Tryd.results49, go_sem, e0, e1, e2, e3]) rfl ?_
            have hx0 : ∀ (Z : World), Elems Z Z.heap.size (.slice A8 0 c8) [] := fun Z => by
              rcases HA8.out with ⟨hv, h0⟩ | ⟨g', cap, cur, hv, hg', hh, h1, _⟩
              · rw [hv]; exact Elems.nil _ _
              · simp only [Value.slice.injEq] at hv
                rw [hv.1]
                exact .inl ⟨.inr ⟨_, _, rfl⟩, rfl⟩
            exact ⟨c.st, c.pos, 0, A8, c8, [], true, rfl, hx0 _, (((hwr.setCell (by simp) _).setCell (by simp) _).setCell (by simp) _).setCell (by simp) _, by simp, HFR.out, .inr ⟨rfl, rfl, rfl, by rw [HN.out], by rw [HN.out], by rw [HN.out]; simp⟩⟩
      · obtain ⟨g, rfl, hg⟩ := own_addr HU.out (by omega)
        have hNc : N ≤ c8 := by
          rcases HU.out.2 with ⟨hv, h0⟩ | ⟨g', cap, cur, hv, hg', hh, h1, _⟩
          · omega
          · simp only [Value.slice.injEq] at hv
            omega
        have HEL := hid_ (own_elems HU.out)
        have hgX := (HU.out.lt g rfl).2
        have HC : Hid (∀ k : Nat, k < N → X.cell? ⟨g, k, none⟩ = some (.int .i64 (putV c x (F + (k : Int))))) := hid_ (fun k hk => by
          have := HU.out.cellAt k (by omega)
          rw [this]
          simp [ints, full_get hk])
        clear HU hN0
        go_wp2_with fail
        go_loopw [8] (fun s wx => ∃ n : Nat, s = .slice (some ⟨g, 0, none⟩) n c8 ∧ n ≤ N ∧ Hid (∀ t : Nat, n ≤ t → t < N → putV c x (F + (t : Int)) = 0) ∧ wx = X) (fun s _ => lenS s)
        case atStart => exact ⟨N, rfl, Nat.le_refl _, hid_ (fun t h1 h2 => absurd h1 (by omega)), rfl⟩
        case round =>
          obtain ⟨n, rfl, hn2, HZ, rfl⟩ := hrel
          obtain ⟨b2, hb2⟩ : ∃ b, b = decide (0 < n ∧ putV c x (F + ((n - 1 : Nat) : Int)) = 0) := ⟨_, rfl⟩
          have HB2 := hid_ hb2
          clear hb2
          go_upto_region 15 with fail
          go_cut [77] (fun s wx => s = .bool b2 ∧ wx = wr)
          case first => as_aux_lemma =>
            rcases Nat.eq_zero_or_pos n with h0 | h0
            · have hb : b2 = false := by rw [HB2.out]; simp [h0]
              subst h0 hb
              clear HB2
              go_wp2_with fail
              go_meet
              exact ⟨rfl, rfl⟩
            · obtain ⟨k, rfl⟩ : ∃ k, n = k + 1 := ⟨n - 1, by omega⟩
              have hc := HC.out k (by omega)
              have hd := HB2.out
              rw [show k + 1 - 1 = k by omega] at hd
              obtain ⟨z, hz⟩ : ∃ z, z = putV c x (F + (k : Int)) := ⟨_, rfl⟩
              rw [← hz] at hc hd
              have m5 : IntKind.i64.wrap ((k : Int) + 1 - 1) = (k : Int) := by rw [IntWalk.i64_in _ (by omega)]; omega
              have m6 : IntKind.i64.wrap (k : Int) = (k : Int) := IntWalk.i64_in _ (by omega)
              have t5 : (0 : Int) < (k : Int) + 1 := by omega
              have t6 : 0 ≤ (k : Int) := by omega
              have t7 : (k : Int) < (k : Int) + 1 := by omega
              have hb : b2 = (z == 0) := by rw [hd]; by_cases h : z = 0 <;> simp [h]
              subst hb
              clear HB2 hd hz h0
              go_wp2_with fail
              all_goals
                go_meet
                first | exact ⟨rfl, rfl⟩ | (refine ⟨?_, rfl⟩; simp_all)
          case rest => as_aux_lemma =>
            obtain ⟨rfl, rfl⟩ := hcut
            cases b2 with
            | true =>
              obtain ⟨h0, hz⟩ := of_decide_eq_true HB2.out.symm
              clear HB2
              obtain ⟨k, rfl⟩ : ∃ k, n = k + 1 := ⟨n - 1, by omega⟩
              rw [show k + 1 - 1 = k by omega] at hz
              have HZ2 : Hid (∀ t : Nat, k ≤ t → t < N → putV c x (F + (t : Int)) = 0) := hid_ (fun t g1 g2 => by
                rcases Nat.eq_or_lt_of_le g1 with e | e
                · rw [← e]; exact hz
                · exact HZ.out t e g2)
              clear HZ hz h0
              have m5 : IntKind.i64.wrap ((k : Int) + 1 - 1) = (k : Int) := by rw [IntWalk.i64_in _ (by omega)]; omega
              have m6 : IntKind.i64.wrap (k : Int) = (k : Int) := IntWalk.i64_in _ (by omega)
              have t6 : 0 ≤ (k : Int) := by omega
              have t7 : (k : Int) ≤ (c8 : Int) := by omega
              go_wp2_with fail
              go_roundw
              case rel => exact ⟨k, by simp, by omega, HZ2, trivial⟩
              case measure => simp [lenS]
            | false =>
              have HE0 := hid_ (of_decide_eq_false HB2.out.symm)
              clear HB2
              obtain ⟨Y, rfl⟩ : ∃ X : World, X = wc := ⟨_, rfl⟩
              go_wp2_with fail
              go_loopw [8, 6] (fun s f wx => ∃ k r d : Nat, s = .slice (some ⟨g, k, none⟩) r d ∧ f = .int .i64 (F + (k : Int)) ∧ k + r = n ∧ k + d = c8 ∧ (0 < r ∨ n = 0) ∧ Hid (∀ t : Nat, t < k → putV c x (F + (t : Int)) = 0) ∧ wx = Y) (fun s _ _ => lenS s)
              case atStart => exact ⟨0, n, c8, rfl, by simp, by omega, by omega, by omega, hid_ (fun t h => absurd h (by omega)), rfl⟩
              case round =>
                obtain ⟨k, r, d, rfl, rfl, hk1, hk2, hk3, HK, rfl⟩ := hrel
                obtain ⟨b3, hb3⟩ : ∃ b, b = decide (0 < r ∧ putV c x (F + (k : Int)) = 0) := ⟨_, rfl⟩
                have HB3 := hid_ hb3
                clear hb3
                go_upto_region 17 with fail
                go_cut [91] (fun s wx => s = .bool b3 ∧ wx = wr)
                case first => as_aux_lemma =>
                  rcases Nat.eq_zero_or_pos r with h0 | h0
                  · have hb : b3 = false := by rw [HB3.out]; simp [h0]
                    subst h0 hb
                    clear HB3
                    go_wp2_with fail
                    go_meet
                    exact ⟨rfl, rfl⟩
                  · obtain ⟨r', rfl⟩ : ∃ r', r = r' + 1 := ⟨r - 1, by omega⟩
                    have hc := HC.out k (by omega)
                    have hd := HB3.out
                    obtain ⟨z, hz⟩ : ∃ z, z = putV c x (F + (k : Int)) := ⟨_, rfl⟩
                    rw [← hz] at hc hd
                    have t5 : (0 : Int) < (r' : Int) + 1 := by omega
                    have t6 : 0 ≤ (r' : Int) := by omega
                    have hb : b3 = (z == 0) := by rw [hd]; by_cases h : z = 0 <;> simp [h]
                    subst hb
                    clear HB3 hd hz h0 hk3
                    go_wp2_with fail
                    all_goals
                      go_meet
                      first | exact ⟨rfl, rfl⟩ | (refine ⟨?_, rfl⟩; simp_all)
                case rest => as_aux_lemma =>
                  obtain ⟨rfl, rfl⟩ := hcut
                  cases b3 with
                  | true =>
                    obtain ⟨h0, hz⟩ := of_decide_eq_true HB3.out.symm
                    clear HB3
                    obtain ⟨r', rfl⟩ : ∃ r', r = r' + 1 := ⟨r - 1, by omega⟩
                    have hr' : 0 < r' := by
                      rcases Nat.eq_zero_or_pos r' with e | e
                      · refine absurd ⟨by omega, ?_⟩ HE0.out
                        rw [show n - 1 = k by omega]
                        exact hz
                      · exact e
                    have HK2 : Hid (∀ t : Nat, t < k + 1 → putV c x (F + (t : Int)) = 0) := hid_ (fun t g1 => by
                      rcases Nat.eq_or_lt_of_le (Nat.le_of_lt_succ g1) with e | e
                      · rw [e]; exact hz
                      · exact HK.out t e)
                    clear HK hz h0
                    obtain ⟨d', rfl⟩ : ∃ d', d = d' + 1 := ⟨d - 1, by omega⟩
                    have m5 : IntKind.i64.wrap (F + (k : Int) + 1) = F + ((k + 1 : Nat) : Int) := by rw [IntWalk.i64_in _ (by omega)]; omega
                    have t5 : (1 : Int) ≤ (r' : Int) + 1 := by omega
                    have t6 : 0 ≤ (r' : Int) := by omega
                    have t7 : (r' : Int) + 1 ≤ (d' : Int) + 1 := by omega
                    have t8 : (r' : Int) ≤ (d' : Int) := by omega
                    have t9 : r' ≤ d' := by omega
                    have hdz : ¬ d' = 0 := by omega
                    have hdz2 : ¬ d' + 1 = 1 := by omega
                    clear hk3
                    go_wp2_with fail
                    go_roundw
                    case rel => exact ⟨k + 1, r', d', by simp, by simp, by omega, by omega, by omega, HK2, trivial⟩
                    case measure => simp [lenS]
                  | false =>
                    have HF0 := hid_ (of_decide_eq_false HB3.out.symm)
                    clear HB3
                    obtain ⟨Y, rfl⟩ : ∃ X : World, X = wc := ⟨_, rfl⟩
                    have hgn : g ≠ w.heap.size + 1 := by omega
                    have q0 := HBr.out.cell 0
                    have q1 := HBr.out.cell 1
                    have s0 := HB4r.out.free 0
                    have s1 := HB4r.out.free 1
                    have s2 := HB4r.out.free 2
                    have s3 := HB4r.out.free 3
                    have r0 := HB4r.out.cell 0
                    have r1 := HB4r.out.cell 1
                    have r2 := HB4r.out.cell 2
                    have r3 := HB4r.out.cell 3
                    simp at q0 q1 r0 r1 r2 r3
                    rcases Nat.eq_zero_or_pos r with h0 | h0
                    · subst h0
                      have hn0 : n = 0 := by omega
                      have HN := hid_ (put_none (c := c) (x := x) (N := N) (by rw [← HF.out, ← HT.out]; exact hN') (fun t h => by rw [← HF.out]; exact HZ.out t (by omega) h))
                      clear hk1 hk2 hk3 hn0
                      go_wp2_with fail
                      have BZ := (((HB4r.out.set_ 0 (.int .i64 c.st)).set_ 1 (.int .i64 c.pos)).set_ 2 (.int .i64 0)).set_ 3 (.slice (some ⟨g, k, none⟩) 0 d)
                      have e0 := BZ.cell 0
                      have e1 := BZ.cell 1
                      have e2 := BZ.cell 2
                      have e3 := BZ.cell 3
                      simp at e0 e1 e2 e3
                      refine bodyPost_ret (v := .tuple #[.agg #[.int .i64 c.st, .int .i64 c.pos, .int .i64 0, .slice (some ⟨g, k, none⟩) 0 d], .bool true]) (by simp [results, Tryd.results49, go_sem, e0, e1, e2, e3]) rfl ?_
                      exact ⟨c.st, c.pos, 0, some ⟨g, k, none⟩, d, [], true, rfl, .inl ⟨.inr ⟨_, _, rfl⟩, rfl⟩, (((hwr.setCell (by simp) _).setCell (by simp) _).setCell (by simp) _).setCell (by simp) _, by simp, .inr ⟨g, k, rfl, by omega⟩, .inr ⟨rfl, rfl, rfl, by rw [HN.out], by rw [HN.out], by rw [HN.out]; simp⟩⟩
                    · have HN := hid_ (put_some (c := c) (x := x) (N := N) (n := n) (k := k) (by rw [← HF.out, ← HT.out]; exact hN') hn2 (fun t h1 h2 => by rw [← HF.out]; exact HZ.out t h1 h2) (fun t h => by rw [← HF.out]; exact HK.out t h) (by omega) (by rw [← HF.out]; exact fun e => HF0.out ⟨h0, e⟩) (by rw [← HF.out]; exact fun e => HE0.out ⟨by omega, e⟩))
                      have hpe := part_elems (F := k) (r := r) HEL.out (by omega) (by omega) d
                      rw [Nat.zero_add] at hpe
                      rw [← HF.out, show n - k = r by omega] at HN
                      obtain ⟨L, hL⟩ : ∃ L, L = ((fullL F N (putV c x)).drop k).take r := ⟨_, rfl⟩
                      have hLl : L.length = r := by rw [hL, List.length_take, List.length_drop, full_len]; omega
                      rw [← hL] at hpe HN
                      have HPE := hid_ hpe
                      have HLl := hid_ hLl
                      have t5 : ((r : Int) == 0) = false := beq_eq_false_iff_ne.2 (by omega)
                      have hr0 : ¬ r = 0 := by omega
                      have hrN : r ≤ 100001 := by omega
                      clear hpe hL hLl hk1 hk2 hk3
                      by_cases h1 : r ≤ 100000
                      · have t6 : (r : Int) ≤ 100000 := by omega
                        go_wp2_with fail
                        have BZ := (((HB4r.out.set_ 0 (.int .i64 c.st)).set_ 1 (.int .i64 c.pos)).set_ 2 (.int .i64 (F + (k : Int)))).set_ 3 (.slice (some ⟨g, k, none⟩) r d)
                        have e0 := BZ.cell 0
                        have e1 := BZ.cell 1
                        have e2 := BZ.cell 2
                        have e3 := BZ.cell 3
                        simp at e0 e1 e2 e3
                        refine bodyPost_ret (v := .tuple #[.agg #[.int .i64 c.st, .int .i64 c.pos, .int .i64 (F + (k : Int)), .slice (some ⟨g, k, none⟩) r d], .bool true]) (by simp [results, Tryd.results49, go_sem, e0, e1, e2, e3]) rfl ?_
                        have hE9 := elems_out (p := ⟨w.heap.size + 1, 3, none⟩) (u := .slice (some ⟨g, k, none⟩) r d) (elems_out (p := ⟨w.heap.size + 1, 2, none⟩) (u := .int .i64 (F + (k : Int))) (elems_out (p := ⟨w.heap.size + 1, 1, none⟩) (u := .int .i64 c.pos) (elems_out (p := ⟨w.heap.size + 1, 0, none⟩) (u := .int .i64 c.st) HPE.out (by simpa [Value.ownBlock] using hgn)) (by simpa [Value.ownBlock] using hgn)) (by simpa [Value.ownBlock] using hgn)) (by simpa [Value.ownBlock] using hgn)
                        have hl9 := HLl.out
                        clear HLl HPE
                        subst hl9
                        exact ⟨c.st, c.pos, F + (k : Int), some ⟨g, k, none⟩, d, L, true, rfl, hE9, (((hwr.setCell (by simp) _).setCell (by simp) _).setCell (by simp) _).setCell (by simp) _, hrN, .inr ⟨g, k, rfl, by omega⟩, .inr ⟨rfl, rfl, rfl, by rw [HN.out], by rw [HN.out], by rw [HN.out]; exact h1⟩⟩
                      · have t6 : ¬ (r : Int) ≤ 100000 := by omega
                        go_wp2_with fail
                        have BZ := (((HB4r.out.set_ 0 (.int .i64 c.st)).set_ 1 (.int .i64 c.pos)).set_ 2 (.int .i64 (F + (k : Int)))).set_ 3 (.slice (some ⟨g, k, none⟩) r d)
                        have e0 := BZ.cell 0
                        have e1 := BZ.cell 1
                        have e2 := BZ.cell 2
                        have e3 := BZ.cell 3
                        simp at e0 e1 e2 e3
                        refine bodyPost_ret (v := .tuple #[.agg #[.int .i64 c.st, .int .i64 c.pos, .int .i64 (F + (k : Int)), .slice (some ⟨g, k, none⟩) r d], .bool false]) (by simp [results, Tryd.results49, go_sem, e0, e1, e2, e3]) rfl ?_
                        have hE9 := elems_out (p := ⟨w.heap.size + 1, 3, none⟩) (u := .slice (some ⟨g, k, none⟩) r d) (elems_out (p := ⟨w.heap.size + 1, 2, none⟩) (u := .int .i64 (F + (k : Int))) (elems_out (p := ⟨w.heap.size + 1, 1, none⟩) (u := .int .i64 c.pos) (elems_out (p := ⟨w.heap.size + 1, 0, none⟩) (u := .int .i64 c.st) HPE.out (by simpa [Value.ownBlock] using hgn)) (by simpa [Value.ownBlock] using hgn)) (by simpa [Value.ownBlock] using hgn)) (by simpa [Value.ownBlock] using hgn)
                        have hl9 := HLl.out
                        clear HLl HPE
                        subst hl9
                        exact ⟨c.st, c.pos, F + (k : Int), some ⟨g, k, none⟩, d, L, false, rfl, hE9, (((hwr.setCell (by simp) _).setCell (by simp) _).setCell (by simp) _).setCell (by simp) _, hrN, .inr ⟨g, k, rfl, by omega⟩, .inl ⟨rfl, by rw [HN.out]; show 100000 < L.length; omega⟩⟩
end Go.Proofs.YtkbaiegfloajlaaDoor.Tp

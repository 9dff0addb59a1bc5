/- Contracts: Parse of the specification. -/
import Derived.Test.YtkbaiegfloajlaaDoorZf
import Derived.Test.YtkbaiegfloajlaaDoorWb
namespace Go.Proofs.YtkbaiegfloajlaaDoor.Tp
open Go.RowKit

def RParRan (o : Option MachS) (w : World) (e : Ending) (w' : World) : Prop :=
  ∃ (A : Option Addr) (d : Nat), e = .returned (.tuple #[.agg #[.int .i64 (o.getD noM).states, .int .i64 (o.getD noM).symbols, .slice A (o.getD noM).rules.length d], .bool o.isSome]) ∧ MachIn w' w'.heap.size (.slice A (o.getD noM).rules.length d) (o.getD noM) ∧ Below w.heap.size w w'
/-- What is read, and what is still to be read. -/
def rbAt (s : ByteArray) (rows : List (List RuleS)) (row : List RuleS) (i : Nat) : List (List RuleS) × List RuleS := if s.size ≤ 200 then rb rows row (s.data.toList.drop i) else (rows, row)
theorem drop3 {s : ByteArray} {i : Nat} (h : i + 2 < s.size) : ∃ x y z, s.data.toList[i]? = some x ∧ s.data.toList[i + 1]? = some y ∧ s.data.toList[i + 2]? = some z ∧ s.data.toList.drop i = x :: y :: z :: s.data.toList.drop (i + 3) := by
  have hl : s.data.toList.length = s.size := rfl
  refine ⟨_, _, _, List.getElem?_eq_getElem (by omega), List.getElem?_eq_getElem (by omega), List.getElem?_eq_getElem (by omega), ?_⟩
  rw [List.drop_eq_getElem_cons (by omega), List.drop_eq_getElem_cons (show i + 1 < s.data.toList.length by omega), List.drop_eq_getElem_cons (show i + 1 + 1 < s.data.toList.length by omega)]
theorem byte_at {s : ByteArray} {i : Nat} {x : UInt8} (h : s.data.toList[i]? = some x) (hi : i < s.size) : s[i] = x := by
  have h2 : s.data.toList[i]? = some s[i] := by
    have : s.data.toList[i]? = s.data[i]? := by simp
    rw [this]
    simp only [Array.getElem?_eq_some_iff]
    exact ⟨hi, rfl⟩
  rw [h] at h2
  exact (Option.some.inj h2).symm

theorem rb_joinA {s : ByteArray} {rows : List (List RuleS)} {row : List RuleS} {q0 : List (List RuleS) × List RuleS} {i : Nat} {x y z : UInt8} (hB : s.size ≤ 200) (hA : i + 2 < s.size) (gy : s.data.toList[i + 1]? = some y) (gz : s.data.toList[i + 2]? = some z) (hd : s.data.toList.drop i = x :: y :: z :: s.data.toList.drop (i + 3)) (hx : x = 95) (hq : q0 = rbAt s rows row i) :
    (i + 1 + 2 < s.size → ∃ x y z, s.data.toList[i + 1]? = some x ∧ s.data.toList[i + 1 + 1]? = some y ∧ s.data.toList[i + 1 + 2]? = some z ∧ q0 = rbAt s (rows ++ [row]) ([] ++ [ruleQ x y z]) (i + 1 + 3)) ∧ (¬ i + 1 + 2 < s.size → q0 = (rows ++ [row], [])) := by
  have hl : s.data.toList.length = s.size := rfl
  subst hx
  rw [rbAt, if_pos hB, hd] at hq
  constructor
  · intro h
    have h3 : i + 3 < s.data.toList.length := by omega
    refine ⟨y, z, s.data.toList[i + 3], gy, gz, List.getElem?_eq_getElem h3, ?_⟩
    rw [hq, List.drop_eq_getElem_cons h3, rb_sep, rbAt, if_pos hB]
    rfl
  · intro h
    rw [hq, List.drop_eq_nil_of_le (by omega), rb_sep1]
theorem rb_joinB {s : ByteArray} {rows : List (List RuleS)} {row : List RuleS} {q0 : List (List RuleS) × List RuleS} {i : Nat} {x y z : UInt8} (hB : s.size ≤ 200) (hA : i + 2 < s.size) (gx : s.data.toList[i]? = some x) (gy : s.data.toList[i + 1]? = some y) (gz : s.data.toList[i + 2]? = some z) (hd : s.data.toList.drop i = x :: y :: z :: s.data.toList.drop (i + 3)) (hx : x ≠ 95) (hq : q0 = rbAt s rows row i) :
    (i + 2 < s.size → ∃ x y z, s.data.toList[i]? = some x ∧ s.data.toList[i + 1]? = some y ∧ s.data.toList[i + 2]? = some z ∧ q0 = rbAt s rows (row ++ [ruleQ x y z]) (i + 3)) ∧ (¬ i + 2 < s.size → q0 = (rows, row)) := by
  refine ⟨fun _ => ⟨x, y, z, gx, gy, gz, ?_⟩, fun h => absurd hA h⟩
  rw [rbAt, if_pos hB, hd, rb_cons hx] at hq
  rw [hq, rbAt, if_pos hB]

theorem rb_bound (N : Nat) : ∀ (n : Nat) (l : List UInt8) (rows : List (List RuleS)) (row : List RuleS), l.length ≤ n → (∀ r ∈ rows, r.length ≤ N) → row.length + l.length ≤ N → (∀ r ∈ (rb rows row l).1, r.length ≤ N) ∧ (rb rows row l).2.length ≤ N
  | 0, l, rows, row, hl, h1, h2 => by
    rw [rb_end (by omega)]
    exact ⟨h1, by simp only; omega⟩
  | n + 1, l, rows, row, hl, h1, h2 => by
    match l, hl, h2 with
    | [], _, h2 => rw [rb_end (by simp)]; exact ⟨h1, by simp only; omega⟩
    | [_], _, h2 => rw [rb_end (by simp)]; exact ⟨h1, by simp only; omega⟩
    | [_, _], _, h2 => rw [rb_end (by simp)]; exact ⟨h1, by simp only; omega⟩
    | x :: y :: z :: l, hl, h2 =>
      have hs : ∀ r ∈ rows ++ [row], r.length ≤ N := fun r hr => by
        rcases List.mem_append.1 hr with h | h
        · exact h1 r h
        · rw [List.mem_singleton.1 h]; omega
      simp only [List.length_cons] at hl h2
      by_cases hx : x = 95
      · subst hx
        cases l with
        | nil => rw [rb_sep1]; exact ⟨hs, by simp⟩
        | cons u l' =>
          rw [rb_sep]
          simp only [List.length_cons] at hl h2
          exact rb_bound N n l' _ _ (by omega) hs (by simp; omega)
      · rw [rb_cons hx]
        exact rb_bound N n l _ _ (by omega) h1 (by simp; omega)
theorem rbM_bound (s : List UInt8) : ∀ r ∈ (rbM s).rules, r.length ≤ s.length := by
  intro r hr
  unfold rbM at hr
  simp only at hr
  split at hr
  · have := rb_bound s.length s.length s [] [] (Nat.le_refl _) (by simp) (by simp)
    rcases List.mem_append.1 hr with h | h
    · exact this.1 r h
    · rw [List.mem_singleton.1 h]; exact this.2
  · simp at hr
    rw [hr]; simp

set_option maxRecDepth 100000 in
set_option maxHeartbeats 8000000 in
theorem rparse_any (s : ByteArray) (w : World) (hs : s.size ≤ 100000) : Calls Tryd.prog 23 #[.string s] w (RParRan (rparseO s.data.toList) w) := by
  have hbW := below1 w (.cells #[.int .i64 0, .int .i64 0, .slice none 0 0] 24)
  have HB1 := hid_ (Blk.new w 24 #[.int .i64 0, .int .i64 0, .slice none 0 0])
  go_enter Tryd.func23, Tryd.ntmps23
  go_upto_region 1 with fail
  generalize w.alloc (.cells #[.int .i64 0, .int .i64 0, .slice none 0 0] 24) = W at *
  go_upto_region 2 with fail
  have HBM := hid_ (Blk.new W 24 #[.int .i64 1, .int .i64 0, .slice none 0 0])
  have hbx := below1 W (.cells #[.int .i64 1, .int .i64 0, .slice none 0 0] 24)
  have hHB := HB1.out.lt
  generalize W.alloc (.cells #[.int .i64 1, .int .i64 0, .slice none 0 0] 24) = V0 at *
  obtain ⟨iR, hiR, hzR0, hzR1, hzR2⟩ := info_parts Tryd.infoR
  obtain ⟨iL, hiL, hzL0, hzL1, hzL2⟩ := info_parts Tryd.infoRL
  have HP0 : Hid (RPS V0.heap.size W.heap.size [] [] (.slice none 0 0) (.slice none 0 0) [] V0) := hid_ ⟨HBM.out, own_nil _ _ _, OwnRowsG.nil _ _, ⟨rfl, .inl ⟨rfl, rfl⟩⟩, fun k x hx => by simp at hx, HBM.out.lt, Nat.le_refl _⟩
  have hWV := hbx.size
  obtain ⟨q0, hq0⟩ : ∃ q, q = rbAt s [] [] 0 := ⟨_, rfl⟩
  have HQ0 : Hid (q0 = if s.data.toList.length ≤ 200 then rb [] [] s.data.toList else ([], [])) := hid_ (by rw [hq0]; rfl)
  clear HBM
  go_upto_block 0 with fail
  go_cut [5] (fun p wx => ∃ rows row u v vs, p = u ∧ RPS V0.heap.size W.heap.size rows row v u vs wx ∧ q0 = (rows, row) ∧ rows.length ≤ s.size + 2 ∧ row.length ≤ s.size + 2 ∧ Below W.heap.size W wx)
  case first => as_aux_lemma =>
    clear HQ0
    go_wp2_with fail
    go_loopw [5, 6] (fun p q wr => ∃ rows row u v vs i, p = u ∧ q = .int .i64 ((i : Nat) : Int) ∧ Hid (RPS V0.heap.size W.heap.size rows row v u vs wr) ∧ Hid (q0 = rbAt s rows row i) ∧ i ≤ s.size + 1 ∧ rows.length ≤ i ∧ row.length ≤ i ∧ Below W.heap.size W wr) (fun _ q _ => s.size + 3 - (intOf q).toNat)
    case atStart => exact ⟨[], [], _, _, [], 0, rfl, rfl, HP0, hid_ hq0, by omega, by simp, by simp, hbx⟩
    case round =>
      clear HP0 hbx hq0
      obtain ⟨rows, row, u, v, vs, i, rfl, rfl, HP, HQ, hi, hl1, hl2, hbr⟩ := hrel
      have m1 : IntKind.i64.wrap ((i : Int) + 2) = (i : Int) + 2 := IntWalk.i64_in _ (by omega)
      by_cases hA : i + 2 < s.size
      · have tA : (i : Int) + 2 < (s.size : Int) := by omega
        by_cases hB : s.size ≤ 200
        · have tB : (s.size : Int) ≤ 200 := by omega
          obtain ⟨x, y, z, gx, gy, gz, hdr⟩ := drop3 hA
          have bx := byte_at gx (by omega)
          have t0 : 0 ≤ (i : Int) := by omega
          have t1 : (i : Int) < (s.size : Int) := by omega
          have t2 : i < s.size := by omega
          have hqr := HQ.out
          have h63 : rows.length + 1 ≤ maxLen := by unfold maxLen; omega
          have hby : (rows.length + 1) * 24 ≤ 140737488355328 := by omega
          have hws : V0.heap.size ≤ wr.heap.size := HP.out.le
          have hwa : W.heap.size < wr.heap.size := HP.out.box.lt
          obtain ⟨Au, cu, hu9⟩ := own_form HP.out.cur
          obtain ⟨Av, cv, hv9⟩ := own_form HP.out.own
          subst hu9 hv9
          go_upto_if 24 with fail
          go_cut [5, 6] (fun p q wx => ∃ rows' row' u' v' vs' i', p = u' ∧ q = .int .i64 ((i' : Nat) : Int) ∧ RPS V0.heap.size W.heap.size rows' row' v' u' vs' wx ∧ (i' + 2 < s.size → ∃ x y z, s.data.toList[i']? = some x ∧ s.data.toList[i' + 1]? = some y ∧ s.data.toList[i' + 2]? = some z ∧ q0 = rbAt s rows' (row' ++ [ruleQ x y z]) (i' + 3)) ∧ (¬ i' + 2 < s.size → q0 = (rows', row')) ∧ i ≤ i' ∧ i' ≤ i + 1 ∧ rows'.length ≤ i' ∧ row'.length ≤ i' ∧ Below W.heap.size W wx)
          case first => as_aux_lemma =>
            by_cases hx : x = 95
            · have tx : ((x.toNat : Int) == 95) = true := by rw [hx]; rfl
              have HJ := hid_ (rb_joinA hB hA gy gz hdr hx hqr)
              have m2 : IntKind.i64.wrap ((rows.length : Int) + 1 + 1) = (rows.length : Int) + 1 + 1 := IntWalk.i64_in _ (by omega)
              have m3 : IntKind.i64.wrap ((i : Int) + 1) = ((i + 1 : Nat) : Int) := by rw [IntWalk.i64_in _ (by omega)]; omega
              have b2 := HP.out.box.cell 2
              simp at b2
              clear hx hqr hdr gx gy gz HQ m1 bx tA tB
              go_upto_region 8 with (at_builtin; refine wpList_append_own_at _ rfl _ _ 22 rfl V0.heap.size 72 iL (.slice none 0 0) 1 24 Tryd.underlying22 hiL hzL0 hzL1 hzL2 rfl (by omega) (.slice Av rows.length cv) rows.length _ rfl (HP.out.own.alloc _) ⟨wr.heap.size, 0, none⟩ 1 1 [.slice Au row.length cu] rfl rfl (newsA wr _ [.slice Au row.length cu]) (by simp [Value.oneCell']) h63 hby (Nat.le_trans hws (by simp)) ?_; intro v2 Z hown2 hg2 _ hat2; have HPU := hid_ (HP.out.push hg2 hown2); obtain ⟨A3, c3, rfl⟩ := own_form hown2; have BZ := (HP.out.box.alloc (.cells #[.slice Au row.length cu] 72)).grownby hg2 (fun e => by have := own_lt HP.out.own _ e.symm; have := HP.out.lt; omega); have z2 := BZ.cell 2; have y2 := BZ.free 2; have hbZ := hid_ (Below.grown (hbr.alloc hbr.size (.cells #[.slice Au row.length cu] 72)) hg2 (Nat.le_trans hbr.size (by simp)) (fun q hq => Nat.le_trans hWV (own_lt HP.out.own q hq))); simp at z2; clear hown2 hg2 hat2 BZ)
              have HPV : Hid (W.heap.size < V0.heap.size) := hid_ HP.out.lt
              have hbZ2 := hbZ.out.setCell (p := ⟨W.heap.size, 2, none⟩) (Nat.le_refl _) (.slice A3 (rows.length + 1) c3)
              clear z2 y2 hbZ HP b2
              generalize Z.setCell ⟨W.heap.size, 2, none⟩ (.slice A3 (rows.length + 1) c3) = Y at *
              have k0 := HPU.out.1.cell 0
              have f0 := HPU.out.1.free 0
              simp at k0
              go_wp2_with fail
              go_meet
              exact ⟨rows ++ [row], [], _, _, _, i + 1, rfl, by go_num, RPS.next HPV.out HPU.out, HJ.out.1, HJ.out.2, by omega, by omega, by simp; omega, by simp, hbZ2.setCell (p := ⟨W.heap.size, 0, none⟩) (Nat.le_refl _) _⟩
            · have tx : ((x.toNat : Int) == 95) = false := by
                have : x.toNat ≠ 95 := fun e => hx (UInt8.toNat_inj.1 e)
                simp
                omega
              have HJ := hid_ (rb_joinB hB hA gx gy gz hdr hx hqr)
              clear hx hqr hdr gx gy gz HQ
              go_wp2_with fail
              go_meet
              exact ⟨rows, row, _, _, _, i, rfl, rfl, HP.out, HJ.out.1, HJ.out.2, by omega, by omega, hl1, hl2, hbr⟩
          case rest => as_aux_lemma =>
          obtain ⟨rows', row', u', v', vs', i', rfl, rfl, hP, hC, hD, hi1, hi2, hl1', hl2', hbc⟩ := hcut
          obtain ⟨X, rfl⟩ : ∃ X : World, X = wc := ⟨_, rfl⟩
          have HP9 := hid_ hP
          clear HP HQ hbr hqr hdr gx gy gz bx t0 t1 t2 tA m1 h63 hby hws hwa hP
          have m4 : IntKind.i64.wrap ((i' : Int) + 2) = ((i' + 2 : Nat) : Int) := by rw [IntWalk.i64_in _ (by omega)]; omega
          by_cases hE : i' + 2 < s.size
          · obtain ⟨x, y, z, gx, gy, gz, hq⟩ := hC hE
            have HQN := hid_ hq
            have bx := byte_at gx (by omega)
            have bY := byte_at gy (by omega)
            have bz := byte_at gz (by omega)
            have bY2 : s[((i' : Int) + 1).toNat]'(by omega) = y := by simp only [show ((i' : Int) + 1).toNat = i' + 1 by omega]; exact bY
            have bz2 : s[((i' : Int) + 2).toNat]'(by omega) = z := by simp only [show ((i' : Int) + 2).toNat = i' + 2 by omega]; exact bz
            have t0 : 0 ≤ (i' : Int) := by omega
            have t1 : (i' : Int) < (s.size : Int) := by omega
            have t2 : i' < s.size := by omega
            have t3 : i' + 1 < s.size := by omega
            have t4 : ((i' + 1 : Nat) : Int) < (s.size : Int) := by omega
            have t5 : ((i' + 2 : Nat) : Int) < (s.size : Int) := by omega
            have m5 : IntKind.i64.wrap ((i' : Int) + 1) = ((i' + 1 : Nat) : Int) := by rw [IntWalk.i64_in _ (by omega)]; omega
            have lx : x.toNat < 256 := x.toNat_lt
            have lz : z.toNat < 256 := z.toNat_lt
            have m6 : IntKind.i64.wrap ((x.toNat : Int) - 48) = (x.toNat : Int) - 48 := IntWalk.i64_in _ (by omega)
            have m7 : IntKind.i64.wrap ((z.toNat : Int) - 65) = (z.toNat : Int) - 65 := IntWalk.i64_in _ (by omega)
            have m8 : IntKind.i64.wrap (x.toNat : Int) = (x.toNat : Int) := IntWalk.i64_in _ (by omega)
            have m9 : IntKind.i64.wrap (z.toNat : Int) = (z.toNat : Int) := IntWalk.i64_in _ (by omega)
            clear hC hD hq gx gy gz
            go_upto_region 12 with fail
            go_cut [7] (fun s wx => s = .pointer (some ⟨X.heap.size, 0, none⟩) ∧ Blk wx X.heap.size 74 #[.int .i64 ((x.toNat : Int) - 48), .int .i64 1, .int .i64 ((z.toNat : Int) - 65)] ∧ Below X.heap.size X wx)
            case first => as_aux_lemma =>
              have z1 : ∀ (cs : Array Value) (t : TypeId) (i : Nat), (X.alloc (.cells cs t)).cell? ⟨X.heap.size, i, none⟩ = cs[i]? := fun cs t i => (Blk.new X t cs).cell i
              have z2 : ∀ (cs : Array Value) (t : TypeId) (i : Nat), (X.alloc (.cells cs t)).frozen? ⟨X.heap.size, i, none⟩ = false := fun cs t i => (Blk.new X t cs).free i
              have z3 : ∀ (cs : Array Value) (t : TypeId) (i : Nat) (u : Value), (X.alloc (.cells cs t)).setCell ⟨X.heap.size, i, none⟩ u = X.alloc (.cells (cs.setIfInBounds i u) t) := fun cs t i u => World.setCell_alloc_at (w := X) _ _ _ _ _ rfl
              go_region_held3 (fun w' => Below X.heap.size X w')
                (first | (with_reducible assumption) | (with_reducible exact below1 X _) | (with_reducible exact (below1 X _).drew) | (with_reducible exact (Below.refl X.heap.size X).drew) | (with_reducible exact Below.refl X.heap.size X) | fail)
                (fail)
              all_goals
                go_wp2_with fail
                go_meet
                exact ⟨rfl, Blk.new X _ _, (below1 X _).drew⟩
            case rest => as_aux_lemma =>
            obtain ⟨rfl, hRB, hbY⟩ := hcut
            obtain ⟨Y, rfl⟩ : ∃ X : World, X = wc := ⟨_, rfl⟩
            have hXl : W.heap.size ≤ X.heap.size := hbc.size
            have HRB := hid_ hRB
            obtain ⟨my, hmy⟩ : ∃ n : Int, n = if y.toNat = 76 then -1 else 1 := ⟨_, rfl⟩
            obtain ⟨nz, hnz⟩ : ∃ n : Int, n = if z.toNat = 90 then -1 else (z.toNat : Int) - 65 := ⟨_, rfl⟩
            have HRQ : Hid (rcells (ruleQ x y z) = [.int .i64 ((x.toNat : Int) - 48), .int .i64 my, .int .i64 nz]) := hid_ (by rw [rcells, ruleQ, hmy, hnz])
            clear hRB
            go_upto_if 58 with fail
            go_cut [] (fun wx => Blk wx X.heap.size 74 #[.int .i64 ((x.toNat : Int) - 48), .int .i64 my, .int .i64 ((z.toNat : Int) - 65)] ∧ Below X.heap.size X wx)
            case first => as_aux_lemma =>
              by_cases hy : y.toNat = 76
              · have ty : ((y.toNat : Int) == 76) = true := by simp [hy]
                have e : my = -1 := by rw [hmy, if_pos hy]
                have f1 := HRB.out.free 1
                have c1 := HRB.out.cell 1
                simp at c1
                clear hy hmy hnz HRQ
                subst e
                go_wp2_with fail
                go_meet
                exact ⟨HRB.out.set_ 1 _, hbY.setCell (p := ⟨X.heap.size, 1, none⟩) (Nat.le_refl _) _⟩
              · have ty : ((y.toNat : Int) == 76) = false := by simp; omega
                have e : my = 1 := by rw [hmy, if_neg hy]
                clear hy hmy hnz HRQ
                subst e
                go_wp2_with fail
                go_meet
                exact ⟨HRB.out, hbY⟩
            case rest => as_aux_lemma =>
            obtain ⟨hRB, hbc2⟩ := hcut
            obtain ⟨Y, rfl⟩ : ∃ X : World, X = wc := ⟨_, rfl⟩
            clear HRB hbY hmy
            have HRB := hid_ hRB
            clear hRB
            go_upto_if 64 with fail
            go_cut [] (fun wx => Blk wx X.heap.size 74 #[.int .i64 ((x.toNat : Int) - 48), .int .i64 my, .int .i64 nz] ∧ Below X.heap.size X wx)
            case first => as_aux_lemma =>
              by_cases hz : z.toNat = 90
              · have tz : ((z.toNat : Int) == 90) = true := by simp [hz]
                have e : nz = -1 := by rw [hnz, if_pos hz]
                have f1 := HRB.out.free 2
                have c1 := HRB.out.cell 2
                simp at c1
                clear hz hnz HRQ
                subst e
                go_wp2_with fail
                go_meet
                exact ⟨HRB.out.set_ 2 _, hbc2.setCell (p := ⟨X.heap.size, 2, none⟩) (Nat.le_refl _) _⟩
              · have tz : ((z.toNat : Int) == 90) = false := by simp; omega
                have e : nz = (z.toNat : Int) - 65 := by rw [hnz, if_neg hz]
                clear hz hnz HRQ
                subst e
                go_wp2_with fail
                go_meet
                exact ⟨HRB.out, hbc2⟩
            case rest => as_aux_lemma =>
            obtain ⟨hRB, hbc3⟩ := hcut
            obtain ⟨Y, rfl⟩ : ∃ X : World, X = wc := ⟨_, rfl⟩
            clear HRB hbc2 hnz bx bY2 bz2 bY bz m4 m5 m6 m7 m8 m9 t0 t1 t2 t3 t4 t5
            have m3 : IntKind.i64.wrap ((i' : Int) + 3) = ((i' + 3 : Nat) : Int) := by rw [IntWalk.i64_in _ (by omega)]; omega
            have HPX := hid_ (HP9.out.to hbc3)
            have hbW9 := bnext hbc hbc3
            have r0 := hRB.cell 0
            have r1 := hRB.cell 1
            have r2 := hRB.cell 2
            simp at r0 r1 r2
            obtain ⟨Au', cu', hu9⟩ := own_form HPX.out.cur
            subst hu9
            have h63 : row'.length + 1 ≤ maxLen := by unfold maxLen; omega
            have hby : (row'.length + 1) * 24 ≤ 140737488355328 := by omega
            clear hRB
            go_upto_region 5 with (at_builtin; refine wpList_append_own_at _ rfl _ _ 72 rfl V0.heap.size 74 iR (.agg #[.int .i64 0, .int .i64 0, .int .i64 0]) 3 24 Tryd.underlying72 hiR hzR0 hzR1 hzR2 rfl (by omega) (.slice Au' row'.length cu') row'.length _ rfl (HPX.out.cur.alloc _) ⟨Y.heap.size, 0, none⟩ 1 1 (rcells (ruleQ x y z)) rfl rfl (by rw [HRQ.out]; exact newsA Y _ [.int .i64 ((x.toNat : Int) - 48), .int .i64 my, .int .i64 nz]) (rcells_one _) h63 hby (Nat.le_trans HPX.out.le (by simp)) ?_; intro u2 Z2 hown2 hg2 _ hat2)
            have HPN := hid_ (HPX.out.add hg2 hown2 hat2)
            have hbN : Below W.heap.size W Z2 := Below.grown (hbW9.alloc hbW9.size _) hg2 (Nat.le_trans hbW9.size (by simp)) (fun q hq => Nat.le_trans hWV (own_lt HPX.out.cur q hq))
            clear hown2 hg2 hat2
            go_wp2_with fail
            go_roundw
            case rel => exact ⟨rows', row' ++ [ruleQ x y z], _, _, _, i' + 3, rfl, by go_num, HPN, HQN, by omega, by omega, by simp; omega, hbN⟩
            case measure => simp [intOf]; omega
          · have tE : ¬ ((i' + 2 : Nat) : Int) < (s.size : Int) := by omega
            have HD9 := hid_ (hD hE)
            clear hC hD
            go_wp2_with fail
            go_meet
            exact ⟨rows', row', _, _, _, rfl, HP9.out, HD9.out, by omega, by omega, hbc⟩
        · have tB : ¬ (s.size : Int) ≤ 200 := by omega
          have HE := hid_ (show q0 = (rows, row) by have h := HQ.out; rwa [rbAt, if_neg hB] at h)
          clear HQ
          go_wp2_with fail
          go_meet
          exact ⟨rows, row, _, _, _, rfl, HP.out, HE.out, by omega, by omega, hbr⟩
      · have tA : ¬ (i : Int) + 2 < (s.size : Int) := by omega
        have HE := hid_ (show q0 = (rows, row) by
          have h := HQ.out
          rw [rbAt] at h
          split at h
          · rwa [rb_end (by rw [List.length_drop]; have : s.data.toList.length = s.size := rfl; omega)] at h
          · exact h)
        clear HQ
        go_wp2_with fail
        go_meet
        exact ⟨rows, row, _, _, _, rfl, HP.out, HE.out, by omega, by omega, hbr⟩
  case rest => as_aux_lemma =>
    obtain ⟨rows, row, u, v, vs, rfl, hP, hq, hl1, hl2, hbc⟩ := hcut
    obtain ⟨X, rfl⟩ : ∃ X : World, X = wc := ⟨_, rfl⟩
    have HP := hid_ hP
    have hML : rbM s.data.toList = ⟨(rows.length : Int) + 1, row.length, rows ++ [row]⟩ := by
      have h := HQ0.out
      rw [hq] at h
      unfold rbM
      rw [← h]
    have hRB := rbM_bound s.data.toList
    have HML := hid_ hML
    obtain ⟨M, hM⟩ : ∃ M, M = rbM s.data.toList := ⟨_, rfl⟩
    have hMe := hML
    rw [← hM] at hMe hRB
    have hsz : s.data.toList.length = s.size := rfl
    have hc1 : M.states = (rows.length : Int) + 1 := by rw [hMe]
    have hc2 : M.symbols = (row.length : Int) := by rw [hMe]
    have hc3 : M.rules.length = rows.length + 1 := by rw [hMe]; simp
    have hc4 : rows ++ [row] = M.rules := by rw [hMe]
    have HC1 := hid_ hc1
    have HC2 := hid_ hc2
    have HC3 := hid_ hc3
    have HC4 := hid_ hc4
    have HRB := hid_ hRB
    have HM := hid_ hM
    obtain ⟨Au, cu, hu9⟩ := own_form HP.out.cur
    obtain ⟨Av, cv, hv9⟩ := own_form HP.out.own
    subst hu9 hv9
    have h63 : rows.length + 1 ≤ maxLen := by unfold maxLen; omega
    have hby : (rows.length + 1) * 24 ≤ 140737488355328 := by omega
    have hws : V0.heap.size ≤ X.heap.size := HP.out.le
    have hwa : W.heap.size < X.heap.size := HP.out.box.lt
    have b2 := HP.out.box.cell 2
    simp at b2
    clear hP hq hq0 HQ0 HP0 hbx hML hMe hM hRB hc1 hc2 hc3 hc4
    go_upto_region 19 with (at_builtin; refine wpList_append_own_at _ rfl _ _ 22 rfl V0.heap.size 72 iL (.slice none 0 0) 1 24 Tryd.underlying22 hiL hzL0 hzL1 hzL2 rfl (by omega) (.slice Av rows.length cv) rows.length _ rfl (HP.out.own.alloc _) ⟨X.heap.size, 0, none⟩ 1 1 [.slice Au row.length cu] rfl rfl (newsA X _ [.slice Au row.length cu]) (by simp [Value.oneCell']) h63 hby (Nat.le_trans hws (by simp)) ?_; intro v2 Z hown2 hg2 _ hat2; have HPU := hid_ (HP.out.push hg2 hown2); obtain ⟨A3, c3, rfl⟩ := own_form hown2; have BZ := (HP.out.box.alloc (.cells #[.slice Au row.length cu] 72)).grownby hg2 (fun e => by have := own_lt HP.out.own _ e.symm; have := HP.out.lt; omega); have z2 := BZ.cell 2; have y2 := BZ.free 2; have hbZ := hid_ (Below.grown (hbc.alloc hbc.size (.cells #[.slice Au row.length cu] 72)) hg2 (Nat.le_trans hbc.size (by simp)) (fun q hq => Nat.le_trans hWV (own_lt HP.out.own q hq))); simp at z2; clear hown2 hg2 hat2 BZ)
    have HPV : Hid (W.heap.size < V0.heap.size) := hid_ HP.out.lt
    have hbZ2 := hbZ.out.setCell (p := ⟨W.heap.size, 2, none⟩) (Nat.le_refl _) (.slice A3 (rows.length + 1) c3)
    clear z2 y2 hbZ HP b2
    generalize Z.setCell ⟨W.heap.size, 2, none⟩ (.slice A3 (rows.length + 1) c3) = Y at *
    have k1 := HPU.out.1.cell 1
    have f1 := HPU.out.1.free 1
    simp at k1
    go_upto_region 20 with fail
    have HBX : Hid (Blk (Y.setCell ⟨W.heap.size, 1, none⟩ (.int .i64 (row.length : Int))) W.heap.size 24 #[.int .i64 M.states, .int .i64 M.symbols, .slice A3 M.rules.length c3]) := hid_ (by
      have := HPU.out.1.set_ 1 (.int .i64 (row.length : Int))
      rw [HC1.out, HC2.out, HC3.out]
      simpa using this)
    have HOX : Hid ((Y.setCell ⟨W.heap.size, 1, none⟩ (.int .i64 (row.length : Int))).ownsRow V0.heap.size 72 1 (.slice A3 M.rules.length c3) M.rules.length (vs ++ [.slice Au row.length cu])) := hid_ (by
      rw [HC3.out]
      exact ownsRow_setCell_other (a := ⟨W.heap.size, 1, none⟩) HPU.out.2.1 (fun e => by have := own_lt HPU.out.2.1 _ e; have := HPV.out; simp only at *; omega) _)
    have HGX : Hid (OwnRowsG (Y.setCell ⟨W.heap.size, 1, none⟩ (.int .i64 (row.length : Int))) V0.heap.size (vs ++ [.slice Au row.length cu]) M.rules) := hid_ (by
      rw [← HC4.out]
      exact HPU.out.2.2.1.set HPV.out _)
    have hbU := hbZ2.setCell (p := ⟨W.heap.size, 1, none⟩) (Nat.le_refl _) (.int .i64 (row.length : Int))
    clear HPU hbZ2 k1 f1
    generalize Y.setCell ⟨W.heap.size, 1, none⟩ (.int .i64 (row.length : Int)) = U at *
    have HMI : Hid (MachIn U U.heap.size (.slice A3 M.rules.length c3) M) := hid_ ⟨HGX.out.rules2 HOX.out, by rw [HC3.out]; omega, fun r hr => by have := HRB.out r hr; omega⟩
    obtain ⟨vb, hvb⟩ : ∃ b, b = validM M := ⟨_, rfl⟩
    have HVB := hid_ hvb
    have HVA : Hid (∀ Y, MachIn Y Y.heap.size (.slice A3 M.rules.length c3) M → Calls Tryd.prog 12 #[.agg #[.int .i64 M.states, .int .i64 M.symbols, .slice A3 M.rules.length c3]] Y fun e w' => e = .returned (.bool vb) ∧ Below Y.heap.size Y w') := hid_ (fun Y h => by rw [hvb]; exact rvalid_any M _ Y h)
    clear hvb
    have HRS := hid_ (HB1.out.to hbU)
    have hbR := bnext hbW hbU
    have b0 := HBX.out.cell 0
    have b1 := HBX.out.cell 1
    have b2 := HBX.out.cell 2
    simp at b0 b1 b2
    cases vb with
    | false =>
      have HN : Hid (rparseO s.data.toList = none) := hid_ (by
        rw [rparseO, if_neg]
        rintro ⟨h, _⟩
        rw [← HM.out, ← HVB.out] at h
        simp at h)
      go_upto_if 87 with (go_at_call 12; (with_reducible refine (HVA.out _ HMI.out).mono ?_); rintro e x1 ⟨rfl, hx1⟩)
      have HRS1 := hid_ (HRS.out.to hx1)
      have hbF := bnext hbR hx1
      have s0 := HRS1.out.free 0
      have s1 := HRS1.out.free 1
      have s2 := HRS1.out.free 2
      have r0 := HRS1.out.cell 0
      have r1 := HRS1.out.cell 1
      have r2 := HRS1.out.cell 2
      simp at r0 r1 r2
      go_wp2_with fail
      have BZ := (((HRS1.out).set_ 0 (.int .i64 0)).set_ 1 (.int .i64 0)).set_ 2 (.slice none 0 0)
      have e0 := BZ.cell 0
      have e1 := BZ.cell 1
      have e2 := BZ.cell 2
      simp at e0 e1 e2
      refine bodyPost_ret (v := .tuple #[.agg #[.int .i64 0, .int .i64 0, .slice none 0 0], .bool false]) (by simp [results, Tryd.results23, go_sem, e0, e1, e2]) rfl ?_
      exact ⟨none, 0, by rw [HN.out]; rfl, by rw [HN.out]; exact noM_in _, (((hbF).setCell (by simp <;> omega) _).setCell (by simp <;> omega) _).setCell (by simp <;> omega) _⟩
    | true =>
      obtain ⟨P, hP⟩ : ∃ P : ByteArray, P = ⟨(textM M).toArray⟩ := ⟨_, rfl⟩
      have HTX : Hid (∀ Y, MachIn Y Y.heap.size (.slice A3 M.rules.length c3) M → Calls Tryd.prog 25 #[.agg #[.int .i64 M.states, .int .i64 M.symbols, .slice A3 M.rules.length c3]] Y fun e w' => e = .returned (.string P) ∧ Below Y.heap.size Y w') := hid_ (fun Y h => by rw [hP]; exact rtext_any M _ Y h HVB.out.symm)
      by_cases hPs : P = s
      · have tP : (P.toList == s.toList) = true := by rw [hPs]; simp
        have HN : Hid (rparseO s.data.toList = some M) := hid_ (by
          rw [rparseO, if_pos, HM.out]
          rw [← HM.out]
          refine ⟨HVB.out.symm, ?_⟩
          rw [← hPs, hP])
        clear hPs hP
        go_upto_if 87 with (first
            | (go_at_call 12; (with_reducible refine (HVA.out U HMI.out).mono ?_); rintro e x1 ⟨rfl, hx1⟩; have HM1 := hid_ (HMI.out.to hx1); have HB9 := HBX.out.to hx1; have b0 := HB9.cell 0; have b1 := HB9.cell 1; have b2 := HB9.cell 2; simp at b0 b1 b2)
            | (go_at_call 25; (with_reducible refine (HTX.out x1 HM1.out).mono ?_); rintro e x2 ⟨rfl, hx2⟩; have hxx := bnext hx1 hx2))
        have HRS1 := hid_ (HRS.out.to hxx)
        have hbF := bnext hbR hxx
        have HO1 := hid_ (own_below HOX.out hxx)
        have HG1 := hid_ (HGX.out.below hxx)
        have HB8 := HBX.out.to hxx
        have d0 := HB8.cell 0
        have d1 := HB8.cell 1
        have d2 := HB8.cell 2
        simp at d0 d1 d2
        clear HB8
        have s0 := HRS1.out.free 0
        have s1 := HRS1.out.free 1
        have s2 := HRS1.out.free 2
        have r0 := HRS1.out.cell 0
        have r1 := HRS1.out.cell 1
        have r2 := HRS1.out.cell 2
        simp at r0 r1 r2
        go_wp2_with fail
        have BZ := (((HRS1.out).set_ 0 (.int .i64 M.states)).set_ 1 (.int .i64 M.symbols)).set_ 2 (.slice A3 M.rules.length c3)
        have e0 := BZ.cell 0
        have e1 := BZ.cell 1
        have e2 := BZ.cell 2
        simp at e0 e1 e2
        refine bodyPost_ret (v := .tuple #[.agg #[.int .i64 M.states, .int .i64 M.symbols, .slice A3 M.rules.length c3], .bool true]) (by simp [results, Tryd.results23, go_sem, e0, e1, e2]) rfl ?_
        have hlo : w.heap.size < V0.heap.size := by have := HPV.out; omega
        have ho3 := ownsRow_setCell_other (a := ⟨w.heap.size, 2, none⟩) (ownsRow_setCell_other (a := ⟨w.heap.size, 1, none⟩) (ownsRow_setCell_other (a := ⟨w.heap.size, 0, none⟩) HO1.out (fun e => by have := own_lt HO1.out _ e; simp only at this; omega) (.int .i64 M.states)) (fun e => by have := own_lt HO1.out _ e; simp only at this; omega) (.int .i64 M.symbols)) (fun e => by have := own_lt HO1.out _ e; simp only at this; omega) (.slice A3 M.rules.length c3)
        have hg3 := ((HG1.out.set (b := w.heap.size) (i := 0) hlo (.int .i64 M.states)).set (b := w.heap.size) (i := 1) hlo (.int .i64 M.symbols)).set (b := w.heap.size) (i := 2) hlo (.slice A3 M.rules.length c3)
        exact ⟨A3, c3, by rw [HN.out]; rfl, by rw [HN.out]; exact ⟨hg3.rules2 ho3, by show M.rules.length ≤ _; rw [HC3.out]; omega, fun r hr => by have := HRB.out r hr; omega⟩, (((hbF).setCell (by simp <;> omega) _).setCell (by simp <;> omega) _).setCell (by simp <;> omega) _⟩
      · have tP : (P.toList == s.toList) = false := by
          rw [beq_eq_false_iff_ne]
          intro h
          rw [ByteArray.toList_eq, ByteArray.toList_eq] at h
          exact hPs (ByteArray.ext (Array.ext' h))
        have HN : Hid (rparseO s.data.toList = none) := hid_ (by
          rw [rparseO, if_neg]
          rintro ⟨_, h⟩
          rw [← HM.out] at h
          refine hPs ?_
          rw [hP, h])
        clear hPs hP
        go_upto_if 87 with (first
            | (go_at_call 12; (with_reducible refine (HVA.out U HMI.out).mono ?_); rintro e x1 ⟨rfl, hx1⟩; have HM1 := hid_ (HMI.out.to hx1); have HB9 := HBX.out.to hx1; have b0 := HB9.cell 0; have b1 := HB9.cell 1; have b2 := HB9.cell 2; simp at b0 b1 b2)
            | (go_at_call 25; (with_reducible refine (HTX.out x1 HM1.out).mono ?_); rintro e x2 ⟨rfl, hx2⟩; have hxx := bnext hx1 hx2))
        have HRS1 := hid_ (HRS.out.to hxx)
        have hbF := bnext hbR hxx
        have s0 := HRS1.out.free 0
        have s1 := HRS1.out.free 1
        have s2 := HRS1.out.free 2
        have r0 := HRS1.out.cell 0
        have r1 := HRS1.out.cell 1
        have r2 := HRS1.out.cell 2
        simp at r0 r1 r2
        go_wp2_with fail
        have BZ := (((HRS1.out).set_ 0 (.int .i64 0)).set_ 1 (.int .i64 0)).set_ 2 (.slice none 0 0)
        have e0 := BZ.cell 0
        have e1 := BZ.cell 1
        have e2 := BZ.cell 2
        simp at e0 e1 e2
        refine bodyPost_ret (v := .tuple #[.agg #[.int .i64 0, .int .i64 0, .slice none 0 0], .bool false]) (by simp [results, Tryd.results23, go_sem, e0, e1, e2]) rfl ?_
        exact ⟨none, 0, by rw [HN.out]; rfl, by rw [HN.out]; exact noM_in _, (((hbF).setCell (by simp <;> omega) _).setCell (by simp <;> omega) _).setCell (by simp <;> omega) _⟩
end Go.Proofs.YtkbaiegfloajlaaDoor.Tp

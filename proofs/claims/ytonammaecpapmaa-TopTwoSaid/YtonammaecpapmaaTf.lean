/- Contracts: the band of package tape: reach. -/
import Derived.Test.YtonammaecpapmaaTe
namespace Go.Proofs.Ytonammaecpapmaa.Tp
open Go.RowKit

/-- A copy into a row, as a step of a region that draws: the row, and no other block, is written. -/
theorem step_copy_off {P : Program} {ops : Array Oper} {o : Oper} {a : Act} {w : World} {K : Act → World → Prop} {Q : Exit → Act → World → Prop} {E : Prop} (hgd : o.guard = none) (d s : Operand) (T : TypeId)
    (ho : o.op = .call { callee := .builtin .copy, args := #[d, s], argTypes := #[T, T] }) (elem : TypeId) (hu : P.underlying T = some (.slice elem)) (hsz : (P.info? elem).map (·.size) = some 1)
    (g f n c m c2 : Nat) (A2 : Option Addr) (hd : a.eval d = .slice (some ⟨g, f, none⟩) n c) (hs : a.eval s = .slice A2 m c2)
    (cur : Array Value) (t : TypeId) (hg : w.heap[g]? = some (.cells cur t (0, 0))) (cs : List Value) (hcs : cs.length = m) (hmn : m ≤ n) (hnc : f + m ≤ cur.size)
    (hsrc : 0 < m → ∃ ad, A2 = some ad ∧ ∀ j v, cs[j]? = some v → w.cell? (ad.add j) = some v) (h1 : ∀ v ∈ cs, v.oneCell' = true)
    (h : ∀ w', w'.heap[g]? = some (.cells (cur.toList.take f ++ cs ++ cur.toList.drop (f + m)).toArray t (0, 0)) → w.grownBy w' (some g) → w'.heap.size = w.heap.size → K (a.put o.dst (.int .i64 ((m : Nat) : Int))) w') :
    if Region.wanted o (yielded ops a.tmps) = true then Oper.wp P o a w K Q else E := by
  have hw : Region.wanted o (yielded ops a.tmps) = true := by simp [Region.wanted, hgd]
  rw [if_pos hw]
  rcases Nat.eq_zero_or_pos m with h0 | h0
  · subst h0
    have hcn : cs = [] := List.eq_nil_of_length_eq_zero hcs
    subst hcn
    have hrun := run_copy_none (P := P) w T T o.type elem (some ⟨g, f, none⟩) A2 n c 0 c2 hu hsz (by simp)
    unfold Oper.wp execOp
    simp only [ho, resolve, invoke, builtin, Sem.run_bind, Sem.run_pure, Result.andThen_ok, List.map_toArray, List.map_cons, List.map_nil, hd, hs, hrun]
    exact h w (by simpa using hg) (World.grownBy.refl w _) rfl
  · obtain ⟨ad, rfl, hc⟩ := hsrc h0
    have hrun := run_copy_row (P := P) w T T o.type elem g f n c ad m c2 cur t cs hu hsz hg (by rw [hcs]; simp [Nat.min_eq_left hmn]) hc (by omega) h1
    unfold Oper.wp execOp
    simp only [ho, resolve, invoke, builtin, Sem.run_bind, Sem.run_pure, Result.andThen_ok, List.map_toArray, List.map_cons, List.map_nil, hd, hs, hrun]
    have := h (w.setRow g (cur.toList.take f ++ cs ++ cur.toList.drop (f + m)).toArray) (setRow_heap w g _ _ t _ hg) ⟨rfl, rfl, rfl, by simp [World.setRow], fun k _ hk => setRow_other w g k _ (fun e => hk (by rw [e]))⟩ (by simp [World.setRow])
    simpa [hcs, goInt, Oper.upon] using this

theorem reach_zero (b : Band) (h1 : b.before = 0) (h2 : b.after = 0) : b.reach = b := by
  obtain ⟨st, pos, base, cells, low, high, inner, outer⟩ := b
  simp [Band.reach, h1, h2]

set_option maxRecDepth 100000 in
set_option maxHeartbeats 4000000 in
theorem reach_any (b : Band) (B go : Nat) (w : World) (h : BAt w B go b) (hs : BandSm b) (hne : b.cells ≠ [] ∨ b.before = 0) (hbig : b.before + b.cells.length + b.after ≤ 1000000000000) (hBw : B ≤ w.heap.size) :
    Calls Try.prog 53 #[.pointer (some ⟨go, 0, none⟩)] w fun e w' => e = .returned (.tuple #[]) ∧ BAt w' B go b.reach ∧ Below B w w' ∧ Kept w w' go := by
  obtain ⟨i0, hi, hz0, hz1, hz2⟩ := info_parts Try.infoI
  have HS : Hid ((Try.prog.info? 3).map (·.size) = some 1) := hid_ (by kernel_rfl)
  have HZ := hid_ (reach_zero b)
  have hbef : b.before = if b.low < b.base then b.base - b.low + (b.cells.length + (b.base - b.low)) else 0 := rfl
  have haft : b.after = if b.base + b.cells.length - 1 < b.high then (b.high - (b.base + b.cells.length - 1)) + (b.cells.length + (b.high - (b.base + b.cells.length - 1))) else 0 := rfl
  have hreach : b.reach = { b with base := b.base - b.before, cells := List.replicate b.before.toNat 0 ++ b.cells ++ List.replicate b.after.toNat 0 } := rfl
  obtain ⟨bb, hbb⟩ : ∃ x, x = b.before := ⟨_, rfl⟩
  obtain ⟨aa, haa⟩ : ∃ x, x = b.after := ⟨_, rfl⟩
  rw [← hbb] at hbef hne hbig hreach HZ
  rw [← haa] at haft hbig hreach HZ
  obtain ⟨rb, hrb⟩ : ∃ x, x = b.reach := ⟨_, rfl⟩
  rw [← hrb] at hreach HZ ⊢
  clear hbb haa hrb
  obtain ⟨st, pos, base, cells, low, high, inner, outer⟩ := b
  obtain ⟨_, ⟨s3, s4⟩, ⟨s5, s6⟩, ⟨s7, s8⟩, _, s9⟩ := hs
  simp only at s3 s4 s5 s6 s7 s8 s9 hbef haft hne hbig hreach
  obtain ⟨d1, hd1⟩ : ∃ d : Nat, (d : Int) = if low < base then base - low else 0 := ⟨(if low < base then base - low else 0).toNat, by split <;> omega⟩
  obtain ⟨d2, hd2⟩ : ∃ d : Nat, (d : Int) = if base + cells.length - 1 < high then high - (base + cells.length - 1) else 0 := ⟨(if base + cells.length - 1 < high then high - (base + cells.length - 1) else 0).toNat, by split <;> omega⟩
  obtain ⟨bf, hbf⟩ : ∃ n : Nat, (n : Int) = bb := ⟨bb.toNat, by split at hbef <;> omega⟩
  obtain ⟨af, haf⟩ : ∃ n : Nat, (n : Int) = aa := ⟨aa.toNat, by split at haft <;> omega⟩
  have eb1 : 0 < d1 → (d1 : Int) + ((cells.length : Int) + d1) = bf := by intro hp; split at hd1 <;> split at hbef <;> omega
  have eb0 : d1 = 0 → bf = 0 := by intro hp; split at hd1 <;> split at hbef <;> omega
  have ea1 : 0 < d2 → (d2 : Int) + ((cells.length : Int) + d2) = af := by intro hp; split at hd2 <;> split at haft <;> omega
  have ea0 : d2 = 0 → af = 0 := by intro hp; split at hd2 <;> split at haft <;> omega
  have HH := hid_ h
  have HNE := hid_ hne
  have HRE := hid_ hreach
  obtain ⟨A, c, ⟨c0, c1, c2, c3, c4, c5, c6, c7⟩, hf, hown, hB, hne', hbx⟩ := h.cells
  simp only at c2 c3 c4 c5
  subst hbf haf
  have HD1 := hid_ hd1
  have HD2 := hid_ hd2
  have HB1 := hid_ eb1
  have HB0 := hid_ eb0
  have HA1 := hid_ ea1
  have HA0 := hid_ ea0
  clear h hne hreach c0 c1 c6 c7 hf hown hne' hbx hbef haft hd1 hd2 eb1 eb0 ea1 ea0
  go_enter Try.func53, Try.ntmps53
  go_upto_region 0 with fail
  go_cut [2] (fun s wx => s = .int .i64 ((d1 : Nat) : Int) ∧ ∃ n, wx = w.drewN n)
  case first => as_aux_lemma =>
    have m1 : IntKind.i64.wrap (base - low) = base - low := IntWalk.i64_in _ (by omega)
    by_cases hlb : low < base
    · have hd : (d1 : Int) = base - low := by rw [HD1.out, if_pos hlb]
      have t1 : 0 < base - low := by omega
      have HD := hid_ hd
      clear hd
      go_quiet (fail)
      go_wp2_with fail
      go_meet
      exact ⟨by rw [HD.out], _, rfl⟩
    · have hd : (d1 : Int) = 0 := by rw [HD1.out, if_neg hlb]
      have t1 : ¬ 0 < base - low := by omega
      have HD := hid_ hd
      clear hd
      go_quiet (fail)
      go_wp2_with fail
      go_meet
      exact ⟨by rw [HD.out], _, rfl⟩
  case rest => as_aux_lemma =>
    obtain ⟨rfl, n1, rfl⟩ := hcut
    have HB := hid_ (HH.out.dN n1)
    have hbw : Below B w (w.drewN n1) := below_drewN (Below.refl _ _) n1
    have hkw : Kept w (w.drewN n1) go := (Kept.refl w go).dN n1
    have hBW : B ≤ (w.drewN n1).heap.size := hBw
    obtain ⟨A, c, ⟨c0, c1, c2, c3, c4, c5, c6, c7⟩, hf, hown, _, hne', hbx⟩ := HB.out.cells
    simp only at c2 c3 c4 c5
    generalize w.drewN n1 = W at *
    clear c0 c1 c6 c7 hf hown hne' hbx HH
    go_upto_region 1 with fail
    go_cut [3] (fun s wx => s = .int .i64 ((d2 : Nat) : Int) ∧ ∃ n, wx = W.drewN n)
    case first => as_aux_lemma =>
      have m1 : IntKind.i64.wrap (base + cells.length) = base + cells.length := IntWalk.i64_in _ (by omega)
      have m2 : IntKind.i64.wrap (base + cells.length - 1) = base + cells.length - 1 := IntWalk.i64_in _ (by omega)
      have m3 : IntKind.i64.wrap (high - (base + cells.length - 1)) = high - (base + cells.length - 1) := IntWalk.i64_in _ (by omega)
      by_cases hlb : base + cells.length - 1 < high
      · have hd : (d2 : Int) = high - (base + cells.length - 1) := by rw [HD2.out, if_pos hlb]
        have t1 : 0 < high - (base + cells.length - 1) := by omega
        have HD := hid_ hd
        clear hd
        go_quiet (fail)
        go_wp2_with fail
        go_meet
        exact ⟨by rw [HD.out], _, rfl⟩
      · have hd : (d2 : Int) = 0 := by rw [HD2.out, if_neg hlb]
        have t1 : ¬ 0 < high - (base + cells.length - 1) := by omega
        have HD := hid_ hd
        clear hd
        go_quiet (fail)
        go_wp2_with fail
        go_meet
        exact ⟨by rw [HD.out], _, rfl⟩
    case rest => as_aux_lemma =>
      obtain ⟨rfl, n2, rfl⟩ := hcut
      replace HB := hid_ (HB.out.dN n2)
      replace hbw : Below B w (W.drewN n2) := below_drewN hbw n2
      replace hkw : Kept w (W.drewN n2) go := hkw.dN n2
      replace hBW : B ≤ (W.drewN n2).heap.size := hBW
      obtain ⟨A, c, ⟨c0, c1, c2, c3, c4, c5, c6, c7⟩, hf, hown, _, hne', hbx⟩ := HB.out.cells
      simp only at c2 c3 c4 c5
      generalize W.drewN n2 = V at *
      have f2 := hf 2
      have f3 := hf 3
      clear c0 c1 c6 c7 hf hown hne' hbx
      by_cases hz : d1 = 0 ∧ d2 = 0
      · obtain ⟨z1, z2⟩ := hz
        have hr := HZ.out (by rw [HB0.out z1]; rfl) (by rw [HA0.out z2]; rfl)
        have HR := hid_ hr
        have z3 : ((d1 : Int) == 0) = true := by rw [beq_iff_eq]; omega
        have z4 : ((d2 : Int) == 0) = true := by rw [beq_iff_eq]; omega
        clear hr z1 z2
        go_wp2_with fail
        refine bodyPost_ret (v := .tuple #[]) (by simp [results, Try.results53, go_sem]) rfl ?_
        exact ⟨rfl, by rw [HR.out]; exact HB.out, hbw, hkw⟩
      · go_upto_region 2 with fail
        go_cut [37] (fun s wx => s = .bool false ∧ wx = V)
        case first => as_aux_lemma =>
          by_cases h1 : d1 = 0
          · have h2 : ((d2 : Int) == 0) = false := by rw [beq_eq_false_iff_ne]; omega
            have h3 : ((d1 : Int) == 0) = true := by rw [beq_iff_eq]; omega
            clear h1 hz
            go_wp2_with fail
            go_meet
            exact ⟨rfl, rfl⟩
          · have h3 : ((d1 : Int) == 0) = false := by rw [beq_eq_false_iff_ne]; omega
            clear h1 hz
            go_wp2_with fail
            go_meet
            exact ⟨rfl, rfl⟩
        case rest => as_aux_lemma =>
          obtain ⟨rfl, rfl⟩ := hcut
          go_upto_if 39 with fail
          go_cut [2] (fun s wx => s = .int .i64 ((bf : Nat) : Int) ∧ wx = wc)
          case first => as_aux_lemma =>
            by_cases h1 : d1 = 0
            · have hb := HB0.out h1
              have h2 : ¬ 0 < (d1 : Int) := by omega
              have h3 : ¬ 0 < d1 := by omega
              have HX : Hid ((d1 : Int) = (bf : Int)) := hid_ (by rw [h1, hb])
              clear h1 hb hz
              go_wp2_with fail
              go_meet
              exact ⟨by rw [← HX.out], rfl⟩
            · have hb := HB1.out (by omega)
              have h2 : 0 < (d1 : Int) := by omega
              have h3 : 0 < d1 := by omega
              have m1 : IntKind.i64.wrap ((cells.length : Int) + d1) = (cells.length : Int) + d1 := IntWalk.i64_in _ (by omega)
              have m2 : IntKind.i64.wrap ((d1 : Int) + ((cells.length : Int) + d1)) = (d1 : Int) + ((cells.length : Int) + d1) := IntWalk.i64_in _ (by omega)
              have HX := hid_ hb
              clear h1 hb hz
              go_wp2_with fail
              go_meet
              exact ⟨by rw [← HX.out], rfl⟩
          case rest => as_aux_lemma =>
            obtain ⟨rfl, hw⟩ := hcut
            subst hw
            go_upto_if 50 with fail
            go_cut [3] (fun s wx => s = .int .i64 ((af : Nat) : Int) ∧ wx = wc)
            case first => as_aux_lemma =>
              by_cases h1 : d2 = 0
              · have hb := HA0.out h1
                have h2 : ¬ 0 < (d2 : Int) := by omega
                have h3 : ¬ 0 < d2 := by omega
                have HX : Hid ((d2 : Int) = (af : Int)) := hid_ (by rw [h1, hb])
                clear h1 hb hz
                go_wp2_with fail
                go_meet
                exact ⟨by rw [← HX.out], rfl⟩
              · have hb := HA1.out (by omega)
                have h2 : 0 < (d2 : Int) := by omega
                have h3 : 0 < d2 := by omega
                have m1 : IntKind.i64.wrap ((cells.length : Int) + d2) = (cells.length : Int) + d2 := IntWalk.i64_in _ (by omega)
                have m2 : IntKind.i64.wrap ((d2 : Int) + ((cells.length : Int) + d2)) = (d2 : Int) + ((cells.length : Int) + d2) := IntWalk.i64_in _ (by omega)
                have HX := hid_ hb
                clear h1 hb hz
                go_wp2_with fail
                go_meet
                exact ⟨by rw [← HX.out], rfl⟩
            case rest => as_aux_lemma =>
              obtain ⟨rfl, hw⟩ := hcut
              subst hw
              obtain ⟨Q, hQ⟩ : ∃ Q : Nat, bf + cells.length = Q := ⟨_, rfl⟩
              obtain ⟨P, hP⟩ : ∃ P : Nat, Q + af = P := ⟨_, rfl⟩
              have hQi : (bf : Int) + (cells.length : Int) = (Q : Int) := by omega
              have hPi : (Q : Int) + (af : Int) = (P : Int) := by omega
              have hPb : P ≤ 1000000000000 := by omega
              have hPbf : bf = 0 ∨ bf < P := by
                rcases HNE.out with e | e
                · have : 0 < cells.length := List.length_pos_iff.2 e
                  omega
                · exact .inl (by omega)
              have HQ := hid_ hQ
              have HP := hid_ hP
              have HPB := hid_ hPbf
              clear hQ hP hPbf
              go_upto_region 8 with (at_make; refine wpList_make_full _ rfl _ _ 25 rfl wc.heap.size 3 i0 (.int .i64 0) 1 Try.underlying25 hi hz0 hz1 .i64 .i64 P P P rfl rfl rfl rfl (by rw [hz2]; omega) (by unfold maxLen; omega) (Nat.le_refl _) ?_; intro w3 hown hgr)
              have hb3 := make_below hgr
              have hblk : ∃ cur, w3.heap[wc.heap.size]? = some (.cells cur 3 (0, 0)) ∧ cur.size = P ∧ cur.toList = List.replicate P (.int .i64 0) := by
                rw [show (madeCells (Value.int .i64 0).cells (P * 1)).toList = List.replicate P (.int .i64 0) from by rw [Nat.mul_one]; exact toList_madeCells_one _ _] at hown
                rcases hown.2 with ⟨hv, _⟩ | ⟨g, cap, cur, hv, hg, hh, _, _, h4, h5⟩
                · cases hv
                · simp only [Value.slice.injEq, Option.some.injEq, Addr.mk.injEq, and_true, true_and] at hv
                  obtain ⟨rfl, rfl⟩ := hv
                  rw [Nat.mul_one] at h4 h5
                  refine ⟨cur, hh, h4, ?_⟩
                  rw [← h5, List.take_of_length_le (by simp [h4])]
              obtain ⟨cur, hcur, hcs, hcl⟩ := hblk
              have HCUR := hid_ hcur
              have HCS := hid_ hcs
              have HCL := hid_ hcl
              have HB3 := hid_ (HB.out.below hb3)
              have hgo : go < wc.heap.size := by obtain ⟨_, _, h1, _⟩ := HB.out; exact h1.lt
              have hbw3 := hbw.trans (hb3.mono hBW)
              have hkw3 : Kept w w3 go := hkw.grown hgr hgo (by simp) (fun k e => by cases e)
              obtain ⟨A3, cc3, ⟨c0', c1', c2', c3', c4', c5', c6', c7'⟩, hf', hown', _, hne3, hbx'⟩ := HB3.out.cells
              simp only at c2' c3' hown' hne3 hbx'
              have hsrc : 0 < cells.length → ∃ ad, A3 = some ad ∧ ∀ j v, (ints cells)[j]? = some v → w3.cell? (ad.add j) = some v := fun hp => by
                obtain ⟨g, rfl, hg⟩ := own_addr hown' hp
                refine ⟨_, rfl, fun j v hv => ?_⟩
                have hj : j < cells.length := by have := (List.getElem?_eq_some_iff.1 hv).1; rwa [ints_len] at this
                rw [addr_add, Nat.zero_add, hown'.cellAt j (by omega)]
                exact hv
              have HSRC := hid_ hsrc
              have HBX := hid_ hbx'
              have HOW := hid_ hown'
              have HN3 := hid_ hne3
              have r1 : ¬ P = bf := by
                rcases HPB.out with e | e
                · have := HQ.out; have := HP.out
                  intro e2
                  have hq0 : cells.length = 0 := by omega
                  have ha0 : af = 0 := by omega
                  apply hz
                  constructor
                  · rcases Nat.eq_zero_or_pos d1 with h | h
                    · exact h
                    · have := HB1.out h; omega
                  · rcases Nat.eq_zero_or_pos d2 with h | h
                    · exact h
                    · have := HA1.out h; omega
                · omega
              have r2 : (bf : Int) ≤ (P : Int) := by have := HPB.out; omega
              have r3 : 0 ≤ (bf : Int) := by omega
              have hlen1 : cells.length ≤ P - bf := by have := HQ.out; have := HP.out; omega
              have hlen2 : bf + cells.length ≤ cur.size := by have := HQ.out; have := HP.out; rw [hcs]; omega
              clear hown hgr hcur hcs hcl hown' hne3 hbx' hsrc hf' c0' c1' c4' c5' c6' c7' c2 c3 c4 c5 f2 f3 hz
              go_region_held3 (fun w' => w'.cell? ⟨go, 3, none⟩ = some (.slice A3 cells.length cc3))
                (first | assumption | exact c3' | exact (hg4.cell_far _ (cell_lt c3') (fun e => by have := Option.some.inj e; simp at this; omega)).trans c3')
                (first | (refine step_copy_off (by rfl) _ _ 25 (by rfl) 3 Try.underlying25 HS.out wc.heap.size bf (P - bf) (P - bf) cells.length cc3 A3 (by rfl) (by rfl) cur 3 HCUR.out (ints cells) ints_len hlen1 hlen2 HSRC.out ints_one ?_; intro w4 hh4 hg4 hs4))
              replace hg4 : w3.grownBy w4 (some wc.heap.size) := ⟨hg4.os, hg4.tape, hg4.output, hg4.size, hg4.block⟩
              have hne9 : some go ≠ some wc.heap.size := fun e => by
                have := Option.some.inj e
                omega
              have B4 := HBX.out.grownby hg4 hne9
              have b2 := B4.cell 2
              have b3 := B4.cell 3
              have g2 := B4.free 2
              have g3 := B4.free 3
              simp at b2 b3
              have HB4 := hid_ B4
              have HH4 := hid_ hh4
              have hbw4 : Below B w w4 := hbw3.trans (Below.grown (Below.refl B w3) hg4 (Nat.le_trans hBW hb3.size) (fun k hk => by cases hk; exact hBW))
              have hg4lt : go < w4.heap.size := B4.lt
              have hkw4 : Kept w w4 go := hkw3.grown hg4 HBX.out.lt hne9 (fun k e => by cases e; exact hkw.size)
              have m9 : IntKind.i64.wrap (base - (bf : Int)) = base - (bf : Int) := IntWalk.i64_in _ (by omega)
              clear B4 hh4 hg4 hs4 c3' c2'
              go_wp2_with fail
              go_end0
              have hrc : rb = ⟨st, pos, base - (bf : Int), List.replicate bf 0 ++ cells ++ List.replicate af 0, low, high, inner, outer⟩ := by
                rw [HRE.out]; simp
              have hlP : (List.replicate bf 0 ++ cells ++ List.replicate af 0).length = P := by
                have := HQ.out; have := HP.out
                simp
                omega
              have hlist : cur.toList.take bf ++ ints cells ++ cur.toList.drop (bf + cells.length) = ints (List.replicate bf 0 ++ cells ++ List.replicate af 0) := by
                have h1 := HQ.out
                have h2 := HP.out
                rw [HCL.out]
                simp only [ints, List.map_append, List.map_replicate, List.take_replicate, List.drop_replicate]
                rw [show min bf P = bf by omega, show P - (bf + cells.length) = af by omega]
              have hkw5 := (hkw4.row3 (.slice (some ⟨wc.heap.size, 0, none⟩) P P) (by rw [HB4.out.cell 3]; rfl) (.inr (fun k e => by simp [Value.ownBlock] at e; subst e; exact hkw.size))).box 2 (by decide) (.int .i64 (base - (bf : Int)))
              refine ⟨rfl, ?_, below_set (below_set hbw4 hB 3 _) hB 2 _, hkw5⟩
              rw [hrc]
              have hsz : (cur.toList.take bf ++ ints cells ++ cur.toList.drop (bf + cells.length)).toArray.size = P := by
                rw [hlist, List.size_toArray, ints_len, hlP]
              have own4 := own_of (w := w4) (base := B) (n := P) hBW HH4.out hsz (by unfold maxLen; omega)
              have hneg : (Value.slice (some ⟨wc.heap.size, 0, none⟩) P P).ownBlock ≠ some go := fun e => by
                simp [Value.ownBlock] at e
                omega
              refine ⟨some ⟨wc.heap.size, 0, none⟩, P, ?_, ?_, hB, ?_⟩
              · rw [hlP]
                simpa using (HB4.out.set_ 3 (.slice (some ⟨wc.heap.size, 0, none⟩) P P)).set_ 2 (.int .i64 (base - (bf : Int)))
              · rw [hlP, ← hlist]
                exact ownsRow_setCell_other (a := ⟨go, 2, none⟩) (ownsRow_setCell_other (a := ⟨go, 3, none⟩) own4 hneg _) hneg _
              · rw [hlP]
                exact hneg.symm
end Go.Proofs.Ytonammaecpapmaa.Tp

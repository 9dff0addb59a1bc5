/- The law CounterJoined: the walk. -/
import Derived.Test.YtgpcgjdnehlaeaaAn
namespace Go.Proofs.Ytgpcgjdnehlaeaa
open Go.RowKit

theorem app_below {wy v1 v2 : World} {g1 n c : Nat} {o : Obj} (h1 : ((wy.alloc o).drew).grownBy v1 (Value.slice (some ⟨wy.heap.size, 0, none⟩) 0 0).ownBlock) (hat : (Value.slice (some ⟨wy.heap.size, 0, none⟩) 0 0).ownBlock = some g1 ∨ g1 = wy.heap.size + 1) (h2 : v1.grownBy v2 (Value.slice (some ⟨g1, 0, none⟩) n c).ownBlock) : Below wy.heap.size wy v2 := by
  have b0 : Below wy.heap.size wy (wy.alloc o).drew := ((Below.refl _ wy).alloc (Nat.le_refl _) o).drew
  have b1 := b0.grown h1 (by rw [size_ad]; omega) (fun k hk => by simp [Value.ownBlock] at hk; omega)
  refine b1.grown h2 (by have := h1.size; rw [size_ad] at this; omega) (fun k hk => ?_)
  simp [Value.ownBlock] at hk
  rcases hat with hat | hat
  · simp [Value.ownBlock] at hat; omega
  · omega
theorem app_row {wy v2 : World} {g n c M : Nat} {xs ys : List Int} (h : v2.ownsRow wy.heap.size 3 1 (.slice (some ⟨g, 0, none⟩) n c) n (ints xs)) (hn : n = M) (hb : Below wy.heap.size wy v2) (hx : xs = ys) : RowAt wy v2 g M c ys := by
  subst hn hx
  exact ⟨h, hb⟩

theorem join_M {R1 R2 M : Nat} {A1 A2 : Option Addr} {n1 c1 n2 c2 : Nat} {a b : List Ins} {w : World} (hM1 : R1 < R2 → M = R2) (hM2 : ¬ R1 < R2 → M = R1) (h1 : CodeAt w w.heap.size A1 n1 a) (h2 : CodeAt w w.heap.size A2 n2 b) (hv1 : vCode R1 a = true) (hv2 : vCode R2 b = true) (hl : (joinC a b).length ≤ 2000) :
    Calls Try.prog 21 #[.agg #[.int .i64 R1, .slice A1 n1 c1], .agg #[.int .i64 R2, .slice A2 n2 c2]] w fun e w' =>
      ∃ A n c, e = .returned (.tuple #[.agg #[.int .i64 M, .slice A n c], .int .i64 0]) ∧ CodeAt w' w'.heap.size A n (joinC a b) ∧ Below w.heap.size w w' := by
  have := join_small (c1 := c1) (c2 := c2) h1 h2 hv1 hv2 hl
  have e : (if (R1 : Int) < R2 then (R2 : Int) else R1) = M := by
    by_cases h : R1 < R2
    · rw [if_pos (by omega), hM1 h]
    · rw [if_neg (by omega), hM2 h]
  rw [e] at this
  exact this

theorem joined_final {R1 R2 M N : Nat} {a b : List Ins} {La L : List Int} {oa o1 : Out} {ra ag an az bg bn bz : Int} (hv1 : vCode R1 a = true) (hv2 : vCode R2 b = true) (hM1 : R1 < R2 → M = R2) (hM2 : ¬ R1 < R2 → M = R1) (hlj : (joinC a b).length ≤ 2000)
    (hLa : La.length = M) (hL : L.length = M) (hLE : L = oa.rs ++ La.drop R1) (g1 : Good R1 a 0 (La.take R1)) (g2 : Good R2 b 0 (L.take R2)) (w1 : walkC a ff 3000 0 (La.take R1) = some oa) (w2 : walkC b ff 3000 0 (L.take R2) = some o1)
    (hi1 : a[oa.at_]? = some ⟨2, ag, an, az⟩) (hi2 : b[o1.at_]? = some ⟨2, bg, bn, bz⟩) (hr : oa.rs[0]? = some ra) (hbig : ¬ (1152921504606846976 : Int) ≤ ra) (hN : 10000 ≤ N) (hN2 : N ≤ 1000000) :
    ∃ F : Nat, (joinC a b)[o1.at_ + F]? = some (shiftI F ⟨2, bg, bn, bz⟩) ∧ runS M (joinC a b) 0 La N = ⟨((o1.at_ + F : Nat) : Int), o1.rs ++ L.drop R2, ((oa.k + o1.k + 2 : Nat) : Int), 0⟩ := by
  have gg1 := walk_good hv1 g1 w1
  have hk1 : oa.k ≤ 3000 := (walk_add (k := 0) w1).2.1
  have hk2 : o1.k ≤ 3000 := (walk_add (k := 0) w2).2.1
  have hra := gg1.ok ra (List.mem_of_getElem? hr)
  obtain ⟨F, hF, hw⟩ := joined_run (N := N) (e1 := La.drop R1) (e2 := L.drop R2) hv1 hv2 g1 g2 w1 hi1 rfl hr (by omega) (by omega) (by rw [← hLE, List.take_append_drop]) w2 hi2 rfl (by omega)
  refine ⟨F, hF, ?_⟩
  rw [List.take_append_drop] at hw
  have hvj := vCode_join hv1 hv2
  have e : (if (R1 : Int) < R2 then (R2 : Int) else R1) = M := by
    by_cases h : R1 < R2
    · rw [if_pos (by omega), hM1 h]
    · rw [if_neg (by omega), hM2 h]
  rw [e, decide_eq_true hlj] at hvj
  have hcl := (joinC_len a b).1
  have hga := g1.lt
  have hall : ∀ x ∈ La, 0 ≤ x ∧ x ≤ 1152921504606846976 := by
    intro x hx
    rw [← List.take_append_drop R1 La] at hx
    rcases List.mem_append.1 hx with hx | hx
    · exact g1.ok x hx
    · by_cases h : R1 < R2
      · have hM := hM1 h
        have : L.take R2 = L := List.take_of_length_le (by omega)
        refine g2.ok x ?_
        rw [this, hLE]
        exact List.mem_append_right _ hx
      · have hM := hM2 h
        rw [List.drop_eq_nil_of_le (by omega)] at hx
        cases hx
  have hgj : Good M (joinC a b) 0 La := ⟨by omega, hLa, hall⟩
  have hf := good_fits hvj hgj
  rw [show ((0 : Nat) : Int) = 0 from rfl] at hf
  rw [runS_eq hf (by omega) (by omega), Int.toNat_natCast, show (0 : Int).toNat = 0 from rfl, hw]
  rfl

set_option maxRecDepth 1000000 in
set_option maxHeartbeats 8000000 in
theorem joined_main (R1 R2 M : Nat) (A1 A2 A3 : Option Addr) (n1 c1 n2 c2 q d : Nat) (a b : List Ins) (regs : List Int) (w : World) (h1 : CodeAt w w.heap.size A1 n1 a) (h2 : CodeAt w w.heap.size A2 n2 b) (h3 : IntsAt w w.heap.size A3 q regs)
    (hn1 : n1 ≤ 900) (hn2 : n2 ≤ 900) (hq : q ≤ 100) (hv1 : vCode R1 a = true) (hv2 : vCode R2 b = true) (hM1 : R1 < R2 → M = R2) (hM2 : ¬ R1 < R2 → M = R1) :
    Calls Try.prog 6 #[.agg #[.int .i64 R1, .slice A1 n1 c1], .agg #[.int .i64 R2, .slice A2 n2 c2], .slice A3 q d] w fun e w' => e = .returned (.bool true) ∧ Below w.heap.size w w' := by
  obtain ⟨r1, r2, -, -⟩ := vCode_reg hv1
  obtain ⟨r3, r4, -, -⟩ := vCode_reg hv2
  have hRM1 : R1 ≤ M := by rcases Nat.lt_or_ge R1 R2 with h | h <;> omega
  have hRM2 : R2 ≤ M := by rcases Nat.lt_or_ge R1 R2 with h | h <;> omega
  have hM16 : M ≤ 16 := by rcases Nat.lt_or_ge R1 R2 with h | h <;> omega
  have H1 := hid_ h1; clear h1
  have H2 := hid_ h2; clear h2
  have H3 := hid_ h3; clear h3
  have V1 := hid_ hv1; clear hv1
  have V2 := hid_ hv2; clear hv2
  have HM1 := hid_ hM1; clear hM1
  have HM2 := hid_ hM2; clear hM2
  have m1 : ¬ (900 : Int) < n1 := by omega
  have m2 : ¬ (900 : Int) < n2 := by omega
  have m3 : ¬ (100 : Int) < q := by omega
  obtain ⟨z0, hz0, hz1, hz2, hz3⟩ := info_parts Try.info3
  go_enter Try.func6, Try.ntmps6
  go_wp2_with fail
  refine (rvalid_any R1 A1 n1 c1 a _ (H1.out.to (below2 w _ _))).mono ?_
  rw [V1.out]
  rintro e wa ⟨rfl, hba⟩
  obtain ⟨p0, p1, q0, q1, hz, hwa⟩ := boxes2 hba
  clear hba
  go_wp2_with fail
  refine (rvalid_any R2 A2 n2 c2 b _ (H2.out.to hwa)).mono ?_
  rw [V2.out]
  rintro e wb ⟨rfl, hbb⟩
  have hwb := bnext hwa hbb
  replace p0 := keepc hbb p0
  replace p1 := keepc hbb p1
  replace q0 := keepc hbb q0
  replace q1 := keepc hbb q1
  have zwb : w.heap.size + 1 < wb.heap.size := by have := hbb.size; omega
  have ywb : w.heap.size < wb.heap.size := by omega
  clear hwa hbb hz
  go_upto_region 3 with fail
  go_cut [7] (fun s7 wx => s7 = .int .i64 M ∧ wx = wb)
  case first => as_aux_lemma =>
    by_cases h : R1 < R2
    · have hMe := HM1.out h
      subst hMe
      go_wp2_with fail
      go_meet
      exact ⟨rfl, rfl⟩
    · have hMe := HM2.out h
      subst hMe
      go_wp2_with fail
      go_meet
      exact ⟨rfl, rfl⟩
  case rest => as_aux_lemma =>
    obtain ⟨rfl, rfl⟩ := hcut
    go_upto_block 0 with (at_make; refine wpList_make_full _ rfl _ _ 25 rfl wc.heap.size 3 z0 (.int .i64 0) 1 Try.underlying25 hz0 hz1 hz2 .i64 .i64 M M M rfl rfl rfl rfl (by rw [hz3]; omega) (by unfold maxLen; omega) (Nat.le_refl _) ?_; intro w3 hown hgr)
    obtain ⟨wb, rfl⟩ : ∃ wb : World, wb = wc := ⟨_, rfl⟩
    rw [ints_zero] at hown
    have hw3 : Below wb.heap.size wb w3 := ⟨hgr.os, hgr.tape, hgr.output, hgr.size, fun k hk => hgr.block k hk (by simp)⟩
    have HOWN := hid_ hown
    clear hown hgr
    go_cut [9] (fun s9 wx => ∃ (k : Nat) (L : List Int), s9 = .int .i64 ((k : Nat) : Int) ∧ L.length = M ∧ RowAt wb wx wb.heap.size M M L)
    case first => as_aux_lemma =>
      go_wp2_with fail
      go_loopw [9] (fun s wr => ∃ k : Nat, s = .int .i64 ((k : Nat) : Int) ∧ k ≤ q ∧ k ≤ M ∧ wr.ownsRow wb.heap.size 3 1 (.slice (some ⟨wb.heap.size, 0, none⟩) M M) M (ints (fillR M regs k)) ∧ Below wb.heap.size wb wr)
        (fun s _ => q - (intOf s).toNat)
      case atStart => exact ⟨0, rfl, Nat.zero_le _, Nat.zero_le _, HOWN.out, hw3⟩
      case round => as_aux_lemma =>
        obtain ⟨k, rfl, hk, hkM, hrow, hbr⟩ := hrel
        have HROW := hid_ hrow
        have hwr := bnext hwb hbr
        have hrz := (hrow.lt _ rfl).2
        clear hrow
        by_cases hlt : k < M
        · by_cases hltq : k < q
          · obtain ⟨bp, op, rfl, hbp, hip⟩ := H3.out.at_ (by omega)
            obtain ⟨x, hx⟩ : ∃ x, regs[k]? = some x := ⟨_, List.getElem?_eq_getElem (by rw [H3.out.len]; exact hltq)⟩
            have i1 := (hip.below hwr hbp) k x hx
            have HX := hid_ hx
            have hlen : (fillR M regs k).length = M := fillR_len (by rw [H3.out.len]; exact hk) hkM
            obtain ⟨y, hy⟩ : ∃ y, (fillR M regs k)[k]? = some y := ⟨_, List.getElem?_eq_getElem (by omega)⟩
            have cj : wr.cell? ⟨wb.heap.size, k, none⟩ = some (.int .i64 y) := by
              rw [HROW.out.cellAt k (by omega)]
              simp [ints, hy]
            have fj := HROW.out.frozenAt k
            clear hip hx hlen hy
            go_wp2_with fail
            go_roundw
            case rel => exact ⟨k + 1, by go_num, by omega, by omega, by rw [← fillR_step HX.out hlt, ← ints_set]; exact (HROW.out.stored k (.int .i64 x)).1, hbr.setCell (Nat.le_refl _) _⟩
            case measure => simp [intOf]; omega
          · go_wp2_with fail
            go_meet
            exact ⟨k, _, rfl, fillR_len (by rw [H3.out.len]; exact hk) hkM, HROW.out, hbr⟩
        · go_wp2_with fail
          go_meet
          exact ⟨k, _, rfl, fillR_len (by rw [H3.out.len]; exact hk) hkM, HROW.out, hbr⟩
    case rest => as_aux_lemma =>
      obtain ⟨k, L, rfl, hLl, hrow, hbr⟩ := hcut
      obtain ⟨W, rfl⟩ : ∃ W : World, W = wc := ⟨_, rfl⟩
      have hwW := bnext hwb hbr
      have HL := hid_ hrow
      have HLL := hid_ hLl
      have zW1 : w.heap.size + 1 < W.heap.size := by have := hbr.size; omega
      have zW0 : w.heap.size < W.heap.size := by omega
      replace p0 := keepc hbr p0
      replace p1 := keepc hbr p1
      replace q0 := keepc hbr q0
      replace q1 := keepc hbr q1
      clear hrow hLl HOWN hw3
      cases hX : runS R1 a 0 (L.take R1) 3000 with | mk xa xr xn xe
      have HX := hid_ hX
      clear hX
      have HALL := hid_ ((row_ints HL.out).take (k := R1) (by omega))
      have hRM : (R1 : Int) ≤ M := by omega
      have hRc : (R1 : Int) ≤ M := by omega
      go_upto_region 9 with fail
      go_cut [10, 11, 12] (fun s10 s11 s12 wx => ∃ gx, s10 = .pointer (some ⟨gx, 0, none⟩) ∧ s11 = .int .i64 xn ∧ s12 = .int .i64 xe ∧ BoxAt W xa xr gx wx)
      case first => as_aux_lemma =>
        go_region_held3 (fun w' => w'.cell? ⟨w.heap.size, 0, none⟩ = some (.int .i64 R1) ∧ w'.cell? ⟨w.heap.size, 1, none⟩ = some (.slice A1 n1 c1)) (first | assumption | exact ⟨p0, p1⟩ | exact keep2 hb' (by assumption) | exact keep2b _ hz' (by assumption) | exact keep2a _ (by assumption) | exact keep2c (by omega) (by assumption))
          (first
            | (go_at_call 15; (with_reducible refine (run_any R1 0 3000 A1 _ n1 c1 R1 _ a _ W.drew (H1.out.to hwW.drew) (HALL.out.to (Below.refl _ W).drew)).mono ?_); rw [HX.out]; rintro e w' ⟨Ax, mx, cx, rfl, hix, hfx, hb'⟩; have hz' : w.heap.size < w'.heap.size := (by have := hb'.drewl.size; omega))
            | (go_at_call 15; refine (run_any R1 0 3000 A1 _ n1 c1 R1 _ a _ (W.alloc (.cells #[.int .i64 0, .slice none 0 0] 27)).drew (H1.out.to (hwW.alloc (by omega) _).drew) (HALL.out.to (((Below.refl _ W).alloc (Nat.le_refl _) _).drew))).mono ?_; rw [HX.out]; rintro e w' ⟨Ax, mx, cx, rfl, hix, hfx, hb'⟩; have hz' : w.heap.size < w'.heap.size := (by have := hb'.size; rw [size_ad] at this; omega); obtain ⟨t0, t1, t2, t3⟩ := newbox hb'))
        · go_wp2_with fail
          go_meet
          exact ⟨w'.heap.size, rfl, rfl, rfl, box_after cx hix hb'⟩
        · go_wp2_with fail
          go_meet
          exact ⟨W.heap.size, rfl, rfl, rfl, box_before cx hix hfx hb'⟩
      case rest => as_aux_lemma =>
        obtain ⟨gx, rfl, rfl, rfl, Ax, mx, cx, hgx, hbxx, hix, hbx⟩ := hcut
        have HIX := hid_ hix
        clear hix
        have hwx := hwW.trans (hbx.mono hwW.size)
        have x0 := hbxx.cell 0
        have x1 := hbxx.cell 1
        simp at x0 x1
        replace p0 := keepc hbx p0
        replace p1 := keepc hbx p1
        replace q0 := keepc hbx q0
        replace q1 := keepc hbx q1
        have zx := hbxx.lt
        by_cases hxe : xe = 0
        · subst hxe
          obtain ⟨hf0, -, o1, hwk, rfl, rfl, rfl⟩ := run_ok HX.out
          obtain ⟨-, hg0, -, -⟩ := fitsB_good hf0
          simp at hg0 hwk
          have hg1 := walk_good V1.out hg0 hwk
          have hfx : fitsB R1 a o1.at_ o1.rs = true := good_fits V1.out hg1
          have hmx : mx = R1 := by rw [← HIX.out.len]; exact hg1.len
          have hln1 := H1.out.len
          have hatn : o1.at_ < n1 := by have := hg1.lt; omega
          have hatz : ((o1.at_ : Nat) : Int) < n1 := by omega
          have hatp : 0 ≤ ((o1.at_ : Nat) : Int) := by omega
          obtain ⟨b1, f1, rfl, hb1, hin1⟩ := H1.out.at_ (by omega)
          obtain ⟨i1, hi1⟩ : ∃ i, a[o1.at_]? = some i := ⟨_, List.getElem?_eq_getElem hg1.lt⟩
          obtain ⟨bx, fx, rfl, hbx', hinx⟩ := HIX.out.at_ (by omega)
          obtain ⟨r0, hr0⟩ : ∃ x, o1.rs[0]? = some x := ⟨_, List.getElem?_eq_getElem (by have := hg1.len; omega)⟩
          have HWK := hid_ hwk
          have HG0 := hid_ hg0
          have HG1 := hid_ hg1
          have HF := hid_ hfx
          have HI1 := hid_ hi1
          have HR0 := hid_ hr0
          have hmx0 : (0 : Int) < mx := by omega
          have hmx1 : mx ≤ 16 := by omega
          have HMX := hid_ hmx
          have HIN1 := hid_ hin1
          have HINX := hid_ hinx
          clear hf0 hg0 hwk hg1 hfx hi1 hr0 hmx hin1 hinx hln1
          go_wp2_with fail
          refine (rfits_any R1 o1.at_ _ _ n1 c1 mx cx a o1.rs _ (H1.out.to hwx) HIX.out).mono ?_
          rw [HF.out]
          rintro e wy ⟨rfl, hby⟩
          have hwy := bnext hwx hby
          replace x0 := keepc hby x0
          replace x1 := keepc hby x1
          replace p0 := keepc hby p0
          replace p1 := keepc hby p1
          replace q0 := keepc hby q0
          replace q1 := keepc hby q1
          have zy := hby.size
          obtain ⟨i0, -, -, -⟩ := (HIN1.out.below hwy hb1) o1.at_ i1 HI1.out
          have j0 := (HINX.out.below hby hbx') 0 r0 HR0.out
          simp at j0
          obtain ⟨op1, rg1, nx1, zr1⟩ := i1
          simp only at i0
          have zgx : gx < wy.heap.size := by omega
          have zw0 : w.heap.size < wy.heap.size := by omega
          have zw1 : w.heap.size + 1 < wy.heap.size := by omega
          by_cases ho1 : op1 = 2
          · subst ho1
            by_cases hbig : (1152921504606846976 : Int) ≤ r0
            · go_wp2_with fail
              refine (awake_any _).mono ?_
              rintro e wz ⟨rfl, hbz⟩
              go_wp2_with fail
              go_ret
              exact ⟨rfl, bnext hwy hbz⟩
            · go_wp2_with fail
              have HINXc := hid_ (HINX.out.below hby hbx')
              have hbWy := bnext hbx hby
              have HLc := hid_ (own_keep' HL.out hbWy (HL.out.lt _ rfl).2)
              have own0 : (wy.alloc (.cells #[] 3)).drew.ownsRow wy.heap.size 3 1 (.slice (some ⟨wy.heap.size, 0, none⟩) 0 0) 0 [] :=
                ⟨rfl, .inr ⟨wy.heap.size, 0, #[], rfl, Nat.le_refl _, heap_alloc_new wy _, Nat.le_refl _, by unfold maxLen; omega, rfl, rfl⟩⟩
              have hnews : ∀ j u, (ints o1.rs)[j]? = some u → (wy.alloc (.cells #[] 3)).drew.cell? ((⟨bx, fx, none⟩ : Addr).add j) = some u := by
                intro j u hu
                obtain ⟨x, hx, rfl⟩ := ints_get hu
                rw [addr_add]
                exact keepa _ (HINXc.out j x hx)
              have HT : Hid (∀ j u, (ints (L.drop R1))[j]? = some u → wy.cell? ⟨wb.heap.size, R1 + j, none⟩ = some u) := hid_ (fun j u hu => by
                obtain ⟨x, hx, rfl⟩ := ints_get hu
                rw [List.getElem?_drop] at hx
                have hjl : R1 + j < L.length := (List.getElem?_eq_some_iff.1 hx).1
                rw [HLL.out] at hjl
                rw [HLc.out.cellAt (R1 + j) (by omega)]
                simp [ints, hx])
              have HTL : Hid ((L.drop R1).length = M - R1) := hid_ (by simp [HLL.out])
              have zg : wb.heap.size < wy.heap.size := (HLc.out.lt _ rfl).2
              have HNW := hid_ hnews
              have HO0 := hid_ own0
              have HIL : Hid (o1.rs.length = mx) := hid_ (by rw [HG1.out.len, HMX.out])
              have HNE : Hid (∀ z, z < wy.heap.size → some z ≠ (Value.slice (some ⟨wy.heap.size, 0, none⟩) 0 0).ownBlock) := hid_ (fun z hz => by simp [Value.ownBlock]; omega)
              clear own0 hnews
              go_upto_region 14 with fail
              go_cut [13] (fun s13 wx => ∃ g c, s13 = .slice (some ⟨g, 0, none⟩) M c ∧ RowAt wy wx g M c (o1.rs ++ L.drop R1))
              case first => as_aux_lemma =>
                by_cases hcr : M = R1
                · have hMR : R1 = M := by omega 
                  clear hcr
                  subst hMR
                  go_region_held3 (fun w' => w'.cell? ⟨gx, 1, none⟩ = some (.slice (some ⟨bx, fx, none⟩) mx cx) ∧ w'.cell? ⟨w.heap.size, 0, none⟩ = some (.int .i64 R1))
                    (first | assumption | exact ⟨x1, p0⟩ | exact keep2a _ (by assumption) | exact keep22 hgrow1 (HNE.out _ zgx) (HNE.out _ zw0) (by assumption) | exact keep22 hgrow2 (lie_ne hat1 zgx) (lie_ne hat1 zw0) (by assumption))
                    (first
                      | (refine step_append_ints (by rfl) _ _ (by rfl) wy.heap.size 0 mx cx [] o1.rs (.slice (some ⟨wy.heap.size, 0, none⟩) 0 0) ⟨bx, fx, none⟩ (by rfl) (by rfl) HO0.out HIL.out HNW.out (by omega) (by omega) (by simp) (wy.heap.size + 1) (by simp) ?_; intro g1 cap1 v1 hown1 hgrow1 hat1 hlt1)
                      | (refine step_append_ints (by rfl) _ _ (by rfl) wy.heap.size (0 + mx) 0 0 ([] ++ o1.rs) [] (.slice (some ⟨g1, 0, none⟩) (0 + mx) cap1) ⟨wb.heap.size, 0, none⟩ (by rfl) (by rfl) hown1 rfl (fun j u hu => by simp [ints] at hu) (by omega) (by omega) (by have := hgrow1.size; simp [World.drew] at this; omega) _ rfl ?_; intro g2 cap2 v2 hown2 hgrow2 hat2 hlt2))
                  go_wp2_with fail
                  go_meet
                  have hmxe := HMX.out
                  refine ⟨g2, cap2, ?_, app_row hown2 (by omega) (app_below hgrow1 hat1 hgrow2) ?_⟩
                  · exact congrArg (fun z => Value.slice (some ⟨g2, 0, none⟩) z cap2) (by omega)
                  · first | rfl | (rw [List.drop_eq_nil_of_le (by rw [HLL.out]; omega)]; simp)
                · have hcr' : R1 < M := by omega
                  go_region_held3 (fun w' => w'.cell? ⟨gx, 1, none⟩ = some (.slice (some ⟨bx, fx, none⟩) mx cx) ∧ w'.cell? ⟨w.heap.size, 0, none⟩ = some (.int .i64 R1))
                    (first | assumption | exact ⟨x1, p0⟩ | exact keep2a _ (by assumption) | exact keep22 hgrow1 (HNE.out _ zgx) (HNE.out _ zw0) (by assumption) | exact keep22 hgrow2 (lie_ne hat1 zgx) (lie_ne hat1 zw0) (by assumption))
                    (first
                      | (refine step_append_ints (by rfl) _ _ (by rfl) wy.heap.size 0 mx cx [] o1.rs (.slice (some ⟨wy.heap.size, 0, none⟩) 0 0) ⟨bx, fx, none⟩ (by rfl) (by rfl) HO0.out HIL.out HNW.out (by omega) (by omega) (by simp) (wy.heap.size + 1) (by simp) ?_; intro g1 cap1 v1 hown1 hgrow1 hat1 hlt1)
                      | (refine step_append_ints (by rfl) _ _ (by rfl) wy.heap.size (0 + mx) (M - R1) (M - R1) ([] ++ o1.rs) (L.drop R1) (.slice (some ⟨g1, 0, none⟩) (0 + mx) cap1) ⟨wb.heap.size, R1, none⟩ (by rfl) (by rfl) hown1 HTL.out (fun j u hu => by rw [addr_add]; exact (hgrow1.cell_far ⟨wb.heap.size, R1 + j, none⟩ (by simp [World.drew]; omega) (HNE.out _ zg)).trans (keepa _ (HT.out j u hu))) (by omega) (by omega) (by have := hgrow1.size; simp [World.drew] at this; omega) _ rfl ?_; intro g2 cap2 v2 hown2 hgrow2 hat2 hlt2))
                  go_wp2_with fail
                  go_meet
                  have hmxe := HMX.out
                  refine ⟨g2, cap2, ?_, app_row hown2 (by omega) (app_below hgrow1 hat1 hgrow2) ?_⟩
                  · exact congrArg (fun z => Value.slice (some ⟨g2, 0, none⟩) z cap2) (by omega)
                  · first | rfl | (rw [List.drop_eq_nil_of_le (by rw [HLL.out]; omega)]; simp)
              case rest => as_aux_lemma =>
                obtain ⟨g2, cc, rfl, hrow2, hbz⟩ := hcut
                obtain ⟨oa, rfl⟩ : ∃ z, z = o1 := ⟨_, rfl⟩
                obtain ⟨La, rfl⟩ : ∃ z, z = L := ⟨_, rfl⟩
                obtain ⟨Wa, rfl⟩ : ∃ z, z = W := ⟨_, rfl⟩
                obtain ⟨ra, rfl⟩ : ∃ z, z = r0 := ⟨_, rfl⟩
                obtain ⟨wya, rfl⟩ : ∃ z, z = wy := ⟨_, rfl⟩
                have WKa := HWK
                have G0a := HG0
                have G1a := HG1
                have I1a := HI1
                have R0a := HR0
                have HLa := HL
                have HLLa := HLL
                have hbWa := bnext hbWy hbz
                have hbga := (HL.out.lt _ rfl).2
                have hbiga := hbig
                have hwya := bnext hwy hbz
                obtain ⟨-, hMc, hgB, -⟩ := own_cap hrow2
                clear HWK HG0 HG1 HI1 HR0 HL HLL HIX HIN1 HINX HF HINXc HLc HT HTL HNW HO0 HIL HNE i0 j0 x0 x1 hbig zg zgx zx zy HX HALL hRM hRc HMX hmx0 hmx1 hatn hatz hatp
                replace p0 := keepc hbz p0
                replace p1 := keepc hbz p1
                replace q0 := keepc hbz q0
                replace q1 := keepc hbz q1
                have hgw : w.heap.size + 1 < wya.heap.size := zw1
                clear hwb zwb ywb m1 m2 m3 hwx hgx hbx hby hbxx hbx' hb1 hwy zw0 zw1 hwW zW1 zW0 hbr
                obtain ⟨W, rfl⟩ : ∃ z : World, z = wc := ⟨_, rfl⟩
                have hwW := hwya
                have zW1 : w.heap.size + 1 < W.heap.size := by have := hbz.size; omega
                have zW0 : w.heap.size < W.heap.size := by omega
                have HLD : Hid (∃ L, L = oa.rs ++ La.drop R1) := hid_ ⟨_, rfl⟩
                obtain ⟨L, hLdef⟩ := HLD.out
                rw [← hLdef] at hrow2
                have HL := hid_ hrow2
                have HLE := hid_ hLdef
                have HLL : Hid (L.length = M) := hid_ (by rw [hLdef]; simp [G1a.out.len, HLLa.out]; omega)
                clear hrow2 hLdef HLD
                have hMc' : (M : Int) ≤ cc := by omega
                cases hX : runS R2 b 0 (L.take R2) 3000 with | mk xa xr xn xe
                have HX := hid_ hX
                clear hX
                have HALL := hid_ ((row_ints HL.out).take (k := R2) (by omega))
                have hRM : (R2 : Int) ≤ M := by omega
                have hRc : (R2 : Int) ≤ cc := by omega
                go_upto_region 15 with fail
                go_cut [14, 15, 16] (fun s10 s11 s12 wx => ∃ gx, s10 = .pointer (some ⟨gx, 0, none⟩) ∧ s11 = .int .i64 xn ∧ s12 = .int .i64 xe ∧ BoxAt W xa xr gx wx)
                case first => as_aux_lemma =>
                  go_region_held3 (fun w' => w'.cell? ⟨(w.heap.size + 1), 0, none⟩ = some (.int .i64 R2) ∧ w'.cell? ⟨(w.heap.size + 1), 1, none⟩ = some (.slice A2 n2 c2)) (first | assumption | exact ⟨q0, q1⟩ | exact keep2 hb' (by assumption) | exact keep2b _ hz' (by assumption) | exact keep2a _ (by assumption) | exact keep2c (by omega) (by assumption))
                    (first
                      | (go_at_call 15; (with_reducible refine (run_any R2 0 3000 A2 _ n2 c2 R2 _ b _ W.drew (H2.out.to hwW.drew) (HALL.out.to (Below.refl _ W).drew)).mono ?_); rw [HX.out]; rintro e w' ⟨Ax, mx, cx, rfl, hix, hfx, hb'⟩; have hz' : (w.heap.size + 1) < w'.heap.size := (by have := hb'.drewl.size; omega))
                      | (go_at_call 15; refine (run_any R2 0 3000 A2 _ n2 c2 R2 _ b _ (W.alloc (.cells #[.int .i64 0, .slice none 0 0] 27)).drew (H2.out.to (hwW.alloc (by omega) _).drew) (HALL.out.to (((Below.refl _ W).alloc (Nat.le_refl _) _).drew))).mono ?_; rw [HX.out]; rintro e w' ⟨Ax, mx, cx, rfl, hix, hfx, hb'⟩; have hz' : (w.heap.size + 1) < w'.heap.size := (by have := hb'.size; rw [size_ad] at this; omega); obtain ⟨t0, t1, t2, t3⟩ := newbox hb'))
                  · go_wp2_with fail
                    go_meet
                    exact ⟨w'.heap.size, rfl, rfl, rfl, box_after cx hix hb'⟩
                  · go_wp2_with fail
                    go_meet
                    exact ⟨W.heap.size, rfl, rfl, rfl, box_before cx hix hfx hb'⟩
                case rest => as_aux_lemma =>
                  obtain ⟨gx, rfl, rfl, rfl, Ax, mx, cx, hgx, hbxx, hix, hbx⟩ := hcut
                  have HIX := hid_ hix
                  clear hix
                  have hwx := hwW.trans (hbx.mono hwW.size)
                  have x0 := hbxx.cell 0
                  have x1 := hbxx.cell 1
                  simp at x0 x1
                  replace p0 := keepc hbx p0
                  replace p1 := keepc hbx p1
                  replace q0 := keepc hbx q0
                  replace q1 := keepc hbx q1
                  have zx := hbxx.lt
                  by_cases hxe : xe = 0
                  · subst hxe
                    obtain ⟨hf0, -, o1, hwk, rfl, rfl, rfl⟩ := run_ok HX.out
                    obtain ⟨-, hg0, -, -⟩ := fitsB_good hf0
                    simp at hg0 hwk
                    have hg1 := walk_good V2.out hg0 hwk
                    have hfx : fitsB R2 b o1.at_ o1.rs = true := good_fits V2.out hg1
                    have hmx : mx = R2 := by rw [← HIX.out.len]; exact hg1.len
                    have hln1 := H2.out.len
                    have hatn : o1.at_ < n2 := by have := hg1.lt; omega
                    have hatz : ((o1.at_ : Nat) : Int) < n2 := by omega
                    have hatp : 0 ≤ ((o1.at_ : Nat) : Int) := by omega
                    obtain ⟨b1, f1, rfl, hb1, hin1⟩ := H2.out.at_ (by omega)
                    obtain ⟨i1, hi1⟩ : ∃ i, b[o1.at_]? = some i := ⟨_, List.getElem?_eq_getElem hg1.lt⟩
                    obtain ⟨bx, fx, rfl, hbx', hinx⟩ := HIX.out.at_ (by omega)
                    obtain ⟨r0, hr0⟩ : ∃ x, o1.rs[0]? = some x := ⟨_, List.getElem?_eq_getElem (by have := hg1.len; omega)⟩
                    have HWK := hid_ hwk
                    have HG0 := hid_ hg0
                    have HG1 := hid_ hg1
                    have HF := hid_ hfx
                    have HI1 := hid_ hi1
                    have HR0 := hid_ hr0
                    have hmx0 : (0 : Int) < mx := by omega
                    have hmx1 : mx ≤ 16 := by omega
                    have HMX := hid_ hmx
                    have HIN1 := hid_ hin1
                    have HINX := hid_ hinx
                    clear hf0 hg0 hwk hg1 hfx hi1 hr0 hmx hin1 hinx hln1
                    go_wp2_with fail
                    refine (rfits_any R2 o1.at_ _ _ n2 c2 mx cx b o1.rs _ (H2.out.to hwx) HIX.out).mono ?_
                    rw [HF.out]
                    rintro e wy ⟨rfl, hby⟩
                    have hwy := bnext hwx hby
                    replace x0 := keepc hby x0
                    replace x1 := keepc hby x1
                    replace p0 := keepc hby p0
                    replace p1 := keepc hby p1
                    replace q0 := keepc hby q0
                    replace q1 := keepc hby q1
                    have zy := hby.size
                    obtain ⟨i0, -, -, -⟩ := (HIN1.out.below hwy hb1) o1.at_ i1 HI1.out
                    have j0 := (HINX.out.below hby hbx') 0 r0 HR0.out
                    simp at j0
                    obtain ⟨op1, rg1, nx1, zr1⟩ := i1
                    simp only at i0
                    have zgx : gx < wy.heap.size := by omega
                    have zw0 : w.heap.size < wy.heap.size := by omega
                    have zw1 : w.heap.size + 1 < wy.heap.size := by omega
                    by_cases ho1 : op1 = 2
                    · subst ho1
                      have hbWy := bnext hbx hby
                      have hlj : (joinC a b).length ≤ 2000 := by have := (joinC_len a b).2; have := H1.out.len; have := H2.out.len; omega
                      go_wp2_with fail
                      refine (join_M (M := M) HM1.out HM2.out (H1.out.to hwy) (H2.out.to hwy) V1.out V2.out hlj).mono ?_
                      rintro e wj ⟨Aj, nj, cj, rfl, hcj, hbj⟩
                      replace x1 := keepc hbj x1
                      replace q0 := keepc hbj q0
                      have HCJ := hid_ hcj
                      have hwj := bnext hwy hbj
                      have hbWj := bnext hbWy hbj
                      clear hcj p0 p1 q1 x0 i0 j0
                      have HLj := hid_ (own_keep' HLa.out (bnext hbWa hbWj) hbga)
                      go_wp2_with fail
                      obtain ⟨F, hcF, hrun⟩ := joined_final (N := 10000) V1.out V2.out HM1.out HM2.out hlj HLLa.out HLL.out HLE.out G0a.out HG0.out WKa.out HWK.out I1a.out HI1.out R0a.out (by omega) (by omega) (by omega)
                      have HCF := hid_ hcF
                      have hrun' : runS M (joinC a b) 0 La 10000 = _ := hrun
                      have HRUN := hid_ hrun'
                      clear hcF hrun hrun'
                      have hka : oa.k ≤ 3000 := (walk_add (k := 0) WKa.out).2.1
                      have hkb : o1.k ≤ 3000 := (walk_add (k := 0) HWK.out).2.1
                      refine (run_any M 0 10000 Aj _ nj cj M M (joinC a b) La _ (HCJ.out.to ((Below.refl _ wj).alloc (Nat.le_refl _) _)) ((row_ints HLj.out).to ((Below.refl _ wj).alloc (Nat.le_refl _) _))).mono ?_
                      rw [HRUN.out]
                      rintro e wz ⟨Az, mz, cz, rfl, hiz, _, hbz2⟩
                      replace x1 := keepc hbz2 (keepa _ x1)
                      replace q0 := keepc hbz2 (keepa _ q0)
                      obtain ⟨u0, u1, hzz, hbz2'⟩ := box_keep hbz2
                      have HIZ := hid_ hiz
                      have hwz := bnext hwj hbz2'
                      have hbWz := bnext hbWj hbz2'
                      replace HCJ := hid_ (HCJ.out.to hbz2')
                      clear hbz2 hiz
                      go_upto_region 22 with fail
                      obtain ⟨wyo, rfl⟩ : ∃ z, z = wy := ⟨_, rfl⟩
                      obtain ⟨wy, hwye⟩ : ∃ z, z = wz.alloc (.cells #[.int .i64 ((o1.at_ : Int) + (F : Int)), .slice Az mz cz] 27) := ⟨_, rfl⟩
                      have hbzy : Below wz.heap.size wz wy := by rw [hwye]; exact (Below.refl _ wz).alloc (Nat.le_refl _) _
                      have hBZ : Blk wy wz.heap.size 27 #[.int .i64 ((o1.at_ : Int) + (F : Int)), .slice Az mz cz] := by rw [hwye]; exact Blk.new _ _ _
                      rw [← hwye]
                      clear hwye
                      replace x1 := keepc hbzy x1
                      replace q0 := keepc hbzy q0
                      replace u0 := keepc hbzy u0
                      replace u1 := keepc hbzy u1
                      have v0 := hBZ.cell 0
                      have v1 := hBZ.cell 1
                      simp at v0 v1
                      replace HCJ := hid_ (HCJ.out.to hbzy)
                      replace HIZ := hid_ (HIZ.out.to hbzy)
                      have hwy := bnext hwz hbzy
                      have hbWy := bnext hbWz hbzy
                      have HINXc := hid_ (HINX.out.below (bnext hby (bnext (bnext hbj hbz2') hbzy)) hbx')
                      have HLc := hid_ (own_keep' HL.out hbWy (HL.out.lt _ rfl).2)
                      have zgx : gx < wy.heap.size := cell_lt x1
                      have zw1 : w.heap.size + 1 < wy.heap.size := cell_lt q0
                      have zw0 : w.heap.size < wy.heap.size := by omega
                      have zj : wj.heap.size < wy.heap.size := cell_lt u0
                      have zz : wz.heap.size < wy.heap.size := hBZ.lt
                      have own0 : (wy.alloc (.cells #[] 3)).drew.ownsRow wy.heap.size 3 1 (.slice (some ⟨wy.heap.size, 0, none⟩) 0 0) 0 [] :=
                        ⟨rfl, .inr ⟨wy.heap.size, 0, #[], rfl, Nat.le_refl _, heap_alloc_new wy _, Nat.le_refl _, by unfold maxLen; omega, rfl, rfl⟩⟩
                      have hnews : ∀ j u, (ints o1.rs)[j]? = some u → (wy.alloc (.cells #[] 3)).drew.cell? ((⟨bx, fx, none⟩ : Addr).add j) = some u := by
                        intro j u hu
                        obtain ⟨x, hx, rfl⟩ := ints_get hu
                        rw [addr_add]
                        exact keepa _ (HINXc.out j x hx)
                      have HT : Hid (∀ j u, (ints (L.drop R2))[j]? = some u → wy.cell? ⟨g2, R2 + j, none⟩ = some u) := hid_ (fun j u hu => by
                        obtain ⟨x, hx, rfl⟩ := ints_get hu
                        rw [List.getElem?_drop] at hx
                        have hjl : R2 + j < L.length := (List.getElem?_eq_some_iff.1 hx).1
                        rw [HLL.out] at hjl
                        rw [HLc.out.cellAt (R2 + j) (by omega)]
                        simp [ints, hx])
                      have HTL : Hid ((L.drop R2).length = M - R2) := hid_ (by simp [HLL.out])
                      have zg : g2 < wy.heap.size := (HLc.out.lt _ rfl).2
                      have HNW := hid_ hnews
                      have HO0 := hid_ own0
                      have HIL : Hid (o1.rs.length = mx) := hid_ (by rw [HG1.out.len, HMX.out])
                      have HNE : Hid (∀ z, z < wy.heap.size → some z ≠ (Value.slice (some ⟨wy.heap.size, 0, none⟩) 0 0).ownBlock) := hid_ (fun z hz => by simp [Value.ownBlock]; omega)
                      clear own0 hnews
                      go_upto_region 22 with fail
                      go_cut [22] (fun s13 wx => ∃ g c, s13 = .slice (some ⟨g, 0, none⟩) M c ∧ RowAt wy wx g M c (o1.rs ++ L.drop R2))
                      case first => as_aux_lemma =>
                        by_cases hcr : cc = R2
                        · have hMR : R2 = M := by omega 
                          have hCR : R2 = cc := by omega
                          clear hcr
                          subst hCR
                          subst hMR
                          go_region_held3 (fun w' => w'.cell? ⟨gx, 1, none⟩ = some (.slice (some ⟨bx, fx, none⟩) mx cx) ∧ w'.cell? ⟨(w.heap.size + 1), 0, none⟩ = some (.int .i64 R2))
                            (first | assumption | exact ⟨x1, q0⟩ | exact keep2a _ (by assumption) | exact keep22 hgrow1 (HNE.out _ zgx) (HNE.out _ zw1) (by assumption) | exact keep22 hgrow2 (lie_ne hat1 zgx) (lie_ne hat1 zw1) (by assumption))
                            (first
                              | (refine step_append_ints (by rfl) _ _ (by rfl) wy.heap.size 0 mx cx [] o1.rs (.slice (some ⟨wy.heap.size, 0, none⟩) 0 0) ⟨bx, fx, none⟩ (by rfl) (by rfl) HO0.out HIL.out HNW.out (by omega) (by omega) (by simp) (wy.heap.size + 1) (by simp) ?_; intro g1 cap1 v1 hown1 hgrow1 hat1 hlt1)
                              | (refine step_append_ints (by rfl) _ _ (by rfl) wy.heap.size (0 + mx) 0 0 ([] ++ o1.rs) [] (.slice (some ⟨g1, 0, none⟩) (0 + mx) cap1) ⟨g2, 0, none⟩ (by rfl) (by rfl) hown1 rfl (fun j u hu => by simp [ints] at hu) (by omega) (by omega) (by have := hgrow1.size; simp [World.drew] at this; omega) _ rfl ?_; intro g2 cap2 v2 hown2 hgrow2 hat2 hlt2))
                          go_wp2_with fail
                          go_meet
                          have hmxe := HMX.out
                          refine ⟨g2, cap2, ?_, app_row hown2 (by omega) (app_below hgrow1 hat1 hgrow2) ?_⟩
                          · exact congrArg (fun z => Value.slice (some ⟨g2, 0, none⟩) z cap2) (by omega)
                          · first | rfl | (rw [List.drop_eq_nil_of_le (by rw [HLL.out]; omega)]; simp)
                        · have hcr' : R2 < cc := by omega
                          go_region_held3 (fun w' => w'.cell? ⟨gx, 1, none⟩ = some (.slice (some ⟨bx, fx, none⟩) mx cx) ∧ w'.cell? ⟨(w.heap.size + 1), 0, none⟩ = some (.int .i64 R2))
                            (first | assumption | exact ⟨x1, q0⟩ | exact keep2a _ (by assumption) | exact keep22 hgrow1 (HNE.out _ zgx) (HNE.out _ zw1) (by assumption) | exact keep22 hgrow2 (lie_ne hat1 zgx) (lie_ne hat1 zw1) (by assumption))
                            (first
                              | (refine step_append_ints (by rfl) _ _ (by rfl) wy.heap.size 0 mx cx [] o1.rs (.slice (some ⟨wy.heap.size, 0, none⟩) 0 0) ⟨bx, fx, none⟩ (by rfl) (by rfl) HO0.out HIL.out HNW.out (by omega) (by omega) (by simp) (wy.heap.size + 1) (by simp) ?_; intro g1 cap1 v1 hown1 hgrow1 hat1 hlt1)
                              | (refine step_append_ints (by rfl) _ _ (by rfl) wy.heap.size (0 + mx) (M - R2) (cc - R2) ([] ++ o1.rs) (L.drop R2) (.slice (some ⟨g1, 0, none⟩) (0 + mx) cap1) ⟨g2, R2, none⟩ (by rfl) (by rfl) hown1 HTL.out (fun j u hu => by rw [addr_add]; exact (hgrow1.cell_far ⟨g2, R2 + j, none⟩ (by simp [World.drew]; omega) (HNE.out _ zg)).trans (keepa _ (HT.out j u hu))) (by omega) (by omega) (by have := hgrow1.size; simp [World.drew] at this; omega) _ rfl ?_; intro g2 cap2 v2 hown2 hgrow2 hat2 hlt2))
                          go_wp2_with fail
                          go_meet
                          have hmxe := HMX.out
                          refine ⟨g2, cap2, ?_, app_row hown2 (by omega) (app_below hgrow1 hat1 hgrow2) ?_⟩
                          · exact congrArg (fun z => Value.slice (some ⟨g2, 0, none⟩) z cap2) (by omega)
                          · first | rfl | (rw [List.drop_eq_nil_of_le (by rw [HLL.out]; omega)]; simp)
                      case rest => as_aux_lemma =>
                        obtain ⟨g3, c3, rfl, hrow3, hbv⟩ := hcut
                        replace u0 := keepc hbv u0
                        replace u1 := keepc hbv u1
                        replace v0 := keepc hbv v0
                        replace v1 := keepc hbv v1
                        replace HCJ := hid_ (HCJ.out.to hbv)
                        replace HIZ := hid_ (HIZ.out.to hbv)
                        have hwv := bnext hwy hbv
                        have HROW3 := hid_ (row_ints hrow3)
                        clear hrow3
                        have hlcj := HCJ.out.len
                        have hlt3 : o1.at_ + F < (joinC a b).length := (List.getElem?_eq_some_iff.1 HCF.out).1
                        obtain ⟨bj, fj, rfl, hbj2, hinj⟩ := HCJ.out.at_ (by omega)
                        obtain ⟨y0, -, -, -⟩ := hinj _ _ HCF.out
                        have t1 : o1.at_ + F < nj := by omega
                        have t2 : ((o1.at_ : Int) + (F : Int)) < nj := by omega
                        have t3 : 0 ≤ ((o1.at_ : Int) + (F : Int)) := by omega
                        simp [shiftI] at y0
                        clear hinj hlcj hlt3
                        go_wp2_with fail
                        refine (same_any 0 0 _ _ M mz c3 cz (o1.rs ++ L.drop R2) (o1.rs ++ L.drop R2) wc HROW3.out HIZ.out (by omega)).mono ?_
                        rw [show sameB 0 (o1.rs ++ L.drop R2) 0 (o1.rs ++ L.drop R2) = true by simp [sameB]]
                        rintro e wf ⟨rfl, hbf⟩
                        have hwf := bnext hwv hbf
                        go_wp2_with fail
                        refine (awake_any _).mono ?_
                        rintro e wz2 ⟨rfl, hbz⟩
                        go_wp2_with fail
                        go_ret
                        exact ⟨rfl, bnext hwf hbz⟩
                    · have ho1' : (op1 == 2) = false := by simpa using ho1
                      go_wp2_with fail
                      refine (awake_any _).mono ?_
                      rintro e wz ⟨rfl, hbz⟩
                      go_wp2_with fail
                      go_ret
                      exact ⟨rfl, bnext hwy hbz⟩
                  · have hxe' : (xe == 0) = false := by simpa using hxe
                    go_wp2_with fail
                    refine (awake_any _).mono ?_
                    rintro e wz ⟨rfl, hbz⟩
                    go_wp2_with fail
                    go_ret
                    exact ⟨rfl, bnext hwx hbz⟩
          · have ho1' : (op1 == 2) = false := by simpa using ho1
            go_wp2_with fail
            refine (awake_any _).mono ?_
            rintro e wz ⟨rfl, hbz⟩
            go_wp2_with fail
            go_ret
            exact ⟨rfl, bnext hwy hbz⟩
        · have hxe' : (xe == 0) = false := by simpa using hxe
          go_wp2_with fail
          refine (awake_any _).mono ?_
          rintro e wz ⟨rfl, hbz⟩
          go_wp2_with fail
          go_ret
          exact ⟨rfl, bnext hwx hbz⟩

end Go.Proofs.Ytgpcgjdnehlaeaa

/- Contracts: the band of package tape: widen. Contracts: the band of package tape: write. -/
import Derived.Test.YtonammaecpapmaaTf
namespace Go.Proofs.Ytonammaecpapmaa.Tp
open Go.RowKit

theorem ok_small {b : Band} {L H : Int} (h : BandOk b L H) (hs : H - L ≤ 190000000000) : BandSm b := by
  have h0 := inR_iff.1 h.pos
  have h1 := h.lo; have h2 := h.lo2; have h3 := h.hi; have h4 := h.hi2; have h5 := h.emp; have h6 := h.s1; have h7 := h.s2; have h8 := h.s3; have h9 := h.s4; have ha := h.neg; have hb := h.hig
  have hc := h.inn
  have hd := innerL_nonneg b.base b.cells
  have he := innerL_le b.base b.cells
  unfold maxPos at h0 ha hb
  have hl : (b.cells.length : Int) ≤ 1000000000000 := by omega
  exact ⟨by omega, by omega, by omega, by omega, by omega, by omega⟩
/-- A band that is fitted and then reaches: what it asks. -/
theorem fit_small {b : Band} {L H : Int} (h : BandOk b L H) (hs : H - L ≤ 180000000000) (hw : b.fit.wide = false) : BandSm b.fit ∧ b.fit.before + b.fit.cells.length + b.fit.after ≤ 1000000000000 ∧ 0 ≤ b.fit.before ∧ 0 ≤ b.fit.after := by
  obtain ⟨L', H', h1, _, h3, _, _, h6, h7⟩ := fit_ok h hw
  have h2 := ok_small h1 (by omega)
  have hb := ok_small h (by omega)
  obtain ⟨l1, l2, l3⟩ := fit_low b
  obtain ⟨u1, u2, u3⟩ := fit_high b
  have hp := hb.pos; have hq := hb.low; have hr := hb.high
  refine ⟨⟨hb.pos, hb.base, ?_, ?_, hb.inner, hb.len⟩, ?_, h6, h7⟩
  · rcases l3 with e | e <;> rw [e] <;> assumption
  · rcases u3 with e | e <;> rw [e] <;> assumption
  · have := h2.len
    have e : b.fit.reach.cells.length = b.fit.before.toNat + b.fit.cells.length + b.fit.after.toNat := by
      show (List.replicate b.fit.before.toNat 0 ++ b.fit.cells ++ List.replicate b.fit.after.toNat 0).length = _
      simp
      omega
    omega
theorem fresh_wide {b : Band} (he : b.empty = true) : b.fresh.fit.wide = false := by
  rw [show b.fresh = b.clear by rw [Band.fresh, if_pos he]]
  show decide (100000 ≤ (if b.pos - 1 < b.pos then b.pos else b.pos - 1) - (if b.pos < b.pos then b.pos else b.pos)) = false
  rw [if_pos (by omega), if_neg (by omega)]
  simp
/-- A band that is not empty holds cells; an empty one that is fitted has nothing before it. -/
theorem fresh_cells {b : Band} {L H : Int} (h : BandOk b L H) : b.fresh.fit.cells ≠ [] ∨ b.fresh.fit.before = 0 := by
  cases he : b.empty with
  | true =>
    right
    rw [show b.fresh = b.clear by rw [Band.fresh, if_pos he]]
    show (if (if b.pos < b.pos then b.pos else b.pos) < b.pos then _ else (0 : Int)) = 0
    rw [if_neg (by split <;> omega)]
  | false =>
    left
    rw [show b.fresh = b by rw [Band.fresh, if_neg (by rw [he]; simp)]]
    intro e
    have : b.empty = true := (empty_iff h).2 fun p => by
      rw [show b.cells = [] from e, cellAt_nil]
    rw [this] at he
    cases he

/-- What widen and write leave. -/
def WRan (B go : Nat) (o : Option Band) (w : World) (e : Ending) (w' : World) : Prop := match o with
  | some d => e = .returned (.bool true) ∧ BAt w' B go d ∧ Below B w w' ∧ Kept w w' go
  | none => e = .returned (.bool false) ∧ Below B w w'

section
variable (b : Band) (B go : Nat) (L H : Int) (w : World)

set_option maxRecDepth 100000 in
set_option maxHeartbeats 4000000 in
theorem widen_one (h : BAt w B go b) (hok : BandOk b L H) (hs : H - L ≤ 170000000000) (hBw : B ≤ w.heap.size) (hw : b.fresh.fit.wide = false) :
    Calls Try.prog 51 #[.pointer (some ⟨go, 0, none⟩)] w fun e w' => e = .returned (.bool true) ∧ BAt w' B go b.fresh.fit.reach ∧ Below B w w' ∧ Kept w w' go := by
  have HH := hid_ h
  have HOK := hid_ hok
  have hB : B ≤ go := by obtain ⟨_, _, _, _, h3, _⟩ := h; exact h3
  have HSM := hid_ (ok_small hok (by omega))
  obtain ⟨L1, H1, hok1, hlike, hspan, hemp⟩ := fresh_ok hok
  have HOK1 := hid_ hok1
  have HEMP := hid_ hemp
  have HSM1 := hid_ (ok_small hok1 (by omega))
  have HFS := hid_ (fit_small hok1 (by omega) hw)
  have HFC := hid_ (fresh_cells hok)
  have HWI := hid_ hw
  clear h hok hok1 hemp hlike hw
  go_enter Try.func51, Try.ntmps51
  go_upto_if 6 with (go_at_call 46; refine (empty_any b B go w HH.out).mono ?_; rintro e w' ⟨rfl, rfl⟩)
  go_cut [] (fun wx => BAt wx B go b.fresh ∧ Below B w' wx ∧ Kept w' wx go)
  case first => as_aux_lemma =>
    cases he : b.empty with
    | true =>
      have hf : b.fresh = b.clear := by rw [Band.fresh, if_pos he]
      have HF := hid_ hf
      clear he hf
      go_wp2_with fail
      refine (clear_any b B go _ HH.out HSM.out).mono ?_
      rintro e w1 ⟨rfl, h1, hb1, hk1⟩
      go_wp2_with fail
      go_meet
      exact ⟨by rw [HF.out]; exact h1, hb1, hk1⟩
    | false =>
      have hf : b.fresh = b := by rw [Band.fresh, if_neg (by rw [he]; simp)]
      have HF := hid_ hf
      clear he hf
      go_wp2_with fail
      go_meet
      exact ⟨by rw [HF.out]; exact HH.out, Below.refl _ _, Kept.refl _ _⟩
  case rest => as_aux_lemma =>
    obtain ⟨hx, hbx, hkx⟩ := hcut
    have HX := hid_ hx
    have hBX : B ≤ wc.heap.size := Nat.le_trans hBw hbx.size
    clear hx HH
    obtain ⟨X, rfl⟩ : ∃ X : World, X = wc := ⟨_, rfl⟩
    obtain ⟨A, c, ⟨c0, c1, c2, c3, c4, c5, c6, c7⟩, hf, hown, _, hne, hbxx⟩ := HX.out.cells
    clear c0 c2 c3 c6 c7 hf hown hne hbxx
    go_upto_region 3 with fail
    go_cut [3, 4] (fun s3 s4 wx => s3 = .int .i64 b.fresh.fit.low ∧ s4 = .int .i64 b.fresh.fit.high ∧ ∃ n, wx = X.drewN n)
    case first => as_aux_lemma =>
      have hl : b.fresh.fit.low = if b.fresh.pos < b.fresh.low then b.fresh.pos else b.fresh.low := rfl
      have hh : b.fresh.fit.high = if b.fresh.high < b.fresh.pos then b.fresh.pos else b.fresh.high := rfl
      have HL := hid_ hl
      have HHI := hid_ hh
      clear hl hh
      by_cases k1 : b.fresh.pos < b.fresh.low
      · have n1 : ¬ b.fresh.low < b.fresh.pos := by omega
        have n1' : ¬ b.fresh.low ≤ b.fresh.pos := by omega
        by_cases k2 : b.fresh.high < b.fresh.pos
        · have n2 : ¬ b.fresh.pos < b.fresh.high := by omega
          have n2' : ¬ b.fresh.pos ≤ b.fresh.high := by omega
          go_quiet (fail)
          go_wp2_with fail
          go_meet
          exact ⟨by rw [HL.out, if_pos (by omega)], by rw [HHI.out, if_pos (by omega)], _, rfl⟩
        · go_quiet (fail)
          go_wp2_with fail
          go_meet
          exact ⟨by rw [HL.out, if_pos (by omega)], by rw [HHI.out, if_neg (by omega)], _, rfl⟩
      · by_cases k2 : b.fresh.high < b.fresh.pos
        · have n2 : ¬ b.fresh.pos < b.fresh.high := by omega
          have n2' : ¬ b.fresh.pos ≤ b.fresh.high := by omega
          go_quiet (fail)
          go_wp2_with fail
          go_meet
          exact ⟨by rw [HL.out, if_neg (by omega)], by rw [HHI.out, if_pos (by omega)], _, rfl⟩
        · go_quiet (fail)
          go_wp2_with fail
          go_meet
          exact ⟨by rw [HL.out, if_neg (by omega)], by rw [HHI.out, if_neg (by omega)], _, rfl⟩
    case rest => as_aux_lemma =>
      obtain ⟨rfl, rfl, nn, rfl⟩ := hcut
      have HV := hid_ (HX.out.dN nn)
      have hbv : Below B w' (X.drewN nn) := below_drewN hbx nn
      have hkv : Kept w' (X.drewN nn) go := hkx.dN nn
      have hBV : B ≤ (X.drewN nn).heap.size := hBX
      clear HX c1 c4 c5 hbx hkx
      generalize X.drewN nn = V at *
      have hw2 : ¬ 100000 ≤ b.fresh.fit.high - b.fresh.fit.low := of_decide_eq_false HWI.out
      have hsm := HFS.out.1
      have hlo := hsm.low
      have hhi := hsm.high
      clear hsm
      obtain ⟨lo, hlo'⟩ : ∃ x, x = b.fresh.fit.low := ⟨_, rfl⟩
      obtain ⟨hi, hhi'⟩ : ∃ x, x = b.fresh.fit.high := ⟨_, rfl⟩
      have HLO := hid_ hlo'
      have HHI := hid_ hhi'
      rw [← hlo'] at hw2 hlo ⊢
      rw [← hhi'] at hw2 hhi ⊢
      clear hlo' hhi'
      have m1 : IntKind.i64.wrap (hi - lo) = hi - lo := IntWalk.i64_in _ (by omega)
      obtain ⟨A, c, ⟨c0, c1, c2, c3, c4, c5, c6, c7⟩, hf, hown, _, hne, hbxx⟩ := HV.out.cells
      have f4 := hf 4
      have f5 := hf 5
      have hlt := hbxx.lt
      clear c0 c1 c2 c3 c6 c7 hf hown hne hbxx
      go_wp2_with fail
      refine (reach_any b.fresh.fit B go _ (by rw [HLO.out, HHI.out]; exact (HV.out.set4 _).set5 _) HFS.out.1 HFC.out HFS.out.2.1 (by show B ≤ (World.setCell (World.setCell V _ _) _ _).heap.size; simp [World.setCell]; exact hBV)).mono ?_
      rintro e w5 ⟨rfl, h5, hb5, hk5⟩
      go_wp2_with fail
      go_ret
      exact ⟨rfl, h5, (below_set (below_set hbv hB 4 _) hB 5 _).trans hb5, ((hkv.box 4 (by decide) _).box 5 (by decide) _).trans hk5⟩

set_option maxRecDepth 100000 in
set_option maxHeartbeats 4000000 in
theorem widen_two (h : BAt w B go b) (hok : BandOk b L H) (hs : H - L ≤ 170000000000) (hBw : B ≤ w.heap.size) (hw1 : b.fresh.fit.wide = true) (hw2 : b.fresh.drawIn.fit.wide = false) :
    Calls Try.prog 51 #[.pointer (some ⟨go, 0, none⟩)] w fun e w' => e = .returned (.bool true) ∧ BAt w' B go b.fresh.drawIn.fit.reach ∧ Below B w w' ∧ Kept w w' go := by
  have HH := hid_ h
  have HOK := hid_ hok
  have hB : B ≤ go := by obtain ⟨_, _, _, _, h3, _⟩ := h; exact h3
  have HSM := hid_ (ok_small hok (by omega))
  obtain ⟨L1, H1, hok1, hlike, hspan, hemp⟩ := fresh_ok hok
  have HOK1 := hid_ hok1
  have HEMP := hid_ hemp
  have HSM1 := hid_ (ok_small hok1 (by omega))
  have he : b.empty = false := by
    cases he : b.empty with
    | false => rfl
    | true => rw [fresh_wide he] at hw1; cases hw1
  have he1 : b.fresh.empty = false := hemp.trans he
  have hokd := drawIn_ok hok1 he1
  have hspec := drawIn_spec hok1 he1
  have HSP := hid_ hspec
  have HSMD := hid_ (ok_small hokd (by omega))
  have HWA := hid_ hw1
  have HWB := hid_ hw2
  have HFCD : Hid (b.fresh.drawIn.fit.cells ≠ [] ∨ b.fresh.drawIn.fit.before = 0) := hid_ (.inl fun e => hspec.2.2.2.1 (by rw [show b.fresh.cells = [] from e, cellAt_nil]))
  have HFS := hid_ (fit_small hokd (by omega) hw2)
  clear h hok hok1 hemp hlike hw1 hw2 he he1 hokd hspec
  go_enter Try.func51, Try.ntmps51
  go_upto_if 6 with (go_at_call 46; refine (empty_any b B go w HH.out).mono ?_; rintro e w' ⟨rfl, rfl⟩)
  go_cut [] (fun wx => BAt wx B go b.fresh ∧ Below B w' wx ∧ Kept w' wx go)
  case first => as_aux_lemma =>
    cases he : b.empty with
    | true =>
      have hf : b.fresh = b.clear := by rw [Band.fresh, if_pos he]
      have HF := hid_ hf
      clear he hf
      go_wp2_with fail
      refine (clear_any b B go _ HH.out HSM.out).mono ?_
      rintro e w1 ⟨rfl, h1, hb1, hk1⟩
      go_wp2_with fail
      go_meet
      exact ⟨by rw [HF.out]; exact h1, hb1, hk1⟩
    | false =>
      have hf : b.fresh = b := by rw [Band.fresh, if_neg (by rw [he]; simp)]
      have HF := hid_ hf
      clear he hf
      go_wp2_with fail
      go_meet
      exact ⟨by rw [HF.out]; exact HH.out, Below.refl _ _, Kept.refl _ _⟩
  case rest => as_aux_lemma =>
    obtain ⟨hx, hbx, hkx⟩ := hcut
    have HX := hid_ hx
    have hBX : B ≤ wc.heap.size := Nat.le_trans hBw hbx.size
    clear hx HH
    obtain ⟨X, rfl⟩ : ∃ X : World, X = wc := ⟨_, rfl⟩
    obtain ⟨A, c, ⟨c0, c1, c2, c3, c4, c5, c6, c7⟩, hf, hown, _, hne, hbxx⟩ := HX.out.cells
    clear c0 c2 c3 c6 c7 hf hown hne hbxx
    go_upto_region 3 with fail
    go_cut [3, 4] (fun s3 s4 wx => s3 = .int .i64 b.fresh.fit.low ∧ s4 = .int .i64 b.fresh.fit.high ∧ ∃ n, wx = X.drewN n)
    case first => as_aux_lemma =>
      have hl : b.fresh.fit.low = if b.fresh.pos < b.fresh.low then b.fresh.pos else b.fresh.low := rfl
      have hh : b.fresh.fit.high = if b.fresh.high < b.fresh.pos then b.fresh.pos else b.fresh.high := rfl
      have HL := hid_ hl
      have HHI := hid_ hh
      clear hl hh
      by_cases k1 : b.fresh.pos < b.fresh.low
      · have n1 : ¬ b.fresh.low < b.fresh.pos := by omega
        have n1' : ¬ b.fresh.low ≤ b.fresh.pos := by omega
        by_cases k2 : b.fresh.high < b.fresh.pos
        · have n2 : ¬ b.fresh.pos < b.fresh.high := by omega
          have n2' : ¬ b.fresh.pos ≤ b.fresh.high := by omega
          go_quiet (fail)
          go_wp2_with fail
          go_meet
          exact ⟨by rw [HL.out, if_pos (by omega)], by rw [HHI.out, if_pos (by omega)], _, rfl⟩
        · go_quiet (fail)
          go_wp2_with fail
          go_meet
          exact ⟨by rw [HL.out, if_pos (by omega)], by rw [HHI.out, if_neg (by omega)], _, rfl⟩
      · by_cases k2 : b.fresh.high < b.fresh.pos
        · have n2 : ¬ b.fresh.pos < b.fresh.high := by omega
          have n2' : ¬ b.fresh.pos ≤ b.fresh.high := by omega
          go_quiet (fail)
          go_wp2_with fail
          go_meet
          exact ⟨by rw [HL.out, if_neg (by omega)], by rw [HHI.out, if_pos (by omega)], _, rfl⟩
        · go_quiet (fail)
          go_wp2_with fail
          go_meet
          exact ⟨by rw [HL.out, if_neg (by omega)], by rw [HHI.out, if_neg (by omega)], _, rfl⟩
    case rest => as_aux_lemma =>
      obtain ⟨rfl, rfl, nn, rfl⟩ := hcut
      have HV := hid_ (HX.out.dN nn)
      have hbv : Below B w' (X.drewN nn) := below_drewN hbx nn
      have hkv : Kept w' (X.drewN nn) go := hkx.dN nn
      have hBV : B ≤ (X.drewN nn).heap.size := hBX
      clear HX c1 c4 c5 hbx hkx
      generalize X.drewN nn = V at *
      have hw2 : 100000 ≤ b.fresh.fit.high - b.fresh.fit.low := of_decide_eq_true HWA.out
      have hsm := HSM1.out
      have hsl := hsm.low
      have hsh := hsm.high
      have hsp := hsm.pos
      have hlo : -4398046511104 ≤ b.fresh.fit.low ∧ b.fresh.fit.low ≤ 4398046511104 := by
        rcases (fit_low b.fresh).2.2 with e | e <;> rw [e] <;> assumption
      have hhi : -4398046511104 ≤ b.fresh.fit.high ∧ b.fresh.fit.high ≤ 4398046511104 := by
        rcases (fit_high b.fresh).2.2 with e | e <;> rw [e] <;> assumption
      clear hsm
      obtain ⟨lo, hlo'⟩ : ∃ x, x = b.fresh.fit.low := ⟨_, rfl⟩
      obtain ⟨hi, hhi'⟩ : ∃ x, x = b.fresh.fit.high := ⟨_, rfl⟩
      rw [← hlo'] at hw2 hlo ⊢
      rw [← hhi'] at hw2 hhi ⊢
      clear hlo' hhi'
      have m1 : IntKind.i64.wrap (hi - lo) = hi - lo := IntWalk.i64_in _ (by omega)
      go_upto_region 6 with (go_at_call 47; refine (drawIn_any b.fresh B go V HV.out HSM1.out b.fresh.drawIn.low ⟨HSP.out.1, Int.le_trans HSP.out.2.2.1 HSP.out.2.1⟩ HSP.out.2.2.2.1 (Int.le_trans HOK1.out.lo HOK1.out.lo2) (Int.lt_of_le_of_lt HOK1.out.hi HOK1.out.hi2) (by have := HOK1.out.few; omega)).mono ?_; rintro e V2 ⟨rfl, hx2, hbx2, hkx2⟩)
      have HX2 := hid_ hx2
      have hbv2 := hbv.trans hbx2
      have hkv2 := hkv.trans hkx2
      have hBX2 : B ≤ V2.heap.size := Nat.le_trans hBV hbx2.size
      clear hx2 hbx2 hkx2 hkv HV hbv hBV
      obtain ⟨A, c, ⟨c0, c1, c2, c3, c4, c5, c6, c7⟩, hf, hown, _, hne, hbxx⟩ := HX2.out.cells
      clear c0 c2 c3 c6 c7 hf hown hne hbxx
      go_upto_region 6 with fail
      go_cut [3, 4] (fun s3 s4 wx => s3 = .int .i64 b.fresh.drawIn.fit.low ∧ s4 = .int .i64 b.fresh.drawIn.fit.high ∧ ∃ n, wx = V2.drewN n)
      case first => as_aux_lemma =>
        have hl : b.fresh.drawIn.fit.low = if b.fresh.drawIn.pos < b.fresh.drawIn.low then b.fresh.drawIn.pos else b.fresh.drawIn.low := rfl
        have hh : b.fresh.drawIn.fit.high = if b.fresh.drawIn.high < b.fresh.drawIn.pos then b.fresh.drawIn.pos else b.fresh.drawIn.high := rfl
        have HL := hid_ hl
        have HHI := hid_ hh
        clear hl hh
        by_cases k1 : b.fresh.drawIn.pos < b.fresh.drawIn.low
        · have n1 : ¬ b.fresh.drawIn.low < b.fresh.drawIn.pos := by omega
          have n1' : ¬ b.fresh.drawIn.low ≤ b.fresh.drawIn.pos := by omega
          by_cases k2 : b.fresh.drawIn.high < b.fresh.drawIn.pos
          · have n2 : ¬ b.fresh.drawIn.pos < b.fresh.drawIn.high := by omega
            have n2' : ¬ b.fresh.drawIn.pos ≤ b.fresh.drawIn.high := by omega
            go_quiet (fail)
            go_wp2_with fail
            go_meet
            exact ⟨by rw [HL.out, if_pos (by omega)], by rw [HHI.out, if_pos (by omega)], _, rfl⟩
          · go_quiet (fail)
            go_wp2_with fail
            go_meet
            exact ⟨by rw [HL.out, if_pos (by omega)], by rw [HHI.out, if_neg (by omega)], _, rfl⟩
        · by_cases k2 : b.fresh.drawIn.high < b.fresh.drawIn.pos
          · have n2 : ¬ b.fresh.drawIn.pos < b.fresh.drawIn.high := by omega
            have n2' : ¬ b.fresh.drawIn.pos ≤ b.fresh.drawIn.high := by omega
            go_quiet (fail)
            go_wp2_with fail
            go_meet
            exact ⟨by rw [HL.out, if_neg (by omega)], by rw [HHI.out, if_pos (by omega)], _, rfl⟩
          · go_quiet (fail)
            go_wp2_with fail
            go_meet
            exact ⟨by rw [HL.out, if_neg (by omega)], by rw [HHI.out, if_neg (by omega)], _, rfl⟩
      case rest => as_aux_lemma =>
        obtain ⟨rfl, rfl, nn, rfl⟩ := hcut
        have HV := hid_ (HX2.out.dN nn)
        have hbv : Below B w' (V2.drewN nn) := below_drewN hbv2 nn
        have hkv : Kept w' (V2.drewN nn) go := hkv2.dN nn
        have hBV : B ≤ (V2.drewN nn).heap.size := hBX2
        clear HX2 c1 c4 c5 hbv2 hkv2
        generalize V2.drewN nn = V at *
        have hw2 : ¬ 100000 ≤ b.fresh.drawIn.fit.high - b.fresh.drawIn.fit.low := of_decide_eq_false HWB.out
        have hsm := HSMD.out
        have hsl := hsm.low
        have hsh := hsm.high
        have hsp := hsm.pos
        have hlo : -4398046511104 ≤ b.fresh.drawIn.fit.low ∧ b.fresh.drawIn.fit.low ≤ 4398046511104 := by
          rcases (fit_low b.fresh.drawIn).2.2 with e | e <;> rw [e] <;> assumption
        have hhi : -4398046511104 ≤ b.fresh.drawIn.fit.high ∧ b.fresh.drawIn.fit.high ≤ 4398046511104 := by
          rcases (fit_high b.fresh.drawIn).2.2 with e | e <;> rw [e] <;> assumption
        clear hsm
        obtain ⟨lo, hlo'⟩ : ∃ x, x = b.fresh.drawIn.fit.low := ⟨_, rfl⟩
        obtain ⟨hi, hhi'⟩ : ∃ x, x = b.fresh.drawIn.fit.high := ⟨_, rfl⟩
        have HLO := hid_ hlo'
        have HHI := hid_ hhi'
        rw [← hlo'] at hw2 hlo ⊢
        rw [← hhi'] at hw2 hhi ⊢
        clear hlo' hhi'
        have m1 : IntKind.i64.wrap (hi - lo) = hi - lo := IntWalk.i64_in _ (by omega)
        obtain ⟨A, c, ⟨c0, c1, c2, c3, c4, c5, c6, c7⟩, hf, hown, _, hne, hbxx⟩ := HV.out.cells
        have f4 := hf 4
        have f5 := hf 5
        have hlt := hbxx.lt
        clear c0 c1 c2 c3 c6 c7 hf hown hne hbxx
        go_wp2_with fail
        refine (reach_any b.fresh.drawIn.fit B go _ (by rw [HLO.out, HHI.out]; exact (HV.out.set4 _).set5 _) HFS.out.1 HFCD.out HFS.out.2.1 (by show B ≤ (World.setCell (World.setCell V _ _) _ _).heap.size; simp [World.setCell]; exact hBV)).mono ?_
        rintro e w5 ⟨rfl, h5, hb5, hk5⟩
        go_wp2_with fail
        go_ret
        exact ⟨rfl, h5, (below_set (below_set hbv hB 4 _) hB 5 _).trans hb5, ((hkv.box 4 (by decide) _).box 5 (by decide) _).trans hk5⟩

set_option maxRecDepth 100000 in
set_option maxHeartbeats 4000000 in
theorem widen_not (h : BAt w B go b) (hok : BandOk b L H) (hs : H - L ≤ 170000000000) (hBw : B ≤ w.heap.size) (hw1 : b.fresh.fit.wide = true) (hw2 : b.fresh.drawIn.fit.wide = true) :
    Calls Try.prog 51 #[.pointer (some ⟨go, 0, none⟩)] w fun e w' => e = .returned (.bool false) ∧ Below B w w' := by
  have HH := hid_ h
  have HOK := hid_ hok
  have hB : B ≤ go := by obtain ⟨_, _, _, _, h3, _⟩ := h; exact h3
  have HSM := hid_ (ok_small hok (by omega))
  obtain ⟨L1, H1, hok1, hlike, hspan, hemp⟩ := fresh_ok hok
  have HOK1 := hid_ hok1
  have HEMP := hid_ hemp
  have HSM1 := hid_ (ok_small hok1 (by omega))
  have he : b.empty = false := by
    cases he : b.empty with
    | false => rfl
    | true => rw [fresh_wide he] at hw1; cases hw1
  have he1 : b.fresh.empty = false := hemp.trans he
  have hokd := drawIn_ok hok1 he1
  have hspec := drawIn_spec hok1 he1
  have HSP := hid_ hspec
  have HSMD := hid_ (ok_small hokd (by omega))
  have HWA := hid_ hw1
  have HWB := hid_ hw2
  have HFCD : Hid (b.fresh.drawIn.fit.cells ≠ [] ∨ b.fresh.drawIn.fit.before = 0) := hid_ (.inl fun e => hspec.2.2.2.1 (by rw [show b.fresh.cells = [] from e, cellAt_nil]))
  clear h hok hok1 hemp hlike hw1 hw2 he he1 hokd hspec
  go_enter Try.func51, Try.ntmps51
  go_upto_if 6 with (go_at_call 46; refine (empty_any b B go w HH.out).mono ?_; rintro e w' ⟨rfl, rfl⟩)
  go_cut [] (fun wx => BAt wx B go b.fresh ∧ Below B w' wx ∧ Kept w' wx go)
  case first => as_aux_lemma =>
    cases he : b.empty with
    | true =>
      have hf : b.fresh = b.clear := by rw [Band.fresh, if_pos he]
      have HF := hid_ hf
      clear he hf
      go_wp2_with fail
      refine (clear_any b B go _ HH.out HSM.out).mono ?_
      rintro e w1 ⟨rfl, h1, hb1, hk1⟩
      go_wp2_with fail
      go_meet
      exact ⟨by rw [HF.out]; exact h1, hb1, hk1⟩
    | false =>
      have hf : b.fresh = b := by rw [Band.fresh, if_neg (by rw [he]; simp)]
      have HF := hid_ hf
      clear he hf
      go_wp2_with fail
      go_meet
      exact ⟨by rw [HF.out]; exact HH.out, Below.refl _ _, Kept.refl _ _⟩
  case rest => as_aux_lemma =>
    obtain ⟨hx, hbx, hkx⟩ := hcut
    have HX := hid_ hx
    have hBX : B ≤ wc.heap.size := Nat.le_trans hBw hbx.size
    clear hx HH
    obtain ⟨X, rfl⟩ : ∃ X : World, X = wc := ⟨_, rfl⟩
    obtain ⟨A, c, ⟨c0, c1, c2, c3, c4, c5, c6, c7⟩, hf, hown, _, hne, hbxx⟩ := HX.out.cells
    clear c0 c2 c3 c6 c7 hf hown hne hbxx
    go_upto_region 3 with fail
    go_cut [3, 4] (fun s3 s4 wx => s3 = .int .i64 b.fresh.fit.low ∧ s4 = .int .i64 b.fresh.fit.high ∧ ∃ n, wx = X.drewN n)
    case first => as_aux_lemma =>
      have hl : b.fresh.fit.low = if b.fresh.pos < b.fresh.low then b.fresh.pos else b.fresh.low := rfl
      have hh : b.fresh.fit.high = if b.fresh.high < b.fresh.pos then b.fresh.pos else b.fresh.high := rfl
      have HL := hid_ hl
      have HHI := hid_ hh
      clear hl hh
      by_cases k1 : b.fresh.pos < b.fresh.low
      · have n1 : ¬ b.fresh.low < b.fresh.pos := by omega
        have n1' : ¬ b.fresh.low ≤ b.fresh.pos := by omega
        by_cases k2 : b.fresh.high < b.fresh.pos
        · have n2 : ¬ b.fresh.pos < b.fresh.high := by omega
          have n2' : ¬ b.fresh.pos ≤ b.fresh.high := by omega
          go_quiet (fail)
          go_wp2_with fail
          go_meet
          exact ⟨by rw [HL.out, if_pos (by omega)], by rw [HHI.out, if_pos (by omega)], _, rfl⟩
        · go_quiet (fail)
          go_wp2_with fail
          go_meet
          exact ⟨by rw [HL.out, if_pos (by omega)], by rw [HHI.out, if_neg (by omega)], _, rfl⟩
      · by_cases k2 : b.fresh.high < b.fresh.pos
        · have n2 : ¬ b.fresh.pos < b.fresh.high := by omega
          have n2' : ¬ b.fresh.pos ≤ b.fresh.high := by omega
          go_quiet (fail)
          go_wp2_with fail
          go_meet
          exact ⟨by rw [HL.out, if_neg (by omega)], by rw [HHI.out, if_pos (by omega)], _, rfl⟩
        · go_quiet (fail)
          go_wp2_with fail
          go_meet
          exact ⟨by rw [HL.out, if_neg (by omega)], by rw [HHI.out, if_neg (by omega)], _, rfl⟩
    case rest => as_aux_lemma =>
      obtain ⟨rfl, rfl, nn, rfl⟩ := hcut
      have HV := hid_ (HX.out.dN nn)
      have hbv : Below B w' (X.drewN nn) := below_drewN hbx nn
      have hkv : Kept w' (X.drewN nn) go := hkx.dN nn
      have hBV : B ≤ (X.drewN nn).heap.size := hBX
      clear HX c1 c4 c5 hbx hkx
      generalize X.drewN nn = V at *
      have hw2 : 100000 ≤ b.fresh.fit.high - b.fresh.fit.low := of_decide_eq_true HWA.out
      have hsm := HSM1.out
      have hsl := hsm.low
      have hsh := hsm.high
      have hsp := hsm.pos
      have hlo : -4398046511104 ≤ b.fresh.fit.low ∧ b.fresh.fit.low ≤ 4398046511104 := by
        rcases (fit_low b.fresh).2.2 with e | e <;> rw [e] <;> assumption
      have hhi : -4398046511104 ≤ b.fresh.fit.high ∧ b.fresh.fit.high ≤ 4398046511104 := by
        rcases (fit_high b.fresh).2.2 with e | e <;> rw [e] <;> assumption
      clear hsm
      obtain ⟨lo, hlo'⟩ : ∃ x, x = b.fresh.fit.low := ⟨_, rfl⟩
      obtain ⟨hi, hhi'⟩ : ∃ x, x = b.fresh.fit.high := ⟨_, rfl⟩
      rw [← hlo'] at hw2 hlo ⊢
      rw [← hhi'] at hw2 hhi ⊢
      clear hlo' hhi'
      have m1 : IntKind.i64.wrap (hi - lo) = hi - lo := IntWalk.i64_in _ (by omega)
      go_upto_region 6 with (go_at_call 47; refine (drawIn_any b.fresh B go V HV.out HSM1.out b.fresh.drawIn.low ⟨HSP.out.1, Int.le_trans HSP.out.2.2.1 HSP.out.2.1⟩ HSP.out.2.2.2.1 (Int.le_trans HOK1.out.lo HOK1.out.lo2) (Int.lt_of_le_of_lt HOK1.out.hi HOK1.out.hi2) (by have := HOK1.out.few; omega)).mono ?_; rintro e V2 ⟨rfl, hx2, hbx2, hkx2⟩)
      have HX2 := hid_ hx2
      have hbv2 := hbv.trans hbx2
      have hkv2 := hkv.trans hkx2
      have hBX2 : B ≤ V2.heap.size := Nat.le_trans hBV hbx2.size
      clear hx2 hbx2 hkx2 hkv HV hbv hBV
      obtain ⟨A, c, ⟨c0, c1, c2, c3, c4, c5, c6, c7⟩, hf, hown, _, hne, hbxx⟩ := HX2.out.cells
      clear c0 c2 c3 c6 c7 hf hown hne hbxx
      go_upto_region 6 with fail
      go_cut [3, 4] (fun s3 s4 wx => s3 = .int .i64 b.fresh.drawIn.fit.low ∧ s4 = .int .i64 b.fresh.drawIn.fit.high ∧ ∃ n, wx = V2.drewN n)
      case first => as_aux_lemma =>
        have hl : b.fresh.drawIn.fit.low = if b.fresh.drawIn.pos < b.fresh.drawIn.low then b.fresh.drawIn.pos else b.fresh.drawIn.low := rfl
        have hh : b.fresh.drawIn.fit.high = if b.fresh.drawIn.high < b.fresh.drawIn.pos then b.fresh.drawIn.pos else b.fresh.drawIn.high := rfl
        have HL := hid_ hl
        have HHI := hid_ hh
        clear hl hh
        by_cases k1 : b.fresh.drawIn.pos < b.fresh.drawIn.low
        · have n1 : ¬ b.fresh.drawIn.low < b.fresh.drawIn.pos := by omega
          have n1' : ¬ b.fresh.drawIn.low ≤ b.fresh.drawIn.pos := by omega
          by_cases k2 : b.fresh.drawIn.high < b.fresh.drawIn.pos
          · have n2 : ¬ b.fresh.drawIn.pos < b.fresh.drawIn.high := by omega
            have n2' : ¬ b.fresh.drawIn.pos ≤ b.fresh.drawIn.high := by omega
            go_quiet (fail)
            go_wp2_with fail
            go_meet
            exact ⟨by rw [HL.out, if_pos (by omega)], by rw [HHI.out, if_pos (by omega)], _, rfl⟩
          · go_quiet (fail)
            go_wp2_with fail
            go_meet
            exact ⟨by rw [HL.out, if_pos (by omega)], by rw [HHI.out, if_neg (by omega)], _, rfl⟩
        · by_cases k2 : b.fresh.drawIn.high < b.fresh.drawIn.pos
          · have n2 : ¬ b.fresh.drawIn.pos < b.fresh.drawIn.high := by omega
            have n2' : ¬ b.fresh.drawIn.pos ≤ b.fresh.drawIn.high := by omega
            go_quiet (fail)
            go_wp2_with fail
            go_meet
            exact ⟨by rw [HL.out, if_neg (by omega)], by rw [HHI.out, if_pos (by omega)], _, rfl⟩
          · go_quiet (fail)
            go_wp2_with fail
            go_meet
            exact ⟨by rw [HL.out, if_neg (by omega)], by rw [HHI.out, if_neg (by omega)], _, rfl⟩
      case rest => as_aux_lemma =>
        obtain ⟨rfl, rfl, nn, rfl⟩ := hcut
        have HV := hid_ (HX2.out.dN nn)
        have hbv : Below B w' (V2.drewN nn) := below_drewN hbv2 nn
        have hkv : Kept w' (V2.drewN nn) go := hkv2.dN nn
        have hBV : B ≤ (V2.drewN nn).heap.size := hBX2
        clear HX2 c1 c4 c5 hbv2 hkv2
        generalize V2.drewN nn = V at *
        have hw2 :  100000 ≤ b.fresh.drawIn.fit.high - b.fresh.drawIn.fit.low := of_decide_eq_true HWB.out
        have hsm := HSMD.out
        have hsl := hsm.low
        have hsh := hsm.high
        have hsp := hsm.pos
        have hlo : -4398046511104 ≤ b.fresh.drawIn.fit.low ∧ b.fresh.drawIn.fit.low ≤ 4398046511104 := by
          rcases (fit_low b.fresh.drawIn).2.2 with e | e <;> rw [e] <;> assumption
        have hhi : -4398046511104 ≤ b.fresh.drawIn.fit.high ∧ b.fresh.drawIn.fit.high ≤ 4398046511104 := by
          rcases (fit_high b.fresh.drawIn).2.2 with e | e <;> rw [e] <;> assumption
        clear hsm
        obtain ⟨lo, hlo'⟩ : ∃ x, x = b.fresh.drawIn.fit.low := ⟨_, rfl⟩
        obtain ⟨hi, hhi'⟩ : ∃ x, x = b.fresh.drawIn.fit.high := ⟨_, rfl⟩
        have HLO := hid_ hlo'
        have HHI := hid_ hhi'
        rw [← hlo'] at hw2 hlo ⊢
        rw [← hhi'] at hw2 hhi ⊢
        clear hlo' hhi'
        have m1 : IntKind.i64.wrap (hi - lo) = hi - lo := IntWalk.i64_in _ (by omega)
        go_wp2_with fail
        go_ret
        exact ⟨rfl, hbv⟩
end

theorem widen_any (b : Band) (B go : Nat) (L H : Int) (w : World) (h : BAt w B go b) (hok : BandOk b L H) (hs : H - L ≤ 170000000000) (hBw : B ≤ w.heap.size) :
    Calls Try.prog 51 #[.pointer (some ⟨go, 0, none⟩)] w (WRan B go b.widen w) := by
  unfold Band.widen
  cases hw1 : b.fresh.fit.wide with
  | false =>
    rw [if_pos rfl]
    exact widen_one b B go L H w h hok hs hBw hw1
  | true =>
    rw [if_neg (by simp)]
    cases hw2 : b.fresh.drawIn.fit.wide with
    | false =>
      rw [if_pos rfl]
      exact widen_two b B go L H w h hok hs hBw hw1 hw2
    | true =>
      rw [if_neg (by simp)]
      exact widen_not b B go L H w h hok hs hBw hw1 hw2
end Go.Proofs.Ytonammaecpapmaa.Tp
namespace Go.Proofs.Ytonammaecpapmaa.Tp
open Go.RowKit

/-- The store of a symbol under the head, in memory. -/
theorem BAt.put {w : World} {B go : Nat} {b : Band} {c : Nat} (h : BAt w B go b) (k : Nat) (_hk : k < b.cells.length) (x : Int) {g : Nat} (hc : w.cell? ⟨go, 3, none⟩ = some (.slice (some ⟨g, 0, none⟩) b.cells.length c)) :
    BAt (w.setCell ⟨g, k, none⟩ (.int .i64 x)) B go { b with cells := b.cells.set k x } := by
  obtain ⟨A', c', h1, h2, h3, h4⟩ := h
  have e := h1.cell 3
  simp at e
  rw [hc] at e
  simp only [Option.some.injEq, Value.slice.injEq, true_and] at e
  obtain ⟨rfl, rfl⟩ := e
  refine ⟨some ⟨g, 0, none⟩, c, ?_, ?_, h3, ?_⟩
  · have := h1.far (p := ⟨g, k, none⟩) (fun e => h4 (by simp [Value.ownBlock, e])) (.int .i64 x)
    simpa using this
  · have := (h2.stored k (.int .i64 x)).1
    rw [ints_set] at this
    simpa using this
  · simpa using h4

set_option maxRecDepth 100000 in
set_option maxHeartbeats 4000000 in
theorem write_any (b : Band) (x : Int) (B go : Nat) (L H : Int) (w : World) (h : BAt w B go b) (hok : BandOk b L H) (hs : H - L ≤ 170000000000) (hBw : B ≤ w.heap.size) :
    Calls Try.prog 44 #[.pointer (some ⟨go, 0, none⟩), .int .i64 x] w (WRan B go (b.write x) w) := by
  have HH := hid_ h
  have HSM := hid_ (ok_small hok (by omega))
  have hB : B ≤ go := by obtain ⟨_, _, _, _, h3, _⟩ := h; exact h3
  unfold Band.write
  by_cases hx : b.sym = x
  · rw [if_pos hx]
    have HX := hid_ hx
    clear hx h hok
    go_enter Try.func44, Try.ntmps44
    go_wp2_with fail
    refine (symbol_any b B go w HH.out HSM.out).mono ?_
    rw [HX.out]
    rintro e w1 ⟨rfl, n, rfl⟩
    have t0 : (x == x) = true := by simp
    go_wp2_with fail
    go_ret
    exact ⟨rfl, HH.out.dN n, below_drewN (Below.refl _ _) n, (Kept.refl w go).dN n⟩
  · rw [if_neg hx]
    have hin : b.sym ≠ 0 → b.low ≤ b.pos ∧ b.pos ≤ b.high := fun e => sym_in hok e
    have e1 := hok.lo; have e2 := hok.lo2; have e3 := hok.hi; have e4 := hok.hi2
    have hwo := fun d (e : b.widen = some d) => widen_some hok e
    have HWA := hid_ (widen_any b B go L H)
    have HOK := hid_ hok
    obtain ⟨o, ho⟩ : ∃ o, o = b.sym := ⟨_, rfl⟩
    rw [← ho] at hx hin ⊢
    have HO := hid_ ho
    have hox : (o == x) = false := by simpa using hx
    have HOX := hid_ hx
    clear ho hx h hok
    by_cases hx0 : x = 0
    · rw [if_pos hx0]
      subst hx0
      have HO0 := hid_ (show ¬ o = 0 from HOX.out)
      have ho0 : (o == 0) = false := hox
      have hkS := HSM.out
      have hk1 : b.base ≤ b.pos ∧ b.pos < b.base + b.cells.length := by have := hin HOX.out; omega
      clear hin hwo e1 e2 e3 e4
      go_enter Try.func44, Try.ntmps44
      go_wp2_with fail
      refine (symbol_any b B go w HH.out HSM.out).mono ?_
      rw [← HO.out]
      rintro e w1 ⟨rfl, n, rfl⟩
      have HB0 := hid_ (HH.out.dN n)
      have hb0 : Below B w (w.drewN n) := below_drewN (Below.refl _ _) n
      have hk0 : Kept w (w.drewN n) go := (Kept.refl w go).dN n
      have hBW : B ≤ (w.drewN n).heap.size := hBw
      generalize w.drewN n = W at *
      obtain ⟨A, c, ⟨c0, c1, c2, c3, c4, c5, c6, c7⟩, hf, hown, _, hne, hbxx⟩ := HB0.out.cells
      have hsm := hkS
      have q1 := hsm.pos
      have q2 := hsm.base
      have q3 := hsm.inner
      obtain ⟨k, hk⟩ : ∃ k : Nat, b.pos - b.base = k := ⟨(b.pos - b.base).toNat, by have := hk1; omega⟩
      have hkl : k < b.cells.length := by have := hk1; omega
      obtain ⟨y, hy⟩ : ∃ y, b.cells[k]? = some y := ⟨_, List.getElem?_eq_getElem hkl⟩
      obtain ⟨g, rfl, hg⟩ := own_addr hown (by omega)
      have ck : W.cell? ⟨g, k, none⟩ = some (.int .i64 y) := by
        rw [hown.cellAt k (by omega)]
        exact ints_at hy
      have fk := hown.frozenAt k
      have m1 : IntKind.i64.wrap (b.pos - b.base) = b.pos - b.base := IntWalk.i64_in _ (by omega)
      have m2 : (b.pos - b.base).toNat = k := by omega
      have m3 : 0 ≤ b.pos - b.base := by omega
      have m4 : b.pos - b.base < b.cells.length := by omega
      have HP := hid_ (HB0.out.put k hkl 0 c3)
      have hBg : B ≤ g := hg
      have hbP : Below B w (W.setCell ⟨g, k, none⟩ (.int .i64 0)) := below_set hb0 hBg k _
      have hgne : g ≠ go := fun e => hne (by rw [e]; rfl)
      have hkP : Kept w (W.setCell ⟨g, k, none⟩ (.int .i64 0)) go := hk0.inrow (by rw [row_of c3]; rfl) hgne k _
      have HPUT : Hid (b.put o 0 = ⟨b.st, b.pos, b.base, b.cells.set k 0, b.low, b.high, b.inner + (if o = 0 then 1 else 0) - (if (0 : Int) = 0 then 1 else 0), b.outer⟩) := hid_ (by rw [Band.put, m2])
      clear c0 c4 c5 c6 c7 hf hown hne hbxx hy hk hsm
      go_wp2_with fail
      go_region
      have HP2 : Hid (BAt (W.setCell ⟨g, k, none⟩ (.int .i64 0)).drew B go ⟨b.st, b.pos, b.base, b.cells.set k 0, b.low, b.high, b.inner, b.outer⟩) := hid_ (HP.out.dN 1)
      have hbP2 : Below B w (W.setCell ⟨g, k, none⟩ (.int .i64 0)).drew := hbP.drew
      have hkP2 : Kept w (W.setCell ⟨g, k, none⟩ (.int .i64 0)).drew go := hkP.d
      clear c1 c2 c3 ck fk HP hbP hkP hgne m1 m2 m3 m4
      generalize (W.setCell ⟨g, k, none⟩ (.int .i64 0)).drew = V2 at *
      obtain ⟨A, c, ⟨c0, c1, c2, c3, c4, c5, c6, c7⟩, hf, hown, _, hne, hbxx⟩ := HP2.out.cells
      have f6 := hf 6
      simp only at c6
      clear c0 c1 c2 c3 c4 c5 c7 hf hown hne hbxx
      have m5 : IntKind.i64.wrap (b.inner - 1) = b.inner - 1 := IntWalk.i64_in _ (by omega)
      go_wp2_with fail
      go_ret
      refine ⟨rfl, ?_, below_set hbP2 hB 6 _, hkP2.box 6 (by decide) _⟩
      rw [HPUT.out, if_neg HO0.out]
      have := HP2.out.set6 (b.inner - 1)
      simpa using this
    · rw [if_neg hx0]
      have HX0 := hid_ hx0
      have hx1 : (x != 0) = true := by simpa using hx0
      have hx2 : (x == 0) = false := by simpa using hx0
      clear hin e1 e2 e3 e4 hx0
      cases hw : b.widen with
      | none =>
        have HW := hid_ hw
        clear hw hwo
        go_enter Try.func44, Try.ntmps44
        go_wp2_with fail
        refine (symbol_any b B go w HH.out HSM.out).mono ?_
        rw [← HO.out]
        rintro e w1 ⟨rfl, n, rfl⟩
        have HB0 := hid_ (HH.out.dN n)
        have hb0 : Below B w (w.drewN n) := below_drewN (Below.refl _ _) n
        have hk0 : Kept w (w.drewN n) go := (Kept.refl w go).dN n
        have hBW : B ≤ (w.drewN n).heap.size := hBw
        generalize w.drewN n = W at *
        go_wp2_with fail
        refine (HWA.out W HB0.out HOK.out hs hBW).mono ?_
        rw [HW.out]
        rintro e w2 ⟨rfl, hb2⟩
        go_wp2_with fail
        go_ret
        exact ⟨rfl, hb0.trans hb2⟩
      | some d =>
        obtain ⟨L', H', hokd, hlike, hspan, hd1, hd2⟩ := hwo d hw
        have HW := hid_ hw
        have hkS := ok_small hokd (by omega)
        have hk1 : d.base ≤ d.pos ∧ d.pos < d.base + d.cells.length := by
          have e1 := hokd.lo; have e2 := hokd.lo2; have e3 := hokd.hi; have e4 := hokd.hi2; have e5 := hlike.pos
          omega
        clear hw hwo hokd hlike hd1 hd2
        by_cases ho0 : o = 0
        · subst ho0
          simp only
          go_enter Try.func44, Try.ntmps44
          go_wp2_with fail
          refine (symbol_any b B go w HH.out HSM.out).mono ?_
          rw [← HO.out]
          rintro e w1 ⟨rfl, n, rfl⟩
          have HB0 := hid_ (HH.out.dN n)
          have hb0 : Below B w (w.drewN n) := below_drewN (Below.refl _ _) n
          have hk0 : Kept w (w.drewN n) go := (Kept.refl w go).dN n
          have hBW : B ≤ (w.drewN n).heap.size := hBw
          generalize w.drewN n = W at *
          go_wp2_with fail
          refine (HWA.out W HB0.out HOK.out hs hBW).mono ?_
          rw [HW.out]
          rintro e w2 ⟨rfl, hd, hb2, hk2⟩
          have HD := hid_ hd
          have hbd := hb0.trans hb2
          have hkd := hk0.trans hk2
          clear hd hb2 hk2 HB0 hb0 hk0
          obtain ⟨A, c, ⟨c0, c1, c2, c3, c4, c5, c6, c7⟩, hf, hown, _, hne, hbxx⟩ := HD.out.cells
          have hsm := hkS
          have q1 := hsm.pos
          have q2 := hsm.base
          have q3 := hsm.inner
          obtain ⟨k, hk⟩ : ∃ k : Nat, d.pos - d.base = k := ⟨(d.pos - d.base).toNat, by have := hk1; omega⟩
          have hkl : k < d.cells.length := by have := hk1; omega
          obtain ⟨y, hy⟩ : ∃ y, d.cells[k]? = some y := ⟨_, List.getElem?_eq_getElem hkl⟩
          obtain ⟨g, rfl, hg⟩ := own_addr hown (by omega)
          have ck : w2.cell? ⟨g, k, none⟩ = some (.int .i64 y) := by
            rw [hown.cellAt k (by omega)]
            exact ints_at hy
          have fk := hown.frozenAt k
          have m1 : IntKind.i64.wrap (d.pos - d.base) = d.pos - d.base := IntWalk.i64_in _ (by omega)
          have m2 : (d.pos - d.base).toNat = k := by omega
          have m3 : 0 ≤ d.pos - d.base := by omega
          have m4 : d.pos - d.base < d.cells.length := by omega
          have HP := hid_ (HD.out.put k hkl x c3)
          have hBg : B ≤ g := hg
          have hbP : Below B w (w2.setCell ⟨g, k, none⟩ (.int .i64 x)) := below_set hbd hBg k _
          have hgne : g ≠ go := fun e => hne (by rw [e]; rfl)
          have hkP : Kept w (w2.setCell ⟨g, k, none⟩ (.int .i64 x)) go := hkd.inrow (by rw [row_of c3]; rfl) hgne k _
          have HPUT : Hid (d.put 0 x = ⟨d.st, d.pos, d.base, d.cells.set k x, d.low, d.high, d.inner + (if (0 : Int) = 0 then 1 else 0) - (if x = 0 then 1 else 0), d.outer⟩) := hid_ (by rw [Band.put, m2])
          clear c0 c4 c5 c6 c7 hf hown hne hbxx hy hk hsm
          go_wp2_with fail
          go_region
          have HP2 : Hid (BAt (w2.setCell ⟨g, k, none⟩ (.int .i64 x)).drew B go ⟨d.st, d.pos, d.base, d.cells.set k x, d.low, d.high, d.inner, d.outer⟩) := hid_ (HP.out.dN 1)
          have hbP2 : Below B w (w2.setCell ⟨g, k, none⟩ (.int .i64 x)).drew := hbP.drew
          have hkP2 : Kept w (w2.setCell ⟨g, k, none⟩ (.int .i64 x)).drew go := hkP.d
          clear c1 c2 c3 ck fk HP hbP hkP hgne m1 m2 m3 m4
          generalize (w2.setCell ⟨g, k, none⟩ (.int .i64 x)).drew = V2 at *
          obtain ⟨A, c, ⟨c0, c1, c2, c3, c4, c5, c6, c7⟩, hf, hown, _, hne, hbxx⟩ := HP2.out.cells
          have f6 := hf 6
          simp only at c6
          clear c0 c1 c2 c3 c4 c5 c7 hf hown hne hbxx
          have m5 : IntKind.i64.wrap (d.inner + 1) = d.inner + 1 := IntWalk.i64_in _ (by omega)
          go_wp2_with fail
          go_ret
          refine ⟨rfl, ?_, below_set hbP2 hB 6 _, hkP2.box 6 (by decide) _⟩
          rw [HPUT.out, if_neg HX0.out]
          have := HP2.out.set6 (d.inner + 1)
          simpa using this
        · have HO0 := hid_ ho0
          have ho1 : (o == 0) = false := by simpa using ho0
          clear ho0
          simp only
          go_enter Try.func44, Try.ntmps44
          go_wp2_with fail
          refine (symbol_any b B go w HH.out HSM.out).mono ?_
          rw [← HO.out]
          rintro e w1 ⟨rfl, n, rfl⟩
          have HB0 := hid_ (HH.out.dN n)
          have hb0 : Below B w (w.drewN n) := below_drewN (Below.refl _ _) n
          have hk0 : Kept w (w.drewN n) go := (Kept.refl w go).dN n
          have hBW : B ≤ (w.drewN n).heap.size := hBw
          generalize w.drewN n = W at *
          go_wp2_with fail
          refine (HWA.out W HB0.out HOK.out hs hBW).mono ?_
          rw [HW.out]
          rintro e w2 ⟨rfl, hd, hb2, hk2⟩
          have HD := hid_ hd
          have hbd := hb0.trans hb2
          have hkd := hk0.trans hk2
          clear hd hb2 hk2 HB0 hb0 hk0
          obtain ⟨A, c, ⟨c0, c1, c2, c3, c4, c5, c6, c7⟩, hf, hown, _, hne, hbxx⟩ := HD.out.cells
          have hsm := hkS
          have q1 := hsm.pos
          have q2 := hsm.base
          have q3 := hsm.inner
          obtain ⟨k, hk⟩ : ∃ k : Nat, d.pos - d.base = k := ⟨(d.pos - d.base).toNat, by have := hk1; omega⟩
          have hkl : k < d.cells.length := by have := hk1; omega
          obtain ⟨y, hy⟩ : ∃ y, d.cells[k]? = some y := ⟨_, List.getElem?_eq_getElem hkl⟩
          obtain ⟨g, rfl, hg⟩ := own_addr hown (by omega)
          have ck : w2.cell? ⟨g, k, none⟩ = some (.int .i64 y) := by
            rw [hown.cellAt k (by omega)]
            exact ints_at hy
          have fk := hown.frozenAt k
          have m1 : IntKind.i64.wrap (d.pos - d.base) = d.pos - d.base := IntWalk.i64_in _ (by omega)
          have m2 : (d.pos - d.base).toNat = k := by omega
          have m3 : 0 ≤ d.pos - d.base := by omega
          have m4 : d.pos - d.base < d.cells.length := by omega
          have HP := hid_ (HD.out.put k hkl x c3)
          have hBg : B ≤ g := hg
          have hbP : Below B w (w2.setCell ⟨g, k, none⟩ (.int .i64 x)) := below_set hbd hBg k _
          have hgne : g ≠ go := fun e => hne (by rw [e]; rfl)
          have hkP : Kept w (w2.setCell ⟨g, k, none⟩ (.int .i64 x)) go := hkd.inrow (by rw [row_of c3]; rfl) hgne k _
          have HPUT : Hid (d.put o x = ⟨d.st, d.pos, d.base, d.cells.set k x, d.low, d.high, d.inner + (if o = 0 then 1 else 0) - (if x = 0 then 1 else 0), d.outer⟩) := hid_ (by rw [Band.put, m2])
          clear c0 c4 c5 c6 c7 hf hown hne hbxx hy hk hsm
          go_wp2_with fail
          go_region
          have HP2 : Hid (BAt (w2.setCell ⟨g, k, none⟩ (.int .i64 x)).drew B go ⟨d.st, d.pos, d.base, d.cells.set k x, d.low, d.high, d.inner, d.outer⟩) := hid_ (HP.out.dN 1)
          have hbP2 : Below B w (w2.setCell ⟨g, k, none⟩ (.int .i64 x)).drew := hbP.drew
          have hkP2 : Kept w (w2.setCell ⟨g, k, none⟩ (.int .i64 x)).drew go := hkP.d
          clear c1 c2 c3 ck fk HP hbP hkP hgne m1 m2 m3 m4
          generalize (w2.setCell ⟨g, k, none⟩ (.int .i64 x)).drew = V2 at *
          obtain ⟨A, c, ⟨c0, c1, c2, c3, c4, c5, c6, c7⟩, hf, hown, _, hne, hbxx⟩ := HP2.out.cells
          have f6 := hf 6
          simp only at c6
          clear c0 c1 c2 c3 c4 c5 c7 hf hown hne hbxx
          go_wp2_with fail
          go_ret
          refine ⟨rfl, ?_, hbP2, hkP2⟩
          rw [HPUT.out, if_neg HO0.out, if_neg HX0.out]
          simpa using HP2.out
end Go.Proofs.Ytonammaecpapmaa.Tp

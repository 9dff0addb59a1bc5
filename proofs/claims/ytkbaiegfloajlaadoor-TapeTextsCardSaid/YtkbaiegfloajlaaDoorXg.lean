/- Contracts: Mirror. -/
import Derived.Test.YtkbaiegfloajlaaDoorXf
namespace Go.Proofs.YtkbaiegfloajlaaDoor.Tp
open Go.RowKit

/-- What a machine that is being written holds: row by row, cell by cell. -/
def contJ (val : Nat → Nat → RuleS) (p q : Nat → Nat) (f : Nat → Nat → RuleS) (k : Nat) : Nat → Nat → Nat → RuleS
  | 0 => f
  | j + 1 => setF2 (contJ val p q f k j) (p k) (q j) (val k j)
def contK (val : Nat → Nat → RuleS) (p q : Nat → Nat) (X : Nat) : Nat → Nat → Nat → RuleS
  | 0 => fun _ _ => zeroR
  | k + 1 => contJ val p q (contK val p q X k) k X
theorem contJ_other {val : Nat → Nat → RuleS} {p q : Nat → Nat} {f : Nat → Nat → RuleS} {k t y : Nat} (h : t ≠ p k) : ∀ j, contJ val p q f k j t y = f t y
  | 0 => rfl
  | j + 1 => by
    have := contJ_other (val := val) (q := q) (f := f) (y := y) h j
    simp only [contJ, setF2, if_neg h]
    exact this
theorem contJ_at {val : Nat → Nat → RuleS} {p q : Nat → Nat} {f : Nat → Nat → RuleS} {k X : Nat} (hq : ∀ x y, x < X → y < X → q x = q y → x = y) : ∀ j x, x < j → j ≤ X → contJ val p q f k j (p k) (q x) = val k x
  | 0, _, h, _ => absurd h (by omega)
  | j + 1, x, h, hj => by
    simp only [contJ, setF2, if_true]
    by_cases e : x = j
    · subst e
      simp [setF]
    · have hne : q x ≠ q j := fun he => e (hq x j (by omega) (by omega) he)
      simp only [setF, if_neg hne]
      exact contJ_at hq j x (by omega) (by omega)
theorem contK_at {val : Nat → Nat → RuleS} {p q : Nat → Nat} {S X : Nat} (hp : ∀ s t, s < S → t < S → p s = p t → s = t) (hq : ∀ x y, x < X → y < X → q x = q y → x = y) : ∀ k s x, s < k → k ≤ S → x < X → contK val p q X k (p s) (q x) = val s x
  | 0, _, _, h, _, _ => absurd h (by omega)
  | k + 1, s, x, h, hk, hx => by
    rw [contK]
    by_cases e : s = k
    · subst e
      exact contJ_at hq X x hx (Nat.le_refl _)
    · rw [contJ_other (fun he => e (hp s k (by omega) (by omega) he))]
      exact contK_at hp hq k s x (by omega) (by omega) hx
def noM : MachS := ⟨0, 0, []⟩
/-- A machine whose blocks are all from block lo on. -/
def MachFr (lo : Nat) (w : World) (v : Value) (m : MachS) : Prop :=
  ∃ (a R : Nat) (rb : Nat → Nat) (S X : Nat) (f : Nat → Nat → RuleS), v = .slice (some ⟨R, 0, none⟩) m.rules.length S ∧ MAt w lo a R rb S X S f ∧ 0 < S ∧ 0 < X ∧ m.rules.length = S ∧ S ≤ 6 ∧ X ≤ 4 ∧ ∀ s, s < S → ∃ row, m.rules[s]? = some row ∧ row.length = X ∧ ∀ x r, row[x]? = some r → r = f s x
theorem MachFr.mach {lo : Nat} {w : World} {v : Value} {m : MachS} (h : MachFr lo w v m) : MachIn w w.heap.size v m := by
  obtain ⟨a, R, rb, S, X, f, rfl, hM, h1, h2, h3, h4, h5, h6⟩ := h
  exact hM.mach h1 h2 h3 (by omega) (by omega) h6
theorem MachFr.far {lo : Nat} {w : World} {v : Value} {m : MachS} (h : MachFr lo w v m) {p : Addr} (hp : p.block < lo) (u : Value) : MachFr lo (w.setCell p u) v m := by
  obtain ⟨a, R, rb, S, X, f, hv, hM, h1, h2, h3, h4, h5, h6⟩ := h
  refine ⟨a, R, rb, S, X, f, hv, hM.far ⟨by have := hM.low.1; omega, fun s hs => by have := hM.low.2 s hs; omega⟩ u, h1, h2, h3, h4, h5, h6⟩
theorem MachFr.to {lo : Nat} {w w' : World} {v : Value} {m : MachS} (h : MachFr lo w v m) (hb : Below w.heap.size w w') : MachFr lo w' v m := by
  obtain ⟨a, R, rb, S, X, f, hv, hM, h⟩ := h
  exact ⟨a, R, rb, S, X, f, hv, hM.to hb, h⟩
theorem MAt.mono {w : World} {lo lo' a R : Nat} {rb : Nat → Nat} {S X k : Nat} {f : Nat → Nat → RuleS} (h : MAt w lo a R rb S X k f) (hl : lo' ≤ lo) : MAt w lo' a R rb S X k f :=
  ⟨h.rules, h.row, h.inj, h.ne, ⟨Nat.le_trans hl h.low.1, fun s hs => Nat.le_trans hl (h.low.2 s hs)⟩, h.nea⟩
/-- A machine and an error. -/
def MachRan (r : MachS × Int) (w : World) (e : Ending) (w' : World) : Prop :=
  ∃ (A : Option Addr) (d : Nat), e = .returned (.tuple #[.agg #[.int .i64 r.1.states, .int .i64 r.1.symbols, .slice A r.1.rules.length d], .int .i64 r.2]) ∧ MachIn w' w'.heap.size (.slice A r.1.rules.length d) r.1 ∧ Below w.heap.size w w' ∧ (r.2 = 0 → MachFr w.heap.size w' (.slice A r.1.rules.length d) r.1)
theorem noM_in (w : World) : MachIn w w.heap.size (.slice none 0 0) noM := ⟨⟨[], .inl ⟨.inl rfl, rfl⟩, rfl, fun k u r h => by cases h⟩, by simp [noM], fun r h => by cases h⟩
def mirR (r : RuleS) : RuleS := ⟨r.w, -r.m, r.n⟩
def mirrorM (m : MachS) : MachS := ⟨m.states, m.symbols, m.rules.map (fun row => row.map mirR)⟩
def mirrorC (m : MachS) : MachS × Int := if validM m = false then (noM, 1) else (mirrorM m, 0)
def mirAt (m : MachS) (s x : Nat) : RuleS := mirR (ruleAt m s x)
theorem mirror_rows {m : MachS} {S X : Nat} (hv : validM m = true) (hS : m.states = S) (hX : m.symbols = X) :
    ∀ s, s < S → ∃ row, (mirrorM m).rules[s]? = some row ∧ row.length = X ∧ ∀ x r, row[x]? = some r → r = contK (mirAt m) id id X S s x := by
  intro s hs
  have h3 := (validM_parts hv)
  obtain ⟨row, r0, h1, h2, _, _, h5⟩ := rule_at hv (s := s) (x := 0) (by omega) (by omega)
  refine ⟨row.map mirR, by simp [mirrorM, h1], by simp; omega, fun x r hx => ?_⟩
  have hxl : x < X := by
    rcases Nat.lt_or_ge x (row.map mirR).length with h' | h'
    · simp at h'; omega
    · rw [List.getElem?_eq_none h'] at hx; cases hx
  obtain ⟨row', r', g1, g2, g3, _, _⟩ := rule_at hv (s := s) (x := x) (by omega) (by omega)
  rw [h1] at g1
  cases g1
  have := contK_at (val := mirAt m) (p := id) (q := id) (S := S) (X := X) (fun _ _ _ _ h => h) (fun _ _ _ _ h => h) S s x hs (Nat.le_refl _) hxl
  rw [show contK (mirAt m) id id X S s x = contK (mirAt m) id id X S (id s) (id x) from rfl, this, mirAt, g3]
  rw [List.getElem?_map, g2] at hx
  exact (Option.some.inj hx).symm

set_option maxRecDepth 100000 in
set_option maxHeartbeats 8000000 in
theorem mirror_any (m : MachS) (v : Value) (w : World) (hm : MachIn w w.heap.size v m) :
    Calls Tryd.prog 30 #[.agg #[.int .i64 m.states, .int .i64 m.symbols, v]] w (MachRan (mirrorC m) w) := by
  obtain ⟨A2, c2, rfl⟩ := hm.rules.form
  have hbW := below2 w (.cells #[.int .i64 m.states, .int .i64 m.symbols, .slice A2 m.rules.length c2] 24) (.cells #[.int .i64 0, .int .i64 0, .slice none 0 0] 24)
  have HM := hid_ (hm.to hbW)
  have B1 := (Blk.new w 24 #[.int .i64 m.states, .int .i64 m.symbols, .slice A2 m.rules.length c2]).alloc (.cells #[.int .i64 0, .int .i64 0, .slice none 0 0] 24)
  have B2 := Blk.new (w.alloc (.cells #[.int .i64 m.states, .int .i64 m.symbols, .slice A2 m.rules.length c2] 24)) 24 #[.int .i64 0, .int .i64 0, .slice none 0 0]
  rw [show (w.alloc (.cells #[.int .i64 m.states, .int .i64 m.symbols, .slice A2 m.rules.length c2] 24)).heap.size = w.heap.size + 1 by simp] at B2
  have HB1 := hid_ B1
  have HB2 := hid_ B2
  clear hm B1 B2
  go_enter Tryd.func30, Tryd.ntmps30
  go_upto_region 1 with fail
  generalize (w.alloc (.cells #[.int .i64 m.states, .int .i64 m.symbols, .slice A2 m.rules.length c2] 24)).alloc (.cells #[.int .i64 0, .int .i64 0, .slice none 0 0] 24) = W at *
  have p0 := HB1.out.cell 0
  have p1 := HB1.out.cell 1
  have p2 := HB1.out.cell 2
  simp at p0 p1 p2
  go_wp2_with fail
  refine (valid_any m _ W HM.out).mono ?_
  obtain ⟨bs, hbs⟩ : ∃ b, b = validM m := ⟨_, rfl⟩
  rw [← hbs]
  rintro e w2 ⟨rfl, hb2⟩
  replace HM := hid_ (HM.out.to hb2)
  replace HB1 := hid_ (HB1.out.to hb2)
  replace HB2 := hid_ (HB2.out.to hb2)
  replace hbW := bnext hbW hb2
  clear hb2 p0 p1 p2
  cases bs with
  | false =>
    have HN : Hid (mirrorC m = (noM, 1)) := hid_ (by rw [mirrorC, if_pos hbs.symm])
    clear hbs
    have s0 := HB2.out.free 0
    have s1 := HB2.out.free 1
    have s2 := HB2.out.free 2
    have r0 := HB2.out.cell 0
    have r1 := HB2.out.cell 1
    have r2 := HB2.out.cell 2
    simp at r0 r1 r2
    go_wp2_with fail
    have BZ := (((HB2.out).set_ 0 (.int .i64 0)).set_ 1 (.int .i64 0)).set_ 2 (.slice none 0 0)
    have e0 := BZ.cell 0
    have e1 := BZ.cell 1
    have e2 := BZ.cell 2
    simp at e0 e1 e2
    refine bodyPost_ret (v := .tuple #[.agg #[.int .i64 0, .int .i64 0, .slice none 0 0], .int .i64 1]) (by simp [results, Tryd.results30, go_sem, e0, e1, e2]) rfl ?_
    exact ⟨none, 0, by rw [HN.out]; rfl, by rw [HN.out]; exact noM_in _, (((hbW).setCell (by simp <;> omega) _).setCell (by simp <;> omega) _).setCell (by simp <;> omega) _, by rw [HN.out]; intro h; simp at h⟩
  | true =>
    obtain ⟨W, rfl⟩ : ∃ X : World, X = w2 := ⟨_, rfl⟩
    have hv := hbs.symm
    obtain ⟨v1, v2, v3, v4, v5, _⟩ := validM_parts hv
    obtain ⟨S, hSe⟩ := Int.eq_ofNat_of_zero_le (show 0 ≤ m.states by omega)
    obtain ⟨X, hXe⟩ := Int.eq_ofNat_of_zero_le (show 0 ≤ m.symbols by omega)
    have hlen : m.rules.length = S := by omega
    have HV := hid_ hv
    have hS1 : 0 < S := by omega
    have hS6 : S ≤ 6 := by omega
    have hX1 : 0 < X := by omega
    have hX4 : X ≤ 4 := by omega
    have HBL : Hid (∀ Y, Calls Tryd.prog 56 #[.agg #[.int .i64 m.states, .int .i64 m.symbols, .slice A2 m.rules.length c2]] Y fun e w' => ∃ a R rb, e = .returned (.agg #[.int .i64 (S : Int), .int .i64 (X : Int), .slice (some ⟨R, 0, none⟩) S S]) ∧ MAt w' Y.heap.size a R rb S X S (fun _ _ => zeroR) ∧ Below Y.heap.size Y w') := hid_ (fun Y => by rw [hSe, hXe]; exact blank_any S X _ _ _ Y hS6 hX4)
    have HSE := hid_ hSe
    have HXE := hid_ hXe
    rw [hlen] at HB1 HBL
    have HLN := hid_ hlen
    obtain ⟨b2, o2, hA2, hb2⟩ := HM.out.rules.addr (by omega)
    subst hA2
    clear hbs hv v1 v2 v3 v4 v5 hSe hXe hlen
    have p0 := HB1.out.cell 0
    have p1 := HB1.out.cell 1
    have p2 := HB1.out.cell 2
    simp at p0 p1 p2
    go_upto_region 4 with (go_at_call 56; (with_reducible refine (HBL.out W).mono ?_); rintro e w3 ⟨a0, R, rb, rfl, hMA, hb3⟩)
    have HO := hid_ (Blk.new w3 24 #[.int .i64 (S : Int), .int .i64 (X : Int), .slice (some ⟨R, 0, none⟩) S S])
    have HMA := hid_ (hMA.to (below1 w3 (.cells #[.int .i64 (S : Int), .int .i64 (X : Int), .slice (some ⟨R, 0, none⟩) S S] 24)))
    have hRa : R < w3.heap.size ∧ ∀ s, s < S → rb s < w3.heap.size := ⟨hMA.rules.lt, fun s hs => (hMA.row s hs).lt⟩
    have hLO : W.heap.size ≤ R ∧ ∀ s, s < S → W.heap.size ≤ rb s := hMA.low
    have haW := hb3.size
    have hbx := hb3.alloc hb3.size (.cells #[.int .i64 (S : Int), .int .i64 (X : Int), .slice (some ⟨R, 0, none⟩) S S] 24)
    have ho1 := HB2.out.lt
    generalize w3.alloc (.cells #[.int .i64 (S : Int), .int .i64 (X : Int), .slice (some ⟨R, 0, none⟩) S S] 24) = W3 at *
    generalize w3.heap.size = a at *
    have HRA := hid_ hRa
    have HLO := hid_ hLO
    clear hMA hb3 p0 p1 p2 hRa hLO HBL
    have p2 := (HB1.out.to hbx).cell 2
    simp at p2
    go_wp2_with fail
    go_loopw [18] (fun s wr => ∃ k : Nat, s = .int .i64 (k : Int) ∧ k ≤ S ∧ Hid (MAt wr W.heap.size a0 R rb S X S (contK (mirAt m) id id X k)) ∧ Hid (Blk wr a 24 #[.int .i64 (S : Int), .int .i64 (X : Int), .slice (some ⟨R, 0, none⟩) S S]) ∧ Below W.heap.size W wr) (fun s _ => S - (intOf s).toNat)
    case atStart => exact ⟨0, rfl, Nat.zero_le _, HMA, HO, hbx⟩
    case round =>
      obtain ⟨k, rfl, hk, HMr, HAr, hbr⟩ := hrel
      clear p2 HMA HO hbx
      by_cases hlt : k < S
      · obtain ⟨row, hrow⟩ : ∃ row, m.rules[k]? = some row := ⟨_, List.getElem?_eq_getElem (by have := HLN.out; omega)⟩
        obtain ⟨Ar, dr, hcr, hEr⟩ := HM.out.rules.row hrow
        have hrl : row.length = X := by
          obtain ⟨row', r, h1, h2, h3, h4, h5⟩ := rule_at HV.out (s := k) (x := 0) (by have := HSE.out; omega) (by have := HXE.out; omega)
          rw [hrow] at h1
          cases h1
          have := HXE.out
          omega
        obtain ⟨br, or, rfl, hbr2, hcell⟩ := hEr.at_ (by omega)
        rw [hrl] at hcr
        have HROW := hid_ hrow
        have HCELL := hid_ hcell
        have HCR := hid_ hcr
        replace hcr := keepc hbr hcr
        have s0 : 0 ≤ (k : Int) := by omega
        clear hrow hEr hcell hrl
        obtain ⟨V, rfl⟩ : ∃ X : World, X = wr := ⟨_, rfl⟩
        go_wp2_with fail
        go_loopw [25] (fun s wx => ∃ j : Nat, s = .int .i64 (j : Int) ∧ j ≤ X ∧ Hid (MAt wx W.heap.size a0 R rb S X S (contJ (mirAt m) id id (contK (mirAt m) id id X k) k j)) ∧ Hid (Blk wx a 24 #[.int .i64 (S : Int), .int .i64 (X : Int), .slice (some ⟨R, 0, none⟩) S S]) ∧ Below W.heap.size W wx) (fun s _ => X - (intOf s).toNat)
        case atStart => exact ⟨0, rfl, Nat.zero_le _, HMr, HAr, hbr⟩
        case round =>
          obtain ⟨j, rfl, hj, HMx, HAx, hbx⟩ := hrel
          clear hcr HMr HAr hbr
          by_cases hjl : j < X
          · obtain ⟨r, hr, HR3⟩ : ∃ r, row[j]? = some r ∧ Hid (ruleAt m k j = r ∧ (r.m = -1 ∨ r.m = 1)) := by
              obtain ⟨row', r, h1, h2, h3, h4, _⟩ := rule_at HV.out (s := k) (x := j) (by have := HSE.out; omega) (by have := HXE.out; omega)
              rw [HROW.out] at h1
              cases h1
              exact ⟨r, h2, hid_ ⟨h3, (ruleB_yes.1 h4).2.2.2.2⟩⟩
            obtain ⟨i1, i2, i3⟩ := HCELL.out j r hr
            replace i1 := keepc hbx i1
            replace i2 := keepc hbx i2
            replace i3 := keepc hbx i3
            have t0 : 0 ≤ (j : Int) := by omega
            have hm3 := HR3.out.2
            have m1 : IntKind.i64.wrap (-r.m) = -r.m := IntWalk.i64_in _ (by omega)
            have HVAL : Hid (mirAt m k j = ⟨r.w, -r.m, r.n⟩) := hid_ (by rw [mirAt, HR3.out.1, mirR])
            clear hr hm3
            obtain ⟨Z, rfl⟩ : ∃ X : World, X = wr := ⟨_, rfl⟩
            go_upto_region 10 with fail
            have HC := hid_ (Blk.new Z 74 #[.int .i64 r.w, .int .i64 r.m, .int .i64 r.n])
            have HMZ := hid_ (HMx.out.to (below1 Z (.cells #[.int .i64 r.w, .int .i64 r.m, .int .i64 r.n] 74)))
            have HAZ := hid_ (HAx.out.alloc (.cells #[.int .i64 r.w, .int .i64 r.m, .int .i64 r.n] 74))
            have hbZ := hbx.alloc hbx.size (.cells #[.int .i64 r.w, .int .i64 r.m, .int .i64 r.n] 74)
            have hZl := hbx.size
            have hRl : R < Z.heap.size := HMx.out.rules.lt
            have HRB : Hid (∀ s, s < S → rb s < Z.heap.size) := hid_ (fun s hs => (HMx.out.row s hs).lt)
            have hal := HAx.out.lt
            generalize Z.alloc (.cells #[.int .i64 r.w, .int .i64 r.m, .int .i64 r.n] 74) = Z1 at *
            generalize hcg : Z.heap.size = cb at *
            have c1 := HC.out.cell 1
            have f1 := HC.out.free 1
            simp at c1
            clear i1 i2 i3 HMx HAx hbx
            go_upto_region 11 with fail
            have HC2 : Hid (Blk (Z1.setCell ⟨cb, 1, none⟩ (.int .i64 (-r.m))) cb 74 #[.int .i64 r.w, .int .i64 (-r.m), .int .i64 r.n]) := hid_ (HC.out.set_ 1 _)
            have HM2 := hid_ (HMZ.out.far (p := ⟨cb, 1, none⟩) ⟨by simp; omega, fun s hs => by have := HRB.out s hs; simp; omega⟩ (.int .i64 (-r.m)))
            have HA2 := hid_ (HAZ.out.far (p := ⟨cb, 1, none⟩) (by simp; omega) (.int .i64 (-r.m)))
            have hb2 := hbZ.setCell (p := ⟨cb, 1, none⟩) hZl (.int .i64 (-r.m))
            clear HC HMZ HAZ hbZ c1 f1 m1
            generalize Z1.setCell ⟨cb, 1, none⟩ (.int .i64 (-r.m)) = Z2 at *
            have c0 := HC2.out.cell 0
            have c1 := HC2.out.cell 1
            have c2' := HC2.out.cell 2
            have y2 := HA2.out.cell 2
            have y9 := HM2.out.rules.cell k
            rw [rowsV_get _ hlt, if_pos hlt] at y9
            have g0 := (HM2.out.row k hlt).cell (j * 3 + 0)
            have g1 := (HM2.out.row k hlt).cell (j * 3 + 1)
            have g2 := (HM2.out.row k hlt).cell (j * 3 + 2)
            rw [rowCells_get _ hjl (by omega)] at g0 g1 g2
            simp only [ruleV, Nat.add_zero] at g0 g1 g2
            have e0 := (HM2.out.row k hlt).free (j * 3)
            have e1 := (HM2.out.row k hlt).free (j * 3 + 1)
            have e2 := (HM2.out.row k hlt).free (j * 3 + 2)
            simp at c0 c1 c2' y2 g0 g1 g2
            have u1 : (k : Int) < (S : Int) := by omega
            have u2 : 0 ≤ (k : Int) := by omega
            have u3 : (j : Int) < (X : Int) := by omega
            go_region
            go_wp2_with fail
            go_roundw
            case rel =>
              have h9 := HM2.out.set hlt hjl (mirAt m k j)
              have hv9 := HVAL.out
              rw [show (mirAt m k j).w = r.w by rw [hv9], show (mirAt m k j).m = -r.m by rw [hv9], show (mirAt m k j).n = r.n by rw [hv9]] at h9
              have hq1 : a ≠ rb k := by have := HRA.out.2 k hlt; omega
              have hq2 : W.heap.size ≤ rb k := HLO.out.2 k hlt
              exact ⟨j + 1, by go_num, by omega, hid_ (h9.to (Below.refl _ _).drew), hid_ (((HA2.out.far (p := ⟨rb k, j * 3, none⟩) hq1 _).far (p := ⟨rb k, j * 3 + 1, none⟩) hq1 _).far (p := ⟨rb k, j * 3 + 2, none⟩) hq1 _), (((hb2.setCell (p := ⟨rb k, j * 3, none⟩) hq2 _).setCell (p := ⟨rb k, j * 3 + 1, none⟩) hq2 _).setCell (p := ⟨rb k, j * 3 + 2, none⟩) hq2 _).drew⟩
            case measure => simp [intOf]; omega
          · obtain rfl : j = X := by omega
            go_wp2_with fail
            go_roundw
            case rel => exact ⟨k + 1, by go_num, by omega, HMx, HAx, hbx⟩
            case measure => simp [intOf]; omega
      · obtain rfl : k = S := by omega
        have HN : Hid (mirrorC m = (mirrorM m, 0)) := hid_ (by rw [mirrorC, if_neg (by rw [HV.out]; simp)])
        have HB2r := hid_ (HB2.out.to hbr)
        have hbY := bnext hbW hbr
        have y0 := HAr.out.cell 0
        have y1 := HAr.out.cell 1
        have y2 := HAr.out.cell 2
        simp at y0 y1 y2
        have s0 := HB2r.out.free 0
        have s1 := HB2r.out.free 1
        have s2 := HB2r.out.free 2
        have r0 := HB2r.out.cell 0
        have r1 := HB2r.out.cell 1
        have r2 := HB2r.out.cell 2
        simp at r0 r1 r2
        go_wp2_with fail
        have BZ := (((HB2r.out).set_ 0 (.int .i64 (k : Int))).set_ 1 (.int .i64 (X : Int))).set_ 2 (.slice (some ⟨R, 0, none⟩) k k)
        have e0 := BZ.cell 0
        have e1 := BZ.cell 1
        have e2 := BZ.cell 2
        simp at e0 e1 e2
        refine bodyPost_ret (v := .tuple #[.agg #[.int .i64 (k : Int), .int .i64 (X : Int), .slice (some ⟨R, 0, none⟩) k k], .int .i64 0]) (by simp [results, Tryd.results30, go_sem, e0, e1, e2]) rfl ?_
        have hM9 := ((HMr.out.far (p := ⟨w.heap.size + 1, 0, none⟩) ⟨by have := HLO.out.1; simp; omega, fun s hs => by have := HLO.out.2 s hs; simp; omega⟩ (.int .i64 (k : Int))).far (p := ⟨w.heap.size + 1, 1, none⟩) ⟨by have := HLO.out.1; simp; omega, fun s hs => by have := HLO.out.2 s hs; simp; omega⟩ (.int .i64 (X : Int))).far (p := ⟨w.heap.size + 1, 2, none⟩) ⟨by have := HLO.out.1; simp; omega, fun s hs => by have := HLO.out.2 s hs; simp; omega⟩ (.slice (some ⟨R, 0, none⟩) k k)
        have hmr := mirror_rows HV.out HSE.out HXE.out
        have hll : (mirrorM m).rules.length = k := by rw [mirrorM, List.length_map]; exact HLN.out
        have hMM := hM9.mach (m := mirrorM m) hS1 hX1 hll (by omega) (by omega) hmr
        exact ⟨some ⟨R, 0, none⟩, k, by rw [HN.out, hll]; simp [mirrorM, HSE.out, HXE.out], by rw [HN.out]; exact hMM, (((hbY).setCell (by simp <;> omega) _).setCell (by simp <;> omega) _).setCell (by simp <;> omega) _, fun _ => by rw [HN.out]; exact ⟨a0, R, rb, k, X, _, rfl, hM9.mono hbW.size, hS1, hX1, hll, hS6, hX4, hmr⟩⟩
end Go.Proofs.YtkbaiegfloajlaaDoor.Tp

/- Contracts: Rename. -/
import Derived.Test.YtkbaiegfloajlaaDoorXg
namespace Go.Proofs.YtkbaiegfloajlaaDoor.Tp
open Go.RowKit

def renR (ss xs : List Int) (r : RuleS) : RuleS := ⟨nameX xs r.w, r.m, nameS ss r.n⟩
def renAt (m : MachS) (ss xs : List Int) (s x : Nat) : RuleS := renR ss xs (ruleAt m s x)
/-- A list of names as a function. -/
def pS (l : List Int) (s : Nat) : Nat := (l.getD s 0).toNat
def renameM (m : MachS) (ss xs : List Int) : MachS :=
  ⟨m.states, m.symbols, (List.range m.states.toNat).map fun t => (List.range m.symbols.toNat).map fun y => contK (renAt m ss xs) (pS ss) (pS xs) m.symbols.toNat m.states.toNat t y⟩
def okR (m : MachS) (ss xs : List Int) : Bool := decide ((ss.length : Int) = m.states) && decide ((xs.length : Int) = m.symbols) && (permB ss && decide (ss.length ≤ 6)) && (permB xs && decide (xs.length ≤ 6))
def renameC (m : MachS) (ss xs : List Int) : MachS × Int := if validM m = false then (noM, 1) else if okR m ss xs = true then (renameM m ss xs, 0) else (noM, 2)
theorem pS_get {l : List Int} (h : permB l = true) {s : Nat} (hs : s < l.length) : l[s]? = some (pS l s : Int) ∧ pS l s < l.length := by
  obtain ⟨_, _, hg⟩ := perm_iff.1 h
  have hx := List.getElem?_eq_getElem hs
  obtain ⟨g1, g2, _⟩ := hg s _ hs hx
  have hp : pS l s = l[s].toNat := by rw [pS, List.getD_eq_getElem?_getD, hx]; rfl
  rw [hx, hp]
  refine ⟨by rw [Int.toNat_of_nonneg g1], by omega⟩
theorem pS_inj {l : List Int} (h : permB l = true) {s t : Nat} (hs : s < l.length) (ht : t < l.length) (he : pS l s = pS l t) : s = t := by
  obtain ⟨_, _, hg⟩ := perm_iff.1 h
  obtain ⟨h1, _⟩ := pS_get h hs
  obtain ⟨h2, _⟩ := pS_get h ht
  rw [he] at h1
  rcases Nat.lt_trichotomy s t with h | h | h
  · exact absurd h1 ((hg t _ ht h2).2.2 s h)
  · exact h
  · exact absurd h2 ((hg s _ hs h1).2.2 t h)
theorem rename_rows {m : MachS} {ss xs : List Int} {S X : Nat} (hS : m.states = S) (hX : m.symbols = X) :
    ∀ s, s < S → ∃ row, (renameM m ss xs).rules[s]? = some row ∧ row.length = X ∧ ∀ x r, row[x]? = some r → r = contK (renAt m ss xs) (pS ss) (pS xs) X S s x := by
  intro s hs
  refine ⟨(List.range X).map fun y => contK (renAt m ss xs) (pS ss) (pS xs) X S s y, by simp [renameM, hS, hX, hs], by simp, fun x r hx => ?_⟩
  have hxl : x < X := by
    rcases Nat.lt_or_ge x X with h' | h'
    · exact h'
    · rw [List.getElem?_eq_none (by simpa using h')] at hx; cases hx
  simp [hxl] at hx
  exact hx.symm

set_option maxRecDepth 100000 in
set_option maxHeartbeats 8000000 in
theorem rename_any (m : MachS) (ss xs : List Int) (v u1 u2 : Value) (w : World) (hm : MachIn w w.heap.size v m) (hS : Elems w w.heap.size u1 (ints ss)) (hX : Elems w w.heap.size u2 (ints xs)) (hls : ss.length ≤ 17592186044416) (hlx : xs.length ≤ 17592186044416) :
    Calls Tryd.prog 31 #[.agg #[.int .i64 m.states, .int .i64 m.symbols, v], u1, u2] w (MachRan (renameC m ss xs) w) := by
  obtain ⟨A2, c2, rfl⟩ := hm.rules.form
  obtain ⟨As, cs, rfl⟩ := hS.form
  obtain ⟨Ax, cx, rfl⟩ := hX.form
  rw [ints_len] at hS hX ⊢
  rw [ints_len]
  have hbW := below2 w (.cells #[.int .i64 m.states, .int .i64 m.symbols, .slice A2 m.rules.length c2] 24) (.cells #[.int .i64 0, .int .i64 0, .slice none 0 0] 24)
  have HM := hid_ (hm.to hbW)
  have HSS := hid_ (hS.to hbW)
  have HXX := hid_ (hX.to hbW)
  have B1 := (Blk.new w 24 #[.int .i64 m.states, .int .i64 m.symbols, .slice A2 m.rules.length c2]).alloc (.cells #[.int .i64 0, .int .i64 0, .slice none 0 0] 24)
  have B2 := Blk.new (w.alloc (.cells #[.int .i64 m.states, .int .i64 m.symbols, .slice A2 m.rules.length c2] 24)) 24 #[.int .i64 0, .int .i64 0, .slice none 0 0]
  rw [show (w.alloc (.cells #[.int .i64 m.states, .int .i64 m.symbols, .slice A2 m.rules.length c2] 24)).heap.size = w.heap.size + 1 by simp] at B2
  have HB1 := hid_ B1
  have HB2 := hid_ B2
  clear hm hS hX B1 B2
  go_enter Tryd.func31, Tryd.ntmps31
  go_upto_region 1 with fail
  generalize (w.alloc (.cells #[.int .i64 m.states, .int .i64 m.symbols, .slice A2 m.rules.length c2] 24)).alloc (.cells #[.int .i64 0, .int .i64 0, .slice none 0 0] 24) = W at *
  have p0 := HB1.out.cell 0
  have p1 := HB1.out.cell 1
  have p2 := HB1.out.cell 2
  simp at p0 p1 p2
  go_wp2_with fail
  refine (valid_any m _ W HM.out).mono ?_
  obtain ⟨bs, hbs⟩ : ∃ b, b = validM m := ⟨_, rfl⟩
  rw [← hbs]
  rintro e w2 ⟨rfl, hb2⟩
  replace HM := hid_ (HM.out.to hb2)
  replace HSS := hid_ (HSS.out.to hb2)
  replace HXX := hid_ (HXX.out.to hb2)
  replace HB1 := hid_ (HB1.out.to hb2)
  replace HB2 := hid_ (HB2.out.to hb2)
  replace hbW := bnext hbW hb2
  clear hb2 p0 p1 p2
  cases bs with
  | false =>
    have HN : Hid (renameC m ss xs = (noM, 1)) := hid_ (by rw [renameC, if_pos hbs.symm])
    clear hbs
    have s0 := HB2.out.free 0
    have s1 := HB2.out.free 1
    have s2 := HB2.out.free 2
    have r0 := HB2.out.cell 0
    have r1 := HB2.out.cell 1
    have r2 := HB2.out.cell 2
    simp at r0 r1 r2
    go_wp2_with fail
    have BZ := (((HB2.out).set_ 0 (.int .i64 0)).set_ 1 (.int .i64 0)).set_ 2 (.slice none 0 0)
    have e0 := BZ.cell 0
    have e1 := BZ.cell 1
    have e2 := BZ.cell 2
    simp at e0 e1 e2
    refine bodyPost_ret (v := .tuple #[.agg #[.int .i64 0, .int .i64 0, .slice none 0 0], .int .i64 1]) (by simp [results, Tryd.results31, go_sem, e0, e1, e2]) rfl ?_
    exact ⟨none, 0, by rw [HN.out]; rfl, by rw [HN.out]; exact noM_in _, (((hbW).setCell (by simp <;> omega) _).setCell (by simp <;> omega) _).setCell (by simp <;> omega) _, by rw [HN.out]; intro h; simp at h⟩
  | true =>
    obtain ⟨W, rfl⟩ : ∃ X : World, X = w2 := ⟨_, rfl⟩
    have hv := hbs.symm
    have HVV := hid_ hv
    clear hbs
    obtain ⟨b1, hb1⟩ : ∃ b, b = (permB ss && decide (ss.length ≤ 6)) := ⟨_, rfl⟩
    obtain ⟨b2, hb2⟩ : ∃ b, b = (permB xs && decide (xs.length ≤ 6)) := ⟨_, rfl⟩
    have p0 := HB1.out.cell 0
    have p1 := HB1.out.cell 1
    have p2 := HB1.out.cell 2
    simp at p0 p1 p2
    go_upto_region 3 with fail
    go_cut [38] (fun s wx => s = .bool (!(decide ((ss.length : Int) = m.states) && decide ((xs.length : Int) = m.symbols) && b1 && b2)) ∧ Below W.heap.size W wx)
    case first => as_aux_lemma =>
      clear hv
      have HR1 : Hid (∀ Y, Elems Y Y.heap.size (.slice As ss.length cs) (ints ss) → Calls Tryd.prog 57 #[.slice As ss.length cs] Y fun e w' => e = .returned (.bool b1) ∧ Below Y.heap.size Y w') := hid_ (fun Y h => by rw [hb1]; exact renaming_any ss _ Y h hls)
      have HR2 : Hid (∀ Y, Elems Y Y.heap.size (.slice Ax xs.length cx) (ints xs) → Calls Tryd.prog 57 #[.slice Ax xs.length cx] Y fun e w' => e = .returned (.bool b2) ∧ Below Y.heap.size Y w') := hid_ (fun Y h => by rw [hb2]; exact renaming_any xs _ Y h hlx)
      clear hb1 hb2
      by_cases h1 : ¬ (ss.length : Int) = m.states
      · have t1 : ((ss.length : Int) != m.states) = true := by simpa using h1
        have D1 := hid_ (decide_eq_false h1)
        clear h1
        go_wp2_with fail
        go_meet
        exact ⟨by rw [D1.out]; rfl, Below.refl _ _⟩
      have h1' : (ss.length : Int) = m.states := by omega
      have t1 : ((ss.length : Int) != m.states) = false := by simpa using h1'
      have D1 := hid_ (decide_eq_true h1')
      clear h1 h1'
      by_cases h2 : ¬ (xs.length : Int) = m.symbols
      · have t2 : ((xs.length : Int) != m.symbols) = true := by simpa using h2
        have D2 := hid_ (decide_eq_false h2)
        clear h2
        go_wp2_with fail
        go_meet
        exact ⟨by rw [D1.out, D2.out]; rfl, Below.refl _ _⟩
      have h2' : (xs.length : Int) = m.symbols := by omega
      have t2 : ((xs.length : Int) != m.symbols) = false := by simpa using h2'
      have D2 := hid_ (decide_eq_true h2')
      clear h2 h2'
      cases b1 with
      | false =>
        go_wp2_with fail
        refine (HR1.out W HSS.out).mono ?_
        rintro e w3 ⟨rfl, hb3⟩
        go_wp2_with fail
        go_meet
        exact ⟨by rw [D1.out, D2.out]; rfl, hb3⟩
      | true =>
        go_wp2_with fail
        refine (HR1.out W HSS.out).mono ?_
        rintro e w3 ⟨rfl, hb3⟩
        have HX3 := hid_ (HXX.out.to hb3)
        go_wp2_with fail
        refine (HR2.out w3 HX3.out).mono ?_
        rintro e w4 ⟨rfl, hb4⟩
        have hb5 := bnext hb3 hb4
        cases b2 with
        | false =>
          go_wp2_with fail
          go_meet
          exact ⟨by rw [D1.out, D2.out]; rfl, hb5⟩
        | true =>
          go_wp2_with fail
          go_meet
          exact ⟨by rw [D1.out, D2.out]; rfl, hb5⟩
    case rest => as_aux_lemma =>
    obtain ⟨rfl, hbc⟩ := hcut
    replace HM := hid_ (HM.out.to hbc)
    replace HSS := hid_ (HSS.out.to hbc)
    replace HXX := hid_ (HXX.out.to hbc)
    replace HB1 := hid_ (HB1.out.to hbc)
    replace HB2 := hid_ (HB2.out.to hbc)
    replace hbW := bnext hbW hbc
    clear hbc p0 p1 p2
    obtain ⟨W, rfl⟩ : ∃ X : World, X = wc := ⟨_, rfl⟩
    obtain ⟨op, hop⟩ : ∃ o, o = (decide ((ss.length : Int) = m.states) && decide ((xs.length : Int) = m.symbols) && b1 && b2) := ⟨_, rfl⟩
    rw [← hop]
    cases op with
    | false =>
      have HN : Hid (renameC m ss xs = (noM, 2)) := hid_ (by
        rw [renameC, if_neg (by rw [hv]; simp), if_neg]
        rw [okR, ← hb1, ← hb2, ← hop]
        simp)
      clear hb1 hb2 hop hv
      have s0 := HB2.out.free 0
      have s1 := HB2.out.free 1
      have s2 := HB2.out.free 2
      have r0 := HB2.out.cell 0
      have r1 := HB2.out.cell 1
      have r2 := HB2.out.cell 2
      simp at r0 r1 r2
      go_wp2_with fail
      have BZ := (((HB2.out).set_ 0 (.int .i64 0)).set_ 1 (.int .i64 0)).set_ 2 (.slice none 0 0)
      have e0 := BZ.cell 0
      have e1 := BZ.cell 1
      have e2 := BZ.cell 2
      simp at e0 e1 e2
      refine bodyPost_ret (v := .tuple #[.agg #[.int .i64 0, .int .i64 0, .slice none 0 0], .int .i64 2]) (by simp [results, Tryd.results31, go_sem, e0, e1, e2]) rfl ?_
      exact ⟨none, 0, by rw [HN.out]; rfl, by rw [HN.out]; exact noM_in _, (((hbW).setCell (by simp <;> omega) _).setCell (by simp <;> omega) _).setCell (by simp <;> omega) _, by rw [HN.out]; intro h; simp at h⟩
    | true =>
      obtain ⟨⟨⟨P1, P2⟩, P3⟩, P4⟩ : (((ss.length : Int) = m.states ∧ (xs.length : Int) = m.symbols) ∧ b1 = true) ∧ b2 = true := by simpa using hop.symm
      have hp1 : permB ss = true := by
        rw [P3] at hb1
        exact (Bool.and_eq_true_iff.1 hb1.symm).1
      have hp2 : permB xs = true := by
        rw [P4] at hb2
        exact (Bool.and_eq_true_iff.1 hb2.symm).1
      have HOK : Hid (renameC m ss xs = (renameM m ss xs, 0)) := hid_ (by
        rw [renameC, if_neg (by rw [hv]; simp), if_pos]
        rw [okR, ← hb1, ← hb2, P3, P4, decide_eq_true P1, decide_eq_true P2]
        rfl)
      have HP1 := hid_ hp1
      have HP2 := hid_ hp2
      clear hop hb1 hb2 P3 P4 hp1 hp2
      obtain ⟨v1, v2, v3, v4, v5, _⟩ := validM_parts hv
      obtain ⟨S, hSe⟩ : ∃ S, S = ss.length := ⟨_, rfl⟩
      obtain ⟨X, hXe⟩ : ∃ X, X = xs.length := ⟨_, rfl⟩
      have hlen : m.rules.length = S := by omega
      have HV := hid_ hv
      have hS1 : 0 < S := by omega
      have hS6 : S ≤ 6 := by omega
      have hX1 : 0 < X := by omega
      have hX4 : X ≤ 4 := by omega
      have HBL : Hid (∀ Y, Calls Tryd.prog 56 #[.agg #[.int .i64 m.states, .int .i64 m.symbols, .slice A2 m.rules.length c2]] Y fun e w' => ∃ a R rb, e = .returned (.agg #[.int .i64 (S : Int), .int .i64 (X : Int), .slice (some ⟨R, 0, none⟩) S S]) ∧ MAt w' Y.heap.size a R rb S X S (fun _ _ => zeroR) ∧ Below Y.heap.size Y w') := hid_ (fun Y => by rw [← P1, ← P2, ← hSe, ← hXe]; exact blank_any S X _ _ _ Y hS6 hX4)
      have HSE : Hid (m.states = S) := hid_ (by omega)
      have HXE : Hid (m.symbols = X) := hid_ (by omega)
      rw [hlen] at HB1 HBL
      have HLN := hid_ hlen
      obtain ⟨b2', o2, hA2, hb2⟩ := HM.out.rules.addr (by omega)
      subst hA2
      obtain ⟨bs, os, hAs, hbs9, hcs⟩ := HSS.out.at_ (by omega)
      subst hAs
      obtain ⟨bx, ox, hAx, hbx9, hcx⟩ := HXX.out.at_ (by omega)
      subst hAx
      rw [← hSe, ← hXe]
      rw [← hSe] at HSS
      rw [← hXe] at HXX
      have HLS := hid_ hSe
      have HLX := hid_ hXe
      have HCS := hid_ hcs
      have HCX := hid_ hcx
      clear hv v1 v2 v3 v4 v5 hlen P1 P2 hcs hcx hSe hXe
      have p0 := HB1.out.cell 0
      have p1 := HB1.out.cell 1
      have p2 := HB1.out.cell 2
      simp at p0 p1 p2
      go_upto_region 6 with (go_at_call 56; (with_reducible refine (HBL.out W).mono ?_); rintro e w3 ⟨a0, R, rb, rfl, hMA, hb3⟩)
      have HO := hid_ (Blk.new w3 24 #[.int .i64 (S : Int), .int .i64 (X : Int), .slice (some ⟨R, 0, none⟩) S S])
      have HMA := hid_ (hMA.to (below1 w3 (.cells #[.int .i64 (S : Int), .int .i64 (X : Int), .slice (some ⟨R, 0, none⟩) S S] 24)))
      have hRa : R < w3.heap.size ∧ ∀ s, s < S → rb s < w3.heap.size := ⟨hMA.rules.lt, fun s hs => (hMA.row s hs).lt⟩
      have hLO : W.heap.size ≤ R ∧ ∀ s, s < S → W.heap.size ≤ rb s := hMA.low
      have haW := hb3.size
      have hbx := hb3.alloc hb3.size (.cells #[.int .i64 (S : Int), .int .i64 (X : Int), .slice (some ⟨R, 0, none⟩) S S] 24)
      have ho1 := HB2.out.lt
      generalize w3.alloc (.cells #[.int .i64 (S : Int), .int .i64 (X : Int), .slice (some ⟨R, 0, none⟩) S S] 24) = W3 at *
      generalize w3.heap.size = a at *
      have HRA := hid_ hRa
      have HLO := hid_ hLO
      clear hMA hb3 p0 p1 p2 hRa hLO HBL
      have p2 := (HB1.out.to hbx).cell 2
      simp at p2
      go_wp2_with fail
      go_loopw [45] (fun s wr => ∃ k : Nat, s = .int .i64 (k : Int) ∧ k ≤ S ∧ Hid (MAt wr W.heap.size a0 R rb S X S (contK (renAt m ss xs) (pS ss) (pS xs) X k)) ∧ Hid (Blk wr a 24 #[.int .i64 (S : Int), .int .i64 (X : Int), .slice (some ⟨R, 0, none⟩) S S]) ∧ Below W.heap.size W wr) (fun s _ => S - (intOf s).toNat)
      case atStart => exact ⟨0, rfl, Nat.zero_le _, HMA, HO, hbx⟩
      case round =>
        obtain ⟨k, rfl, hk, HMr, HAr, hbr⟩ := hrel
        clear p2 HMA HO hbx
        by_cases hlt : k < S
        · obtain ⟨row, hrow⟩ : ∃ row, m.rules[k]? = some row := ⟨_, List.getElem?_eq_getElem (by have := HLN.out; omega)⟩
          obtain ⟨Ar, dr, hcr, hEr⟩ := HM.out.rules.row hrow
          have hrl : row.length = X := by
            obtain ⟨row', r, h1, h2, h3, h4, h5⟩ := rule_at HV.out (s := k) (x := 0) (by have := HSE.out; omega) (by have := HXE.out; omega)
            rw [hrow] at h1
            cases h1
            have := HXE.out
            omega
          obtain ⟨br, or, rfl, hbr2, hcell⟩ := hEr.at_ (by omega)
          rw [hrl] at hcr
          have HROW := hid_ hrow
          have HCELL := hid_ hcell
          have HCR := hid_ hcr
          replace hcr := keepc hbr hcr
          have s0 : 0 ≤ (k : Int) := by omega
          clear hrow hEr hcell hrl
          obtain ⟨V, rfl⟩ : ∃ X : World, X = wr := ⟨_, rfl⟩
          go_wp2_with fail
          go_loopw [52] (fun s wx => ∃ j : Nat, s = .int .i64 (j : Int) ∧ j ≤ X ∧ Hid (MAt wx W.heap.size a0 R rb S X S (contJ (renAt m ss xs) (pS ss) (pS xs) (contK (renAt m ss xs) (pS ss) (pS xs) X k) k j)) ∧ Hid (Blk wx a 24 #[.int .i64 (S : Int), .int .i64 (X : Int), .slice (some ⟨R, 0, none⟩) S S]) ∧ Below W.heap.size W wx) (fun s _ => X - (intOf s).toNat)
          case atStart => exact ⟨0, rfl, Nat.zero_le _, HMr, HAr, hbr⟩
          case round =>
            obtain ⟨j, rfl, hj, HMx, HAx, hbx⟩ := hrel
            clear hcr HMr HAr hbr
            have hbr := hbx
            clear hbx
            by_cases hjl : j < X
            · obtain ⟨r, hr, HR3⟩ : ∃ r, row[j]? = some r ∧ Hid (ruleAt m k j = r ∧ ((0 ≤ r.w ∧ r.w < (X : Int)) ∧ (-1 ≤ r.n ∧ r.n < (S : Int)))) := by
                obtain ⟨row', r, h1, h2, h3, h4, _⟩ := rule_at HV.out (s := k) (x := j) (by have := HSE.out; omega) (by have := HXE.out; omega)
                rw [HROW.out] at h1
                cases h1
                have h5 := ruleB_yes.1 h4
                rw [HSE.out, HXE.out] at h5
                exact ⟨r, h2, hid_ ⟨h3, ⟨h5.1, h5.2.1⟩, ⟨h5.2.2.1, h5.2.2.2.1⟩⟩⟩
              obtain ⟨i1, i2, i3⟩ := HCELL.out j r hr
              obtain ⟨rw', rm, rn⟩ := r
              simp only at i1 i2 i3
              have hrw := HR3.out.2.1
              have hrn := HR3.out.2.2
              simp only at hrw hrn
              obtain ⟨t, ht⟩ := Int.eq_ofNat_of_zero_le hrw.1
              subst ht
              have htX : t < X := by omega
              replace i1 := keepc hbr i1
              replace i2 := keepc hbr i2
              replace i3 := keepc hbr i3
              obtain ⟨y, hy⟩ : ∃ y, xs[t]? = some y := ⟨_, List.getElem?_eq_getElem (by have := HLX.out; omega)⟩
              have HY : Hid (nameX xs (t : Int) = y) := hid_ (by rw [nameX, Int.toNat_natCast, List.getD_eq_getElem?_getD, hy]; rfl)
              have j1 := HCX.out t _ (ints_at hy)
              obtain ⟨z, hz⟩ : ∃ z, z = nameS ss rn := ⟨_, rfl⟩
              have HNS : Hid (∀ Y, Elems Y Y.heap.size (.slice (some ⟨bs, os, none⟩) S cs) (ints ss) → Calls Tryd.prog 58 #[.int .i64 rn, .slice (some ⟨bs, os, none⟩) S cs] Y fun e w' => e = .returned (.int .i64 z) ∧ Y = w') := hid_ (fun Y h => by rw [hz]; exact (renamedState_any ss rn _ Y h (by have := HLS.out; omega)).mono (fun e w' h => ⟨h.1, h.2.symm⟩))
              have HVAL : Hid (renAt m ss xs k j = ⟨y, rm, z⟩) := hid_ (by rw [renAt, HR3.out.1, renR, HY.out, hz])
              have t0 : 0 ≤ (j : Int) := by omega
              have t1 : 0 ≤ (t : Int) := by omega
              have t2 : (t : Int) < (X : Int) := by omega
              clear hr hrw hrn hy hz
              obtain ⟨Z, rfl⟩ : ∃ X : World, X = wr := ⟨_, rfl⟩
              go_upto_region 12 with fail
              have HC := hid_ (Blk.new Z 74 #[.int .i64 (t : Int), .int .i64 rm, .int .i64 rn])
              have HMZ := hid_ (HMx.out.to (below1 Z (.cells #[.int .i64 (t : Int), .int .i64 rm, .int .i64 rn] 74)))
              have HAZ := hid_ (HAx.out.alloc (.cells #[.int .i64 (t : Int), .int .i64 rm, .int .i64 rn] 74))
              have hbZ := hbr.alloc hbr.size (.cells #[.int .i64 (t : Int), .int .i64 rm, .int .i64 rn] 74)
              have hZl := hbr.size
              have hRl : R < Z.heap.size := HMx.out.rules.lt
              have HRB : Hid (∀ s, s < S → rb s < Z.heap.size) := hid_ (fun s hs => (HMx.out.row s hs).lt)
              have hal := HAx.out.lt
              generalize Z.alloc (.cells #[.int .i64 (t : Int), .int .i64 rm, .int .i64 rn] 74) = Z1 at *
              generalize hcg : Z.heap.size = cb at *
              replace j1 := keepc hbZ j1
              have c0 := HC.out.cell 0
              have f0 := HC.out.free 0
              simp at c0
              clear i1 i2 i3 HMx HAx hbr
              go_upto_region 13 with fail
              have HC2 : Hid (Blk (Z1.setCell ⟨cb, 0, none⟩ (.int .i64 y)) cb 74 #[.int .i64 y, .int .i64 rm, .int .i64 rn]) := hid_ (HC.out.set_ 0 _)
              have HM2 := hid_ (HMZ.out.far (p := ⟨cb, 0, none⟩) ⟨by simp; omega, fun s hs => by have := HRB.out s hs; simp; omega⟩ (.int .i64 y))
              have HA2 := hid_ (HAZ.out.far (p := ⟨cb, 0, none⟩) (by simp; omega) (.int .i64 y))
              have hb2x := hbZ.setCell (p := ⟨cb, 0, none⟩) hZl (.int .i64 y)
              clear HC HMZ HAZ hbZ c0 f0 j1
              generalize Z1.setCell ⟨cb, 0, none⟩ (.int .i64 y) = Z2 at *
              have c2' := HC2.out.cell 2
              have f2 := HC2.out.free 2
              simp at c2'
              go_upto_region 14 with (go_at_call 58; (with_reducible refine (HNS.out Z2 (HSS.out.to hb2x)).mono ?_); rintro e _ ⟨rfl, rfl⟩)
              have HC3 : Hid (Blk (Z2.setCell ⟨cb, 2, none⟩ (.int .i64 z)) cb 74 #[.int .i64 y, .int .i64 rm, .int .i64 z]) := hid_ (HC2.out.set_ 2 _)
              have HM3 := hid_ (HM2.out.far (p := ⟨cb, 2, none⟩) ⟨by simp; omega, fun s hs => by have := HRB.out s hs; simp; omega⟩ (.int .i64 z))
              have HA3 := hid_ (HA2.out.far (p := ⟨cb, 2, none⟩) (by simp; omega) (.int .i64 z))
              have hb3x := hb2x.setCell (p := ⟨cb, 2, none⟩) hZl (.int .i64 z)
              clear HC2 HM2 HA2 hb2x c2' f2
              generalize Z2.setCell ⟨cb, 2, none⟩ (.int .i64 z) = Z3 at *
              obtain ⟨pk1, pk2⟩ := pS_get HP1.out (s := k) (by have := HLS.out; omega)
              obtain ⟨qj1, qj2⟩ := pS_get HP2.out (s := j) (by have := HLX.out; omega)
              have d1 := keepc hb3x (HCS.out k _ (ints_at pk1))
              have d2 := keepc hb3x (HCX.out j _ (ints_at qj1))
              rw [← HLS.out] at pk2
              rw [← HLX.out] at qj2
              have HPK : Hid (renAt m ss xs k j = ⟨y, rm, z⟩ ∧ contJ (renAt m ss xs) (pS ss) (pS xs) (contK (renAt m ss xs) (pS ss) (pS xs) X k) k (j + 1) = setF2 (contJ (renAt m ss xs) (pS ss) (pS xs) (contK (renAt m ss xs) (pS ss) (pS xs) X k) k j) (pS ss k) (pS xs j) (renAt m ss xs k j)) := hid_ ⟨HVAL.out, rfl⟩
              clear pk1 qj1 HVAL
              generalize pS ss k = P at *
              generalize pS xs j = Q at *
              have c0 := HC3.out.cell 0
              have c1 := HC3.out.cell 1
              have c2' := HC3.out.cell 2
              have y2 := HA3.out.cell 2
              have y9 := HM3.out.rules.cell P
              rw [rowsV_get _ pk2, if_pos pk2] at y9
              have g0 := (HM3.out.row P pk2).cell (Q * 3 + 0)
              have g1 := (HM3.out.row P pk2).cell (Q * 3 + 1)
              have g2 := (HM3.out.row P pk2).cell (Q * 3 + 2)
              rw [rowCells_get _ qj2 (by omega)] at g0 g1 g2
              simp only [ruleV, Nat.add_zero] at g0 g1 g2
              have e0 := (HM3.out.row P pk2).free (Q * 3)
              have e1 := (HM3.out.row P pk2).free (Q * 3 + 1)
              have e2 := (HM3.out.row P pk2).free (Q * 3 + 2)
              simp at c0 c1 c2' y2 g0 g1 g2
              have u1 : (k : Int) < (S : Int) := by omega
              have u2 : 0 ≤ (k : Int) := by omega
              have u3 : (j : Int) < (X : Int) := by omega
              have u4 : 0 ≤ (P : Int) := by omega
              have u5 : (P : Int) < (S : Int) := by omega
              have u6 : 0 ≤ (Q : Int) := by omega
              have u7 : (Q : Int) < (X : Int) := by omega
              go_region
              go_wp2_with fail
              go_roundw
              case rel =>
                have h9 := HM3.out.set pk2 qj2 (renAt m ss xs k j)
                have hv9 := HPK.out.1
                rw [show (renAt m ss xs k j).w = y by rw [hv9], show (renAt m ss xs k j).m = rm by rw [hv9], show (renAt m ss xs k j).n = z by rw [hv9]] at h9
                rw [← HPK.out.2] at h9
                have hq1 : a ≠ rb P := by have := HRA.out.2 P pk2; omega
                have hq2 : W.heap.size ≤ rb P := HLO.out.2 P pk2
                exact ⟨j + 1, by go_num, by omega, hid_ (h9.to (Below.refl _ _).drew), hid_ (((HA3.out.far (p := ⟨rb P, Q * 3, none⟩) hq1 _).far (p := ⟨rb P, Q * 3 + 1, none⟩) hq1 _).far (p := ⟨rb P, Q * 3 + 2, none⟩) hq1 _), (((hb3x.setCell (p := ⟨rb P, Q * 3, none⟩) hq2 _).setCell (p := ⟨rb P, Q * 3 + 1, none⟩) hq2 _).setCell (p := ⟨rb P, Q * 3 + 2, none⟩) hq2 _).drew⟩
              case measure => simp [intOf]; omega
            · obtain rfl : j = X := by omega
              go_wp2_with fail
              go_roundw
              case rel => exact ⟨k + 1, by go_num, by omega, HMx, HAx, hbr⟩
              case measure => simp [intOf]; omega
        · obtain rfl : k = S := by omega
          have HN := HOK
          have HB2r := hid_ (HB2.out.to hbr)
          have hbY := bnext hbW hbr
          have y0 := HAr.out.cell 0
          have y1 := HAr.out.cell 1
          have y2 := HAr.out.cell 2
          simp at y0 y1 y2
          have s0 := HB2r.out.free 0
          have s1 := HB2r.out.free 1
          have s2 := HB2r.out.free 2
          have r0 := HB2r.out.cell 0
          have r1 := HB2r.out.cell 1
          have r2 := HB2r.out.cell 2
          simp at r0 r1 r2
          go_wp2_with fail
          have BZ := (((HB2r.out).set_ 0 (.int .i64 (k : Int))).set_ 1 (.int .i64 (X : Int))).set_ 2 (.slice (some ⟨R, 0, none⟩) k k)
          have e0 := BZ.cell 0
          have e1 := BZ.cell 1
          have e2 := BZ.cell 2
          simp at e0 e1 e2
          refine bodyPost_ret (v := .tuple #[.agg #[.int .i64 (k : Int), .int .i64 (X : Int), .slice (some ⟨R, 0, none⟩) k k], .int .i64 0]) (by simp [results, Tryd.results31, go_sem, e0, e1, e2]) rfl ?_
          have hM9 := ((HMr.out.far (p := ⟨w.heap.size + 1, 0, none⟩) ⟨by have := HLO.out.1; simp; omega, fun s hs => by have := HLO.out.2 s hs; simp; omega⟩ (.int .i64 (k : Int))).far (p := ⟨w.heap.size + 1, 1, none⟩) ⟨by have := HLO.out.1; simp; omega, fun s hs => by have := HLO.out.2 s hs; simp; omega⟩ (.int .i64 (X : Int))).far (p := ⟨w.heap.size + 1, 2, none⟩) ⟨by have := HLO.out.1; simp; omega, fun s hs => by have := HLO.out.2 s hs; simp; omega⟩ (.slice (some ⟨R, 0, none⟩) k k)
          have hmr := rename_rows (ss := ss) (xs := xs) HSE.out HXE.out
          have hll : (renameM m ss xs).rules.length = k := by rw [renameM]; simp [HSE.out]
          have hMM := hM9.mach (m := renameM m ss xs) hS1 hX1 hll (by omega) (by omega) hmr
          exact ⟨some ⟨R, 0, none⟩, k, by rw [HN.out, hll]; simp [renameM, HSE.out, HXE.out], by rw [HN.out]; exact hMM, (((hbY).setCell (by simp <;> omega) _).setCell (by simp <;> omega) _).setCell (by simp <;> omega) _, fun _ => by rw [HN.out]; exact ⟨a0, R, rb, k, X, _, rfl, hM9.mono hbW.size, hS1, hX1, hll, hS6, hX4, hmr⟩⟩
end Go.Proofs.YtkbaiegfloajlaaDoor.Tp

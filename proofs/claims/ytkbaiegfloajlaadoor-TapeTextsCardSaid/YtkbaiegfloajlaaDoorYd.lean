/- Contracts: Same of the specification. -/
import Derived.Test.YtkbaiegfloajlaaDoorYb
namespace Go.Proofs.YtkbaiegfloajlaaDoor.Tp
open Go.RowKit

instance decRule : DecidableEq RuleS := fun r s =>
  if h : r.w = s.w ∧ r.m = s.m ∧ r.n = s.n then .isTrue (by
    obtain ⟨r1, r2, r3⟩ := r
    obtain ⟨s1, s2, s3⟩ := s
    obtain ⟨rfl, rfl, rfl⟩ := h
    rfl)
  else .isFalse (fun e => h (by rw [e]; exact ⟨rfl, rfl, rfl⟩))
def sameM (a b : MachS) : Bool := decide (a.states = b.states) && decide (a.symbols = b.symbols) && decide (a.rules = b.rules)
theorem sameM_iff {a b : MachS} : sameM a b = true ↔ a = b := by
  obtain ⟨a1, a2, a3⟩ := a
  obtain ⟨b1, b2, b3⟩ := b
  simp [sameM, and_assoc]
theorem sameM_no {a b : MachS} (h : a ≠ b) : sameM a b = false := by
  cases hs : sameM a b with
  | false => rfl
  | true => exact absurd (sameM_iff.1 hs) h
theorem same_list {α : Type} {l r : List α} (hl : l.length = r.length) (h : ∀ i, i < l.length → l[i]? = r[i]?) : l = r := by
  apply List.ext_getElem?
  intro i
  rcases Nat.lt_or_ge i l.length with h1 | h1
  · exact h i h1
  · rw [List.getElem?_eq_none h1, List.getElem?_eq_none (by omega)]

set_option maxRecDepth 100000 in
set_option maxHeartbeats 8000000 in
theorem rsameM_any (a b : MachS) (v u : Value) (w : World) (ha : MachIn w w.heap.size v a) (hb : MachIn w w.heap.size u b) :
    Calls Tryd.prog 24 #[.agg #[.int .i64 a.states, .int .i64 a.symbols, v], .agg #[.int .i64 b.states, .int .i64 b.symbols, u]] w fun e w' => e = .returned (.bool (sameM a b)) ∧ Below w.heap.size w w' := by
  obtain ⟨A1, c1, rfl⟩ := ha.rules.form
  obtain ⟨A2, c2, rfl⟩ := hb.rules.form
  have hbW := below2 w (.cells #[.int .i64 a.states, .int .i64 a.symbols, .slice A1 a.rules.length c1] 24) (.cells #[.int .i64 b.states, .int .i64 b.symbols, .slice A2 b.rules.length c2] 24)
  have HMA := hid_ (ha.to hbW)
  have HMB := hid_ (hb.to hbW)
  have B1 := (Blk.new w 24 #[.int .i64 a.states, .int .i64 a.symbols, .slice A1 a.rules.length c1]).alloc (.cells #[.int .i64 b.states, .int .i64 b.symbols, .slice A2 b.rules.length c2] 24)
  have B2 := Blk.new (w.alloc (.cells #[.int .i64 a.states, .int .i64 a.symbols, .slice A1 a.rules.length c1] 24)) 24 #[.int .i64 b.states, .int .i64 b.symbols, .slice A2 b.rules.length c2]
  rw [show (w.alloc (.cells #[.int .i64 a.states, .int .i64 a.symbols, .slice A1 a.rules.length c1] 24)).heap.size = w.heap.size + 1 by simp] at B2
  have HB1 := hid_ B1
  have HB2 := hid_ B2
  clear ha hb B1 B2
  go_enter Tryd.func24, Tryd.ntmps24
  go_upto_region 1 with fail
  generalize (w.alloc (.cells #[.int .i64 a.states, .int .i64 a.symbols, .slice A1 a.rules.length c1] 24)).alloc (.cells #[.int .i64 b.states, .int .i64 b.symbols, .slice A2 b.rules.length c2] 24) = W at *
  have p0 := HB1.out.cell 0
  have p1 := HB1.out.cell 1
  have p2 := HB1.out.cell 2
  simp at p0 p1 p2
  have q0 := HB2.out.cell 0
  have q1 := HB2.out.cell 1
  have q2 := HB2.out.cell 2
  simp at q0 q1 q2
  by_cases h1 : ¬ a.states = b.states
  · have t1 : (a.states != b.states) = true := by simpa using h1
    have HP : Hid (sameM a b = false) := hid_ (sameM_no (fun e => h1 (by rw [e])))
    clear h1
    go_wp2_with fail
    all_goals
      go_ret
      exact ⟨by rw [HP.out]; rfl, by first | exact hbW | exact hbW.drew | exact below_drewN hbW _⟩
  have h1' : a.states = b.states := by omega
  have t1 : (a.states != b.states) = false := by simpa using h1'
  have H1 := hid_ h1'
  clear h1 h1'
  by_cases h2 : ¬ a.symbols = b.symbols
  · have t2 : (a.symbols != b.symbols) = true := by simpa using h2
    have HP : Hid (sameM a b = false) := hid_ (sameM_no (fun e => h2 (by rw [e])))
    clear h2
    go_wp2_with fail
    all_goals
      go_ret
      exact ⟨by rw [HP.out]; rfl, by first | exact hbW | exact hbW.drew | exact below_drewN hbW _⟩
  have h2' : a.symbols = b.symbols := by omega
  have t2 : (a.symbols != b.symbols) = false := by simpa using h2'
  have H2 := hid_ h2'
  clear h2 h2'
  by_cases h3 : ¬ a.rules.length = b.rules.length
  · have t3 : ((a.rules.length : Int) != (b.rules.length : Int)) = true := by simp; omega
    have HP : Hid (sameM a b = false) := hid_ (sameM_no (fun e => h3 (by rw [e])))
    clear h3
    go_wp2_with fail
    all_goals
      go_ret
      exact ⟨by rw [HP.out]; rfl, by first | exact hbW | exact hbW.drew | exact below_drewN hbW _⟩
  have h3' : a.rules.length = b.rules.length := by omega
  have t3 : ((a.rules.length : Int) != (b.rules.length : Int)) = false := by simp; omega
  have H3 := hid_ h3'
  clear h3 h3'
  go_wp2_with fail
  go_loopw [5] (fun s wr => ∃ k : Nat, s = .int .i64 (k : Int) ∧ k ≤ a.rules.length ∧ Hid (∀ i, i < k → a.rules[i]? = b.rules[i]?) ∧ Below W.heap.size W wr) (fun s _ => a.rules.length - (intOf s).toNat)
  case atStart => exact ⟨0, rfl, Nat.zero_le _, hid_ (fun i h => absurd h (by omega)), Below.refl _ _⟩
  case round =>
    obtain ⟨k, rfl, hk, HK, hbr⟩ := hrel
    have hbY := bnext hbW hbr
    clear p0 p1 p2 q0 q1 q2 t1 t2 t3
    have p2 := (HB1.out.to hbr).cell 2
    have q2 := (HB2.out.to hbr).cell 2
    simp at p2 q2
    have hn1 := HMA.out.lim.1
    have h3 := H3.out
    by_cases hlt : k < a.rules.length
    · obtain ⟨ra, hra⟩ : ∃ r, a.rules[k]? = some r := ⟨_, List.getElem?_eq_getElem hlt⟩
      obtain ⟨rb, hrb⟩ : ∃ r, b.rules[k]? = some r := ⟨_, List.getElem?_eq_getElem (by omega)⟩
      obtain ⟨ba, oa, rfl, _⟩ := HMA.out.rules.addr (by omega)
      obtain ⟨bb, ob, rfl, _⟩ := HMB.out.rules.addr (by omega)
      obtain ⟨Ar, dr, hcr, hEr⟩ := HMA.out.rules.row hra
      obtain ⟨As, ds, hcs, hEs⟩ := HMB.out.rules.row hrb
      have hla := HMA.out.lim.2 ra (List.mem_of_getElem? hra)
      have hlb := HMB.out.lim.2 rb (List.mem_of_getElem? hrb)
      have HCR := hid_ hcr
      have HCS := hid_ hcs
      have HER := hid_ hEr
      have HES := hid_ hEs
      have HRA := hid_ hra
      have HRB := hid_ hrb
      replace hcr := keepc hbr hcr
      replace hcs := keepc hbr hcs
      have u0 : 0 ≤ (k : Int) := by omega
      have u1 : (k : Int) < (a.rules.length : Int) := by omega
      have u2 : (k : Int) < (b.rules.length : Int) := by omega
      have m1 : IntKind.i64.wrap ((k : Int) + 1) = ((k + 1 : Nat) : Int) := by rw [IntWalk.i64_in _ (by omega)]; omega
      clear hra hrb hEr hEs
      by_cases hl : ¬ ra.length = rb.length
      · have t4 : ((ra.length : Int) != (rb.length : Int)) = true := by simp; omega
        have HP : Hid (sameM a b = false) := hid_ (sameM_no (fun e => hl (by have h1 := HRA.out; have h2 := HRB.out; rw [e, h2] at h1; cases h1; rfl)))
        clear hl h3
        go_upto_region 6 with fail
        go_quiet (fail)
        go_wp2_with fail
        all_goals
          go_ret
          exact ⟨by rw [HP.out]; rfl, by first | exact hbY | exact hbY.drew | exact below_drewN hbY _⟩
      have hl' : ra.length = rb.length := by omega
      have t4 : ((ra.length : Int) != (rb.length : Int)) = false := by simp; omega
      have HL := hid_ hl'
      clear hl h3
      go_upto_region 6 with fail
      go_quiet (fail)
      go_upto_region 8 with fail
      obtain ⟨V, hV⟩ : ∃ X, X = wr.drewN nq := ⟨_, rfl⟩
      rw [← hV]
      have hbV : Below W.heap.size W V := by rw [hV]; exact below_drewN hbr _
      clear hV hbr hbY hcr hcs p2 q2
      go_wp2_with fail
      go_loopw [6] (fun s wx => ∃ j : Nat, s = .int .i64 (j : Int) ∧ j ≤ ra.length ∧ Hid (∀ i, i < j → ra[i]? = rb[i]?) ∧ Below W.heap.size W wx) (fun s _ => ra.length - (intOf s).toNat)
      case atStart => exact ⟨0, rfl, Nat.zero_le _, hid_ (fun i h => absurd h (by omega)), hbV⟩
      case round =>
        obtain ⟨j, rfl, hj, HJ, hbr⟩ := hrel
        clear hbV
        have hbY := bnext hbW hbr
        have p2 := (HB1.out.to hbr).cell 2
        have q2 := (HB2.out.to hbr).cell 2
        simp at p2 q2
        have hcr := keepc hbr HCR.out
        have hcs := keepc hbr HCS.out
        have hl9 := HL.out
        by_cases hjl : j < ra.length
        · obtain ⟨r, hr⟩ : ∃ r, ra[j]? = some r := ⟨_, List.getElem?_eq_getElem hjl⟩
          obtain ⟨s, hs⟩ : ∃ r, rb[j]? = some r := ⟨_, List.getElem?_eq_getElem (by omega)⟩
          obtain ⟨br, or, rfl, _, hcell⟩ := HER.out.at_ (by omega)
          obtain ⟨bs, os, rfl, _, hcell2⟩ := HES.out.at_ (by omega)
          obtain ⟨i1, i2, i3⟩ := hcell j r hr
          obtain ⟨j1, j2, j3⟩ := hcell2 j s hs
          replace i1 := keepc hbr i1
          replace i2 := keepc hbr i2
          replace i3 := keepc hbr i3
          replace j1 := keepc hbr j1
          replace j2 := keepc hbr j2
          replace j3 := keepc hbr j3
          have w0 : 0 ≤ (j : Int) := by omega
          have w1 : (j : Int) < (ra.length : Int) := by omega
          have w2 : (j : Int) < (rb.length : Int) := by omega
          have m2 : IntKind.i64.wrap ((j : Int) + 1) = ((j + 1 : Nat) : Int) := by rw [IntWalk.i64_in _ (by omega)]; omega
          have HR := hid_ hr
          have HS := hid_ hs
          clear hr hs hcell hcell2 hl9
          by_cases hrs : r = s
          · subst hrs
            go_upto_region 11 with fail
            go_quiet (fail)
            go_wp2_with fail
            go_roundw
            case rel =>
              refine ⟨j + 1, by go_num, by omega, hid_ (fun i hi => ?_), below_drewN hbr _⟩
              rcases Nat.eq_or_lt_of_le (Nat.le_of_lt_succ hi) with e | e
              · subst e; rw [HR.out, HS.out]
              · exact HJ.out i e
            case measure => simp [intOf]; omega
          · have HP : Hid (sameM a b = false) := hid_ (sameM_no (fun e => hrs (by
              have h1 := HRA.out; have h2 := HRB.out
              rw [e, h2] at h1
              cases h1
              have h3 := HR.out
              rw [HS.out] at h3
              cases h3
              rfl)))
            obtain ⟨r1, r2, r3⟩ := r
            obtain ⟨s1, s2, s3⟩ := s
            simp only at i1 i2 i3 j1 j2 j3
            have hH := hid_ hrs
            clear hrs HR HS
            by_cases e1 : ¬ r1 = s1
            · have g1 : (r1 == s1) = false := by simpa using e1
              have g2 : (r1 != s1) = true := by simpa using e1
              go_upto_region 11 with fail
              go_quiet (fail)
              go_wp2_with fail
              all_goals
                go_ret
                exact ⟨by rw [HP.out]; rfl, by first | exact hbY | exact hbY.drew | exact below_drewN hbY _⟩
            have e1' : r1 = s1 := by omega
            subst e1'
            clear e1
            by_cases e2 : ¬ r2 = s2
            · have g1 : (r2 == s2) = false := by simpa using e2
              have g2 : (r2 != s2) = true := by simpa using e2
              go_upto_region 11 with fail
              go_quiet (fail)
              go_wp2_with fail
              all_goals
                go_ret
                exact ⟨by rw [HP.out]; rfl, by first | exact hbY | exact hbY.drew | exact below_drewN hbY _⟩
            have e2' : r2 = s2 := by omega
            subst e2'
            clear e2
            have e3 : ¬ r3 = s3 := fun h => hH.out (by rw [h])
            have g1 : (r3 == s3) = false := by simpa using e3
            have g2 : (r3 != s3) = true := by simpa using e3
            go_upto_region 11 with fail
            go_quiet (fail)
            go_wp2_with fail
            all_goals
              go_ret
              exact ⟨by rw [HP.out]; rfl, by first | exact hbY | exact hbY.drew | exact below_drewN hbY _⟩
        · obtain rfl : j = ra.length := by omega
          have HKN : Hid (∀ i, i < k + 1 → a.rules[i]? = b.rules[i]?) := hid_ (fun i hi => by
            rcases Nat.eq_or_lt_of_le (Nat.le_of_lt_succ hi) with e | e
            · subst e
              rw [HRA.out, HRB.out, same_list HL.out HJ.out]
            · exact HK.out i e)
          clear hl9
          go_wp2_with fail
          go_roundw
          case rel => exact ⟨k + 1, by go_num, by omega, HKN, hbr⟩
          case measure => simp [intOf]; omega
    · obtain rfl : k = a.rules.length := by omega
      have HP : Hid (sameM a b = true) := hid_ (sameM_iff.2 (by
        have e1 := H1.out; have e2 := H2.out; have e3 := same_list H3.out HK.out
        obtain ⟨a1, a2, a3⟩ := a
        obtain ⟨b1, b2, b3⟩ := b
        simp only at e1 e2 e3
        rw [e1, e2, e3]))
      clear h3
      go_wp2_with fail
      all_goals
        go_ret
        exact ⟨by rw [HP.out]; rfl, by first | exact hbY | exact hbY.drew | exact below_drewN hbY _⟩
end Go.Proofs.YtkbaiegfloajlaaDoor.Tp

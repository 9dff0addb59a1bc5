/- The plain mathematics of cyclic tag systems; contracts of ValidCyclic and FitsCyclic. -/
import Derived.Test.YtpnjffdjoacejaaMd
namespace Go.Proofs.Ytpnjffdjoacejaa
open Go.RowKit

def wordC (l : List Int) : Bool := decide ((l.length : Int) ≤ 120000) && wordB 2 l
def validC (ws : List (List Int)) : Bool := decide (1 ≤ ws.length ∧ ws.length ≤ 2400) && ws.all wordC
def fitsC (ws : List (List Int)) (a : Int) (q : List Int) : Bool := validC ws && (decide (0 ≤ a ∧ a < ws.length) && (decide ((q.length : Int) ≤ 1000000) && wordB 2 q))
def turnQ (ws : List (List Int)) (a : Nat) (q : List Int) : List Int := q.drop 1 ++ (if q.getD 0 0 = 1 then ws.getD a [] else [])
def rollC (ws : List (List Int)) : Nat → Nat → List Int → Option (Nat × List Int × Nat)
  | 0, a, q => some (a, q, 0)
  | n + 1, a, q => if q = [] then some (a, q, 0) else if 1000000 < (turnQ ws a q).length then none else (rollC ws n ((a + 1) % ws.length) (turnQ ws a q)).map fun r => (r.1, r.2.1, r.2.2 + 1)
/-- What Roll returns. -/
structure WRes where
  pos : Int
  q : List Int
  k : Int
  err : Int
def wresOf : Option (Nat × List Int × Nat) → WRes
  | none => ⟨0, [], 0, 4⟩
  | some r => ⟨r.1, r.2.1, r.2.2, 0⟩
def rollS (ws : List (List Int)) (a : Int) (q : List Int) (n : Int) : WRes :=
  if fitsC ws a q = false then ⟨0, [], 0, 1⟩ else if n < 0 ∨ 1000000 < n then ⟨0, [], 0, 2⟩ else wresOf (rollC ws n.toNat a.toNat q)
def cbump (d : Nat) (o : Option (Nat × List Int × Nat)) : Option (Nat × List Int × Nat) := o.map fun r => (r.1, r.2.1, d + r.2.2)

theorem validC_parts {ws : List (List Int)} (h : validC ws = true) : 1 ≤ ws.length ∧ ws.length ≤ 2400 ∧ ws.all wordC = true := by
  simp only [validC, Bool.and_eq_true, decide_eq_true_eq] at h
  exact ⟨h.1.1, h.1.2, h.2⟩
theorem wordC_get {ws : List (List Int)} (h : validC ws = true) {k : Nat} {r : List Int} (hr : ws[k]? = some r) : r.length ≤ 120000 ∧ wordB 2 r = true := by
  have := List.all_eq_true.1 (validC_parts h).2.2 r (List.mem_of_getElem? hr)
  simp only [wordC, Bool.and_eq_true, decide_eq_true_eq] at this
  exact ⟨by omega, this.2⟩
theorem fitsC_parts {ws : List (List Int)} {a : Int} {q : List Int} (h : fitsC ws a q = true) : validC ws = true ∧ 0 ≤ a ∧ a < ws.length ∧ q.length ≤ 1000000 ∧ wordB 2 q = true := by
  simp only [fitsC, Bool.and_eq_true, decide_eq_true_eq] at h
  exact ⟨h.1, h.2.1.1, h.2.1.2, by omega, h.2.2.2⟩
theorem fitsC_mk {ws : List (List Int)} {a : Int} {q : List Int} (h1 : validC ws = true) (h2 : 0 ≤ a) (h3 : a < ws.length) (h4 : q.length ≤ 1000000) (h5 : wordB 2 q = true) : fitsC ws a q = true := by
  simp only [fitsC, Bool.and_eq_true, decide_eq_true_eq]
  exact ⟨h1, ⟨h2, h3⟩, by omega, h5⟩
theorem turnQ_eq {ws : List (List Int)} {a : Nat} {q r : List Int} {x : Int} (hq : q[0]? = some x) (hr : ws[a]? = some r) : turnQ ws a q = if x = 1 then q.drop 1 ++ r else q.drop 1 := by
  rw [turnQ, getD_some hq, getD_some hr]
  split <;> simp
theorem turn_fits {ws : List (List Int)} {a : Nat} {q : List Int} (h : fitsC ws a q = true) (hq : q ≠ []) (hl : ¬ 1000000 < (turnQ ws a q).length) : fitsC ws ((a + 1) % ws.length : Nat) (turnQ ws a q) = true := by
  obtain ⟨h1, h2, h3, h4, h5⟩ := fitsC_parts h
  have hw := (validC_parts h1).1
  refine fitsC_mk h1 (by omega) ?_ (by omega) ?_
  · have := Nat.mod_lt (a + 1) (show 0 < ws.length by omega)
    omega
  · obtain ⟨x, hx⟩ : ∃ x, q[0]? = some x := ⟨_, List.getElem?_eq_getElem (List.length_pos_iff.2 hq)⟩
    obtain ⟨r, hr⟩ : ∃ r, ws[a]? = some r := ⟨_, List.getElem?_eq_getElem (by omega)⟩
    rw [turnQ_eq hx hr]
    split
    · exact wordB_append (wordB_drop h5 1) (wordC_get h1 hr).2
    · exact wordB_drop h5 1
theorem rollC_stop {ws : List (List Int)} {a n d : Nat} {q : List Int} (h : q = []) : cbump d (rollC ws n a q) = some (a, q, d) := by
  cases n <;> simp [rollC, h, cbump]
theorem rollC_end {ws : List (List Int)} {a d : Nat} {q : List Int} : cbump d (rollC ws 0 a q) = some (a, q, d) := by simp [rollC, cbump]
theorem rollC_big {ws : List (List Int)} {a n d : Nat} {q : List Int} (h : q ≠ []) (hl : 1000000 < (turnQ ws a q).length) : cbump d (rollC ws (n + 1) a q) = none := by
  simp [rollC, h, hl, cbump]
theorem rollC_on {ws : List (List Int)} {a n d : Nat} {q : List Int} (h : q ≠ []) (hl : ¬ 1000000 < (turnQ ws a q).length) : cbump d (rollC ws (n + 1) a q) = cbump (d + 1) (rollC ws n ((a + 1) % ws.length) (turnQ ws a q)) := by
  simp only [rollC, h, hl, cbump]
  cases rollC ws n ((a + 1) % ws.length) (turnQ ws a q) <;> simp
  omega
theorem cbump_zero (o : Option (Nat × List Int × Nat)) : cbump 0 o = o := by cases o <;> simp [cbump]
theorem rollC_fits {ws : List (List Int)} {n a : Nat} {q : List Int} {r : Nat × List Int × Nat} (h : fitsC ws a q = true) (hr : rollC ws n a q = some r) : fitsC ws r.1 r.2.1 = true ∧ r.2.2 ≤ n := by
  induction n generalizing a q r with
  | zero => simp [rollC] at hr; subst hr; exact ⟨h, Nat.le_refl _⟩
  | succ n ih =>
    rw [rollC] at hr
    by_cases hq : q = []
    · simp [hq] at hr; subst hr; subst hq; exact ⟨h, Nat.zero_le _⟩
    · by_cases hl : 1000000 < (turnQ ws a q).length
      · simp [hq, hl] at hr
      · simp only [hq, hl, if_false] at hr
        cases hn : rollC ws n ((a + 1) % ws.length) (turnQ ws a q) with
        | none => rw [hn] at hr; simp at hr
        | some r2 =>
          rw [hn] at hr
          simp at hr
          have := ih (turn_fits h hq hl) hn
          subst hr
          exact ⟨this.1, by simp only; omega⟩
theorem rollC_add {ws : List (List Int)} {n m a : Nat} {q : List Int} : rollC ws (n + m) a q = (rollC ws n a q).bind fun r => cbump r.2.2 (rollC ws m r.1 r.2.1) := by
  induction n generalizing a q with
  | zero => simp [rollC, cbump_zero]
  | succ n ih =>
    rw [show n + 1 + m = (n + m) + 1 by omega, rollC, rollC]
    by_cases hq : q = []
    · subst hq
      simp [rollC_stop]
    · by_cases hl : 1000000 < (turnQ ws a q).length
      · simp [hq, hl]
      · simp only [hq, hl, if_false]
        rw [ih]
        cases rollC ws n ((a + 1) % ws.length) (turnQ ws a q) with
        | none => simp
        | some r =>
          simp only [Option.map_some, Option.bind_some, cbump, Option.map_map]
          cases rollC ws m r.1 r.2.1 <;> simp
          omega

/-- A cyclic tag system in memory. -/
structure CycIn (w : World) (B : Nat) (v : Value) (ws : List (List Int)) : Prop where
  rows : Rows2 w B v ws
  lim : ws.length ≤ 1000000 ∧ ∀ r ∈ ws, r.length ≤ 1000000
theorem CycIn.to {w w' : World} {v : Value} {ws : List (List Int)} (h : CycIn w w.heap.size v ws) (hb : Below w.heap.size w w') : CycIn w' w'.heap.size v ws := ⟨h.rows.to hb, h.lim⟩
theorem validC_mk {ws : List (List Int)} (h1 : 1 ≤ ws.length) (h2 : ws.length ≤ 2400) : validC ws = ws.all wordC := by
  rw [validC, decide_eq_true (⟨h1, h2⟩ : 1 ≤ ws.length ∧ ws.length ≤ 2400), Bool.true_and]
theorem validC_no {ws : List (List Int)} (h : ¬ (1 ≤ ws.length ∧ ws.length ≤ 2400)) : validC ws = false := by
  rw [validC, decide_eq_false h, Bool.false_and]
theorem box1 {w w1 : World} {t : TypeId} {a : Value} (hb : Below (w.alloc (.cells #[a] t)).heap.size (w.alloc (.cells #[a] t)) w1) : w1.cell? ⟨w.heap.size, 0, none⟩ = some a ∧ w.heap.size < w1.heap.size ∧ Below w.heap.size w w1 := by
  have b1 : Blk w1 w.heap.size t #[a] := (Blk.new w t #[a]).below hb (by simp)
  exact ⟨b1.cell 0, b1.lt, (below1 w _).trans (hb.mono (by simp))⟩

set_option maxHeartbeats 2000000 in
theorem vcyc_any (ws : List (List Int)) (v : Value) (w : World) (h : CycIn w w.heap.size v ws) :
    Calls Try.prog 24 #[.agg #[v]] w fun e w' => e = .returned (.bool (validC ws)) ∧ Below w.heap.size w w' := by
  obtain ⟨hr, hl1, hl3⟩ := h
  obtain ⟨A2, c2, rfl⟩ := hr.form
  by_cases k3 : 1 ≤ ws.length
  · by_cases k4 : ws.length ≤ 2400
    · rw [validC_mk k3 k4]
      have t3 : ¬ (ws.length : Int) < 1 := by omega
      have t4 : ¬ (2400 : Int) < ws.length := by omega
      have HR := hid_ hr; clear hr
      have HL3 := hid_ hl3; clear hl3
      obtain ⟨b0, off, rfl, hb⟩ := HR.out.addr k3
      go_enter Try.func24, Try.ntmps24
      go_wp2_with fail
      go_loopw [18] (fun s wr => ∃ k : Nat, s = .int .i64 ((k : Nat) : Int) ∧ k ≤ ws.length ∧ Hid ((ws.take k).all wordC = true) ∧ wr = w.alloc (.cells #[.slice (some ⟨b0, off, none⟩) ws.length c2] 43)) (fun s _ => ws.length - (intOf s).toNat)
      case atStart => exact ⟨0, rfl, Nat.zero_le _, hid_ rfl, rfl⟩
      case round =>
        obtain ⟨k, rfl, hk, HT, rfl⟩ := hrel
        by_cases hlt : k < ws.length
        · obtain ⟨r, hrk⟩ : ∃ r, ws[k]? = some r := ⟨_, List.getElem?_eq_getElem hlt⟩
          obtain ⟨A, d, hc, hE⟩ := HR.out.row hrk
          have hrl := HL3.out r (List.mem_of_getElem? hrk)
          have HE := hid_ hE
          have HK := hid_ hrk
          have hc' := keepa (.cells #[.slice (some ⟨b0, off, none⟩) ws.length c2] 43) hc
          clear hE hrk
          cases hB : decide ((r.length : Int) ≤ 120000) && wordB 2 r
          · go_wp2_with fail
            refine (isWord_any r 2 120000 _ _ (HE.out.to (below1 w _)) hrl).mono ?_
            rw [hB]
            have HB := hid_ hB
            clear hB
            rintro e w1 ⟨rfl, rfl⟩
            go_wp2_with fail
            go_ret
            exact ⟨ret_bool (all_not HK.out HB.out).symm, below1 w _⟩
          · go_wp2_with fail
            refine (isWord_any r 2 120000 _ _ (HE.out.to (below1 w _)) hrl).mono ?_
            rw [hB]
            have HB := hid_ hB
            clear hB
            rintro e w1 ⟨rfl, rfl⟩
            go_wp2_with fail
            go_roundw
            case rel => exact ⟨k + 1, by go_num, by omega, hid_ (all_step HK.out HT.out HB.out), trivial⟩
            case measure => simp [intOf]; omega
        · go_wp2_with fail
          go_ret
          have := HT.out
          rw [List.take_of_length_le (by omega)] at this
          exact ⟨ret_bool this.symm, below1 w _⟩
    · rw [validC_no (by omega)]
      have h4' : (2400 : Int) < ws.length := by omega
      clear hr hl3
      go_enter Try.func24, Try.ntmps24
      go_wp2_with fail
      go_ret
      exact ⟨rfl, below1 w _⟩
  · rw [validC_no (by omega)]
    have h4' : (ws.length : Int) < 1 := by omega
    clear hr hl3
    go_enter Try.func24, Try.ntmps24
    go_wp2_with fail
    go_ret
    exact ⟨rfl, below1 w _⟩

set_option maxHeartbeats 2000000 in
theorem rvcyc_any (ws : List (List Int)) (v : Value) (w : World) (h : CycIn w w.heap.size v ws) :
    Calls Try.prog 25 #[.agg #[v]] w fun e w' => e = .returned (.bool (validC ws)) ∧ Below w.heap.size w w' := by
  obtain ⟨hr, hl1, hl3⟩ := h
  obtain ⟨A2, c2, rfl⟩ := hr.form
  by_cases k3 : 1 ≤ ws.length
  · by_cases k4 : ws.length ≤ 2400
    · rw [validC_mk k3 k4]
      have t3 : ¬ (ws.length : Int) < 1 := by omega
      have t4 : ¬ (2400 : Int) < ws.length := by omega
      have HR := hid_ hr; clear hr
      have HL3 := hid_ hl3; clear hl3
      obtain ⟨b0, off, rfl, hb⟩ := HR.out.addr k3
      go_enter Try.func25, Try.ntmps25
      go_wp2_with fail
      go_loopw [3] (fun s wr => ∃ k : Nat, s = .int .i64 ((k : Nat) : Int) ∧ k ≤ ws.length ∧ Hid ((ws.take k).all wordC = true) ∧ wr = w.alloc (.cells #[.slice (some ⟨b0, off, none⟩) ws.length c2] 43)) (fun s _ => ws.length - (intOf s).toNat)
      case atStart => exact ⟨0, rfl, Nat.zero_le _, hid_ rfl, rfl⟩
      case round =>
        obtain ⟨k, rfl, hk, HT, rfl⟩ := hrel
        by_cases hlt : k < ws.length
        · obtain ⟨r, hrk⟩ : ∃ r, ws[k]? = some r := ⟨_, List.getElem?_eq_getElem hlt⟩
          obtain ⟨A, d, hc, hE⟩ := HR.out.row hrk
          have hrl := HL3.out r (List.mem_of_getElem? hrk)
          have HE := hid_ hE
          have HK := hid_ hrk
          have hc' := keepa (.cells #[.slice (some ⟨b0, off, none⟩) ws.length c2] 43) hc
          clear hE hrk
          by_cases hrl2 : 120000 < r.length
          · have t5 : (120000 : Int) < r.length := by omega
            go_wp2_with fail
            go_ret
            exact ⟨ret_bool (all_not HK.out (by rw [wordC, decide_eq_false (by omega), Bool.false_and])).symm, below1 w _⟩
          · have t5 : ¬ (120000 : Int) < r.length := by omega
            cases hB : wordB 2 r
            · go_wp2_with fail
              refine (letters_any r 2 _ _ (HE.out.to (below1 w _)) hrl).mono ?_
              rw [hB]
              have HB := hid_ hB
              clear hB
              rintro e w1 ⟨rfl, rfl⟩
              go_wp2_with fail
              go_ret
              exact ⟨ret_bool (all_not HK.out (by rw [wordC, HB.out, Bool.and_false])).symm, below1 w _⟩
            · go_wp2_with fail
              refine (letters_any r 2 _ _ (HE.out.to (below1 w _)) hrl).mono ?_
              rw [hB]
              have HB := hid_ hB
              clear hB
              rintro e w1 ⟨rfl, rfl⟩
              go_wp2_with fail
              go_roundw
              case rel => exact ⟨k + 1, by go_num, by omega, hid_ (all_step HK.out HT.out (by rw [wordC, HB.out, decide_eq_true (by omega), Bool.true_and])), trivial⟩
              case measure => simp [intOf]; omega
        · go_wp2_with fail
          go_ret
          have := HT.out
          rw [List.take_of_length_le (by omega)] at this
          exact ⟨ret_bool this.symm, below1 w _⟩
    · rw [validC_no (by omega)]
      have h4' : (2400 : Int) < ws.length := by omega
      clear hr hl3
      go_enter Try.func25, Try.ntmps25
      go_wp2_with fail
      go_ret
      exact ⟨rfl, below1 w _⟩
  · rw [validC_no (by omega)]
    have h4' : (ws.length : Int) < 1 := by omega
    clear hr hl3
    go_enter Try.func25, Try.ntmps25
    go_wp2_with fail
    go_ret
    exact ⟨rfl, below1 w _⟩

/-- Two boxes: a system's and a state's, behind a call. -/
theorem box12 {w w1 : World} {t t' : TypeId} {a b c : Value} (hb : Below ((w.alloc (.cells #[a] t)).alloc (.cells #[b, c] t')).heap.size ((w.alloc (.cells #[a] t)).alloc (.cells #[b, c] t')) w1) :
    w1.cell? ⟨w.heap.size, 0, none⟩ = some a ∧ w1.cell? ⟨w.heap.size + 1, 0, none⟩ = some b ∧ w1.cell? ⟨w.heap.size + 1, 1, none⟩ = some c ∧ w.heap.size + 1 < w1.heap.size ∧ Below w.heap.size w w1 := by
  have h1 : ((w.alloc (.cells #[a] t)).alloc (.cells #[b, c] t')).heap.size = w.heap.size + 1 + 1 := by simp
  have b1 : Blk w1 w.heap.size t #[a] := ((Blk.new w t #[a]).alloc _).below hb (by omega)
  have b2 : Blk w1 (w.heap.size + 1) t' #[b, c] := by
    have := Blk.new (w.alloc (.cells #[a] t)) t' #[b, c]
    rw [show (w.alloc (.cells #[a] t)).heap.size = w.heap.size + 1 by simp] at this
    exact this.below hb (by omega)
  exact ⟨b1.cell 0, b2.cell 0, b2.cell 1, b2.lt, (below2 w _ _).trans (hb.mono (by omega))⟩

set_option maxHeartbeats 2000000 in
theorem fcyc_any (ws : List (List Int)) (a : Int) (q : List Int) (v v2 : Value) (w : World) (h : CycIn w w.heap.size v ws) (hq : Elems w w.heap.size v2 (ints q)) (hl : q.length ≤ 1000000) :
    Calls Try.prog 26 #[.agg #[v], .agg #[.int .i64 a, v2]] w fun e w' => e = .returned (.bool (fitsC ws a q)) ∧ Below w.heap.size w w' := by
  have HT := hid_ h
  have HQ := hid_ hq
  obtain ⟨A2, c2, rfl⟩ := h.rows.form
  clear h hq
  have hf : fitsC ws a q = (validC ws && (decide (0 ≤ a ∧ a < ws.length) && (decide ((q.length : Int) ≤ 1000000) && wordB 2 q))) := rfl
  rw [hf]
  clear hf
  cases hv : validC ws
  · have HV := hid_ hv
    clear hv
    rw [Bool.false_and]
    go_enter Try.func26, Try.ntmps26
    go_wp2_with fail
    refine (vcyc_any ws _ _ (HT.out.to (below2 w _ _))).mono ?_
    rw [HV.out]
    rintro e w1 ⟨rfl, hb1⟩
    obtain ⟨p0, p1, p2, hz, hw1⟩ := box12 hb1
    go_wp2_with fail
    go_ret
    exact ⟨rfl, hw1⟩
  · have HV := hid_ hv
    clear hv
    rw [Bool.true_and]
    by_cases h0 : 0 ≤ a
    · by_cases h1 : a < ws.length
      · rw [decide_eq_true (⟨h0, h1⟩ : 0 ≤ a ∧ a < ws.length), Bool.true_and]
        cases hB : (decide ((q.length : Int) ≤ 1000000) && wordB 2 q)
        all_goals
          have HB := hid_ hB
          clear hB
          go_enter Try.func26, Try.ntmps26
          go_wp2_with fail
          refine (vcyc_any ws _ _ (HT.out.to (below2 w _ _))).mono ?_
          rw [HV.out]
          rintro e w1 ⟨rfl, hb1⟩
          obtain ⟨p0, p1, p2, hz, hw1⟩ := box12 hb1
          clear hb1
          go_wp2_with fail
          refine (isWord_any q 2 1000000 v2 w1 (HQ.out.to hw1) hl).mono ?_
          rw [HB.out]
          rintro e w2 ⟨rfl, rfl⟩
          go_wp2_with fail
          go_ret
          exact ⟨rfl, hw1⟩
      · rw [decide_eq_false (by omega), Bool.false_and]
        have h1' : (ws.length : Int) ≤ a := by omega
        have h2' : decide (a < (ws.length : Int)) = false := decide_eq_false h1
        go_enter Try.func26, Try.ntmps26
        go_wp2_with fail
        refine (vcyc_any ws _ _ (HT.out.to (below2 w _ _))).mono ?_
        rw [HV.out]
        rintro e w1 ⟨rfl, hb1⟩
        obtain ⟨p0, p1, p2, hz, hw1⟩ := box12 hb1
        go_wp2_with fail
        go_ret
        exact ⟨rfl, hw1⟩
    · rw [decide_eq_false (by omega), Bool.false_and]
      have h2' : decide (0 ≤ a) = false := decide_eq_false h0
      go_enter Try.func26, Try.ntmps26
      go_wp2_with fail
      refine (vcyc_any ws _ _ (HT.out.to (below2 w _ _))).mono ?_
      rw [HV.out]
      rintro e w1 ⟨rfl, hb1⟩
      obtain ⟨p0, p1, p2, hz, hw1⟩ := box12 hb1
      go_wp2_with fail
      go_ret
      exact ⟨rfl, hw1⟩

set_option maxHeartbeats 2000000 in
theorem rfcyc_any (ws : List (List Int)) (a : Int) (q : List Int) (v v2 : Value) (w : World) (h : CycIn w w.heap.size v ws) (hq : Elems w w.heap.size v2 (ints q)) (hl : q.length ≤ 1000000) :
    Calls Try.prog 27 #[.agg #[v], .agg #[.int .i64 a, v2]] w fun e w' => e = .returned (.bool (fitsC ws a q)) ∧ Below w.heap.size w w' := by
  have HT := hid_ h
  have HQ := hid_ hq
  obtain ⟨A2, c2, rfl⟩ := h.rows.form
  obtain ⟨A, c, rfl⟩ := hq.form
  rw [ints_len] at HQ ⊢
  clear h hq
  have hf : fitsC ws a q = (validC ws && (decide (0 ≤ a ∧ a < ws.length) && (decide ((q.length : Int) ≤ 1000000) && wordB 2 q))) := rfl
  rw [hf, decide_eq_true (show (q.length : Int) ≤ 1000000 by omega), Bool.true_and]
  clear hf
  have hl2 : (q.length : Int) ≤ 1000000 := by omega
  cases hv : validC ws
  · have HV := hid_ hv
    clear hv
    rw [Bool.false_and]
    go_enter Try.func27, Try.ntmps27
    go_wp2_with fail
    refine (rvcyc_any ws _ _ (HT.out.to (below2 w _ _))).mono ?_
    rw [HV.out]
    rintro e w1 ⟨rfl, hb1⟩
    obtain ⟨p0, p1, p2, hz, hw1⟩ := box12 hb1
    go_wp2_with fail
    go_ret
    exact ⟨rfl, hw1⟩
  · have HV := hid_ hv
    clear hv
    rw [Bool.true_and]
    by_cases h0 : 0 ≤ a
    · by_cases h1 : a < ws.length
      · rw [decide_eq_true (⟨h0, h1⟩ : 0 ≤ a ∧ a < ws.length), Bool.true_and]
        cases hB : wordB 2 q
        all_goals
          have HB := hid_ hB
          clear hB
          go_enter Try.func27, Try.ntmps27
          go_wp2_with fail
          refine (rvcyc_any ws _ _ (HT.out.to (below2 w _ _))).mono ?_
          rw [HV.out]
          rintro e w1 ⟨rfl, hb1⟩
          obtain ⟨p0, p1, p2, hz, hw1⟩ := box12 hb1
          clear hb1
          go_wp2_with fail
          refine (letters_any q 2 _ w1 (HQ.out.to hw1) hl).mono ?_
          rw [HB.out]
          rintro e w2 ⟨rfl, rfl⟩
          go_wp2_with fail
          go_ret
          exact ⟨rfl, hw1⟩
      · rw [decide_eq_false (by omega), Bool.false_and]
        have h2' : decide (a < (ws.length : Int)) = false := decide_eq_false h1
        go_enter Try.func27, Try.ntmps27
        go_wp2_with fail
        refine (rvcyc_any ws _ _ (HT.out.to (below2 w _ _))).mono ?_
        rw [HV.out]
        rintro e w1 ⟨rfl, hb1⟩
        obtain ⟨p0, p1, p2, hz, hw1⟩ := box12 hb1
        go_wp2_with fail
        go_ret
        exact ⟨rfl, hw1⟩
    · rw [decide_eq_false (by omega), Bool.false_and]
      have h2' : decide (0 ≤ a) = false := decide_eq_false h0
      go_enter Try.func27, Try.ntmps27
      go_wp2_with fail
      refine (rvcyc_any ws _ _ (HT.out.to (below2 w _ _))).mono ?_
      rw [HV.out]
      rintro e w1 ⟨rfl, hb1⟩
      obtain ⟨p0, p1, p2, hz, hw1⟩ := box12 hb1
      go_wp2_with fail
      go_ret
      exact ⟨rfl, hw1⟩
end Go.Proofs.Ytpnjffdjoacejaa

/- The plain mathematics of tag systems and cyclic tag systems. -/
import Derived.Test.YtpnjffdjoacejaaKa
namespace Go.Proofs.Ytpnjffdjoacejaa

structure TagS where
  del : Int
  rules : List (List Int)
  stops : List Bool

/-- Numbers from 0 to n - 1. -/
def wordB (n : Int) (l : List Int) : Bool := l.all fun x => decide (0 ≤ x ∧ x < n)
def ruleB (n : Int) (l : List Int) : Bool := decide ((l.length : Int) ≤ 200) && wordB n l
def validT (t : TagS) : Bool := decide (1 ≤ t.del ∧ t.del ≤ 4) && decide (1 ≤ t.rules.length ∧ t.rules.length ≤ 600) && decide (t.stops.length = t.rules.length) && t.rules.all (ruleB t.rules.length)
def fitsT (t : TagS) (q : List Int) : Bool := validT t && (decide ((q.length : Int) ≤ 100000) && wordB t.rules.length q)
def stoppedT (t : TagS) (q : List Int) : Bool := decide ((q.length : Int) < t.del) || t.stops.getD (q.getD 0 0).toNat false
def stepT (t : TagS) (q : List Int) : List Int := (q ++ t.rules.getD (q.getD 0 0).toNat []).drop t.del.toNat
def runT (t : TagS) : Nat → List Int → Option (List Int × Nat)
  | 0, q => some (q, 0)
  | n + 1, q => if stoppedT t q then some (q, 0) else if 100000 < (stepT t q).length then none else (runT t n (stepT t q)).map fun r => (r.1, r.2 + 1)
/-- What Run returns: the queue, the steps, the error. -/
structure TRes where
  q : List Int
  k : Int
  err : Int
def tresOf : Option (List Int × Nat) → TRes
  | none => ⟨[], 0, 4⟩
  | some r => ⟨r.1, r.2, 0⟩
def runTS (t : TagS) (q : List Int) (n : Int) : TRes :=
  if fitsT t q = false then ⟨[], 0, 1⟩ else if n < 0 ∨ 1000000 < n then ⟨[], 0, 2⟩ else tresOf (runT t n.toNat q)
/-- A run that goes on behind d steps. -/
def tbump (d : Nat) (o : Option (List Int × Nat)) : Option (List Int × Nat) := o.map fun r => (r.1, d + r.2)

theorem wordB_get {n : Int} {l : List Int} (h : wordB n l = true) {k : Nat} {x : Int} (hx : l[k]? = some x) : 0 ≤ x ∧ x < n := by
  have := List.all_eq_true.1 h x (List.mem_of_getElem? hx)
  simpa using this
theorem wordB_append {n : Int} {a b : List Int} (ha : wordB n a = true) (hb : wordB n b = true) : wordB n (a ++ b) = true := by
  simp only [wordB, List.all_append, Bool.and_eq_true] at *
  exact ⟨ha, hb⟩
theorem wordB_drop {n : Int} {a : List Int} (ha : wordB n a = true) (k : Nat) : wordB n (a.drop k) = true := by
  rw [wordB, List.all_eq_true] at *
  exact fun x hx => ha x (List.mem_of_mem_drop hx)
theorem validT_parts {t : TagS} (h : validT t = true) : 1 ≤ t.del ∧ t.del ≤ 4 ∧ 1 ≤ t.rules.length ∧ t.rules.length ≤ 600 ∧ t.stops.length = t.rules.length ∧ t.rules.all (ruleB t.rules.length) = true := by
  simp only [validT, Bool.and_eq_true, decide_eq_true_eq] at h
  exact ⟨h.1.1.1.1, h.1.1.1.2, h.1.1.2.1, h.1.1.2.2, h.1.2, h.2⟩
theorem fitsT_parts {t : TagS} {q : List Int} (h : fitsT t q = true) : validT t = true ∧ q.length ≤ 100000 ∧ wordB t.rules.length q = true := by
  simp only [fitsT, Bool.and_eq_true, decide_eq_true_eq] at h
  exact ⟨h.1, by omega, h.2.2⟩
theorem fitsT_mk {t : TagS} {q : List Int} (h1 : validT t = true) (h2 : q.length ≤ 100000) (h3 : wordB t.rules.length q = true) : fitsT t q = true := by
  simp only [fitsT, Bool.and_eq_true, decide_eq_true_eq]
  exact ⟨h1, by omega, h3⟩
theorem rule_get {t : TagS} (h : validT t = true) {k : Nat} {r : List Int} (hr : t.rules[k]? = some r) : r.length ≤ 200 ∧ wordB t.rules.length r = true := by
  have := List.all_eq_true.1 (validT_parts h).2.2.2.2.2 r (List.mem_of_getElem? hr)
  simp only [ruleB, Bool.and_eq_true, decide_eq_true_eq] at this
  exact ⟨by omega, this.2⟩
/-- In a queue that has not stopped there is a first letter, and it has a rule and a stop. -/
theorem head_get {t : TagS} {q : List Int} (h : fitsT t q = true) (hs : ¬ ((q.length : Int) < t.del)) : ∃ (j : Nat) (r : List Int) (b : Bool), q[0]? = some (j : Int) ∧ j < t.rules.length ∧ t.rules[j]? = some r ∧ t.stops[j]? = some b := by
  obtain ⟨hv, _, hw⟩ := fitsT_parts h
  obtain ⟨h1, _, _, _, h5, _⟩ := validT_parts hv
  obtain ⟨x, hx⟩ : ∃ x, q[0]? = some x := ⟨_, List.getElem?_eq_getElem (by omega)⟩
  have hb := wordB_get hw hx
  obtain ⟨j, rfl⟩ := Int.eq_ofNat_of_zero_le hb.1
  have hj : j < t.rules.length := by omega
  exact ⟨j, _, _, hx, hj, List.getElem?_eq_getElem hj, List.getElem?_eq_getElem (by omega)⟩
theorem stepT_eq {t : TagS} {q : List Int} {j : Nat} {r : List Int} (hq : q[0]? = some (j : Int)) (hr : t.rules[j]? = some r) : stepT t q = (q ++ r).drop t.del.toNat := by
  rw [stepT, getD_some hq, Int.toNat_natCast, getD_some hr]
theorem stoppedT_eq {t : TagS} {q : List Int} {j : Nat} {b : Bool} (hq : q[0]? = some (j : Int)) (hs : ¬ ((q.length : Int) < t.del)) (hb : t.stops[j]? = some b) : stoppedT t q = b := by
  rw [stoppedT, getD_some hq, Int.toNat_natCast, getD_some hb, decide_eq_false hs, Bool.false_or]
theorem stoppedT_short {t : TagS} {q : List Int} (hs : (q.length : Int) < t.del) : stoppedT t q = true := by
  rw [stoppedT, decide_eq_true hs, Bool.true_or]
theorem stepT_fits {t : TagS} {q : List Int} (h : fitsT t q = true) (hs : stoppedT t q = false) (hl : ¬ 100000 < (stepT t q).length) : fitsT t (stepT t q) = true := by
  obtain ⟨hv, _, hw⟩ := fitsT_parts h
  have hd : ¬ ((q.length : Int) < t.del) := fun hd => by rw [stoppedT_short hd] at hs; cases hs
  obtain ⟨j, r, b, hq, hj, hr, hb⟩ := head_get h hd
  refine fitsT_mk hv (by omega) ?_
  rw [stepT_eq hq hr]
  exact wordB_drop (wordB_append hw (rule_get hv hr).2) _
theorem runT_stop {t : TagS} {q : List Int} {n d : Nat} (h : stoppedT t q = true) : tbump d (runT t n q) = some (q, d) := by
  cases n <;> simp [runT, h, tbump]
theorem runT_end {t : TagS} {q : List Int} {d : Nat} : tbump d (runT t 0 q) = some (q, d) := by simp [runT, tbump]
theorem runT_big {t : TagS} {q : List Int} {n d : Nat} (h : stoppedT t q = false) (hl : 100000 < (stepT t q).length) : tbump d (runT t (n + 1) q) = none := by
  simp [runT, h, hl, tbump]
theorem runT_on {t : TagS} {q : List Int} {n d : Nat} (h : stoppedT t q = false) (hl : ¬ 100000 < (stepT t q).length) : tbump d (runT t (n + 1) q) = tbump (d + 1) (runT t n (stepT t q)) := by
  simp only [runT, h, hl, tbump]
  cases runT t n (stepT t q) <;> simp
  omega
theorem tbump_zero (o : Option (List Int × Nat)) : tbump 0 o = o := by cases o <;> simp [tbump]
theorem runT_fits {t : TagS} {q : List Int} {n : Nat} {r : List Int × Nat} (h : fitsT t q = true) (hr : runT t n q = some r) : fitsT t r.1 = true ∧ r.2 ≤ n := by
  induction n generalizing q r with
  | zero => simp [runT] at hr; subst hr; exact ⟨h, Nat.le_refl _⟩
  | succ n ih =>
    rw [runT] at hr
    cases hs : stoppedT t q with
    | true => rw [hs] at hr; simp at hr; subst hr; exact ⟨h, Nat.zero_le _⟩
    | false =>
      rw [hs] at hr
      by_cases hl : 100000 < (stepT t q).length
      · simp [hl] at hr
      · simp only [hl, if_false] at hr
        cases hn : runT t n (stepT t q) with
        | none => rw [hn] at hr; simp at hr
        | some r2 =>
          rw [hn] at hr
          simp at hr
          have := ih (stepT_fits h hs hl) hn
          subst hr
          exact ⟨this.1, by simp only; omega⟩

/-! ### Other names of letters -/
def nameL (tos l : List Int) : List Int := l.map fun x => tos.getD x.toNat 0
end Go.Proofs.Ytpnjffdjoacejaa

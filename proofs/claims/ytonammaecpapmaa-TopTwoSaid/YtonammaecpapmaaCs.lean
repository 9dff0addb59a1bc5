/- The plain mathematics of register machines: steps and runs of lists. -/
import Derived.Test.YtonammaecpapmaaCc
namespace Go.Proofs.Ytonammaecpapmaa.Cn

/-- A step: none if the machine has stopped; some none if a register would be too great. -/
def stp (code : List Ins) (a : Nat) (rs : List Int) : Option (Option (Nat × List Int)) :=
  match code[a]? with
  | none => none
  | some i =>
    if i.op = 2 then none
    else if i.op = 0 then (if rs.getD i.rg.toNat 0 = 1152921504606846976 then some none else some (some (i.nx.toNat, rs.set i.rg.toNat (rs.getD i.rg.toNat 0 + 1))))
    else if rs.getD i.rg.toNat 0 = 0 then some (some (i.zr.toNat, rs))
    else some (some (i.nx.toNat, rs.set i.rg.toNat (rs.getD i.rg.toNat 0 - 1)))

/-- What a run ends with: the instruction, the registers, the steps, whether it has met a point; none if a register would be too great. -/
structure Out where
  at_ : Nat
  rs : List Int
  k : Nat
  met : Bool

def walkC (code : List Ins) (fin : Nat → Bool) : Nat → Nat → List Int → Option Out
  | 0, a, rs => some ⟨a, rs, 0, false⟩
  | n + 1, a, rs => match stp code a rs with
    | none => some ⟨a, rs, 0, false⟩
    | some none => none
    | some (some s) => if fin s.1 = true then some ⟨s.1, s.2, 1, true⟩ else (walkC code fin n s.1 s.2).map fun o => ⟨o.at_, o.rs, o.k + 1, o.met⟩

/-- A run that goes on behind d steps. -/
def bump (d : Nat) (o : Option Out) : Option Out := o.map fun o => ⟨o.at_, o.rs, d + o.k, o.met⟩
theorem bump_zero (o : Option Out) : bump 0 o = o := by cases o <;> simp [bump]

section
variable {code : List Ins} {fin : Nat → Bool} {n d a a' : Nat} {rs rs' : List Int}
theorem walk_end : bump d (walkC code fin 0 a rs) = some ⟨a, rs, d, false⟩ := by simp [walkC, bump]
theorem walk_halt (h : stp code a rs = none) : bump d (walkC code fin (n + 1) a rs) = some ⟨a, rs, d, false⟩ := by simp [walkC, bump, h]
theorem walk_big (h : stp code a rs = some none) : bump d (walkC code fin (n + 1) a rs) = none := by simp [walkC, bump, h]
theorem walk_met (h : stp code a rs = some (some (a', rs'))) (hf : fin a' = true) : bump d (walkC code fin (n + 1) a rs) = some ⟨a', rs', d + 1, true⟩ := by simp [walkC, bump, h, hf]
theorem walk_on (h : stp code a rs = some (some (a', rs'))) (hf : fin a' = false) : bump d (walkC code fin (n + 1) a rs) = bump (d + 1) (walkC code fin n a' rs') := by
  simp only [walkC, h, hf]
  cases walkC code fin n a' rs' <;> simp [bump]
  omega
end

/-- A state is within the machine. -/
structure Good (R : Nat) (code : List Ins) (a : Nat) (rs : List Int) : Prop where
  lt : a < code.length
  len : rs.length = R
  ok : ∀ x ∈ rs, 0 ≤ x ∧ x ≤ 1152921504606846976

theorem vIns_inc {R n : Int} {i : Ins} (h : vIns R n i = true) (ho : i.op = 0) : 0 ≤ i.rg ∧ i.rg < R ∧ 0 ≤ i.nx ∧ i.nx < n := by
  simp [vIns, ho, vInc, inB] at h; omega
theorem vIns_dec {R n : Int} {i : Ins} (h : vIns R n i = true) (ho : i.op = 1) : 0 ≤ i.rg ∧ i.rg < R ∧ 0 ≤ i.nx ∧ i.nx < n ∧ 0 ≤ i.zr ∧ i.zr < n := by
  simp [vIns, ho, vDec, inB] at h; omega
theorem vIns_op {R n : Int} {i : Ins} (h : vIns R n i = true) : i.op = 0 ∨ i.op = 1 ∨ i.op = 2 := by
  unfold vIns at h
  by_cases h0 : i.op = 0
  · exact .inl h0
  · by_cases h1 : i.op = 1
    · exact .inr (.inl h1)
    · by_cases h2 : i.op = 2
      · exact .inr (.inr h2)
      · simp [h0, h1, h2] at h
theorem vCode_ins {R : Int} {code : List Ins} (h : vCode R code = true) {a : Nat} {i : Ins} (hi : code[a]? = some i) : vIns R code.length i = true := by
  simp only [vCode, Bool.and_eq_true, List.all_eq_true] at h
  exact h.2 i (List.mem_of_getElem? hi)

theorem mem_set {rs : List Int} {j : Nat} {y x : Int} (h : x ∈ rs.set j y) : x = y ∨ x ∈ rs := by
  rcases List.mem_or_eq_of_mem_set h with h | h
  · exact .inr h
  · exact .inl h

/-- A step stays within the machine. -/
theorem Good.step {R : Nat} {code : List Ins} {a a' : Nat} {rs rs' : List Int} (hv : vCode R code = true) (h : Good R code a rs) (hs : stp code a rs = some (some (a', rs'))) : Good R code a' rs' := by
  obtain ⟨i, hi⟩ : ∃ i, code[a]? = some i := ⟨_, List.getElem?_eq_getElem h.lt⟩
  have hvi := vCode_ins hv hi
  unfold stp at hs
  rw [hi] at hs
  simp only at hs
  rcases vIns_op hvi with ho | ho | ho
  · have hb := vIns_inc hvi ho
    have hg : rs.getD i.rg.toNat 0 ∈ rs := by
      have hlt : i.rg.toNat < rs.length := by rw [h.len]; omega
      rw [List.getD_eq_getElem?_getD, List.getElem?_eq_getElem hlt]
      exact List.getElem_mem hlt
    have hx := h.ok _ hg
    simp only [ho] at hs
    generalize rs.getD i.rg.toNat 0 = x at hs hx
    by_cases hbig : x = 1152921504606846976
    · simp [hbig] at hs
    · simp [hbig] at hs
      obtain ⟨rfl, rfl⟩ := hs
      exact ⟨by omega, by simpa using h.len, fun y hy => by
        rcases mem_set hy with rfl | hy
        · omega
        · exact h.ok y hy⟩
  · have hb := vIns_dec hvi ho
    have hg : rs.getD i.rg.toNat 0 ∈ rs := by
      have hlt : i.rg.toNat < rs.length := by rw [h.len]; omega
      rw [List.getD_eq_getElem?_getD, List.getElem?_eq_getElem hlt]
      exact List.getElem_mem hlt
    have hx := h.ok _ hg
    simp only [ho] at hs
    generalize rs.getD i.rg.toNat 0 = x at hs hx
    by_cases hz : x = 0
    · simp [hz] at hs
      obtain ⟨rfl, rfl⟩ := hs
      exact ⟨by omega, h.len, h.ok⟩
    · simp [hz] at hs
      obtain ⟨rfl, rfl⟩ := hs
      exact ⟨by omega, by simpa using h.len, fun y hy => by
        rcases mem_set hy with rfl | hy
        · omega
        · exact h.ok y hy⟩
  · simp [ho] at hs

theorem fitsB_good {R : Int} {code : List Ins} {at_ : Int} {rs : List Int} (h : fitsB R code at_ rs = true) : vCode R code = true ∧ Good R.toNat code at_.toNat rs ∧ (R.toNat : Int) = R ∧ (at_.toNat : Int) = at_ := by
  simp only [fitsB, Bool.and_eq_true, decide_eq_true_eq, inB_true] at h
  obtain ⟨⟨⟨hv, h0, h1⟩, hl⟩, hok⟩ := h
  refine ⟨hv, ⟨by omega, by omega, fun x hx => ?_⟩, by omega, by omega⟩
  have := List.all_eq_true.1 hok x hx
  simpa [okR] using this
end Go.Proofs.Ytonammaecpapmaa.Cn

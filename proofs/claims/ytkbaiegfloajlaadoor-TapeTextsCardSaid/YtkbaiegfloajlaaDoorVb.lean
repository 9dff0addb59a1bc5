/- Contracts: moveLetter, stateLetter, Text of package tape (valid machines). -/
import Derived.Test.YtkbaiegfloajlaaDoorSh
import Derived.Test.YtkbaiegfloajlaaDoorTi
namespace Go.Proofs.YtkbaiegfloajlaaDoor.Tp
open Go.RowKit Go.Lib

def ruleText (r : RuleS) : List UInt8 := [UInt8.ofNat (48 + r.w.toNat), if r.m = -1 then 76 else 82, if r.n = -1 then 90 else UInt8.ofNat (65 + r.n.toNat)]
def rowText (row : List RuleS) : List UInt8 := row.flatMap ruleText
def sepText (k : Nat) : List UInt8 := if 0 < k then [95] else []
def textTo (rows : List (List RuleS)) : Nat → List UInt8
  | 0 => []
  | k + 1 => textTo rows k ++ sepText k ++ rowText (rows.getD k [])
def textM (m : MachS) : List UInt8 := textTo m.rules m.rules.length
theorem rowText_len (row : List RuleS) : (rowText row).length = 3 * row.length := by
  induction row with
  | nil => rfl
  | cons a l ih =>
    rw [rowText, List.flatMap_cons, List.length_append]
    have : (List.flatMap ruleText l).length = 3 * l.length := ih
    rw [this, List.length_cons]
    show 3 + 3 * l.length = _
    omega
theorem textTo_len {rows : List (List RuleS)} {n : Nat} (h : ∀ r ∈ rows, r.length ≤ n) (k : Nat) : (textTo rows k).length ≤ k * (1 + 3 * n) := by
  induction k with
  | zero => simp [textTo]
  | succ k ih =>
    rw [textTo, List.length_append, List.length_append, rowText_len]
    have h1 : (sepText k).length ≤ 1 := by unfold sepText; split <;> simp
    have h2 : (rows.getD k []).length ≤ n := by
      cases e : rows[k]? with
      | none => simp [List.getD, e]
      | some r => simpa [List.getD, e] using h r (List.mem_of_getElem? e)
    have : (k + 1) * (1 + 3 * n) = k * (1 + 3 * n) + (1 + 3 * n) := Nat.succ_mul _ _
    omega
theorem bytes_add (l : List UInt8) (c : UInt8) (x : Int) (h : x = (c.toNat : Int)) : byteCells l ++ [.int .u8 x] = byteCells (l ++ [c]) := by
  subst h
  simp [byteCells]
theorem ofNat_to {n : Nat} (h : n < 256) : (UInt8.ofNat n).toNat = n := by
  rw [UInt8.toNat_ofNat']
  exact Nat.mod_eq_of_lt h

set_option maxHeartbeats 1000000 in
theorem moveLetter_any (x : Int) (w : World) : Calls Tryd.prog 51 #[.int .i64 x] w fun e w' => e = .returned (.int .u8 (((if x = -1 then 76 else 82 : UInt8).toNat : Nat) : Int)) ∧ w' = w := by
  by_cases h : x = -1
  · subst h
    go_enter Tryd.func51, Tryd.ntmps51
    go_wp2_with fail
    go_ret
    exact ⟨rfl, rfl⟩
  · rw [if_neg h]
    have h1 : (x == -1) = false := by simpa using h
    go_enter Tryd.func51, Tryd.ntmps51
    go_wp2_with fail
    go_ret
    exact ⟨rfl, rfl⟩
set_option maxHeartbeats 1000000 in
theorem stateLetter_any (x : Int) (hx : -1 ≤ x ∧ x < 100) (w : World) : Calls Tryd.prog 52 #[.int .i64 x] w fun e w' => e = .returned (.int .u8 (((if x = -1 then 90 else UInt8.ofNat (65 + x.toNat) : UInt8).toNat : Nat) : Int)) ∧ w' = w := by
  by_cases h : x = -1
  · subst h
    go_enter Tryd.func52, Tryd.ntmps52
    go_wp2_with fail
    go_ret
    exact ⟨rfl, rfl⟩
  · rw [if_neg h, ofNat_to (by omega)]
    have h1 : (x == -1) = false := by simpa using h
    obtain ⟨n, rfl⟩ := Int.eq_ofNat_of_zero_le (show 0 ≤ x by omega)
    have m1 : IntKind.i64.wrap (65 + (n : Int)) = 65 + (n : Int) := IntWalk.i64_in _ (by omega)
    have m2 : IntKind.u8.wrap (65 + (n : Int)) = 65 + (n : Int) := by
      show (65 + (n : Int)) % 256 = _
      omega
    go_enter Tryd.func52, Tryd.ntmps52
    go_wp2_with fail
    go_ret
    exact ⟨by simp, rfl⟩
end Go.Proofs.YtkbaiegfloajlaaDoor.Tp

/- Contracts: Read of package tape and of the specification. -/
import Derived.Test.YtkbaiegfloajlaaDoorTa
namespace Go.Proofs.YtkbaiegfloajlaaDoor.Tp
open Go.RowKit

set_option maxRecDepth 100000 in
set_option maxHeartbeats 2000000 in
theorem read_any (c : CfgS) (p : Int) (v : Value) (w : World) (hE : Elems w w.heap.size v (ints c.cells)) (hl : c.cells.length ≤ 17592186044416) (hp : -9223372036854775808 ≤ p ∧ p ≤ 9223372036854775807) (hf : -9223372036854775808 ≤ c.frm ∧ c.frm ≤ 9223372036854775807) :
    Calls Tryd.prog 28 #[.agg #[.int .i64 c.st, .int .i64 c.pos, .int .i64 c.frm, v], .int .i64 p] w fun e w' => e = .returned (.int .i64 (cellAt c.frm c.cells p)) ∧ Below w.heap.size w w' := by
  obtain ⟨A, cc, rfl⟩ := hE.form
  rw [ints_len] at hE ⊢
  have hbW := below1 w (.cells #[.int .i64 c.st, .int .i64 c.pos, .int .i64 c.frm, .slice A c.cells.length cc] 27)
  have HE := hid_ (hE.to hbW)
  have BW := Blk.new w 27 #[.int .i64 c.st, .int .i64 c.pos, .int .i64 c.frm, .slice A c.cells.length cc]
  obtain ⟨R, hR⟩ : ∃ R, R = cellAt c.frm c.cells p := ⟨_, rfl⟩
  rw [← hR]
  have HR := hid_ hR
  clear hE hR
  by_cases h1 : p < c.frm
  · have HZ : Hid (R = 0) := hid_ (by rw [HR.out, cellAt_lt h1])
    obtain ⟨P, hP⟩ : ∃ P, P = IntKind.u64.wrap p := ⟨_, rfl⟩
    obtain ⟨Q, hQ⟩ : ∃ Q, Q = IntKind.u64.wrap c.frm := ⟨_, rfl⟩
    obtain ⟨D, hD⟩ : ∃ D, D = IntKind.u64.wrap (P - Q) := ⟨_, rfl⟩
    have HX := hid_ (And.intro hP (And.intro hQ hD))
    clear hP hQ hD BW
    go_enter Tryd.func28, Tryd.ntmps28
    go_wp2_with fail
    go_ret
    rw [HZ.out]
    exact ⟨rfl, hbW⟩
  · obtain ⟨i, hi⟩ := Int.eq_ofNat_of_zero_le (show 0 ≤ p - c.frm by omega)
    obtain ⟨P, hP⟩ : ∃ P, IntKind.u64.wrap p = P := ⟨_, rfl⟩
    obtain ⟨Q, hQ⟩ : ∃ Q, IntKind.u64.wrap c.frm = Q := ⟨_, rfl⟩
    have hD : IntKind.u64.wrap (P - Q) = (i : Int) := by
      have e1 : p % 18446744073709551616 = P := hP
      have e2 : c.frm % 18446744073709551616 = Q := hQ
      show (P - Q) % 18446744073709551616 = (i : Int)
      omega
    have hL : IntKind.u64.wrap (c.cells.length : Int) = (c.cells.length : Int) := by
      show (c.cells.length : Int) % 18446744073709551616 = _
      omega
    have HI := hid_ hi
    clear hi
    by_cases h2 : i < c.cells.length
    · obtain ⟨x, hx⟩ : ∃ x, c.cells[i]? = some x := ⟨_, List.getElem?_eq_getElem h2⟩
      have HZ : Hid (R = x) := hid_ (by rw [HR.out]; exact cellAt_get (by have := HI.out; omega) hx)
      obtain ⟨b1, o1, rfl, hb1, hc1⟩ := HE.out.at_ (by omega)
      have i1 := hc1 i _ (ints_at hx)
      have t0 : 0 ≤ (i : Int) := by omega
      have q2 := BW.cell 2
      have q3 := BW.cell 3
      simp at q2 q3
      clear hx hc1 BW
      go_enter Tryd.func28, Tryd.ntmps28
      go_wp2_with fail
      go_ret
      rw [HZ.out]
      exact ⟨rfl, hbW⟩
    · have HZ : Hid (R = 0) := hid_ (by rw [HR.out]; exact cellAt_ge (by have := HI.out; omega))
      have h3 : c.cells.length ≤ i := by omega
      clear BW
      go_enter Tryd.func28, Tryd.ntmps28
      go_wp2_with fail
      go_ret
      rw [HZ.out]
      exact ⟨rfl, hbW⟩

set_option maxRecDepth 100000 in
set_option maxHeartbeats 2000000 in
theorem rread_any (c : CfgS) (p : Int) (v : Value) (w : World) (hE : Elems w w.heap.size v (ints c.cells)) (hl : c.cells.length ≤ 17592186044416) (hp : -9223372036854775808 ≤ p ∧ p ≤ 9223372036854775807) (hf : -9223372036854775808 ≤ c.frm ∧ c.frm ≤ 9223372036854775807) :
    Calls Tryd.prog 29 #[.agg #[.int .i64 c.st, .int .i64 c.pos, .int .i64 c.frm, v], .int .i64 p] w fun e w' => e = .returned (.int .i64 (cellAt c.frm c.cells p)) ∧ Below w.heap.size w w' := by
  obtain ⟨A, cc, rfl⟩ := hE.form
  rw [ints_len] at hE ⊢
  have hbW := below1 w (.cells #[.int .i64 c.st, .int .i64 c.pos, .int .i64 c.frm, .slice A c.cells.length cc] 27)
  have HE := hid_ (hE.to hbW)
  have BW := Blk.new w 27 #[.int .i64 c.st, .int .i64 c.pos, .int .i64 c.frm, .slice A c.cells.length cc]
  obtain ⟨R, hR⟩ : ∃ R, R = cellAt c.frm c.cells p := ⟨_, rfl⟩
  rw [← hR]
  have HR := hid_ hR
  clear hE hR
  by_cases h1 : p < c.frm
  · have HZ : Hid (R = 0) := hid_ (by rw [HR.out, cellAt_lt h1])
    obtain ⟨P, hP⟩ : ∃ P, P = IntKind.u64.wrap p := ⟨_, rfl⟩
    obtain ⟨Q, hQ⟩ : ∃ Q, Q = IntKind.u64.wrap c.frm := ⟨_, rfl⟩
    obtain ⟨D, hD⟩ : ∃ D, D = IntKind.u64.wrap (P - Q) := ⟨_, rfl⟩
    have HX := hid_ (And.intro hP (And.intro hQ hD))
    clear hP hQ hD BW
    go_enter Tryd.func29, Tryd.ntmps29
    go_wp2_with fail
    go_ret
    rw [HZ.out]
    exact ⟨rfl, hbW⟩
  · obtain ⟨i, hi⟩ := Int.eq_ofNat_of_zero_le (show 0 ≤ p - c.frm by omega)
    obtain ⟨P, hP⟩ : ∃ P, IntKind.u64.wrap p = P := ⟨_, rfl⟩
    obtain ⟨Q, hQ⟩ : ∃ Q, IntKind.u64.wrap c.frm = Q := ⟨_, rfl⟩
    have hD : IntKind.u64.wrap (P - Q) = (i : Int) := by
      have e1 : p % 18446744073709551616 = P := hP
      have e2 : c.frm % 18446744073709551616 = Q := hQ
      show (P - Q) % 18446744073709551616 = (i : Int)
      omega
    have hL : IntKind.u64.wrap (c.cells.length : Int) = (c.cells.length : Int) := by
      show (c.cells.length : Int) % 18446744073709551616 = _
      omega
    have HI := hid_ hi
    clear hi
    by_cases h2 : i < c.cells.length
    · obtain ⟨x, hx⟩ : ∃ x, c.cells[i]? = some x := ⟨_, List.getElem?_eq_getElem h2⟩
      have HZ : Hid (R = x) := hid_ (by rw [HR.out]; exact cellAt_get (by have := HI.out; omega) hx)
      obtain ⟨b1, o1, rfl, hb1, hc1⟩ := HE.out.at_ (by omega)
      have i1 := hc1 i _ (ints_at hx)
      have t0 : 0 ≤ (i : Int) := by omega
      have q2 := BW.cell 2
      have q3 := BW.cell 3
      simp at q2 q3
      clear hx hc1 BW
      go_enter Tryd.func29, Tryd.ntmps29
      go_wp2_with fail
      go_ret
      rw [HZ.out]
      exact ⟨rfl, hbW⟩
    · have HZ : Hid (R = 0) := hid_ (by rw [HR.out]; exact cellAt_ge (by have := HI.out; omega))
      have h3 : c.cells.length ≤ i := by omega
      clear BW
      go_enter Tryd.func29, Tryd.ntmps29
      go_wp2_with fail
      go_ret
      rw [HZ.out]
      exact ⟨rfl, hbW⟩

end Go.Proofs.YtkbaiegfloajlaaDoor.Tp

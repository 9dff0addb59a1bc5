/- Contracts: the queue of package tag (of integers). -/
import Derived.Test.YtpnjffdjoacejaaMa
namespace Go.Proofs.Ytpnjffdjoacejaa
open Go.RowKit

/-- A queue in memory: its box go, from block B on, as its row is; the queue is l. -/
def QU (w : World) (B go : Nat) (l : List Int) : Prop :=
  ∃ (v : Value) (n f : Nat) (items : List Int), Blk w go 104 #[v, .int .i64 ((f : Nat) : Int)] ∧ w.ownsRow B 5 1 v n (octs items) ∧ 2 * f ≤ n ∧ l = items.drop f ∧ B ≤ go ∧ some go ≠ v.ownBlock
theorem QU.len {w : World} {n B : Nat} {v : Value} {items : List Int} (h : w.ownsRow B 5 1 v n (octs items)) : items.length = n := by
  have := h.1
  rw [octs_len] at this
  omega

set_option maxHeartbeats 1000000 in
theorem newQueue8_any (l : List Int) (v : Value) (w : World) (h : Elems w w.heap.size v (octs l)) (hl : l.length ≤ 1000000) :
    Calls Try.prog 55 #[v] w fun e w' => ∃ go, e = .returned (.pointer (some ⟨go, 0, none⟩)) ∧ QU w' w.heap.size go l ∧ Below w.heap.size w w' := by
  have HH := hid_ h
  obtain ⟨A, c, rfl⟩ := h.form
  clear h
  go_enter Try.func55, Try.ntmps55
  go_wp2_with fail
  refine (clone8_any l _ w HH.out hl).mono ?_
  rintro e w1 ⟨v1, rfl, hown, hb⟩
  have HO := hid_ hown
  obtain ⟨A1, c1, rfl⟩ := own_form hown
  clear hown
  generalize hm : (octs l).length = m at HO ⊢
  have HM := hid_ hm
  clear hm
  go_wp2_with fail
  go_ret
  have hlt : some w1.heap.size ≠ (Value.slice A1 m c1).ownBlock := fun e => by
    rcases A1 with _ | a1
    · simp [Value.ownBlock] at e
    · have h1 := (HO.out.lt a1.block (by simp [Value.ownBlock])).2
      simp [Value.ownBlock] at e
      omega
  exact ⟨w1.heap.size, rfl, ⟨.slice A1 m c1, m, 0, l, Blk.new _ _ _, HO.out.alloc _, Nat.zero_le _, rfl, hb.size, hlt⟩, hb.alloc hb.size _⟩

set_option maxHeartbeats 1000000 in
theorem qlen8_any (l : List Int) (B go : Nat) (w : World) (h : QU w B go l) (hl : l.length ≤ 2000000) :
    Calls Try.prog 56 #[.pointer (some ⟨go, 0, none⟩)] w fun e w' => e = .returned (.int .i64 l.length) ∧ ∃ n, w' = w.drewN n := by
  obtain ⟨v, n, f, items, hbx, hown, h2f, rfl, hB, hne⟩ := h
  have hlen := QU.len hown
  obtain ⟨A, c, rfl⟩ := own_form hown
  have c0 := hbx.cell 0
  have c1 := hbx.cell 1
  simp at c0 c1
  rw [List.length_drop, hlen] at hl ⊢
  have e1 : ((n - f : Nat) : Int) = (n : Int) - f := by omega
  rw [e1]
  have hn : n ≤ 4000000 := by omega
  have hf : (f : Int) ≤ n := by omega
  clear hbx hown hne e1 hlen
  go_enter Try.func56, Try.ntmps56
  go_wp2_with fail
  go_quiet (fail)
  go_wp2_with fail
  go_ret
  exact ⟨rfl, _, rfl⟩

set_option maxHeartbeats 1000000 in
theorem qfront8_any (l : List Int) (x : Int) (B go : Nat) (w : World) (h : QU w B go l) (hl : l.length ≤ 2000000) (hx : l[0]? = some x) :
    Calls Try.prog 57 #[.pointer (some ⟨go, 0, none⟩)] w fun e w' => e = .returned (.int .u8 x) ∧ ∃ n, w' = w.drewN n := by
  obtain ⟨v, n, f, items, hbx, hown, h2f, rfl, hB, hne⟩ := h
  have hlen := QU.len hown
  obtain ⟨A, c, rfl⟩ := own_form hown
  have c0 := hbx.cell 0
  have c1 := hbx.cell 1
  simp at c0 c1
  rw [List.getElem?_drop, Nat.add_zero] at hx
  have hfl : f < n := by have := (List.getElem?_eq_some_iff.1 hx).1; omega
  rw [List.length_drop, hlen] at hl
  obtain ⟨g, rfl, hg⟩ := own_addr hown (by omega)
  have cf : w.cell? ⟨g, f, none⟩ = some (.int .u8 x) := by
    rw [hown.cellAt f (by omega)]
    exact octs_at hx
  have hn : n ≤ 4000000 := by omega
  have hf : (f : Int) < n := by omega
  have hf0 : 0 ≤ (f : Int) := by omega
  clear hbx hown hne hlen hx
  go_enter Try.func57, Try.ntmps57
  go_wp2_with fail
  go_quiet (fail)
  go_wp2_with fail
  go_ret
  exact ⟨rfl, _, rfl⟩

set_option maxRecDepth 100000 in
set_option maxHeartbeats 1000000 in
theorem qadd8_any (l news : List Int) (v2 : Value) (B go : Nat) (w : World) (h : QU w B go l) (hl : l.length ≤ 2000000) (h2 : Elems w w.heap.size v2 (octs news)) (hn2 : news.length ≤ 1000000) (hBw : B ≤ w.heap.size) :
    Calls Try.prog 59 #[.pointer (some ⟨go, 0, none⟩), v2] w fun e w' => e = .returned (.tuple #[]) ∧ QU w' B go (l ++ news) ∧ Below B w w' := by
  obtain ⟨i0, hi, hz0, hz1, hz2⟩ := info_parts Try.infoU
  obtain ⟨v, n, f, items, hbx, hown, h2f, rfl, hB, hne⟩ := h
  have hlen := QU.len hown
  rw [List.length_drop, hlen] at hl
  have hn : n ≤ 4000000 := by omega
  have HX := hid_ hbx
  have HO := hid_ hown
  have H2 := hid_ h2
  have HNE := hid_ hne
  have HLEN := hid_ hlen
  obtain ⟨A, c, rfl⟩ := own_form hown
  obtain ⟨A2, c2, rfl⟩ := h2.form
  have c0 := hbx.cell 0
  have hgo := hbx.lt
  simp at c0
  have hil : (octs news).length = news.length := octs_len
  have HIL := hid_ hil
  clear hbx hown hne hlen h2 hil
  generalize (octs news).length = m at H2 HIL ⊢
  go_enter Try.func59, Try.ntmps59
  go_wp2_with (at_builtin; refine wpList_append_e rfl _ _ 81 rfl 5 i0 (.int .u8 0) 1 Try.underlying81 hi hz0 hz1 hz2 rfl rfl rfl HO.out H2.out octs_one (by rw [octs_len]; unfold maxLen; omega) (by rw [octs_len]; omega) hBw ?_; intro v' w' hown' hg hat; obtain ⟨A', c', rfl⟩ := own_form hown'; have BX := HX.out.grownby hg HNE.out; have r0 := BX.cell 0; have f0 := BX.free 0; simp at r0)
  go_end0
  have hne' : some go ≠ (Value.slice A' (n + (octs news).length) c').ownBlock := by
    rcases hat with h | h
    · rw [h]; exact HNE.out
    · rw [h]; simp; omega
  refine ⟨rfl, ⟨_, n + (octs news).length, f, items ++ news, by simpa using BX.set_ 0 (.slice A' (n + (octs news).length) c'), ?_, by omega, ?_, hB, hne'⟩, ?_⟩
  · rw [show octs (items ++ news) = octs items ++ octs news by simp [octs]]
    exact ownsRow_setCell_other (a := ⟨go, 0, none⟩) hown' hne'.symm _
  · rw [List.drop_append_of_le_length (by rw [HLEN.out]; omega)]
  · exact ((Below.refl B w).grown hg hBw (own_lt HO.out)).setCell hB _
end Go.Proofs.Ytpnjffdjoacejaa

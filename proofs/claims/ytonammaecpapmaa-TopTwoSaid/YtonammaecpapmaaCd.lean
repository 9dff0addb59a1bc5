/- Contracts: Clone, increase, decrease. -/
import Derived.Test.YtonammaecpapmaaCc
namespace Go.Proofs.Ytonammaecpapmaa.Cn
open Go.RowKit

theorem Try.info3 : (Try.prog.info? 3).map (fun i => (i.zero, i.size, i.bytes)) = some (some (.int .i64 0), 1, 8) := by kernel_rfl
def ints (rs : List Int) : List Value := rs.map (Value.int .i64)
theorem addr_add (b off j : Nat) : (⟨b, off, none⟩ : Addr).add j = ⟨b, off + j, none⟩ := by
  unfold Addr.add
  split <;> simp_all
theorem ints_one {rs : List Int} : ∀ u ∈ ints rs, u.oneCell' = true := by
  intro u hu
  simp [ints] at hu
  obtain ⟨x, _, rfl⟩ := hu
  rfl
theorem ints_get {rs : List Int} {j : Nat} {u : Value} (h : (ints rs)[j]? = some u) : ∃ x, rs[j]? = some x ∧ u = .int .i64 x := by
  simp [ints] at h
  obtain ⟨x, hx, rfl⟩ := h
  exact ⟨x, hx, rfl⟩
def Cloned (w : World) (m : Nat) (rs : List Int) (e : Ending) (w' : World) : Prop :=
  ∃ g cap, e = .returned (.slice (some ⟨g, 0, none⟩) m cap) ∧ w.heap.size ≤ g ∧ w'.ownsRow w.heap.size 3 1 (.slice (some ⟨g, 0, none⟩) m cap) m (ints rs) ∧ Below w.heap.size w w'

set_option maxHeartbeats 400000 in
theorem clone_any (b off m d : Nat) (rs : List Int) (w : World) (hr : IntsIn w b off rs) (hl : rs.length = m) (hm : 0 < m) (hm2 : m ≤ 16) :
    Calls Try.prog 38 #[.slice (some ⟨b, off, none⟩) m d] w (Cloned w m rs) := by
  obtain ⟨i0, hi, hz0, hz1, hz2⟩ := info_parts Try.info3
  have HR := hid_ hr; clear hr
  have HL := hid_ hl; clear hl
  have hq := Lib.run_eql_slice_nil (P := Try.prog) w 25 3 (some ⟨b, off, none⟩) m d 0 0 Try.underlying25
  have own0 : (w.alloc (.cells #[] 3)).ownsRow w.heap.size 3 1 (.slice (some ⟨w.heap.size, 0, none⟩) 0 0) 0 [] :=
    ⟨rfl, .inr ⟨w.heap.size, 0, #[], rfl, Nat.le_refl _, heap_alloc_new w _, Nat.le_refl _, by unfold maxLen; omega, rfl, rfl⟩⟩
  go_enter Try.func38, Try.ntmps38
  go_wp2_with (at_builtin; refine wpList_append_own _ rfl _ _ 25 rfl w.heap.size 3 i0 (.int .i64 0) 1 8 Try.underlying25 hi hz0 hz1 hz2 rfl (by decide) _ _ _ rfl own0 ⟨b, off, none⟩ m d (ints rs) rfl ?hl ?hn ints_one ?h63 ?hby ?hbs ?_)
  case hl => simp [ints, HL.out]
  case hn =>
    intro j u hu
    obtain ⟨x, hx, rfl⟩ := ints_get hu
    rw [addr_add]
    exact keepa _ (HR.out j x hx)
  case h63 => unfold maxLen; omega
  case hby => omega
  case hbs => simp
  intro v' w' hown hg hnil
  clear hq
  go_wp2_with fail
  go_ret
  have hbel : Below w.heap.size w w' := ((Below.refl _ w).alloc (Nat.le_refl _) _).grown hg (by simp) (fun k hk => by simp [Value.ownBlock] at hk; omega)
  have hown2 := hown
  rcases hown2.2 with ⟨_, h0⟩ | ⟨g, cap, cur, rfl, hbg, _⟩
  · omega
  · exact ⟨g, cap, rfl, hbg, hown, hbel⟩
end Go.Proofs.Ytonammaecpapmaa.Cn

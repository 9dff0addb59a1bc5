/- An append of any slice to a row of the call's own; Clone; the queue of package tag (of integers). -/
import Derived.Test.YtpnjffdjoacejaaLc
import Derived.Laws.AppendOwnNone
import Derived.Maps.AppendAt
import Derived.Laws.CopyOwn
namespace Go.Proofs.Ytpnjffdjoacejaa
open Go.RowKit

def octs (rs : List Int) : List Value := rs.map (Value.int .u8)
theorem octs_one {rs : List Int} : ∀ u ∈ octs rs, u.oneCell' = true := by
  intro u hu
  simp [octs] at hu
  obtain ⟨x, _, rfl⟩ := hu
  rfl
theorem octs_len {rs : List Int} : (octs rs).length = rs.length := by simp [octs]
theorem octs_at {rs : List Int} {k : Nat} {x : Int} (h : rs[k]? = some x) : (octs rs)[k]? = some (.int .u8 x) := by simp [octs, h]
theorem octs_set {xs : List Int} {k : Nat} {x : Int} : (octs xs).set k (.int .u8 x) = octs (xs.set k x) := by simp [octs]

theorem Try.infoU : (Try.prog.info? 5).map (fun i => (i.zero, i.size, i.bytes)) = some (some (.int .u8 0), 1, 1) := by kernel_rfl

/-- A copy of a slice, in memory of the call's own (or nil). -/
def Cloned8 (w : World) (cs : List Value) (e : Ending) (w' : World) : Prop :=
  ∃ v, e = .returned v ∧ w'.ownsRow w.heap.size 5 1 v cs.length cs ∧ Below w.heap.size w w'

set_option maxRecDepth 100000 in
set_option maxHeartbeats 1000000 in
theorem clone_addr8 (l : List Int) (ad : Addr) (n c : Nat) (hn : n = (octs l).length) (w : World) (h : Elems w w.heap.size (.slice (some ad) n c) (octs l)) (hl : l.length ≤ 1000000) :
    Calls Try.prog 67 #[.slice (some ad) n c] w (Cloned8 w (octs l)) := by
  obtain ⟨i0, hi, hz0, hz1, hz2⟩ := info_parts Try.infoU
  have HH := hid_ h
  have hq := Lib.run_eql_slice_nil (P := Try.prog) w 81 5 (some ad) n c 0 0 Try.underlying81
  have own0 := own_empty w 5
  have hll : (octs l).length = l.length := octs_len
  have HLL : Hid (n = l.length) := hid_ (hn.trans hll)
  clear hll h hn
  go_enter Try.func67, Try.ntmps67
  go_wp2_with (at_builtin; refine wpList_append_e rfl _ _ 81 rfl 5 i0 (.int .u8 0) 1 Try.underlying81 hi hz0 hz1 hz2 rfl rfl rfl own0 (HH.out.to (below1 w _)) octs_one ?h63 ?hby ?hbs ?_)
  case h63 => have := HLL.out; rw [octs_len]; unfold maxLen; omega
  case hby => rw [octs_len]; omega
  case hbs => simp
  intro v' w' hown hg hat
  clear hq
  go_wp2_with fail
  go_ret
  exact ⟨v', rfl, by simpa using hown, (below1 w _).grown hg (by simp) (fun k hk => by simp [Value.ownBlock] at hk; omega)⟩

set_option maxRecDepth 100000 in
set_option maxHeartbeats 1000000 in
theorem clone8_any (l : List Int) (v : Value) (w : World) (h : Elems w w.heap.size v (octs l)) (hl : l.length ≤ 1000000) :
    Calls Try.prog 67 #[v] w (Cloned8 w (octs l)) := by
  have h' := h
  rcases h with ⟨rfl | ⟨ad, c, rfl⟩, hnil⟩ | ⟨b, off, c, rfl, hb, hc⟩
  · have hq := Lib.run_eql_slice_nil (P := Try.prog) w 81 5 none 0 0 0 0 Try.underlying81
    have HN := hid_ hnil
    clear hnil h'
    go_enter Try.func67, Try.ntmps67
    go_wp2_with fail
    go_ret
    refine ⟨_, rfl, ?_, Below.refl _ _⟩
    rw [HN.out]
    exact ⟨rfl, .inl ⟨rfl, rfl⟩⟩
  · exact clone_addr8 l ad 0 c (by rw [hnil]; rfl) w h' hl
  · exact clone_addr8 l ⟨b, off, none⟩ _ c rfl w h' hl
end Go.Proofs.Ytpnjffdjoacejaa

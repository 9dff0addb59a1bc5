/- An append of any slice to a row of the call's own; Clone; the queue of package tag (of integers). -/
import Derived.Test.YtpnjffdjoacejaaKe
import Derived.Laws.AppendOwnNone
import Derived.Maps.AppendAt
import Derived.Laws.CopyOwn
namespace Go.Proofs.Ytpnjffdjoacejaa
open Go.RowKit

section
variable {P : Program} {w : World}
theorem run_append_e (t ty e : TypeId) (i : TypeInfo) (z : Value) (bytes : Nat) (ht : P.underlying t = some (.slice e)) (hi : P.info? e = some i) (hz : i.zero = some z) (hsize : i.size = 1) (hby : i.bytes = bytes) (hzs : z.cells.size = 1)
    {base n B : Nat} {v u : Value} {xs news : List Value} (hown : w.ownsRow base e 1 v n xs) (hu : Elems w B u news) (h1 : ∀ x ∈ news, x.oneCell' = true)
    (h63 : n + news.length ≤ maxLen) (hbytes : (n + news.length) * bytes ≤ 140737488355328) (hbase : base ≤ w.heap.size) :
    ∃ v' w', (Builtin.append_ #[t, t] ty #[v, u]).run P w = .ok v' w' ∧ w'.ownsRow base e 1 v' (n + news.length) (xs ++ news) ∧ w.grownBy w' v.ownBlock ∧ (v'.ownBlock = v.ownBlock ∨ v'.ownBlock = some w.heap.size) := by
  rcases hu with ⟨rfl | ⟨ad, c, rfl⟩, rfl⟩ | ⟨b, off, c, rfl, _, hc⟩
  · exact ⟨v, w, run_append_owned_none (P := P) (w := w) base t ty e i 1 ht hi v n xs hown, by simpa using hown, World.grownBy.refl w _, .inl rfl⟩
  · obtain ⟨v', w', hr, h2, h3, _, h5⟩ := run_append_own_at (P := P) w base t ty e i z 1 bytes ht hi hz hsize hby hzs (by omega) v n xs hown ad 0 c [] (by simp) (fun j x hx => by simp at hx) h1 h63 hbytes hbase
    exact ⟨v', w', hr, h2, h3, h5⟩
  · obtain ⟨v', w', hr, h2, h3, _, h5⟩ := run_append_own_at (P := P) w base t ty e i z 1 bytes ht hi hz hsize hby hzs (by omega) v n xs hown ⟨b, off, none⟩ news.length c news (by simp) (fun j x hx => by rw [addr_add]; exact hc j x hx) h1 h63 hbytes hbase
    exact ⟨v', w', hr, h2, h3, h5⟩

theorem wpList_append_e {ops : Array Oper} {rest : List Oper} {o : Oper} {a : Act} {Q : Exit → Act → World → Prop} (hgd : o.guard = none) (s x : Operand) (t : TypeId)
    (ho : o.op = .call { callee := .builtin .append, args := #[s, x], argTypes := #[t, t] }) (e : TypeId) (i : TypeInfo) (z : Value) (bytes : Nat) (ht : P.underlying t = some (.slice e)) (hi : P.info? e = some i) (hz : i.zero = some z) (hsize : i.size = 1) (hby : i.bytes = bytes) (hzs : z.cells.size = 1)
    {base n B : Nat} {v u : Value} {xs news : List Value} (hs : a.eval s = v) (hx : a.eval x = u) (hown : w.ownsRow base e 1 v n xs) (hu : Elems w B u news) (h1 : ∀ y ∈ news, y.oneCell' = true)
    (h63 : n + news.length ≤ maxLen) (hbytes : (n + news.length) * bytes ≤ 140737488355328) (hbase : base ≤ w.heap.size)
    (h : ∀ v' w', w'.ownsRow base e 1 v' (n + news.length) (xs ++ news) → w.grownBy w' v.ownBlock → (v'.ownBlock = v.ownBlock ∨ v'.ownBlock = some w.heap.size) → wpList P ops Q rest (a.put o.dst v') w') : wpList P ops Q (o :: rest) a w := by
  refine wpList_plain hgd fun K hK => ?_
  obtain ⟨v', w', hr, h2, h3, h4⟩ := run_append_e (P := P) t o.type e i z bytes ht hi hz hsize hby hzs hown hu h1 h63 hbytes hbase
  unfold Oper.wp execOp
  simp only [ho, resolve, invoke, builtin, Sem.run_bind, Sem.run_pure, Result.andThen_ok, List.map_toArray, List.map_cons, List.map_nil, hs, hx, hr]
  exact hK _ _ (h v' w' h2 h3 h4)
end

theorem Try.infoI : (Try.prog.info? 3).map (fun i => (i.zero, i.size, i.bytes)) = some (some (.int .i64 0), 1, 8) := by kernel_rfl

/-- A copy of a slice, in memory of the call's own (or nil). -/
def Cloned (w : World) (cs : List Value) (e : Ending) (w' : World) : Prop :=
  ∃ v, e = .returned v ∧ w'.ownsRow w.heap.size 3 1 v cs.length cs ∧ Below w.heap.size w w'

set_option maxRecDepth 100000 in
set_option maxHeartbeats 1000000 in
theorem clone_addr (l : List Int) (ad : Addr) (n c : Nat) (hn : n = (ints l).length) (w : World) (h : Elems w w.heap.size (.slice (some ad) n c) (ints l)) (hl : l.length ≤ 1000000) :
    Calls Try.prog 66 #[.slice (some ad) n c] w (Cloned w (ints l)) := by
  obtain ⟨i0, hi, hz0, hz1, hz2⟩ := info_parts Try.infoI
  have HH := hid_ h
  have hq := Lib.run_eql_slice_nil (P := Try.prog) w 26 3 (some ad) n c 0 0 Try.underlying26
  have own0 := own_empty w 3
  have hll : (ints l).length = l.length := ints_len
  have HLL : Hid (n = l.length) := hid_ (hn.trans hll)
  clear hll h hn
  go_enter Try.func66, Try.ntmps66
  go_wp2_with (at_builtin; refine wpList_append_e rfl _ _ 26 rfl 3 i0 (.int .i64 0) 8 Try.underlying26 hi hz0 hz1 hz2 rfl rfl rfl own0 (HH.out.to (below1 w _)) ints_one ?h63 ?hby ?hbs ?_)
  case h63 => have := HLL.out; rw [ints_len]; unfold maxLen; omega
  case hby => rw [ints_len]; omega
  case hbs => simp
  intro v' w' hown hg hat
  clear hq
  go_wp2_with fail
  go_ret
  exact ⟨v', rfl, by simpa using hown, (below1 w _).grown hg (by simp) (fun k hk => by simp [Value.ownBlock] at hk; omega)⟩

set_option maxRecDepth 100000 in
set_option maxHeartbeats 1000000 in
theorem clone_any (l : List Int) (v : Value) (w : World) (h : Elems w w.heap.size v (ints l)) (hl : l.length ≤ 1000000) :
    Calls Try.prog 66 #[v] w (Cloned w (ints l)) := by
  have h' := h
  rcases h with ⟨rfl | ⟨ad, c, rfl⟩, hnil⟩ | ⟨b, off, c, rfl, hb, hc⟩
  · have hq := Lib.run_eql_slice_nil (P := Try.prog) w 26 3 none 0 0 0 0 Try.underlying26
    have HN := hid_ hnil
    clear hnil h'
    go_enter Try.func66, Try.ntmps66
    go_wp2_with fail
    go_ret
    refine ⟨_, rfl, ?_, Below.refl _ _⟩
    rw [HN.out]
    exact ⟨rfl, .inl ⟨rfl, rfl⟩⟩
  · exact clone_addr l ad 0 c (by rw [hnil]; rfl) w h' hl
  · exact clone_addr l ⟨b, off, none⟩ _ c rfl w h' hl
end Go.Proofs.Ytpnjffdjoacejaa

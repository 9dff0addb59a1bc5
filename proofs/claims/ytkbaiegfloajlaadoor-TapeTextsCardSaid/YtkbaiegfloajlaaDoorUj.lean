/- Arguments opened: machines. -/
import Derived.Test.YtkbaiegfloajlaaDoorTa
import Derived.Test.YtkbaiegfloajlaaDoorGa
namespace Go.Proofs.YtkbaiegfloajlaaDoor.Tp
open Go.ChangeShapes Go.WideShapes Go.ChangeAt Go.RowKit Go.Joins

theorem Tryd.own : ownKnob Tryd.prog.godebug = none := by kernel_rfl
theorem Tryd.laidOut : laidOutB Tryd.prog = true := by kernel_rfl
theorem Tryd.cellsI : Tryd.prog.cellsOf 3 = 1 := by kernel_rfl
theorem Tryd.cellsR : Tryd.prog.cellsOf 74 = 3 := by kernel_rfl
theorem Tryd.cellsRL : Tryd.prog.cellsOf 72 = 1 := by kernel_rfl
theorem Tryd.cellsM : Tryd.prog.cellsOf 24 = 3 := by kernel_rfl
theorem Tryd.bytesR : Tryd.prog.bytesOf 74 = 24 := by kernel_rfl
theorem Tryd.bytesRL : Tryd.prog.bytesOf 72 = 24 := by kernel_rfl

section
variable {H : Type} {enc : TypeId × Value → H} {W : World} {base : Nat} {spare : Nat → Bool} {held : Bool}
theorem rule_cells {fuel : Nat} {cs : List Value} {y : DataW H × List MemPlace} (hc : cs.length = 3) (h : DataW.trod enc Tryd.prog W base spare held fuel 74 cs = some y) : ∃ r : RuleS, cs = [.int .i64 r.w, .int .i64 r.m, .int .i64 r.n] := by
  match cs, hc with
  | [c0, c1, c2], _ =>
    obtain ⟨xs, n', rfl, hd, hlen, hxs, hff⟩ := DataW.trod_struct Tryd.underlying74 h
    have f0 := hff 0 _ rfl
    have f1 := hff 1 _ rfl
    have f2 := hff 2 _ rfl
    obtain ⟨x0, hx0⟩ : ∃ x0, xs[0]? = some x0 := ⟨_, List.getElem?_eq_getElem (by rw [hxs]; decide)⟩
    obtain ⟨x1, hx1⟩ : ∃ x1, xs[1]? = some x1 := ⟨_, List.getElem?_eq_getElem (by rw [hxs]; decide)⟩
    obtain ⟨x2, hx2⟩ : ∃ x2, xs[2]? = some x2 := ⟨_, List.getElem?_eq_getElem (by rw [hxs]; decide)⟩
    rw [hx0] at f0
    rw [hx1] at f1
    rw [hx2] at f2
    simp [Tryd.cellsI] at f0 f1 f2
    obtain ⟨a, e0, _, _⟩ := DataW.trod_int Tryd.underlying3 f0
    obtain ⟨b, e1, _, _⟩ := DataW.trod_int Tryd.underlying3 f1
    obtain ⟨c, e2, _, _⟩ := DataW.trod_int Tryd.underlying3 f2
    simp at e0 e1 e2
    subst e0 e1 e2
    exact ⟨⟨a, b, c⟩, rfl⟩
theorem rules_open {fuel : Nat} {v : Value} {x : DataW H × List MemPlace} (h : DataW.trod enc Tryd.prog W base spare held fuel 72 [v] = some x) (hl : Light Tryd.prog 72 x.1) : ∃ rs : List RuleS, RulesIn W W.heap.size v rs ∧ rs.length ≤ 17592186044416 := by
  rcases Deep.open_slice Tryd.underlying72 h with ⟨hcs, _⟩ | ⟨a, len, cap, m, n, D, Pl, hcs, _, hlc, _, hmm, hx, hel⟩
  · simp at hcs
    subst hcs
    exact ⟨[], .inl ⟨.inl rfl, rfl⟩, by simp⟩
  · simp at hcs
    subst hcs hx
    have hm : len ≤ m := by rw [hmm]; split <;> omega
    obtain ⟨l1, l2⟩ := light_slice Tryd.underlying72 hl
    rw [Tryd.cellsR] at hel
    simp only [List.length_map, List.length_range] at l1
    rw [Tryd.bytesR] at l1
    unfold reachBytes at l1
    rcases Nat.eq_zero_or_pos len with rfl | hpos
    · exact ⟨[], .inl ⟨.inr ⟨a, cap, rfl⟩, rfl⟩, by simp⟩
    · obtain ⟨b, off, spot⟩ := a
      obtain ⟨_, g1, g1b⟩ := hel 0 (by omega)
      obtain ⟨_, g3, hat0⟩ := World.cells?_some g1
      obtain ⟨u0, rfl⟩ := rule_cells g3 g1b
      have g2 := hat0 0 (by omega)
      have hspot : spot = none := World.cell?_spot (by simpa [Addr.add] using g2)
      subst hspot
      clear g1 g1b g3 hat0
      have hlt : b < W.heap.size := cell_lt (a := ⟨b, off, none⟩) (by simpa [Addr.add] using g2)
      have hu : ∀ i : Fin len, ∃ u : RuleS, W.cell? ⟨b, off + i.1 * 3, none⟩ = some (.int .i64 u.w) ∧ W.cell? ⟨b, off + i.1 * 3 + 1, none⟩ = some (.int .i64 u.m) ∧ W.cell? ⟨b, off + i.1 * 3 + 2, none⟩ = some (.int .i64 u.n) := fun i => by
        obtain ⟨cs', h1, h2⟩ := hel i.1 (by omega)
        obtain ⟨_, h3, hat⟩ := World.cells?_some h1
        obtain ⟨u, rfl⟩ := rule_cells h3 h2
        have t0 := hat 0 (by omega)
        have t1 := hat 1 (by omega)
        have t2 := hat 2 (by omega)
        rw [addr_add, addr_add] at t0 t1 t2
        exact ⟨u, by simpa using t0, by simpa using t1, by simpa using t2⟩
      refine ⟨List.ofFn fun i => Classical.choose (hu i), .inr ⟨b, off, cap, by simp, hlt, fun k u hk => ?_⟩, by rw [List.length_ofFn]; omega⟩
      have hkl : k < len := by have := (List.getElem?_eq_some_iff.1 hk).1; simpa using this
      have := Classical.choose_spec (hu ⟨k, hkl⟩)
      simp [hkl] at hk
      rw [hk] at this
      exact this
theorem rules2_open {fuel : Nat} {v : Value} {x : DataW H × List MemPlace} (h : DataW.trod enc Tryd.prog W base spare held fuel 22 [v] = some x) (hl : Light Tryd.prog 22 x.1) :
    ∃ rows : List (List RuleS), Rules2 W W.heap.size v rows ∧ rows.length ≤ 17592186044416 ∧ ∀ r ∈ rows, r.length ≤ 17592186044416 := by
  obtain ⟨us, h1, h2, h3⟩ := open_cells (α := Value × List RuleS) Prod.fst (fun u => RulesIn W W.heap.size u.1 u.2 ∧ u.2.length ≤ 17592186044416) Tryd.underlying22 Tryd.cellsRL (fun n cs y hc hy hly => by
    match cs, hc with
    | [c], _ =>
      obtain ⟨xs, k1, k2⟩ := rules_open hy hly
      exact ⟨(c, xs), rfl, k1, k2⟩) h hl
  rw [Tryd.bytesRL] at h2
  unfold reachBytes at h2
  refine ⟨us.map Prod.snd, ⟨us.map Prod.fst, h1, by simp, fun k u r hu hr => ?_⟩, by rw [List.length_map]; omega, fun r hr => ?_⟩
  · rw [List.getElem?_map] at hu hr
    cases hk : us[k]? with
    | none => rw [hk] at hu; cases hu
    | some z =>
      rw [hk] at hu hr
      obtain rfl := Option.some.inj hu
      obtain rfl := Option.some.inj hr
      exact (h3 z (List.mem_of_getElem? hk)).1
  · obtain ⟨z, hz, rfl⟩ := List.mem_map.1 hr
    exact (h3 z hz).2
end
section
variable {H : Type} {enc : TypeId × Value → H} {W : World} {base b0 : Nat} {spare : Nat → Bool} {held : Bool} {r : Reach} {v : Value} {d : DataW H} {p : List MemPlace}
set_option maxRecDepth 100000 in
theorem mach_open (hv : Value.okWide Tryd.prog W r b0 24 v) (h : DataW.Trod enc Tryd.prog W base spare held 24 v d p) (hl : Light Tryd.prog 24 d) :
    ∃ (m : MachS) (u : Value), v = .agg #[.int .i64 m.states, .int .i64 m.symbols, u] ∧ MachIn W W.heap.size u m := by
  obtain ⟨c0, c1, c2, y0, y1, y2, k, rfl, rfl, _, h0, h1, h2⟩ := open_agg3 Tryd.underlying24 (by kernel_rfl) Tryd.cellsM hv h
  obtain ⟨a, f0, _, _⟩ := DataW.trod_int Tryd.underlying3 h0
  obtain ⟨b, f1, _, _⟩ := DataW.trod_int Tryd.underlying3 h1
  simp at f0 f1
  subst f0 f1
  obtain ⟨rows, r1, r2, r3⟩ := rules2_open h2 (light_agg Tryd.underlying24 hl (j := 2) rfl rfl)
  exact ⟨⟨a, b, rows⟩, c2, rfl, ⟨r1, r2, r3⟩⟩
end
end Go.Proofs.YtkbaiegfloajlaaDoor.Tp

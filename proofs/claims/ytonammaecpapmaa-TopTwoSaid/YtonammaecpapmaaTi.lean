/- Contracts: the band of package tape: step. -/
import Derived.Test.YtonammaecpapmaaTh
import Derived.StillTailTactics
namespace Go.Proofs.Ytonammaecpapmaa.Tp
open Go.RowKit

theorem rule_at {m : MachS} (hv : validM m = true) {s x : Nat} (hs : (s : Int) < m.states) (hx : (x : Int) < m.symbols) : ∃ row r, m.rules[s]? = some row ∧ row[x]? = some r ∧ ruleAt m s x = r ∧ ruleB m.states m.symbols r = true ∧ (row.length : Int) = m.symbols := by
  obtain ⟨_, _, _, _, h5, h6⟩ := validM_parts hv
  have hsl : s < m.rules.length := by omega
  obtain ⟨row, hrow⟩ : ∃ row, m.rules[s]? = some row := ⟨_, List.getElem?_eq_getElem hsl⟩
  have hb := (List.all_eq_true.1 h6) row (List.mem_of_getElem? hrow)
  simp only [rowB, Bool.and_eq_true, decide_eq_true_eq] at hb
  have hxl : x < row.length := by omega
  obtain ⟨r, hr⟩ : ∃ r, row[x]? = some r := ⟨_, List.getElem?_eq_getElem hxl⟩
  refine ⟨row, r, hrow, hr, ?_, (List.all_eq_true.1 hb.2) r (List.mem_of_getElem? hr), hb.1⟩
  rw [ruleAt, Int.toNat_natCast, Int.toNat_natCast, getD_some hrow, getD_some hr]

theorem kept_below {w w' : World} {go : Nat} (h : Below w.heap.size w w') (hgo : go < w.heap.size) : Kept w w' go := by
  refine ⟨fun k h1 _ _ => h.block k h1, .inl ?_, h.size⟩
  unfold bandRow
  rw [World.cell?_of_block (h.block go hgo)]
theorem rule_a (W : World) (n : Nat) (T : TypeId) (x y z : Value) : Blk ((W.drewN n).alloc (.cells #[x, y, z] T)) W.heap.size T #[x, y, z] ∧ Below W.heap.size W ((W.drewN n).alloc (.cells #[x, y, z] T)) :=
  ⟨Blk.new (W.drewN n) T _, (below_drewN (Below.refl _ W) n).alloc (Nat.le_refl _) _⟩
theorem rule_b (W : World) (n : Nat) (T : TypeId) (x y z : Value) : Blk (((((W.alloc (.cells #[.int .i64 0, .int .i64 0, .int .i64 0] T)).drewN n).setCell ⟨W.heap.size, 0, none⟩ x).setCell ⟨W.heap.size, 1, none⟩ y).setCell ⟨W.heap.size, 2, none⟩ z) W.heap.size T #[x, y, z] ∧ Below W.heap.size W (((((W.alloc (.cells #[.int .i64 0, .int .i64 0, .int .i64 0] T)).drewN n).setCell ⟨W.heap.size, 0, none⟩ x).setCell ⟨W.heap.size, 1, none⟩ y).setCell ⟨W.heap.size, 2, none⟩ z) := by
  have h := ((((Blk.new W T #[.int .i64 0, .int .i64 0, .int .i64 0]).dN n).set_ 0 x).set_ 1 y).set_ 2 z
  refine ⟨?_, below_set (below_set (below_set (below_drewN (below1 W _) n) (Nat.le_refl _) 0 _) (Nat.le_refl _) 1 _) (Nat.le_refl _) 2 _⟩
  simp at h
  exact h

set_option maxRecDepth 100000 in
set_option maxHeartbeats 4000000 in
theorem step_any (m : MachS) (b : Band) (v : Value) (B go : Nat) (L H : Int) (w : World) (hm : MachIn w B v m) (hv : validM m = true) (h : BAt w B go b) (hok : BandOk b L H) (hs : H - L ≤ 170000000000) (hBw : B ≤ w.heap.size) (hst : 0 ≤ b.st ∧ b.st < m.states) (hsy : 0 ≤ b.sym ∧ b.sym < m.symbols) :
    Calls Try.prog 31 #[.pointer (some ⟨go, 0, none⟩), .agg #[.int .i64 m.states, .int .i64 m.symbols, v]] w (WRan B go (b.step m) w) := by
  have HSM := hid_ (ok_small hok (by omega))
  have hB : B ≤ go := by obtain ⟨_, _, _, _, h3, _⟩ := h; exact h3
  obtain ⟨s, hse⟩ := Int.eq_ofNat_of_zero_le hst.1
  obtain ⟨y, hye⟩ := Int.eq_ofNat_of_zero_le hsy.1
  rw [hse] at hst
  rw [hye] at hsy
  obtain ⟨row, r, hrow, hr, hat, hrb, hrl⟩ := rule_at hv hst.2 hsy.2
  obtain ⟨_, _, r3, r4, h5, _⟩ := validM_parts hv
  obtain ⟨A2, c2, rfl⟩ := hm.rules.form
  obtain ⟨b2, o2, rfl, hb2⟩ := hm.rules.addr (by omega)
  obtain ⟨Ar, dr, hcr, hEr⟩ := hm.rules.row hrow
  obtain ⟨br, or, rfl, hbr, hcell⟩ := hEr.at_ (by omega)
  obtain ⟨i1, i2, i3⟩ := hcell y r hr
  have hstep : b.step m = match b.write r.w with
      | none => none
      | some d => if (d.go r).ok = true then some (d.go r) else none := by
    rw [Band.step, hse, hye, hat]
    cases b.write r.w <;> rfl
  obtain ⟨R, hR⟩ : ∃ R, R = b.step m := ⟨_, rfl⟩
  rw [← hR] at hstep ⊢
  have HR := hid_ hstep
  have HSY := hid_ hye
  have HH := hid_ h
  have HOK := hid_ hok
  have HRB := hid_ (ruleB_yes.1 hrb).2.2.2.2
  obtain ⟨A, c, ⟨c0, c1, c2', c3, c4, c5, c6, c7⟩, hf, hown, _, hne, hbx⟩ := HH.out.cells
  rw [hse] at c0
  have t1 : 0 ≤ (s : Int) := by omega
  have t2 : (s : Int) < m.rules.length := by omega
  have t3 : 0 ≤ (y : Int) := by omega
  have t4 : (y : Int) < row.length := by omega
  have hgo : go < w.heap.size := hbx.lt
  clear hm hv h hok hat hrb hrl hrow hr hcell hEr hR hstep hse hye c1 c2' c3 c4 c5 c6 c7 hf hown hne hbx
  go_enter Try.func31, Try.ntmps31
  go_upto_region 1 with fail
  have P2 : (w.alloc (.cells #[.int .i64 m.states, .int .i64 m.symbols, .slice (some ⟨b2, o2, none⟩) m.rules.length c2] 55)).cell? ⟨w.heap.size, 2, none⟩ = some (.slice (some ⟨b2, o2, none⟩) m.rules.length c2) := (Blk.new w 55 #[.int .i64 m.states, .int .i64 m.symbols, .slice (some ⟨b2, o2, none⟩) m.rules.length c2]).cell 2
  have HM1 := hid_ (HH.out.below (below1 w (.cells #[.int .i64 m.states, .int .i64 m.symbols, .slice (some ⟨b2, o2, none⟩) m.rules.length c2] 55)))
  have hbW := below1 w (.cells #[.int .i64 m.states, .int .i64 m.symbols, .slice (some ⟨b2, o2, none⟩) m.rules.length c2] 55)
  replace c0 := keepa (.cells #[.int .i64 m.states, .int .i64 m.symbols, .slice (some ⟨b2, o2, none⟩) m.rules.length c2] 55) c0
  replace hcr := keepa (.cells #[.int .i64 m.states, .int .i64 m.symbols, .slice (some ⟨b2, o2, none⟩) m.rules.length c2] 55) hcr
  replace i1 := keepa (.cells #[.int .i64 m.states, .int .i64 m.symbols, .slice (some ⟨b2, o2, none⟩) m.rules.length c2] 55) i1
  replace i2 := keepa (.cells #[.int .i64 m.states, .int .i64 m.symbols, .slice (some ⟨b2, o2, none⟩) m.rules.length c2] 55) i2
  replace i3 := keepa (.cells #[.int .i64 m.states, .int .i64 m.symbols, .slice (some ⟨b2, o2, none⟩) m.rules.length c2] 55) i3
  generalize w.alloc (.cells #[.int .i64 m.states, .int .i64 m.symbols, .slice (some ⟨b2, o2, none⟩) m.rules.length c2] 55) = W at *
  go_cut [5] (fun s5 wx => s5 = .pointer (some ⟨W.heap.size, 0, none⟩) ∧ Blk wx W.heap.size 78 #[.int .i64 r.w, .int .i64 r.m, .int .i64 r.n] ∧ Below W.heap.size W wx)
  case first => as_aux_lemma =>
    have q1 : ∀ (k : Nat) (cs : Array Value) (t : TypeId) (i : Nat), ((W.drewN k).alloc (.cells cs t)).cell? ⟨W.heap.size, i, none⟩ = cs[i]? := fun k cs t i => (Blk.new (W.drewN k) t cs).cell i
    have q2 : ∀ (k : Nat) (cs : Array Value) (t : TypeId) (i : Nat), ((W.drewN k).alloc (.cells cs t)).frozen? ⟨W.heap.size, i, none⟩ = false := fun k cs t i => (Blk.new (W.drewN k) t cs).free i
    have q3 : ∀ (k : Nat) (cs : Array Value) (t : TypeId) (i : Nat) (u : Value), ((W.drewN k).alloc (.cells cs t)).setCell ⟨W.heap.size, i, none⟩ u = (W.drewN k).alloc (.cells (cs.setIfInBounds i u) t) := fun k cs t i u => World.setCell_alloc_at (w := W.drewN k) _ _ _ _ _ rfl
    have a0 : ∀ (k : Nat) (o : Obj), ((W.drewN k).alloc o).cell? ⟨w.heap.size, 2, none⟩ = some (.slice (some ⟨b2, o2, none⟩) m.rules.length c2) := fun k o => keepa (w := W.drewN k) o P2
    have a1 : ∀ (k : Nat) (o : Obj), ((W.drewN k).alloc o).cell? ⟨go, 0, none⟩ = some (.int .i64 (s : Int)) := fun k o => keepa (w := W.drewN k) o c0
    have a2 : ∀ (k : Nat) (o : Obj), ((W.drewN k).alloc o).cell? ⟨b2, o2 + s, none⟩ = some (.slice (some ⟨br, or, none⟩) row.length dr) := fun k o => keepa (w := W.drewN k) o hcr
    have a3 : ∀ (k : Nat) (o : Obj), ((W.drewN k).alloc o).cell? ⟨br, or + y * 3, none⟩ = some (.int .i64 r.w) := fun k o => keepa (w := W.drewN k) o i1
    have a4 : ∀ (k : Nat) (o : Obj), ((W.drewN k).alloc o).cell? ⟨br, or + y * 3 + 1, none⟩ = some (.int .i64 r.m) := fun k o => keepa (w := W.drewN k) o i2
    have a5 : ∀ (k : Nat) (o : Obj), ((W.drewN k).alloc o).cell? ⟨br, or + y * 3 + 2, none⟩ = some (.int .i64 r.n) := fun k o => keepa (w := W.drewN k) o i3
    have d0 : ∀ (o : Obj), (W.alloc o).cell? ⟨w.heap.size, 2, none⟩ = some (.slice (some ⟨b2, o2, none⟩) m.rules.length c2) := fun o => keepa o P2
    have d1 : ∀ (o : Obj), (W.alloc o).cell? ⟨go, 0, none⟩ = some (.int .i64 (s : Int)) := fun o => keepa o c0
    have d2 : ∀ (o : Obj), (W.alloc o).cell? ⟨b2, o2 + s, none⟩ = some (.slice (some ⟨br, or, none⟩) row.length dr) := fun o => keepa o hcr
    have d3 : ∀ (o : Obj), (W.alloc o).cell? ⟨br, or + y * 3, none⟩ = some (.int .i64 r.w) := fun o => keepa o i1
    have d4 : ∀ (o : Obj), (W.alloc o).cell? ⟨br, or + y * 3 + 1, none⟩ = some (.int .i64 r.m) := fun o => keepa o i2
    have d5 : ∀ (o : Obj), (W.alloc o).cell? ⟨br, or + y * 3 + 2, none⟩ = some (.int .i64 r.n) := fun o => keepa o i3
    go_region_law (first | (go_simp; go_at_call 43; refine (symbol_any b B go _ (HM1.out.below (by first | exact (Below.refl _ _).drew | exact Below.refl _ _ | exact below1 _ _ | exact (below1 _ _).drew)) HSM.out).mono ?_; rw [HSY.out]; rintro e w3 ⟨rfl, nz, rfl⟩))
    all_goals
      clear a0 a1 a2 a3 a4 a5 d0 d1 d2 d3 d4 d5 q1 q2 q3 P2 c0 hcr i1 i2 i3
      go_wp2_with fail
      go_meet
      first
        | (with_reducible exact ⟨rfl, rule_a W _ _ _ _ _⟩)
        | (with_reducible exact ⟨rfl, rule_b W _ _ _ _ _⟩)
  case rest => as_aux_lemma =>
    obtain ⟨rfl, hb, hbx⟩ := hcut
    obtain ⟨X, rfl⟩ : ∃ X : World, X = wc := ⟨_, rfl⟩
    have HX := hid_ (HM1.out.below hbx)
    have hwX := bnext hbW hbx
    have hWs : w.heap.size < W.heap.size := cell_lt P2
    have hBX : B ≤ X.heap.size := Nat.le_trans hBw hwX.size
    have hbX : Below B w X := hwX.mono hBw
    have e0 := hb.cell 0
    have e1 := hb.cell 1
    have e2 := hb.cell 2
    simp at e0 e1 e2
    have hrowX : some W.heap.size ≠ bandRow X go := by
      obtain ⟨A, c, h1, h2, _, _⟩ := HH.out
      have h3 : X.cell? ⟨go, 3, none⟩ = some (.slice A b.cells.length c) := keepc hwX (h1.cell 3)
      rw [row_of h3]
      intro e
      have := (h2.lt _ e.symm).2
      omega
    have hneX : W.heap.size ≠ go := by omega
    clear P2 c0 hcr i1 i2 i3 hb hbx HM1 hbW
    have hwt := write_any b r.w B go L H X HX.out HOK.out hs hBX
    have hws := fun d (e : b.write r.w = some d) => write_some HOK.out e
    cases hw : b.write r.w with
    | none =>
      rw [hw] at hwt
      have HWT := hid_ hwt
      have HR2 : Hid (R = none) := hid_ (by rw [HR.out, hw])
      clear hwt hws hw HR
      go_wp2_with fail
      refine HWT.out.mono ?_
      rintro e w2 ⟨rfl, hb2⟩
      go_wp2_with fail
      go_ret
      rw [HR2.out]
      exact ⟨rfl, hbX.trans hb2⟩
    | some d =>
      rw [hw] at hwt
      obtain ⟨L', H', okd, -, -, -, hspan⟩ := hws d hw
      have smd := ok_small okd (by omega)
      have q1 := smd.pos
      have q2 := smd.inner
      have HWT := hid_ hwt
      have HR2 : Hid (R = if (d.go r).ok = true then some (d.go r) else none) := hid_ (by rw [HR.out, hw])
      clear hwt hws hw okd smd hspan HR
      go_upto_if 22 with (go_at_call 44; (with_reducible refine HWT.out.mono ?_); rintro e w2 ⟨rfl, hd, hb2, hk2⟩)
      have HD := hid_ hd
      have hb3 := hbX.trans hb2
      have hk3 := (kept_below hwX hgo).trans hk2
      replace e1 := hk2.cell hneX hrowX e1
      replace e2 := hk2.cell hneX hrowX e2
      clear hd hb2 hk2 e0 HX hrowX HWT
      obtain ⟨A, c, ⟨c0, c1, c2', c3, c4, c5, c6, c7⟩, hf, hown, _, hne, hbx⟩ := HD.out.cells
      have f0 := hf 0
      have f1 := hf 1
      have m1 : IntKind.i64.wrap (d.pos + r.m) = d.pos + r.m := IntWalk.i64_in _ (by rcases HRB.out with e | e <;> rw [e] <;> omega)
      clear c2' c3 c4 c5 c6 c7 hf hown hne hbx
      go_upto_region 4 with fail
      go_region
      have HD2 : Hid (BAt (w2.setCell ⟨go, 1, none⟩ (.int .i64 (d.pos + r.m))).drew B go { d with pos := d.pos + r.m }) := hid_ ((HD.out.set1 (d.pos + r.m)).dN 1)
      have hb4 : Below B w (w2.setCell ⟨go, 1, none⟩ (.int .i64 (d.pos + r.m))).drew := (below_set hb3 hB 1 _).drew
      have hk4 : Kept w (w2.setCell ⟨go, 1, none⟩ (.int .i64 (d.pos + r.m))).drew go := (hk3.box 1 (by decide) _).d
      have e3 : (w2.setCell ⟨go, 1, none⟩ (.int .i64 (d.pos + r.m))).drew.cell? ⟨W.heap.size, 2, none⟩ = some (.int .i64 r.n) := (World.cell?_of_block (Below.heap_setCell w2 ⟨go, 1, none⟩ _ _ hneX)).trans e2
      clear HD hb3 hk3 e1 e2 c0 c1 f0 f1 m1
      generalize (w2.setCell ⟨go, 1, none⟩ (.int .i64 (d.pos + r.m))).drew = V at *
      obtain ⟨A, c, ⟨c0, c1, c2', c3, c4, c5, c6, c7⟩, hf, hown, _, hne, hbx⟩ := HD2.out.cells
      have f0 := hf 0
      clear c1 c2' c3 c4 c5 c6 c7 hf hown hne hbx
      go_upto_region 6 with fail
      have HD3 : Hid (BAt (V.setCell ⟨go, 0, none⟩ (.int .i64 r.n)) B go (d.go r)) := hid_ (HD2.out.set0 r.n)
      have hb5 : Below B w (V.setCell ⟨go, 0, none⟩ (.int .i64 r.n)) := below_set hb4 hB 0 _
      have hk5 : Kept w (V.setCell ⟨go, 0, none⟩ (.int .i64 r.n)) go := hk4.box 0 (by decide) _
      clear HD2 hb4 hk4 e3 c0 f0
      generalize V.setCell ⟨go, 0, none⟩ (.int .i64 r.n) = U at *
      obtain ⟨A, c, ⟨c0, c1, c2', c3, c4, c5, c6, c7⟩, hf, hown, _, hne, hbx⟩ := HD3.out.cells
      clear c0 c2' c3 c4 c5 hf hown hne hbx
      have hok2 : (d.go r).ok = (inR (d.go r).pos && (decide (0 < (d.go r).inner) || !(d.go r).outer)) := rfl
      have HOK2 := hid_ hok2
      clear hok2
      cases hr : inR (d.go r).pos with
      | false =>
        have HRR := hid_ hr
        have HR3 : Hid (R = none) := hid_ (by rw [HR2.out, HOK2.out, hr]; simp)
        clear hr HR2 HOK2
        go_wp2_with fail
        refine (inReach_any _ _).mono ?_
        rw [HRR.out]
        rintro e w4 ⟨rfl, rfl⟩
        go_wp2_with fail
        go_ret
        rw [HR3.out]
        exact ⟨rfl, hb5⟩
      | true =>
        have HRR := hid_ hr
        have HR3 : Hid (R = if (decide (0 < (d.go r).inner) || !(d.go r).outer) = true then some (d.go r) else none) := hid_ (by rw [HR2.out, HOK2.out, hr, Bool.true_and])
        clear hr HR2 HOK2
        by_cases hi : 0 < (d.go r).inner
        · have HR4 : Hid (R = some (d.go r)) := hid_ (by rw [HR3.out, if_pos (by simp [hi])])
          go_wp2_with fail
          refine (inReach_any _ _).mono ?_
          rw [HRR.out]
          rintro e w4 ⟨rfl, rfl⟩
          go_wp2_with fail
          go_ret
          rw [HR4.out]
          exact ⟨rfl, HD3.out, hb5, hk5⟩
        · have hi2 : decide (0 < (d.go r).inner) = false := decide_eq_false hi
          cases ho : (d.go r).outer with
          | false =>
            have HR4 : Hid (R = some (d.go r)) := hid_ (by rw [HR3.out, if_pos (by simp [ho])])
            rw [ho] at c7
            clear ho
            go_wp2_with fail
            refine (inReach_any _ _).mono ?_
            rw [HRR.out]
            rintro e w4 ⟨rfl, rfl⟩
            go_wp2_with fail
            go_ret
            rw [HR4.out]
            exact ⟨rfl, HD3.out, hb5, hk5⟩
          | true =>
            have HR4 : Hid (R = none) := hid_ (by rw [HR3.out, if_neg (by simp [ho, hi])])
            rw [ho] at c7
            clear ho
            go_wp2_with fail
            refine (inReach_any _ _).mono ?_
            rw [HRR.out]
            rintro e w4 ⟨rfl, rfl⟩
            go_wp2_with fail
            go_ret
            rw [HR4.out]
            exact ⟨rfl, hb5⟩
end Go.Proofs.Ytonammaecpapmaa.Tp

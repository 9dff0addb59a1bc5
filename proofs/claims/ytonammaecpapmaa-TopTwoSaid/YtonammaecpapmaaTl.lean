/- Contracts: config of package tape. -/
import Derived.Test.YtonammaecpapmaaTh
namespace Go.Proofs.Ytonammaecpapmaa.Tp
open Go.RowKit

/-- A part of a slice. -/
theorem part_elems {w : World} {B b off n c F r : Nat} {xs : List Int} (h : Elems w B (.slice (some ⟨b, off, none⟩) n c) (ints xs)) (hn : 0 < n) (hF : F + r ≤ n) (c' : Nat) : Elems w B (.slice (some ⟨b, off + F, none⟩) r c') (ints ((xs.drop F).take r)) := by
  obtain ⟨b', off', e, hb, hc⟩ := h.at_ hn
  simp only [Option.some.injEq, Addr.mk.injEq, and_true] at e
  obtain ⟨rfl, rfl⟩ := e
  have hl := h.len
  rw [ints_len] at hl
  refine .inr ⟨b, off + F, c', ?_, hb, fun k u hu => ?_⟩
  · rw [ints_len, List.length_take, List.length_drop, Nat.min_eq_left (by omega)]
  · obtain ⟨x, hx, rfl⟩ := ints_get hu
    rw [List.getElem?_take] at hx
    split at hx
    · rw [List.getElem?_drop] at hx
      rw [Nat.add_assoc]
      exact hc (F + k) _ (ints_at hx)
    · cases hx
theorem box_a (W : World) (n : Nat) (T : TypeId) (x y z u : Value) : Blk ((W.drewN n).alloc (.cells #[x, y, z, u] T)) W.heap.size T #[x, y, z, u] ∧ Below W.heap.size W ((W.drewN n).alloc (.cells #[x, y, z, u] T)) :=
  ⟨Blk.new (W.drewN n) T _, (below_drewN (Below.refl _ W) n).alloc (Nat.le_refl _) _⟩

/-- What holds while the part of a band is copied: the part, and the box that takes it. -/
structure SegS (Y : World) (N g lo n c : Nat) (seg : List Int) (x y z : Value) (w : World) : Prop where
  el : Elems w w.heap.size (.slice (some ⟨g, lo, none⟩) n c) (ints seg)
  sz : Y.heap.size ≤ w.heap.size
  bl : Below N Y w
  bx : ∃ u, Blk w N 50 #[x, y, z, u]
theorem cell_far {w : World} {N i : Nat} {u v : Value} {go j : Nat} (h : go ≠ N) (hc : w.cell? ⟨go, j, none⟩ = some v) : (w.setCell ⟨N, i, none⟩ u).cell? ⟨go, j, none⟩ = some v :=
  (World.cell?_of_block (Below.heap_setCell w ⟨N, i, none⟩ u go h)).trans hc
theorem elems_far {w : World} {N i g o n c : Nat} {u : Value} {cs : List Value} (h : Elems w w.heap.size (.slice (some ⟨g, o, none⟩) n c) cs) (hg : g ≠ N) : Elems (w.setCell ⟨N, i, none⟩ u) (w.setCell ⟨N, i, none⟩ u).heap.size (.slice (some ⟨g, o, none⟩) n c) cs := by
  rw [set_size]
  rcases h with h | ⟨b, off, c', hv, hlt, hc⟩
  · exact .inl h
  · have hb : b = g := by simp at hv; exact hv.1.1.symm
    exact .inr ⟨b, off, c', hv, hlt, fun k x hx => cell_far (by rw [hb]; exact hg) (hc k x hx)⟩
section
variable {Y w w' : World} {N g lo n c : Nat} {seg : List Int} {x y z u : Value}
theorem SegS.d (h : SegS Y N g lo n c seg x y z w) : SegS Y N g lo n c seg x y z w.drew := ⟨h.el, h.sz, h.bl.drew, h.bx⟩
theorem SegS.to (h : SegS Y N g lo n c seg x y z w) (hb : Below w.heap.size w w') (hN : N ≤ w.heap.size) : SegS Y N g lo n c seg x y z w' := by
  obtain ⟨h1, h2, h3, v, h4⟩ := h
  exact ⟨h1.to hb, Nat.le_trans h2 hb.size, h3.trans (hb.mono hN), v, h4.to hb⟩
theorem SegS.set (h : SegS Y N g lo n c seg x y z w) (hg : g ≠ N) : SegS Y N g lo n c seg x y z (w.setCell ⟨N, 3, none⟩ u) := by
  obtain ⟨h1, h2, h3, v, h4⟩ := h
  exact ⟨elems_far h1 hg, by rw [set_size]; exact h2, below_set h3 (Nat.le_refl _) 3 u, u, by simpa using h4.set_ 3 u⟩
end

/-- What config leaves. -/
def GRan (B : Nat) (c : CfgS) (w : World) (e : Ending) (w' : World) : Prop :=
  ∃ v, e = .returned (.agg #[.int .i64 c.st, .int .i64 c.pos, .int .i64 c.frm, v]) ∧ Elems w' w'.heap.size v (ints c.cells) ∧ (∀ k, v.ownBlock = some k → w.heap.size ≤ k) ∧ Below B w w'

set_option maxRecDepth 100000 in
set_option maxHeartbeats 4000000 in
theorem config_any (b : Band) (B go : Nat) (L H : Int) (w : World) (h : BAt w B go b) (hok : BandOk b L H) (hs : H - L ≤ 170000000000) (hBw : B ≤ w.heap.size) :
    Calls Try.prog 32 #[.pointer (some ⟨go, 0, none⟩)] w (GRan B b.config w) := by
  have HSM := hid_ (ok_small hok (by omega))
  have hB : B ≤ go := by obtain ⟨_, _, _, _, h3, _⟩ := h; exact h3
  have HOK := hid_ hok
  have hbW := below1 w (.cells #[.int .i64 0, .int .i64 0, .int .i64 0, .slice none 0 0] 50)
  have HW := hid_ (h.below hbW)
  have HRO : Hid (∀ k, bandRow w go = some k → k < w.heap.size) := hid_ (fun k e => by
    obtain ⟨A, c, h1, h2, _, _⟩ := h
    rw [row_of (h1.cell 3)] at e
    exact (h2.lt _ e).2)
  have BR := Blk.new w 50 #[.int .i64 0, .int .i64 0, .int .i64 0, .slice none 0 0]
  have hgo : go < w.heap.size := by obtain ⟨_, _, h1, _⟩ := h; exact h1.lt
  obtain ⟨R, hR⟩ : ∃ R, R = b.config := ⟨_, rfl⟩
  rw [← hR]
  have HR := hid_ hR
  clear h hok hR
  go_enter Try.func32, Try.ntmps32
  go_upto_region 1 with fail
  have hsz : (w.alloc (.cells #[.int .i64 0, .int .i64 0, .int .i64 0, .slice none 0 0] 50)).heap.size = w.heap.size + 1 := by simp
  generalize w.alloc (.cells #[.int .i64 0, .int .i64 0, .int .i64 0, .slice none 0 0] 50) = W at *
  have HBR := hid_ BR
  have HSZ := hid_ hsz
  obtain ⟨A, c, ⟨c0, c1, c2, c3, c4, c5, c6, c7⟩, hf, hown, _, hne, hbxx⟩ := HW.out.cells
  clear BR hsz c2 c3 c4 c5 c6 c7 hf hown hne hbxx
  go_cut [3] (fun s wx => s = .pointer (some ⟨W.heap.size, 0, none⟩) ∧ Blk wx W.heap.size 50 #[.int .i64 b.st, .int .i64 b.pos, .int .i64 0, .slice none 0 0] ∧ Below W.heap.size W wx)
  case first => as_aux_lemma =>
    have a0 : ∀ (k : Nat) (o : Obj), ((W.drewN k).alloc o).cell? ⟨go, 0, none⟩ = some (.int .i64 b.st) := fun k o => keepa (w := W.drewN k) o c0
    have a1 : ∀ (k : Nat) (o : Obj), ((W.drewN k).alloc o).cell? ⟨go, 1, none⟩ = some (.int .i64 b.pos) := fun k o => keepa (w := W.drewN k) o c1
    have d0 : ∀ (o : Obj), (W.alloc o).cell? ⟨go, 0, none⟩ = some (.int .i64 b.st) := fun o => keepa o c0
    have d1 : ∀ (o : Obj), (W.alloc o).cell? ⟨go, 1, none⟩ = some (.int .i64 b.pos) := fun o => keepa o c1
    go_region
    all_goals
      go_wp2_with fail
      go_meet
      exact ⟨rfl, Blk.new _ _ _, (below1 W _).drew⟩
  case rest => as_aux_lemma =>
    obtain ⟨rfl, hb, hbx⟩ := hcut
    obtain ⟨X, rfl⟩ : ∃ X : World, X = wc := ⟨_, rfl⟩
    have HX := hid_ (HW.out.below hbx)
    have hwX := bnext hbW hbx
    have hbX : Below B w X := hwX.mono hBw
    have HBRX := hid_ (HBR.out.to hbx)
    have HBT := hid_ hb
    have hWs : w.heap.size < W.heap.size := by have := HSZ.out; omega
    have hrowW : ∀ k, w.heap.size ≤ k → some k ≠ bandRow X go := fun k hk e => by
      have h2 : bandRow X go = bandRow w go := by
        unfold bandRow
        rw [World.cell?_of_block (hwX.block go hgo)]
      have := HRO.out k (by rw [← h2, ← e])
      omega
    have HROW := hid_ hrowW
    clear HBR hb hbx hrowW c0 c1 HSZ HRO
    cases he : b.empty with
    | true =>
      have HE := hid_ he
      have HR2 : Hid (R = ⟨b.st, b.pos, 0, []⟩) := hid_ (by rw [HR.out, Band.config, if_pos he])
      have t0 := HBT.out.cell 0
      have t1 := HBT.out.cell 1
      have t2 := HBT.out.cell 2
      have t3 := HBT.out.cell 3
      have s0 := HBRX.out.cell 0
      have s1 := HBRX.out.cell 1
      have s2 := HBRX.out.cell 2
      have s3 := HBRX.out.cell 3
      have f0 := HBRX.out.free 0
      have f1 := HBRX.out.free 1
      have f2 := HBRX.out.free 2
      have f3 := HBRX.out.free 3
      simp at t0 t1 t2 t3 s0 s1 s2 s3
      clear he
      go_wp2_with fail
      refine (empty_any b B go X HX.out).mono ?_
      rw [HE.out]
      rintro e w1 ⟨rfl, rfl⟩
      go_wp2_with fail
      have E0 := (((HBRX.out.set_ 0 (.int .i64 b.st)).set_ 1 (.int .i64 b.pos)).set_ 2 (.int .i64 0)).set_ 3 (.slice none 0 0)
      have e0 := E0.cell 0
      have e1 := E0.cell 1
      have e2 := E0.cell 2
      have e3 := E0.cell 3
      simp at e0 e1 e2 e3
      refine bodyPost_ret (v := .agg #[.int .i64 b.st, .int .i64 b.pos, .int .i64 0, .slice none 0 0]) (by simp [results, Try.results32, go_sem, e0, e1, e2, e3]) rfl ?_
      rw [HR2.out]
      exact ⟨_, rfl, Elems.nil _ _, fun k e => by simp [Value.ownBlock] at e, below_set (below_set (below_set (below_set hbX hBw 0 _) hBw 1 _) hBw 2 _) hBw 3 _⟩
    | false =>
      have hspec := drawIn_spec HOK.out he
      have hokd := drawIn_ok HOK.out he
      have HSP := hid_ hspec
      have HE := hid_ he
      have smd := ok_small hokd (by omega)
      have HCF : Hid (R = ⟨b.st, b.pos, b.drawIn.low, (b.cells.drop (b.drawIn.low - b.base).toNat).take (b.drawIn.high - b.drawIn.low + 1).toNat⟩) := hid_ (by rw [HR.out, Band.config, he]; rfl)
      have g1 := HOK.out.lo; have g2 := HOK.out.lo2; have g3 := HOK.out.hi; have g4 := HOK.out.hi2; have g5 := HOK.out.few
      obtain ⟨d1, d2, d3, d4, d5, d6⟩ := hspec
      obtain ⟨lo, hlo⟩ : ∃ lo : Nat, b.drawIn.low - b.base = lo := ⟨(b.drawIn.low - b.base).toNat, by omega⟩
      obtain ⟨hi, hhi⟩ : ∃ hi : Nat, b.drawIn.high - b.base + 1 = hi := ⟨(b.drawIn.high - b.base + 1).toNat, by omega⟩
      have hlh : lo < hi := by omega
      have hhl : hi ≤ b.cells.length := by omega
      have HCF2 : Hid (R = ⟨b.st, b.pos, b.drawIn.low, (b.cells.drop lo).take (hi - lo)⟩) := hid_ (by
        rw [HCF.out, show (b.drawIn.low - b.base).toNat = lo by omega, show (b.drawIn.high - b.drawIn.low + 1).toNat = hi - lo by omega])
      have q1 := smd.low
      have q2 := smd.high
      have q3 := smd.base
      have q4 := smd.len
      have q3' : -4398046511104 ≤ b.base ∧ b.base ≤ 4398046511104 := q3
      have q4' : b.cells.length ≤ 1000000000000 := q4
      have HLO := hid_ hlo
      have HHI := hid_ hhi
      clear he hokd smd HCF HR d1 d2 d3 d4 d5 d6 hlo hhi q3 q4
      go_wp2_with fail
      refine (empty_any b B go X HX.out).mono ?_
      rw [HE.out]
      rintro e w1 ⟨rfl, rfl⟩
      go_upto_region 5 with (go_at_call 47; (with_reducible refine (drawIn_any b B go w1 HX.out HSM.out b.drawIn.low ⟨HSP.out.1, Int.le_trans HSP.out.2.2.1 HSP.out.2.1⟩ HSP.out.2.2.2.1 (Int.le_trans g1 g2) (Int.lt_of_le_of_lt g3 g4) (by omega)).mono ?_); rintro e V ⟨rfl, hd, hb2, hk2⟩)
      have HD := hid_ hd
      have hbV := hbX.trans hb2
      have hgX : go < w1.heap.size := by obtain ⟨_, _, h1, _⟩ := HX.out; exact h1.lt
      have hsX : W.heap.size < w1.heap.size := HBT.out.lt
      have BT2 : Blk V W.heap.size 50 #[.int .i64 b.st, .int .i64 b.pos, .int .i64 0, .slice none 0 0] := (hk2.same W.heap.size hsX (by omega) (HROW.out _ (by omega))).trans HBT.out
      have BR2 : Blk V w.heap.size 50 #[.int .i64 0, .int .i64 0, .int .i64 0, .slice none 0 0] := (hk2.same w.heap.size (by omega) (by omega) (HROW.out _ (Nat.le_refl _))).trans HBRX.out
      have hneT : W.heap.size ≠ go := by omega
      have HGW : Hid (some W.heap.size ≠ bandRow V go) := hid_ (fun e => by
        rcases hk2.row with r | r
        · exact HROW.out _ (by omega) (e.trans r)
        · have := r _ e.symm
          omega)
      obtain ⟨A, c, ⟨c0, c1, c2, c3, c4, c5, c6, c7⟩, hf, hown, _, hne, hbxx⟩ := HD.out.cells
      have t2 := BT2.cell 2
      have u2 := BT2.free 2
      simp at t2
      have HT2 := hid_ BT2
      have HR2 := hid_ BR2
      have hgoV := hbxx.lt
      have hVs : B ≤ V.heap.size := Nat.le_trans hBw (Nat.le_trans hwX.size hk2.size)
      have hWV : W.heap.size < V.heap.size := BT2.lt
      have c2' : V.cell? ⟨go, 2, none⟩ = some (.int .i64 b.base) := c2
      have c3' : V.cell? ⟨go, 3, none⟩ = some (.slice A b.cells.length c) := c3
      have hown' : V.ownsRow B 3 1 (.slice A b.cells.length c) b.cells.length (ints b.cells) := hown
      clear hd hb2 hk2 HX HBT HBRX HROW BT2 BR2 c0 c1 c2 c3 c6 c7 hf hown hne hbxx HD hbX hwX
      go_upto_region 6 with fail
      have HT3 : Hid (Blk (V.setCell ⟨W.heap.size, 2, none⟩ (.int .i64 b.drawIn.low)) W.heap.size 50 #[.int .i64 b.st, .int .i64 b.pos, .int .i64 b.drawIn.low, .slice none 0 0]) := hid_ (by simpa using HT2.out.set_ 2 (.int .i64 b.drawIn.low))
      have HR3 : Hid (Blk (V.setCell ⟨W.heap.size, 2, none⟩ (.int .i64 b.drawIn.low)) w.heap.size 50 #[.int .i64 0, .int .i64 0, .int .i64 0, .slice none 0 0]) := hid_ (HR2.out.far (by show w.heap.size ≠ W.heap.size; omega) _)
      have hbY : Below B w (V.setCell ⟨W.heap.size, 2, none⟩ (.int .i64 b.drawIn.low)) := below_set hbV (by omega) 2 _
      have k2 : (V.setCell ⟨W.heap.size, 2, none⟩ (.int .i64 b.drawIn.low)).cell? ⟨go, 2, none⟩ = some (.int .i64 b.base) := (World.cell?_of_block (Below.heap_setCell V ⟨W.heap.size, 2, none⟩ _ go (fun e => hneT e.symm))).trans c2'
      have k3 : (V.setCell ⟨W.heap.size, 2, none⟩ (.int .i64 b.drawIn.low)).cell? ⟨go, 3, none⟩ = some (.slice A b.cells.length c) := (World.cell?_of_block (Below.heap_setCell V ⟨W.heap.size, 2, none⟩ _ go (fun e => hneT e.symm))).trans c3'
      have k4 : (V.setCell ⟨W.heap.size, 2, none⟩ (.int .i64 b.drawIn.low)).cell? ⟨go, 4, none⟩ = some (.int .i64 b.drawIn.low) := (World.cell?_of_block (Below.heap_setCell V ⟨W.heap.size, 2, none⟩ _ go (fun e => hneT e.symm))).trans c4
      have k5 : (V.setCell ⟨W.heap.size, 2, none⟩ (.int .i64 b.drawIn.low)).cell? ⟨go, 5, none⟩ = some (.int .i64 b.drawIn.high) := (World.cell?_of_block (Below.heap_setCell V ⟨W.heap.size, 2, none⟩ _ go (fun e => hneT e.symm))).trans c5
      obtain ⟨g, rfl, hg⟩ := own_addr hown' (by omega)
      have hcap := (own_cap hown').2.1
      have hEl : Elems V V.heap.size (.slice (some ⟨g, 0, none⟩) b.cells.length c) (ints b.cells) := own_elems hown'
      have hgW : W.heap.size ≠ g := fun e => HGW.out (by rw [row_of c3', e]; rfl)
      have HEY : Hid (Elems (V.setCell ⟨W.heap.size, 2, none⟩ (.int .i64 b.drawIn.low)) (V.setCell ⟨W.heap.size, 2, none⟩ (.int .i64 b.drawIn.low)).heap.size (.slice (some ⟨g, 0, none⟩) b.cells.length c) (ints b.cells)) := hid_ (own_elems (ownsRow_setCell_other (a := ⟨W.heap.size, 2, none⟩) hown' (fun e => hgW (by simp [Value.ownBlock] at e; exact e.symm)) _))
      have hsY : V.heap.size = (V.setCell ⟨W.heap.size, 2, none⟩ (.int .i64 b.drawIn.low)).heap.size := (set_size _ _ _).symm
      have hWY : W.heap.size < (V.setCell ⟨W.heap.size, 2, none⟩ (.int .i64 b.drawIn.low)).heap.size := by rw [← hsY]; exact hWV
      clear t2 u2 HT2 HR2 hbV c2' c3' c4 c5 hown' hEl hsY
      generalize (V.setCell ⟨W.heap.size, 2, none⟩ (.int .i64 b.drawIn.low)) = Y at *
      have hl1 := HLO.out
      have hh1 := HHI.out
      have m1 : IntKind.i64.wrap (b.drawIn.low - b.base) = (lo : Int) := by rw [hl1]; exact IntWalk.i64_in _ (by omega)
      have m2 : IntKind.i64.wrap (b.drawIn.high - b.base) = b.drawIn.high - b.base := IntWalk.i64_in _ (by omega)
      have m3 : IntKind.i64.wrap (b.drawIn.high - b.base + 1) = (hi : Int) := by rw [hh1]; exact IntWalk.i64_in _ (by omega)
      have r1 : (lo : Int) ≤ (hi : Int) := by omega
      have r2 : (hi : Int) ≤ (c : Int) := by omega
      have r3 : 0 ≤ (lo : Int) := by omega
      have r4 : ¬ c = lo := by omega
      have f3 := HT3.out.free 3
      have t3 := HT3.out.cell 3
      simp at t3
      clear hl1 hh1
      have HPE : Hid (Elems Y Y.heap.size (.slice (some ⟨g, lo, none⟩) (hi - lo) (c - lo)) (ints ((b.cells.drop lo).take (hi - lo)))) := hid_ (by
        have := part_elems (F := lo) (r := hi - lo) HEY.out (by omega) (by omega) (c - lo)
        rwa [Nat.zero_add] at this)
      have hsl : ((b.cells.drop lo).take (hi - lo)).length ≤ 1000000000000 := by rw [List.length_take]; omega
      generalize (b.cells.drop lo).take (hi - lo) = seg at *
      clear HEY
      have HS0 : Hid (SegS Y W.heap.size g lo (hi - lo) (c - lo) seg (.int .i64 b.st) (.int .i64 b.pos) (.int .i64 b.drawIn.low) Y) := hid_ ⟨HPE.out, Nat.le_refl _, Below.refl _ _, _, HT3.out⟩
      clear HPE f3 t3
      have hgo2 : go ≠ W.heap.size := fun e => hneT e.symm
      go_region_held3 (fun w' => w'.cell? ⟨go, 2, none⟩ = some (.int .i64 b.base) ∧ w'.cell? ⟨go, 3, none⟩ = some (.slice (some ⟨g, 0, none⟩) b.cells.length c) ∧ w'.cell? ⟨go, 4, none⟩ = some (.int .i64 b.drawIn.low) ∧ w'.cell? ⟨go, 5, none⟩ = some (.int .i64 b.drawIn.high) ∧ SegS Y W.heap.size g lo (hi - lo) (c - lo) seg (.int .i64 b.st) (.int .i64 b.pos) (.int .i64 b.drawIn.low) w')
        (first | assumption | exact ⟨k2, k3, k4, k5, HS0.out.d⟩ | exact ⟨k2, k3, k4, k5, HS0.out⟩ | exact ⟨z2, z3, z4, z5, HZ.out⟩ | exact ⟨cell_far hgo2 z2, cell_far hgo2 z3, cell_far hgo2 z4, cell_far hgo2 z5, HZ.out.set (fun e => hgW e.symm)⟩)
        (first
          | (go_at_call 42; obtain ⟨hs2, hs3, hs4, hs5, hSg⟩ : _ ∧ _ ∧ _ ∧ _ ∧ SegS Y W.heap.size g lo (hi - lo) (c - lo) seg (.int .i64 b.st) (.int .i64 b.pos) (.int .i64 b.drawIn.low) _ := (by assumption); (with_reducible refine (copied_any seg _ _ hSg.el hsl).mono ?_); rintro e w3 ⟨rfl, hown, hb3⟩; have HO := hid_ (And.intro hown hSg.sz); have z2 := keepc hb3 hs2; have z3 := keepc hb3 hs3; have z4 := keepc hb3 hs4; have z5 := keepc hb3 hs5; have HZ := hid_ (hSg.to hb3 (Nat.le_trans (Nat.le_of_lt hWY) hSg.sz)); obtain ⟨u3, hu3⟩ := HZ.out.bx; have cw3 := hu3.cell 3; have fw3 := hu3.free 3; simp at cw3; clear hown hb3 hs2 hs3 hs4 hs5 hSg hu3))
      have hWw : w.heap.size ≠ W.heap.size := by omega
      have hYW : Y.heap.size ≠ W.heap.size := by omega
      have hYw : Y.heap.size ≠ w.heap.size := by omega
      have HU : Hid (Blk (w3.setCell ⟨W.heap.size, 3, none⟩ (.slice (some ⟨Y.heap.size, 0, none⟩) seg.length seg.length)) W.heap.size 50 #[.int .i64 b.st, .int .i64 b.pos, .int .i64 b.drawIn.low, .slice (some ⟨Y.heap.size, 0, none⟩) seg.length seg.length]) := hid_ (by
        obtain ⟨u, hu⟩ := HZ.out.bx
        simpa using hu.set_ 3 (.slice (some ⟨Y.heap.size, 0, none⟩) seg.length seg.length))
      have HRU : Hid (Blk (w3.setCell ⟨W.heap.size, 3, none⟩ (.slice (some ⟨Y.heap.size, 0, none⟩) seg.length seg.length)) w.heap.size 50 #[.int .i64 0, .int .i64 0, .int .i64 0, .slice none 0 0]) := hid_ ((HR3.out.below HZ.out.bl hWs).far hWw _)
      have hbU : Below B w (w3.setCell ⟨W.heap.size, 3, none⟩ (.slice (some ⟨Y.heap.size, 0, none⟩) seg.length seg.length)) := below_set (hbY.trans (HZ.out.bl.mono (by omega))) (by omega) 3 _
      have HEU : Hid (Elems (w3.setCell ⟨W.heap.size, 3, none⟩ (.slice (some ⟨Y.heap.size, 0, none⟩) seg.length seg.length)) (w3.setCell ⟨W.heap.size, 3, none⟩ (.slice (some ⟨Y.heap.size, 0, none⟩) seg.length seg.length)).heap.size (.slice (some ⟨Y.heap.size, 0, none⟩) seg.length seg.length) (ints seg)) := hid_ (elems_far (own_elems HO.out.1) hYW)
      clear z2 z3 z4 z5 cw3 fw3 HZ HO k2 k3 k4 k5 HS0 m1 m2 m3 hbY HT3 HR3
      generalize (w3.setCell ⟨W.heap.size, 3, none⟩ (.slice (some ⟨Y.heap.size, 0, none⟩) seg.length seg.length)) = U at *
      have t0 := HU.out.cell 0
      have t1 := HU.out.cell 1
      have t2 := HU.out.cell 2
      have t3 := HU.out.cell 3
      have s0 := HRU.out.cell 0
      have s1 := HRU.out.cell 1
      have s2 := HRU.out.cell 2
      have s3 := HRU.out.cell 3
      have f0 := HRU.out.free 0
      have f1 := HRU.out.free 1
      have f2 := HRU.out.free 2
      have f3 := HRU.out.free 3
      simp at t0 t1 t2 t3 s0 s1 s2 s3
      go_wp2_with fail
      have E0 := (((HRU.out.set_ 0 (.int .i64 b.st)).set_ 1 (.int .i64 b.pos)).set_ 2 (.int .i64 b.drawIn.low)).set_ 3 (.slice (some ⟨Y.heap.size, 0, none⟩) seg.length seg.length)
      have e0 := E0.cell 0
      have e1 := E0.cell 1
      have e2 := E0.cell 2
      have e3 := E0.cell 3
      simp at e0 e1 e2 e3
      refine bodyPost_ret (v := .agg #[.int .i64 b.st, .int .i64 b.pos, .int .i64 b.drawIn.low, .slice (some ⟨Y.heap.size, 0, none⟩) seg.length seg.length]) (by simp [results, Try.results32, go_sem, e0, e1, e2, e3]) rfl ?_
      rw [HCF2.out]
      exact ⟨_, rfl, elems_far (elems_far (elems_far (elems_far HEU.out hYw) hYw) hYw) hYw, fun k e => by simp [Value.ownBlock] at e; omega, below_set (below_set (below_set (below_set hbU hBw 0 _) hBw 1 _) hBw 2 _) hBw 3 _⟩
end Go.Proofs.Ytonammaecpapmaa.Tp

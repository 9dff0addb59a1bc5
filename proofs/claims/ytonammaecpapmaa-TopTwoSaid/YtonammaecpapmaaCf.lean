/- The contract of walk. -/
import Derived.Test.YtonammaecpapmaaCe
import Derived.Test.YtonammaecpapmaaCs
namespace Go.Proofs.Ytonammaecpapmaa.Cn
open Go.RowKit

/-- What a function that says where to end does: it may write block gm, and nothing else that was there. J true: it has said yes last; J false: it has not. -/
structure Ends (kf : Nat) (caps : Array Value) (fin : Nat → Bool) (len B : Nat) (gm : Option Nat) (J : Bool → World → Prop) : Prop where
  call : ∀ (a : Nat) (b : Bool) (w : World), a < len → B ≤ w.heap.size → J b w → Calls Try.prog kf (#[.int .i64 (a : Int)] ++ caps) w fun e w' => e = .returned (.bool (fin a)) ∧ J (fin a) w' ∧ w.grownBy w' gm
  keep : ∀ b w w', J b w → Below B w w' → J b w'
  enter : ∀ args w, (callFunc kf args).run Try.prog w = .ok (.enter kf args) w

def Walked (w : World) (gm : Option Nat) (J : Bool → World → Prop) (m : Nat) (r : Option Out) (e : Ending) (w' : World) : Prop :=
  w.grownBy w' gm ∧ match r with
  | none => e = .returned (.tuple #[.agg #[.int .i64 0, .slice none 0 0], .int .i64 0, .int .i64 4])
  | some o => ∃ g cap, e = .returned (.tuple #[.agg #[.int .i64 (o.at_ : Int), .slice (some ⟨g, 0, none⟩) m cap], .int .i64 (o.k : Int), .int .i64 0]) ∧
      w.heap.size ≤ g ∧ IntsAt w' w'.heap.size (some ⟨g, 0, none⟩) m o.rs ∧ J o.met w'

theorem keep2 {w w' : World} {a1 a2 : Addr} {v1 v2 : Value} (hb : Below w.heap.size w w') (h : w.cell? a1 = some v1 ∧ w.cell? a2 = some v2) : w'.cell? a1 = some v1 ∧ w'.cell? a2 = some v2 := ⟨keepc hb h.1, keepc hb h.2⟩
theorem keep2a {w : World} {b1 b2 j1 j2 : Nat} {v1 v2 : Value} (o : Obj) (h : w.cell? ⟨b1, j1, none⟩ = some v1 ∧ w.cell? ⟨b2, j2, none⟩ = some v2) : (w.alloc o).cell? ⟨b1, j1, none⟩ = some v1 ∧ (w.alloc o).cell? ⟨b2, j2, none⟩ = some v2 := ⟨keepa o h.1, keepa o h.2⟩
theorem keep2b {w : World} {b j1 j2 : Nat} {v1 v2 : Value} {o : Obj} (o' : Obj) (hb : b < w.heap.size) (h : (w.alloc o).cell? ⟨b, j1, none⟩ = some v1 ∧ (w.alloc o).cell? ⟨b, j2, none⟩ = some v2) : (w.alloc o').cell? ⟨b, j1, none⟩ = some v1 ∧ (w.alloc o').cell? ⟨b, j2, none⟩ = some v2 := by
  rw [World.cell?_alloc_past _ _ _ hb, World.cell?_alloc_past _ _ _ hb] at h ⊢
  exact h
theorem keep2c {w : World} {b j1 j2 b' j' j'' : Nat} {v1 v2 u u' : Value} (hne : b ≠ b') (h : w.cell? ⟨b, j1, none⟩ = some v1 ∧ w.cell? ⟨b, j2, none⟩ = some v2) :
    ((w.setCell ⟨b', j', none⟩ u).setCell ⟨b', j'', none⟩ u').cell? ⟨b, j1, none⟩ = some v1 ∧ ((w.setCell ⟨b', j', none⟩ u).setCell ⟨b', j'', none⟩ u').cell? ⟨b, j2, none⟩ = some v2 := by
  have e : ∀ j, ((w.setCell ⟨b', j', none⟩ u).setCell ⟨b', j'', none⟩ u').cell? ⟨b, j, none⟩ = w.cell? ⟨b, j, none⟩ := fun j =>
    World.cell?_of_block ((Below.heap_setCell _ _ _ _ hne).trans (Below.heap_setCell _ _ _ _ hne))
  rw [e, e]; exact h
theorem newbox {w w' : World} {t : TypeId} {a b : Value} (hb : Below (w.alloc (.cells #[a, b] t)).drew.heap.size (w.alloc (.cells #[a, b] t)).drew w') :
    w'.cell? ⟨w.heap.size, 0, none⟩ = some a ∧ w'.cell? ⟨w.heap.size, 1, none⟩ = some b ∧ w'.frozen? ⟨w.heap.size, 0, none⟩ = false ∧ w'.frozen? ⟨w.heap.size, 1, none⟩ = false := by
  have b1 : Blk w' w.heap.size t #[a, b] := Blk.below (w := (w.alloc (.cells #[a, b] t)).drew) (Blk.new w t #[a, b]) hb (by simp)
  exact ⟨b1.cell 0, b1.cell 1, b1.free 0, b1.free 1⟩
theorem newblk {w w' : World} {t : TypeId} {cs : Array Value} (hb : Below (w.alloc (.cells cs t)).drew.heap.size (w.alloc (.cells cs t)).drew w') : Blk w' w.heap.size t cs :=
  Blk.below (w := (w.alloc (.cells cs t)).drew) (Blk.new w t cs) hb (by simp)
theorem own_base {w : World} {B B' : Nat} {e : TypeId} {size : Nat} {v : Value} {n : Nat} {xs : List Value} (h : w.ownsRow B e size v n xs) (hB : B' ≤ B) : w.ownsRow B' e size v n xs := by
  obtain ⟨h1, h2⟩ := h
  refine ⟨h1, ?_⟩
  rcases h2 with h2 | ⟨g, cap, cur, hv, hg, r⟩
  · exact .inl h2
  · exact .inr ⟨g, cap, cur, hv, by omega, r⟩
theorem st_new {w : World} {B B' g cap m : Nat} {rs : List Int} (h : w.ownsRow B 3 1 (.slice (some ⟨g, 0, none⟩) m cap) m (ints rs)) (hB : B' ≤ B) (a : Int) : St (w.alloc (.cells #[.int .i64 a, .slice (some ⟨g, 0, none⟩) m cap] 29)) B' w.heap.size g cap m a rs :=
  ⟨Blk.new _ _ _, (own_base h hB).alloc _, by have := (h.lt g rfl).2; omega⟩
theorem st_new2 {w : World} {B B' go g cap m : Nat} {rs : List Int} {u v : Value} (h : w.ownsRow B 3 1 (.slice (some ⟨g, 0, none⟩) m cap) m (ints rs)) (hB : B' ≤ B) (hb : Blk w go 29 #[u, v]) (hne : g ≠ go) (a : Int) :
    St ((w.setCell ⟨go, 0, none⟩ (.int .i64 a)).setCell ⟨go, 1, none⟩ (.slice (some ⟨g, 0, none⟩) m cap)) B' go g cap m a rs :=
  ⟨by simpa using (hb.set_ 0 (.int .i64 a)).set_ 1 (.slice (some ⟨g, 0, none⟩) m cap), ownsRow_setCell_other (ownsRow_setCell_other (own_base h hB) (by simp [Value.ownBlock]; exact hne) _) (by simp [Value.ownBlock]; exact hne) _, hne⟩
theorem size_ad (w : World) (o : Obj) : (w.alloc o).drew.heap.size = w.heap.size + 1 := by
  show (w.alloc o).heap.size = _
  simp
section
variable {code : List Ins} {a j nx zr' : Nat} {rs : List Int} {x nz : Int}
theorem stp_halt {rg nx' : Int} (hi : code[a]? = some ⟨2, rg, nx', nz⟩) : stp code a rs = none := by simp [stp, hi]
theorem stp_inc (hi : code[a]? = some ⟨0, (j : Int), (nx : Int), nz⟩) (hx : rs[j]? = some x) (hne : x ≠ 1152921504606846976) : stp code a rs = some (some (nx, rs.set j (x + 1))) := by
  simp [stp, hi, List.getD_eq_getElem?_getD, hx, hne]
theorem stp_big {nx' : Int} (hi : code[a]? = some ⟨0, (j : Int), nx', nz⟩) (hx : rs[j]? = some 1152921504606846976) : stp code a rs = some none := by
  simp [stp, hi, List.getD_eq_getElem?_getD, hx]
theorem stp_dec (hi : code[a]? = some ⟨1, (j : Int), (nx : Int), nz⟩) (hx : rs[j]? = some x) (hne : x ≠ 0) : stp code a rs = some (some (nx, rs.set j (x - 1))) := by
  simp [stp, hi, List.getD_eq_getElem?_getD, hx, hne]
theorem stp_zero {nx' : Int} (hi : code[a]? = some ⟨1, (j : Int), nx', (zr' : Int)⟩) (hx : rs[j]? = some 0) : stp code a rs = some (some (zr', rs)) := by
  simp [stp, hi, List.getD_eq_getElem?_getD, hx]
end
theorem Blk.grownby {w w' : World} {g : Nat} {t : TypeId} {cs : Array Value} {gm : Option Nat} (h : Blk w g t cs) (hb : w.grownBy w' gm) (hg : some g ≠ gm) : Blk w' g t cs := (hb.block g h.lt hg).trans h
theorem Blk.but {w w' : World} {g0 go g : Nat} {t : TypeId} {cs : Array Value} (h : Blk w g0 t cs) (hb : But w w' go g) (h1 : g0 ≠ go) (h2 : g0 ≠ g) : Blk w' g0 t cs := (hb.block g0 h.lt h1 h2).trans h
theorem St.grownby {w w' : World} {B go g cap m : Nat} {at_ : Int} {rs : List Int} {gm : Option Nat} (h : St w B go g cap m at_ rs) (hb : w.grownBy w' gm) (h1 : some go ≠ gm) (h2 : some g ≠ gm) : St w' B go g cap m at_ rs :=
  ⟨h.box.grownby hb h1, h.row.kept hb (.inr (by simpa [Value.ownBlock] using h2)), h.ne⟩
theorem below_but {w wr w' : World} {B go g : Nat} {o : Obj} (h : Below B w wr) (hB : B ≤ wr.heap.size) (hb : But (wr.alloc o).drew w' go g) (h1 : B ≤ go) (h2 : B ≤ g) : Below B w w' :=
  (h.alloc hB o).drew.trans (hb.below (by rw [show (wr.alloc o).drew.heap.size = wr.heap.size + 1 from by show (wr.alloc o).heap.size = _; simp]; omega) h1 h2)
theorem grown_trans {a b c : World} {gm : Option Nat} (h : a.grownBy b gm) (k : b.grownBy c gm) : a.grownBy c gm :=
  ⟨k.os.trans h.os, k.tape.trans h.tape, k.output.trans h.output, Nat.le_trans h.size k.size, fun i hi hne => (k.block i (Nat.lt_of_lt_of_le hi h.size) hne).trans (h.block i hi hne)⟩
theorem grow3 {a b c : World} {gm : Option Nat} (h : a.grownBy b gm) (k : Below a.heap.size b c) : a.grownBy c gm :=
  ⟨k.os.trans h.os, k.tape.trans h.tape, k.output.trans h.output, Nat.le_trans h.size k.size, fun i hi hne => (k.block i hi).trans (h.block i hi hne)⟩
theorem grown_below {w w' : World} {gm : Option Nat} (h : Below w.heap.size w w') : w.grownBy w' gm := ⟨h.os, h.tape, h.output, h.size, fun k hk _ => h.block k hk⟩
theorem keep5 {w w' : World} {go g t0 t1 b : Nat} {v1 v2 v3 v4 v5 : Value} (hb : But w w' go g) (h1 : t0 ≠ go ∧ t0 ≠ g) (h2 : b ≠ go ∧ b ≠ g)
    (h : w.cell? ⟨t0, t1, none⟩ = some v1 ∧ w.cell? ⟨b, 0, none⟩ = some v2 ∧ w.cell? ⟨b, 1, none⟩ = some v3 ∧ w.cell? ⟨b, 2, none⟩ = some v4 ∧ w.cell? ⟨b, 3, none⟩ = some v5) :
    w'.cell? ⟨t0, t1, none⟩ = some v1 ∧ w'.cell? ⟨b, 0, none⟩ = some v2 ∧ w'.cell? ⟨b, 1, none⟩ = some v3 ∧ w'.cell? ⟨b, 2, none⟩ = some v4 ∧ w'.cell? ⟨b, 3, none⟩ = some v5 :=
  ⟨(World.cell?_of_block (hb.block t0 (cell_lt h.1) h1.1 h1.2)).trans h.1, (World.cell?_of_block (hb.block b (cell_lt h.2.1) h2.1 h2.2)).trans h.2.1, (World.cell?_of_block (hb.block b (cell_lt h.2.1) h2.1 h2.2)).trans h.2.2.1,
    (World.cell?_of_block (hb.block b (cell_lt h.2.1) h2.1 h2.2)).trans h.2.2.2.1, (World.cell?_of_block (hb.block b (cell_lt h.2.1) h2.1 h2.2)).trans h.2.2.2.2⟩
theorem row_ints {w : World} {B g cap m : Nat} {rs : List Int} (h : w.ownsRow B 3 1 (.slice (some ⟨g, 0, none⟩) m cap) m (ints rs)) : IntsAt w w.heap.size (some ⟨g, 0, none⟩) m rs :=
  ⟨by simpa [ints] using h.1, fun _ => ⟨g, 0, rfl, (h.lt g rfl).2, fun k x hx => by
    have hk : k < m := by
      have := (List.getElem?_eq_some_iff.1 hx).1
      have := h.1
      simp [ints] at this
      omega
    rw [Nat.zero_add, h.cellAt k (by omega)]
    simp [ints, hx]⟩⟩
theorem grow_all {w W2 wr wf : World} {gm : Option Nat} (hw2 : Below w.heap.size w W2) (hgr : W2.grownBy wr gm) (hb : Below w.heap.size wr wf) : w.grownBy wf gm :=
  ⟨hb.os.trans (hgr.os.trans hw2.os), hb.tape.trans (hgr.tape.trans hw2.tape), hb.output.trans (hgr.output.trans hw2.output), Nat.le_trans hw2.size (Nat.le_trans hgr.size hb.size),
    fun k hk hne => (hb.block k hk).trans ((hgr.block k (Nat.lt_of_lt_of_le hk hw2.size) hne).trans (hw2.block k hk))⟩
theorem walked_some {w wf : World} {gm : Option Nat} {J : Bool → World → Prop} {B m a k g cap : Nat} {rs : List Int} {f : Bool} {r : Option Out} (hr : r = some ⟨a, rs, k, f⟩) (hrow : wf.ownsRow B 3 1 (.slice (some ⟨g, 0, none⟩) m cap) m (ints rs))
    (hJ : J f wf) (hg : w.grownBy wf gm) (hgg : w.heap.size ≤ g) : Walked w gm J m r (.returned (.tuple #[.agg #[.int .i64 (a : Int), .slice (some ⟨g, 0, none⟩) m cap], .int .i64 (k : Int), .int .i64 0])) wf := by
  subst hr
  exact ⟨hg, g, cap, rfl, hgg, row_ints hrow, hJ⟩
theorem walked_none {w wf : World} {gm : Option Nat} {J : Bool → World → Prop} {m : Nat} {r : Option Out} (hr : r = none) (hg : w.grownBy wf gm) : Walked w gm J m r (.returned (.tuple #[.agg #[.int .i64 0, .slice none 0 0], .int .i64 0, .int .i64 4])) wf := by
  subst hr
  exact ⟨hg, rfl⟩
theorem res_cells {w : World} {g : Nat} {t : TypeId} {a b : Value} (h : Blk w g t #[a, b]) (u v : Value) :
    ((w.setCell ⟨g, 0, none⟩ u).setCell ⟨g, 1, none⟩ v).cell? ⟨g, 0, none⟩ = some u ∧ ((w.setCell ⟨g, 0, none⟩ u).setCell ⟨g, 1, none⟩ v).cell? ⟨g, 1, none⟩ = some v := by
  have h2 := (h.set_ 0 u).set_ 1 v
  exact ⟨by rw [h2.cell 0]; simp, by rw [h2.cell 1]; simp⟩
theorem res_cells_a {w : World} {g : Nat} {t : TypeId} {a b : Value} (h : Blk w g t #[a, b]) (u v : Value) (o : Obj) :
    (((w.setCell ⟨g, 0, none⟩ u).setCell ⟨g, 1, none⟩ v).alloc o).cell? ⟨g, 0, none⟩ = some u ∧ (((w.setCell ⟨g, 0, none⟩ u).setCell ⟨g, 1, none⟩ v).alloc o).cell? ⟨g, 1, none⟩ = some v :=
  ⟨keepa o (res_cells h u v).1, keepa o (res_cells h u v).2⟩
theorem below_res_a {w wr : World} {B q : Nat} (h : Below B w wr) (hq : B ≤ q) (hB : B ≤ wr.heap.size) (u v : Value) (o : Obj) : Below B w (((wr.setCell ⟨q, 0, none⟩ u).setCell ⟨q, 1, none⟩ v).alloc o) :=
  ((h.setCell (p := ⟨q, 0, none⟩) hq u).setCell (p := ⟨q, 1, none⟩) hq v).alloc (by simpa [World.setCell] using hB) o
theorem below_res {w wr : World} {B q : Nat} (h : Below B w wr) (hq : B ≤ q) (u v : Value) : Below B w ((wr.setCell ⟨q, 0, none⟩ u).setCell ⟨q, 1, none⟩ v) :=
  (h.setCell (p := ⟨q, 0, none⟩) hq u).setCell (p := ⟨q, 1, none⟩) hq v
theorem own_res {w : World} {B q g m cap : Nat} {xs : List Value} (h : w.ownsRow B 3 1 (.slice (some ⟨g, 0, none⟩) m cap) m xs) (hq : g ≠ q) (u v : Value) :
    ((w.setCell ⟨q, 0, none⟩ u).setCell ⟨q, 1, none⟩ v).ownsRow B 3 1 (.slice (some ⟨g, 0, none⟩) m cap) m xs :=
  ownsRow_setCell_other (ownsRow_setCell_other h (by simp [Value.ownBlock]; exact hq) _) (by simp [Value.ownBlock]; exact hq) _
theorem CodeIn.grown {w w' : World} {b off : Nat} {code : List Ins} {gm : Option Nat} (h : CodeIn w b off code) (hb : w.grownBy w' gm) (hlt : b < w.heap.size) (hne : some b ≠ gm) : CodeIn w' b off code := fun k i hk => by
  obtain ⟨h0, h1, h2, h3⟩ := h k i hk
  have e : ∀ j, w'.cell? ⟨b, j, none⟩ = w.cell? ⟨b, j, none⟩ := fun j => World.cell?_of_block (hb.block b hlt hne)
  exact ⟨(e _).trans h0, (e _).trans h1, (e _).trans h2, (e _).trans h3⟩
theorem good_get {R : Nat} {code : List Ins} {a j : Nat} {rs : List Int} (h : Good R code a rs) (hj : j < R) : ∃ x, rs[j]? = some x ∧ 0 ≤ x ∧ x ≤ 1152921504606846976 := by
  have hlt : j < rs.length := by rw [h.len]; exact hj
  exact ⟨rs[j], List.getElem?_eq_getElem hlt, h.ok _ (List.getElem_mem hlt)⟩
theorem boxes3 {w w1 : World} {t t' t'' : TypeId} {a b a' b' a'' b'' : Value} (hb : Below (((w.alloc (.cells #[a, b] t)).alloc (.cells #[a', b'] t')).alloc (.cells #[a'', b''] t'')).heap.size (((w.alloc (.cells #[a, b] t)).alloc (.cells #[a', b'] t')).alloc (.cells #[a'', b''] t'')) w1) :
    Blk w1 w.heap.size t #[a, b] ∧ Blk w1 (w.heap.size + 1) t' #[a', b'] ∧ Blk w1 (w.heap.size + 1 + 1) t'' #[a'', b''] ∧ w.heap.size + 1 + 1 < w1.heap.size ∧ Below w.heap.size w w1 := by
  have b1 : Blk w1 w.heap.size t #[a, b] := (((Blk.new w t #[a, b]).alloc _).alloc _).below hb (by simp; omega)
  have b2 : Blk w1 (w.heap.size + 1) t' #[a', b'] := by
    have := ((Blk.new (w.alloc (.cells #[a, b] t)) t' #[a', b']).alloc (.cells #[a'', b''] t'')).below hb (by simp)
    simpa using this
  have b3 : Blk w1 (w.heap.size + 1 + 1) t'' #[a'', b''] := by
    have := (Blk.new ((w.alloc (.cells #[a, b] t)).alloc (.cells #[a', b'] t')) t'' #[a'', b'']).below hb (by simp)
    simpa using this
  exact ⟨b1, b2, b3, by have := hb.size; simp at this; omega, ((below2 w _ _).alloc (by simp; omega) _).trans (hb.mono (by simp; omega))⟩

set_option maxHeartbeats 1000000 in
theorem walk_any (R : Nat) (b off n c b2 off2 m d a0 N kf : Nat) (caps : Array Value) (fin : Nat → Bool) (gm : Option Nat) (J : Bool → World → Prop) (code : List Ins) (rs0 : List Int) (w : World)
    (hv : vCode R code = true) (hg : Good R code a0 rs0) (hn : code.length = n) (hm : m = R) (hb : b < w.heap.size) (hbm : some b ≠ gm) (hc : CodeIn w b off code) (hb2 : b2 < w.heap.size) (hr : IntsIn w b2 off2 rs0) (hN : N ≤ 1000000)
    (hgm : ∀ k, gm = some k → k < w.heap.size) (hE : Ends kf caps fin n w.heap.size gm J) (hJ : J false w) :
    Calls Try.prog 21 #[.agg #[.int .i64 R, .slice (some ⟨b, off, none⟩) n c], .agg #[.int .i64 a0, .slice (some ⟨b2, off2, none⟩) m d], .int .i64 N, .func (.func kf) #[] caps] w
      (Walked w gm J m (walkC code fin N a0 rs0)) := by
  obtain ⟨r1, r2, n1, n2⟩ := vCode_reg hv
  have hlen : rs0.length = m := by rw [hg.len, hm]
  have hm1 : 0 < m := by omega
  have hm2 : m ≤ 16 := by omega
  have HV := hid_ hv; clear hv
  have HG := hid_ hg; clear hg
  have HN := hid_ hn; clear hn
  have HM := hid_ hm; clear hm
  have HC := hid_ hc; clear hc
  have HR := hid_ hr; clear hr
  have HBM := hid_ hbm; clear hbm
  have HGM := hid_ hgm; clear hgm
  have hcf := hE.enter
  have HE := hid_ hE; clear hE
  have HJ := hid_ hJ; clear hJ
  go_enter Try.func21, Try.ntmps21
  go_upto_region 2 with (go_at_call 11; refine (actions_any _).mono ?_; rintro e w1 ⟨rfl, hb1⟩)
  obtain ⟨B1, B2, B3, hz, hw1⟩ := boxes3 hb1
  clear hb1
  generalize hW2 : w1.alloc (.cells #[.func (.func 23) #[] #[], .func (.func 24) #[] #[], .func (.func 25) #[] #[], .func (.func 26) #[] #[], .func (.func 27) #[] #[], .func (.func 28) #[] #[]] 45) = W2
  have HW2 := hid_ hW2
  clear hW2
  have hs2 : w1.heap.size < W2.heap.size := by rw [← HW2.out]; simp
  have hw2 : Below w.heap.size w W2 := by rw [← HW2.out]; exact hw1.alloc (by omega) _
  have B4 : Blk W2 w1.heap.size 45 #[.func (.func 23) #[] #[], .func (.func 24) #[] #[], .func (.func 25) #[] #[], .func (.func 26) #[] #[], .func (.func 27) #[] #[], .func (.func 28) #[] #[]] := by rw [← HW2.out]; exact Blk.new _ _ _
  replace B1 := B1.alloc (.cells #[.func (.func 23) #[] #[], .func (.func 24) #[] #[], .func (.func 25) #[] #[], .func (.func 26) #[] #[], .func (.func 27) #[] #[], .func (.func 28) #[] #[]] 45)
  rw [HW2.out] at B1
  replace B2 := B2.alloc (.cells #[.func (.func 23) #[] #[], .func (.func 24) #[] #[], .func (.func 25) #[] #[], .func (.func 26) #[] #[], .func (.func 27) #[] #[], .func (.func 28) #[] #[]] 45)
  rw [HW2.out] at B2
  replace B3 := B3.alloc (.cells #[.func (.func 23) #[] #[], .func (.func 24) #[] #[], .func (.func 25) #[] #[], .func (.func 26) #[] #[], .func (.func 27) #[] #[], .func (.func 28) #[] #[]] 45)
  rw [HW2.out] at B3
  clear HW2 hw1
  have c2 := B2.cell 0
  have c3 := B2.cell 1
  simp at c2 c3
  have hne12 : w.heap.size + 1 ≠ W2.heap.size := by omega
  go_cut [12] (fun s12 wx => ∃ go g cap, s12 = .pointer (some ⟨go, 0, none⟩) ∧ W2.heap.size ≤ go ∧ W2.heap.size ≤ g ∧ St wx w.heap.size go g cap m a0 rs0 ∧ Below W2.heap.size W2 wx)
  case first =>
    go_region_held3 (fun w' => w'.cell? ⟨w.heap.size + 1, 0, none⟩ = some (.int .i64 a0) ∧ w'.cell? ⟨w.heap.size + 1, 1, none⟩ = some (.slice (some ⟨b2, off2, none⟩) m d)) (first | exact ⟨c2, c3⟩ | exact keep2 hb' (by assumption) | exact keep2b _ hz' (by assumption) | exact keep2a _ (by assumption) | exact keep2c hne12 (by assumption))
      (first
        | (go_at_call 38; (with_reducible refine (clone_any b2 off2 m d rs0 W2.drew (HR.out.below hw2.drew hb2) hlen hm1 hm2).mono ?_); rintro e w' ⟨g, cap, rfl, hge, hown, hb'⟩; have hz' : w.heap.size + 1 < w'.heap.size := (by have := hb'.size; simp at this; omega))
        | (go_at_call 38; refine (clone_any b2 off2 m d rs0 (W2.alloc (.cells #[.int .i64 0, .slice none 0 0] 29)).drew (HR.out.below (hw2.alloc (by omega) _).drew hb2) hlen hm1 hm2).mono ?_; rintro e w' ⟨g, cap, rfl, hge, hown, hb'⟩; have hz' : w.heap.size + 1 < w'.heap.size := (by have := hb'.size; simp at this; omega); obtain ⟨q0, q1, q2, q3⟩ := newbox hb'))
    · go_wp2_with fail
      go_meet
      exact ⟨w'.heap.size, g, cap, rfl, hb'.size, hge, st_new hown (by show w.heap.size ≤ W2.heap.size; omega) a0, hb'.drewl.alloc hb'.size _⟩
    · have qb := newblk hb'
      have hge' : W2.heap.size < g := by have := size_ad W2 (.cells #[.int .i64 0, .slice none 0 0] 29); omega
      have hbb : Below W2.heap.size W2 w' := ((Below.refl _ W2).alloc (Nat.le_refl _) _).drew.trans (hb'.mono (by rw [size_ad]; omega))
      go_wp2_with fail
      go_meet
      exact ⟨W2.heap.size, g, cap, rfl, Nat.le_refl _, by omega, st_new2 hown (by rw [size_ad]; omega) qb (by omega) a0, (hbb.setCell (Nat.le_refl _) _).setCell (Nat.le_refl _) _⟩
  case rest =>
    obtain ⟨go, g, cap, rfl, hgo, hgg, hst, hbc⟩ := hcut
    clear c2 c3 hne12 B2
    go_wp2_with fail
    go_loopw [13] (fun s wr => ∃ k a rs, s = .int .i64 ((k : Nat) : Int) ∧ k ≤ N ∧ Hid (Good R code a rs) ∧ Hid (bump k (walkC code fin (N - k) a rs) = walkC code fin N a0 rs0) ∧ St wr w.heap.size go g cap m ((a : Nat) : Int) rs ∧ J false wr ∧ W2.grownBy wr gm)
      (fun s _ => N - (intOf s).toNat)
    case atStart =>
      exact ⟨0, a0, rs0, rfl, Nat.zero_le _, HG, hid_ (by rw [bump_zero]; rfl), hst, HE.out.keep _ _ _ HJ.out (hw2.trans (hbc.mono (by omega))), ⟨hbc.os, hbc.tape, hbc.output, hbc.size, fun k hk _ => hbc.block k hk⟩⟩
    case round =>
      obtain ⟨k, a, rs, rfl, hk, HGr, HW, hs, hJ, hgr⟩ := hrel
      have HS := hid_ hs
      have HJr := hid_ hJ
      clear hJ
      have gmne : ∀ q, w.heap.size ≤ q → some q ≠ gm := fun q hq e => by have := HGM.out q e.symm; omega
      have D1 := B1.grownby hgr (gmne _ (by omega))
      have D3 := B3.grownby hgr (gmne _ (by omega))
      have D4 := B4.grownby hgr (gmne _ (by omega))
      have hsz2 := hgr.size
      have p1 := D1.cell 1
      have r0 := D3.cell 0
      have r1' := D3.cell 1
      have fr0 := D3.free 0
      have fr1 := D3.free 1
      have go0 := hs.box.cell 0
      have go1 := hs.box.cell 1
      simp at p1 r0 r1' go0 go1
      have hgo' := hs.box.lt
      have hrz := D3.lt
      have htz := D4.lt
      by_cases hlt : k < N
      · have HG2 := HGr.out
        have ha : a < n := by have := HG2.lt; rw [HN.out] at this; exact this
        obtain ⟨i, hi⟩ : ∃ i, code[a]? = some i := ⟨_, List.getElem?_eq_getElem HG2.lt⟩
        have hwr : w.grownBy wr gm := grow_all hw2 hgr (Below.refl _ _)
        obtain ⟨i0, i1, i2, i3⟩ := (HC.out.grown hwr hb HBM.out) a i hi
        have hvi := vCode_ins HV.out hi
        have hop := vIns_op hvi
        have HI := hid_ hi
        obtain ⟨op, rg, nx, zr⟩ := i
        simp only at i0 i1 i2 i3 hop
        clear hi HG2
        rcases hop with rfl | rfl | rfl
        · obtain ⟨q1, q2, q3, q4⟩ := vIns_inc hvi rfl
          clear hvi
          obtain ⟨j, rfl⟩ := Int.eq_ofNat_of_zero_le q1
          obtain ⟨nx, rfl⟩ := Int.eq_ofNat_of_zero_le q3
          obtain ⟨x, hx, hx0, hx1⟩ := good_get HGr.out (j := j) (by simp only at q2; omega)
          have HX := hid_ hx
          clear hx q1 q2 q3 q4
          have tt := D4.cell 1
          simp at tt
          have k0 := keepa (.cells #[.int .i64 0, .int .i64 (j : Int), .int .i64 (nx : Int), .int .i64 zr] 48) tt
          have hgw := (HS.out.row.lt g rfl).2
          have hn1 : w1.heap.size ≠ go ∧ w1.heap.size ≠ g := by omega
          have hn2 : wr.heap.size ≠ go ∧ wr.heap.size ≠ g := by omega
          have HSb : St (wr.alloc (.cells #[.int .i64 0, .int .i64 (j : Int), .int .i64 (nx : Int), .int .i64 zr] 48)).drew w.heap.size go g cap m (a : Int) rs := (HS.out.alloc _).dN 1
          have HS1 := hid_ HSb
          clear HSb
          by_cases hbig : x = 1152921504606846976
          · subst hbig
            go_wp2_with fail
            go_region_held3 (fun w' => w'.cell? ⟨w1.heap.size, 1, none⟩ = some (.func (.func 24) #[] #[]) ∧ w'.cell? ⟨wr.heap.size, 0, none⟩ = some (.int .i64 0) ∧ w'.cell? ⟨wr.heap.size, 1, none⟩ = some (.int .i64 (j : Int)) ∧ w'.cell? ⟨wr.heap.size, 2, none⟩ = some (.int .i64 (nx : Int)) ∧ w'.cell? ⟨wr.heap.size, 3, none⟩ = some (.int .i64 zr)) (first | (refine ⟨k0, ?_, ?_, ?_, ?_⟩ <;> simp [go_sem]) | (exact keep5 hbut hn1 hn2 (by assumption)))
              (first
                | (go_at_call 24; refine (inc_big w.heap.size go g cap m j a 0 nx zr rs _ HS1.out HX.out).mono ?_; rintro e w' ⟨rfl, hbut⟩))
            have hbw' : Below w.heap.size wr w' := below_but (Below.refl _ _) (by omega) hbut (by omega) (by omega)
            have D3w := Blk.but (w := (wr.alloc (.cells #[.int .i64 0, .int .i64 (j : Int), .int .i64 (nx : Int), .int .i64 zr] 48)).drew) (D3.alloc (.cells #[.int .i64 0, .int .i64 (j : Int), .int .i64 (nx : Int), .int .i64 zr] 48)) hbut (by omega) (by omega)
            have x0 := D3w.cell 0
            have x1 := D3w.cell 1
            have y0 := D3w.free 0
            have y1 := D3w.free 1
            simp at x0 x1
            have hxl := D3w.lt
            go_wp2_with fail
            obtain ⟨e0, e1⟩ := res_cells D3w (.int .i64 0) (.slice none 0 0)
            refine bodyPost_ret (v := .tuple #[.agg #[.int .i64 0, .slice none 0 0], .int .i64 0, .int .i64 4]) (by simp [results, Try.results21, go_sem, e0, e1]) rfl ?_
            have hbf := below_res hbw' (q := w.heap.size + 1 + 1) (by omega) (.int .i64 0) (.slice none 0 0)
            have hww := HW.out
            rw [show N - k = (N - k - 1) + 1 by omega, walk_big (stp_big HI.out HX.out)] at hww
            exact walked_none hww.symm (grow_all hw2 hgr hbf)
          · have hxl : x < 1152921504606846976 := by omega
            go_wp2_with fail
            go_region_held3 (fun w' => w'.cell? ⟨w1.heap.size, 1, none⟩ = some (.func (.func 24) #[] #[]) ∧ w'.cell? ⟨wr.heap.size, 0, none⟩ = some (.int .i64 0) ∧ w'.cell? ⟨wr.heap.size, 1, none⟩ = some (.int .i64 (j : Int)) ∧ w'.cell? ⟨wr.heap.size, 2, none⟩ = some (.int .i64 (nx : Int)) ∧ w'.cell? ⟨wr.heap.size, 3, none⟩ = some (.int .i64 zr)) (first | (refine ⟨k0, ?_, ?_, ?_, ?_⟩ <;> simp [go_sem]) | (exact keep5 hbut hn1 hn2 (by assumption)))
              (first
                | (go_at_call 24; refine (inc_any w.heap.size go g cap m j a x 0 nx zr rs _ HS1.out HX.out hxl hx0).mono ?_; rintro e w' ⟨rfl, hst', hbut⟩))
            have hstp := stp_inc HI.out HX.out hbig
            have hbw' : Below w.heap.size wr w' := below_but (Below.refl _ _) (by omega) hbut (by omega) (by omega)
            have hbw2 : Below W2.heap.size wr w' := below_but (Below.refl _ _) (by omega) hbut (by omega) (by omega)
            have D3w := Blk.but (w := (wr.alloc (.cells #[.int .i64 0, .int .i64 (j : Int), .int .i64 (nx : Int), .int .i64 zr] 48)).drew) (D3.alloc (.cells #[.int .i64 0, .int .i64 (j : Int), .int .i64 (nx : Int), .int .i64 zr] 48)) hbut (by omega) (by omega)
            have go0' := hst'.box.cell 0
            simp at go0'
            have HST := hid_ hstp
            have HS' := hid_ hst'
            clear hstp hst'
            go_wp2_with fail
            have HG' := hid_ (HGr.out.step HV.out HST.out)
            refine (HE.out.call nx false w' (by have := HG'.out.lt; rw [HN.out] at this; exact this) (Nat.le_trans (by omega) hbw'.size) (HE.out.keep _ _ _ HJr.out hbw')).mono ?_
            rintro e w'' ⟨rfl, hJ'', hg''⟩
            have hs'' := HS'.out.grownby hg'' (gmne _ (by omega)) (gmne _ (by omega))
            have HS'' := hid_ hs''
            have D3x := D3w.grownby hg'' (gmne _ (by omega))
            have hgr2 : W2.grownBy w'' gm := grown_trans (grow3 hgr hbw2) hg''
            cases hf : fin nx
            · rw [hf] at hJ''
              have HJ'' := hid_ hJ''
              clear hJ'' hs''
              go_wp2_with fail
              go_roundw
              case rel => exact ⟨k + 1, nx, (rs.set j (x + 1)), by go_num, by omega, HG', hid_ (by rw [← HW.out, show N - k = (N - (k + 1)) + 1 by omega]; exact (walk_on HST.out hf).symm), HS''.out, HJ''.out, hgr2⟩
              case measure => simp [intOf]; omega
            · rw [hf] at hJ''
              have HJ'' := hid_ hJ''
              have g0 := hs''.box.cell 0
              have g1 := hs''.box.cell 1
              have x0 := D3x.cell 0
              have x1 := D3x.cell 1
              have y0 := D3x.free 0
              have y1 := D3x.free 1
              simp at g0 g1 x0 x1
              have hxl := D3x.lt
              clear hJ'' hs''
              go_wp2_with fail
              obtain ⟨e0, e1⟩ := res_cells D3x (.int .i64 (nx : Nat)) (.slice (some ⟨g, 0, none⟩) m cap)
              refine bodyPost_ret (v := .tuple #[.agg #[.int .i64 (nx : Nat), .slice (some ⟨g, 0, none⟩) m cap], .int .i64 ((k + 1 : Nat) : Int), .int .i64 0]) (by simp [results, Try.results21, go_sem, e0, e1]) rfl ?_
              have hbf := below_res (Below.refl w.heap.size w'') (q := w.heap.size + 1 + 1) (by omega) (.int .i64 (nx : Nat)) (.slice (some ⟨g, 0, none⟩) m cap)
              have hww := HW.out
              rw [show N - k = (N - k - 1) + 1 by omega, walk_met HST.out hf] at hww
              exact walked_some hww.symm (own_res HS''.out.row (by omega) _ _) (HE.out.keep _ _ _ HJ''.out hbf) (grow_all hw2 hgr2 hbf) (by omega)
        · obtain ⟨q1, q2, q3, q4, q5, q6⟩ := vIns_dec hvi rfl
          clear hvi
          obtain ⟨j, rfl⟩ := Int.eq_ofNat_of_zero_le q1
          obtain ⟨nx, rfl⟩ := Int.eq_ofNat_of_zero_le q3
          obtain ⟨zr, rfl⟩ := Int.eq_ofNat_of_zero_le q5
          obtain ⟨x, hx, hx0, hx1⟩ := good_get HGr.out (j := j) (by simp only at q2; omega)
          have HX := hid_ hx
          clear hx q1 q2 q3 q4 q5 q6
          have tt := D4.cell 3
          simp at tt
          have k0 := keepa (.cells #[.int .i64 1, .int .i64 (j : Int), .int .i64 (nx : Int), .int .i64 (zr : Int)] 48) tt
          have hgw := (HS.out.row.lt g rfl).2
          have hn1 : w1.heap.size ≠ go ∧ w1.heap.size ≠ g := by omega
          have hn2 : wr.heap.size ≠ go ∧ wr.heap.size ≠ g := by omega
          have HSb : St (wr.alloc (.cells #[.int .i64 1, .int .i64 (j : Int), .int .i64 (nx : Int), .int .i64 (zr : Int)] 48)).drew w.heap.size go g cap m (a : Int) rs := (HS.out.alloc _).dN 1
          have HS1 := hid_ HSb
          clear HSb
          by_cases hz : x = 0
          · subst hz
            go_wp2_with fail
            go_region_held3 (fun w' => w'.cell? ⟨w1.heap.size, 3, none⟩ = some (.func (.func 26) #[] #[]) ∧ w'.cell? ⟨wr.heap.size, 0, none⟩ = some (.int .i64 1) ∧ w'.cell? ⟨wr.heap.size, 1, none⟩ = some (.int .i64 (j : Int)) ∧ w'.cell? ⟨wr.heap.size, 2, none⟩ = some (.int .i64 (nx : Int)) ∧ w'.cell? ⟨wr.heap.size, 3, none⟩ = some (.int .i64 (zr : Int))) (first | (refine ⟨k0, ?_, ?_, ?_, ?_⟩ <;> simp [go_sem]) | (exact keep5 hbut hn1 hn2 (by assumption)))
              (first
                | (go_at_call 26; refine (dec_zero w.heap.size go g cap m j a 1 nx zr rs _ HS1.out HX.out).mono ?_; rintro e w' ⟨rfl, hst', hbut⟩))
            have hstp := stp_zero HI.out HX.out
            have hbw' : Below w.heap.size wr w' := below_but (Below.refl _ _) (by omega) hbut (by omega) (by omega)
            have hbw2 : Below W2.heap.size wr w' := below_but (Below.refl _ _) (by omega) hbut (by omega) (by omega)
            have D3w := Blk.but (w := (wr.alloc (.cells #[.int .i64 1, .int .i64 (j : Int), .int .i64 (nx : Int), .int .i64 (zr : Int)] 48)).drew) (D3.alloc (.cells #[.int .i64 1, .int .i64 (j : Int), .int .i64 (nx : Int), .int .i64 (zr : Int)] 48)) hbut (by omega) (by omega)
            have go0' := hst'.box.cell 0
            simp at go0'
            have HST := hid_ hstp
            have HS' := hid_ hst'
            clear hstp hst'
            go_wp2_with fail
            have HG' := hid_ (HGr.out.step HV.out HST.out)
            refine (HE.out.call zr false w' (by have := HG'.out.lt; rw [HN.out] at this; exact this) (Nat.le_trans (by omega) hbw'.size) (HE.out.keep _ _ _ HJr.out hbw')).mono ?_
            rintro e w'' ⟨rfl, hJ'', hg''⟩
            have hs'' := HS'.out.grownby hg'' (gmne _ (by omega)) (gmne _ (by omega))
            have HS'' := hid_ hs''
            have D3x := D3w.grownby hg'' (gmne _ (by omega))
            have hgr2 : W2.grownBy w'' gm := grown_trans (grow3 hgr hbw2) hg''
            cases hf : fin zr
            · rw [hf] at hJ''
              have HJ'' := hid_ hJ''
              clear hJ'' hs''
              go_wp2_with fail
              go_roundw
              case rel => exact ⟨k + 1, zr, rs, by go_num, by omega, HG', hid_ (by rw [← HW.out, show N - k = (N - (k + 1)) + 1 by omega]; exact (walk_on HST.out hf).symm), HS''.out, HJ''.out, hgr2⟩
              case measure => simp [intOf]; omega
            · rw [hf] at hJ''
              have HJ'' := hid_ hJ''
              have g0 := hs''.box.cell 0
              have g1 := hs''.box.cell 1
              have x0 := D3x.cell 0
              have x1 := D3x.cell 1
              have y0 := D3x.free 0
              have y1 := D3x.free 1
              simp at g0 g1 x0 x1
              have hxl := D3x.lt
              clear hJ'' hs''
              go_wp2_with fail
              obtain ⟨e0, e1⟩ := res_cells D3x (.int .i64 (zr : Nat)) (.slice (some ⟨g, 0, none⟩) m cap)
              refine bodyPost_ret (v := .tuple #[.agg #[.int .i64 (zr : Nat), .slice (some ⟨g, 0, none⟩) m cap], .int .i64 ((k + 1 : Nat) : Int), .int .i64 0]) (by simp [results, Try.results21, go_sem, e0, e1]) rfl ?_
              have hbf := below_res (Below.refl w.heap.size w'') (q := w.heap.size + 1 + 1) (by omega) (.int .i64 (zr : Nat)) (.slice (some ⟨g, 0, none⟩) m cap)
              have hww := HW.out
              rw [show N - k = (N - k - 1) + 1 by omega, walk_met HST.out hf] at hww
              exact walked_some hww.symm (own_res HS''.out.row (by omega) _ _) (HE.out.keep _ _ _ HJ''.out hbf) (grow_all hw2 hgr2 hbf) (by omega)
          · have hxp : 0 < x := by omega
            go_wp2_with fail
            go_region_held3 (fun w' => w'.cell? ⟨w1.heap.size, 3, none⟩ = some (.func (.func 26) #[] #[]) ∧ w'.cell? ⟨wr.heap.size, 0, none⟩ = some (.int .i64 1) ∧ w'.cell? ⟨wr.heap.size, 1, none⟩ = some (.int .i64 (j : Int)) ∧ w'.cell? ⟨wr.heap.size, 2, none⟩ = some (.int .i64 (nx : Int)) ∧ w'.cell? ⟨wr.heap.size, 3, none⟩ = some (.int .i64 (zr : Int))) (first | (refine ⟨k0, ?_, ?_, ?_, ?_⟩ <;> simp [go_sem]) | (exact keep5 hbut hn1 hn2 (by assumption)))
              (first
                | (go_at_call 26; refine (dec_any w.heap.size go g cap m j a x 1 nx zr rs _ HS1.out HX.out hx1 hxp).mono ?_; rintro e w' ⟨rfl, hst', hbut⟩))
            have hstp := stp_dec HI.out HX.out hz
            have hbw' : Below w.heap.size wr w' := below_but (Below.refl _ _) (by omega) hbut (by omega) (by omega)
            have hbw2 : Below W2.heap.size wr w' := below_but (Below.refl _ _) (by omega) hbut (by omega) (by omega)
            have D3w := Blk.but (w := (wr.alloc (.cells #[.int .i64 1, .int .i64 (j : Int), .int .i64 (nx : Int), .int .i64 (zr : Int)] 48)).drew) (D3.alloc (.cells #[.int .i64 1, .int .i64 (j : Int), .int .i64 (nx : Int), .int .i64 (zr : Int)] 48)) hbut (by omega) (by omega)
            have go0' := hst'.box.cell 0
            simp at go0'
            have HST := hid_ hstp
            have HS' := hid_ hst'
            clear hstp hst'
            go_wp2_with fail
            have HG' := hid_ (HGr.out.step HV.out HST.out)
            refine (HE.out.call nx false w' (by have := HG'.out.lt; rw [HN.out] at this; exact this) (Nat.le_trans (by omega) hbw'.size) (HE.out.keep _ _ _ HJr.out hbw')).mono ?_
            rintro e w'' ⟨rfl, hJ'', hg''⟩
            have hs'' := HS'.out.grownby hg'' (gmne _ (by omega)) (gmne _ (by omega))
            have HS'' := hid_ hs''
            have D3x := D3w.grownby hg'' (gmne _ (by omega))
            have hgr2 : W2.grownBy w'' gm := grown_trans (grow3 hgr hbw2) hg''
            cases hf : fin nx
            · rw [hf] at hJ''
              have HJ'' := hid_ hJ''
              clear hJ'' hs''
              go_wp2_with fail
              go_roundw
              case rel => exact ⟨k + 1, nx, (rs.set j (x - 1)), by go_num, by omega, HG', hid_ (by rw [← HW.out, show N - k = (N - (k + 1)) + 1 by omega]; exact (walk_on HST.out hf).symm), HS''.out, HJ''.out, hgr2⟩
              case measure => simp [intOf]; omega
            · rw [hf] at hJ''
              have HJ'' := hid_ hJ''
              have g0 := hs''.box.cell 0
              have g1 := hs''.box.cell 1
              have x0 := D3x.cell 0
              have x1 := D3x.cell 1
              have y0 := D3x.free 0
              have y1 := D3x.free 1
              simp at g0 g1 x0 x1
              have hxl := D3x.lt
              clear hJ'' hs''
              go_wp2_with fail
              obtain ⟨e0, e1⟩ := res_cells D3x (.int .i64 (nx : Nat)) (.slice (some ⟨g, 0, none⟩) m cap)
              refine bodyPost_ret (v := .tuple #[.agg #[.int .i64 (nx : Nat), .slice (some ⟨g, 0, none⟩) m cap], .int .i64 ((k + 1 : Nat) : Int), .int .i64 0]) (by simp [results, Try.results21, go_sem, e0, e1]) rfl ?_
              have hbf := below_res (Below.refl w.heap.size w'') (q := w.heap.size + 1 + 1) (by omega) (.int .i64 (nx : Nat)) (.slice (some ⟨g, 0, none⟩) m cap)
              have hww := HW.out
              rw [show N - k = (N - k - 1) + 1 by omega, walk_met HST.out hf] at hww
              exact walked_some hww.symm (own_res HS''.out.row (by omega) _ _) (HE.out.keep _ _ _ HJ''.out hbf) (grow_all hw2 hgr2 hbf) (by omega)
        · clear hvi
          go_wp2_with fail
          obtain ⟨e0, e1⟩ := res_cells_a D3 (.int .i64 a) (.slice (some ⟨g, 0, none⟩) m cap) (.cells #[.int .i64 2, .int .i64 rg, .int .i64 nx, .int .i64 zr] 48)
          refine bodyPost_ret (v := .tuple #[.agg #[.int .i64 a, .slice (some ⟨g, 0, none⟩) m cap], .int .i64 k, .int .i64 0]) (by simp [results, Try.results21, go_sem, e0, e1]) rfl ?_
          have hbf := below_res_a (Below.refl w.heap.size wr) (q := w.heap.size + 1 + 1) (by omega) (by omega) (.int .i64 a) (.slice (some ⟨g, 0, none⟩) m cap) (.cells #[.int .i64 2, .int .i64 rg, .int .i64 nx, .int .i64 zr] 48)
          have hww := HW.out
          rw [show N - k = (N - k - 1) + 1 by omega, walk_halt (stp_halt HI.out)] at hww
          exact walked_some hww.symm ((own_res HS.out.row (by omega) _ _).alloc _) (HE.out.keep _ _ _ HJr.out hbf) (grow_all hw2 hgr hbf) (by omega)
      · have hkN : k = N := by omega
        go_wp2_with fail
        obtain ⟨e0, e1⟩ := res_cells D3 (.int .i64 a) (.slice (some ⟨g, 0, none⟩) m cap)
        refine bodyPost_ret (v := .tuple #[.agg #[.int .i64 a, .slice (some ⟨g, 0, none⟩) m cap], .int .i64 k, .int .i64 0]) (by simp [results, Try.results21, go_sem, e0, e1, hkN]) rfl ?_
        have hbf := below_res (Below.refl w.heap.size wr) (q := w.heap.size + 1 + 1) (by omega) (.int .i64 a) (.slice (some ⟨g, 0, none⟩) m cap)
        have hww := HW.out
        rw [show N - k = 0 by omega, walk_end] at hww
        exact walked_some hww.symm (own_res HS.out.row (by omega) _ _) (HE.out.keep _ _ _ HJr.out hbf) (grow_all hw2 hgr hbf) (by omega)
end Go.Proofs.Ytonammaecpapmaa.Cn

/- Contracts: Valid. -/
import Derived.Test.YtonammaecpapmaaCa

namespace Go.Proofs.Ytonammaecpapmaa.Cn
open Go.RowKit

theorem bsize1 {w w1 : World} {o : Obj} (hb : Below (w.alloc o).heap.size (w.alloc o) w1) : w.heap.size < w1.heap.size := by
  have := hb.size; simp at this; omega
theorem hid_ {p : Prop} (h : p) : Hid p := h

structure Ins where
  op : Int
  rg : Int
  nx : Int
  zr : Int

def vIns (R n : Int) (i : Ins) : Bool :=
  if i.op = 0 then vInc R n i.rg i.nx i.zr else if i.op = 1 then vDec R n i.rg i.nx i.zr else if i.op = 2 then vHalt i.rg i.nx i.zr else false

def vCode (R : Int) (code : List Ins) : Bool := decide (1 ≤ R ∧ R ≤ 16) && decide (1 ≤ code.length ∧ code.length ≤ 2000) && code.all (vIns R code.length)


/-- Block g is just these cells. -/
def Blk (w : World) (g : Nat) (t : TypeId) (cs : Array Value) : Prop := w.heap[g]? = some (.cells cs t (0, 0))
section
variable {w w' : World} {g : Nat} {t : TypeId} {cs : Array Value}
theorem Blk.lt (h : Blk w g t cs) : g < w.heap.size := lt_of_block h
theorem Blk.cell (h : Blk w g t cs) (i : Nat) : w.cell? ⟨g, i, none⟩ = cs[i]? := by unfold Blk at h; simp [World.cell?, h]
theorem Blk.free (h : Blk w g t cs) (i : Nat) : w.frozen? ⟨g, i, none⟩ = false := by unfold Blk at h; simp [World.frozen?, h]
theorem Blk.new (w : World) (t : TypeId) (cs : Array Value) : Blk (w.alloc (.cells cs t)) w.heap.size t cs := heap_alloc_new w _
theorem Blk.alloc (h : Blk w g t cs) (o : Obj) : Blk (w.alloc o) g t cs := (Below.heap_alloc w o g h.lt).trans h
theorem Blk.below {B : Nat} (h : Blk w g t cs) (hb : Below B w w') (hg : g < B) : Blk w' g t cs := (hb.block g hg).trans h
end

theorem cell_lt {w : World} {a : Addr} {v : Value} (h : w.cell? a = some v) : a.block < w.heap.size := by
  rcases Nat.lt_or_ge a.block w.heap.size with hlt | hge
  · exact hlt
  · rw [World.cell?, Array.getElem?_eq_none hge] at h
    cases h
/-- A cell that is there is there behind a call that leaves old memory alone. -/
theorem keepc {w w' : World} {a : Addr} {v : Value} (hb : Below w.heap.size w w') (h : w.cell? a = some v) : w'.cell? a = some v := (hb.cell (cell_lt h)).trans h
theorem keepa {w : World} {b j : Nat} {v : Value} (o : Obj) (h : w.cell? ⟨b, j, none⟩ = some v) : (w.alloc o).cell? ⟨b, j, none⟩ = some v := (World.cell?_alloc_past _ _ _ (cell_lt h)).trans h
theorem keep7 {w w' : World} {a1 a2 a3 a4 a5 a6 a7 : Addr} {v1 v2 v3 v4 v5 v6 v7 : Value} (hb : Below w.heap.size w w')
    (h : (w.cell? a1 = some v1 ∧ w.cell? a2 = some v2) ∧ w.cell? a3 = some v3 ∧ w.cell? a4 = some v4 ∧ w.cell? a5 = some v5 ∧ w.cell? a6 = some v6 ∧ w.cell? a7 = some v7) :
    (w'.cell? a1 = some v1 ∧ w'.cell? a2 = some v2) ∧ w'.cell? a3 = some v3 ∧ w'.cell? a4 = some v4 ∧ w'.cell? a5 = some v5 ∧ w'.cell? a6 = some v6 ∧ w'.cell? a7 = some v7 :=
  ⟨⟨keepc hb h.1.1, keepc hb h.1.2⟩, keepc hb h.2.1, keepc hb h.2.2.1, keepc hb h.2.2.2.1, keepc hb h.2.2.2.2.1, keepc hb h.2.2.2.2.2⟩

/-- Cells from a place on. -/
def CellsAt (w : World) (b off : Nat) (xs : List Value) : Prop := ∀ j v, xs[j]? = some v → w.cell? ⟨b, off + j, none⟩ = some v
theorem CellsAt.below {w w' : World} {b off B : Nat} {xs : List Value} (h : CellsAt w b off xs) (hb : Below B w w') (hg : b < B) : CellsAt w' b off xs :=
  fun j v hv => (hb.cell (p := ⟨b, off + j, none⟩) hg).trans (h j v hv)

def Ins.cells (i : Ins) : List Value := [.int .i64 i.op, .int .i64 i.rg, .int .i64 i.nx, .int .i64 i.zr]
def flat (code : List Ins) : List Value := code.flatMap Ins.cells

def CodeIn (w : World) (b off : Nat) (code : List Ins) : Prop := ∀ k i, code[k]? = some i →
    w.cell? ⟨b, off + k * 4, none⟩ = some (.int .i64 i.op) ∧ w.cell? ⟨b, off + k * 4 + 1, none⟩ = some (.int .i64 i.rg) ∧
    w.cell? ⟨b, off + k * 4 + 2, none⟩ = some (.int .i64 i.nx) ∧ w.cell? ⟨b, off + k * 4 + 3, none⟩ = some (.int .i64 i.zr)
theorem CodeIn.below {w w' : World} {b off B : Nat} {code : List Ins} (h : CodeIn w b off code) (hb : Below B w w') (hg : b < B) : CodeIn w' b off code := fun k i hk => by
  obtain ⟨h0, h1, h2, h3⟩ := h k i hk
  exact ⟨(hb.cell (p := ⟨b, off + k * 4, none⟩) hg).trans h0, (hb.cell (p := ⟨b, off + k * 4 + 1, none⟩) hg).trans h1, (hb.cell (p := ⟨b, off + k * 4 + 2, none⟩) hg).trans h2, (hb.cell (p := ⟨b, off + k * 4 + 3, none⟩) hg).trans h3⟩

theorem below_call {B : Nat} {w wr w' : World} {o : Obj} (h : Below B w wr) (hB : B ≤ wr.heap.size) (hb : Below (wr.alloc o).drew.heap.size (wr.alloc o).drew w') : Below B w w' :=
  (h.alloc hB o).drew.trans (hb.mono (by have : (wr.alloc o).drew.heap.size = wr.heap.size + 1 := by simp [World.drew]
                                         omega))
theorem all_step {code : List Ins} {p : Ins → Bool} {k : Nat} {i : Ins} (hi : code[k]? = some i) (ht : (code.take k).all p = true) (hp : p i = true) : (code.take (k + 1)).all p = true := by
  rw [List.take_add_one, hi, List.all_append, ht]
  simp [hp]
theorem all_not {code : List Ins} {p : Ins → Bool} {k : Nat} {i : Ins} (hi : code[k]? = some i) (hp : p i = false) : code.all p = false := by
  rw [List.all_eq_false]
  exact ⟨i, List.mem_of_getElem? hi, by simp [hp]⟩

set_option maxHeartbeats 1000000 in
theorem valid_in (R : Int) (b off : Nat) (n c : Nat) (code : List Ins) (w : World) (h1 : 1 ≤ R) (h2 : R ≤ 16) (h3 : 1 ≤ n) (h4 : n ≤ 2000) (hlen : code.length = n) (hb : b < w.heap.size)
    (hc : CodeIn w b off code) :
    Calls Try.prog 4 #[.agg #[.int .i64 R, .slice (some ⟨b, off, none⟩) n c]] w fun e w' =>
      e = .returned (.bool (code.all (vIns R code.length))) ∧ Below w.heap.size w w' := by
  have HC := hid_ hc; clear hc
  have HL := hid_ hlen; clear hlen
  go_enter Try.func4, Try.ntmps4
  go_wp2_with (go_at_call 11; refine (actions_any _).mono ?_; rintro e w1 ⟨rfl, hb1⟩; obtain ⟨hc1, hf1⟩ := bcell hb1; have hz := bsize1 hb1)
  clear hc1 hf1
  go_loopw [30] (fun s wr => ∃ k : Nat, s = .int .i64 k ∧ k ≤ n ∧ Hid (((code.take k).all (vIns R code.length)) = true) ∧ Below (w1.heap.size + 1) (w1.alloc (.cells #[.func (.func 23) #[] #[], .func (.func 24) #[] #[], .func (.func 25) #[] #[], .func (.func 26) #[] #[], .func (.func 27) #[] #[], .func (.func 28) #[] #[]] 45)) wr)
    (fun s _ => n - (intOf s).toNat)
  case atStart => exact ⟨0, rfl, Nat.zero_le _, hid_ (by simp), Below.refl _ _⟩
  case round =>
    obtain ⟨k, rfl, hk, HT, hbr⟩ := hrel
    have B1 : Blk wr w.heap.size 24 #[.int .i64 R, .slice (some ⟨b, off, none⟩) n c] := (((Blk.new w 24 _).below hb1 (by simp)).alloc _).below hbr (by omega)
    have B2 := (Blk.new w1 45 #[.func (.func 23) #[] #[], .func (.func 24) #[] #[], .func (.func 25) #[] #[], .func (.func 26) #[] #[], .func (.func 27) #[] #[], .func (.func 28) #[] #[]]).below hbr (by omega)
    have hbw : Below w.heap.size w wr := (((Below.refl _ w).alloc (Nat.le_refl _) _).trans (hb1.mono (by simp))).trans (((Below.refl _ w1).alloc (by omega) _).trans (hbr.mono (by omega)))
    have hC := (HC.out).below hbw hb
    have c1 := B1.cell 0
    have c2 := B1.cell 1
    simp at c1 c2
    by_cases hlt : k < n
    · obtain ⟨i, hi⟩ : ∃ i, code[k]? = some i := ⟨_, List.getElem?_eq_getElem (by rw [HL.out]; exact hlt)⟩
      obtain ⟨i0, i1, i2, i3⟩ := hC k i hi
      have HI := hid_ hi
      clear hi hC
      have t0 := B2.cell 0
      have t2 := B2.cell 2
      have t4 := B2.cell 4
      simp at t0 t2 t4
      obtain ⟨op, rg, nx, zr⟩ := i
      simp only at i0 i1 i2 i3
      have hsz := B2.lt
      by_cases ho0 : op = 0
      · subst ho0
        have k1 := keepa (.cells #[.int .i64 0, .int .i64 rg, .int .i64 nx, .int .i64 zr] 48) c1
        have k2 := keepa (.cells #[.int .i64 0, .int .i64 rg, .int .i64 nx, .int .i64 zr] 48) c2
        have k3 := keepa (.cells #[.int .i64 0, .int .i64 rg, .int .i64 nx, .int .i64 zr] 48) t0
        cases hv : vInc R n rg nx zr
        · go_wp2_with fail
          go_region_held3 (fun w' => (w'.cell? ⟨w.heap.size, 0, none⟩ = some (.int .i64 R) ∧ w'.cell? ⟨w.heap.size, 1, none⟩ = some (.slice (some ⟨b, off, none⟩) n c)) ∧ w'.cell? ⟨w1.heap.size, 0, none⟩ = some (.func (.func 23) #[] #[]) ∧ w'.cell? ⟨wr.heap.size, 0, none⟩ = some (.int .i64 0) ∧ w'.cell? ⟨wr.heap.size, 1, none⟩ = some (.int .i64 rg) ∧ w'.cell? ⟨wr.heap.size, 2, none⟩ = some (.int .i64 nx) ∧ w'.cell? ⟨wr.heap.size, 3, none⟩ = some (.int .i64 zr)) (first | (refine ⟨⟨k1, k2⟩, k3, ?_, ?_, ?_, ?_⟩ <;> simp [go_sem]) | (exact keep7 hb' (by assumption)))
            (first
              | (go_at_call 23; refine (validInc_any _ _ _ _ _ _ _ _ _).mono ?_; rintro e w' ⟨rfl, hb'⟩))
          go_wp2_with fail
          go_ret
          refine ⟨ret_bool ?_, below_call hbw (by omega) hb'⟩
          rw [all_not HI.out (by rw [HL.out]; simpa [vIns] using hv)]
        · go_wp2_with fail
          go_region_held3 (fun w' => (w'.cell? ⟨w.heap.size, 0, none⟩ = some (.int .i64 R) ∧ w'.cell? ⟨w.heap.size, 1, none⟩ = some (.slice (some ⟨b, off, none⟩) n c)) ∧ w'.cell? ⟨w1.heap.size, 0, none⟩ = some (.func (.func 23) #[] #[]) ∧ w'.cell? ⟨wr.heap.size, 0, none⟩ = some (.int .i64 0) ∧ w'.cell? ⟨wr.heap.size, 1, none⟩ = some (.int .i64 rg) ∧ w'.cell? ⟨wr.heap.size, 2, none⟩ = some (.int .i64 nx) ∧ w'.cell? ⟨wr.heap.size, 3, none⟩ = some (.int .i64 zr)) (first | (refine ⟨⟨k1, k2⟩, k3, ?_, ?_, ?_, ?_⟩ <;> simp [go_sem]) | (exact keep7 hb' (by assumption)))
            (first
              | (go_at_call 23; refine (validInc_any _ _ _ _ _ _ _ _ _).mono ?_; rintro e w' ⟨rfl, hb'⟩))
          go_wp2_with fail
          go_roundw
          case rel => exact ⟨k + 1, by go_num, by omega, hid_ (all_step HI.out HT.out (by rw [HL.out]; simpa [vIns] using hv)), below_call hbr (by omega) hb'⟩
          case measure => simp [intOf]; omega
      by_cases ho1 : op = 1
      · subst ho1
        have k1 := keepa (.cells #[.int .i64 1, .int .i64 rg, .int .i64 nx, .int .i64 zr] 48) c1
        have k2 := keepa (.cells #[.int .i64 1, .int .i64 rg, .int .i64 nx, .int .i64 zr] 48) c2
        have k3 := keepa (.cells #[.int .i64 1, .int .i64 rg, .int .i64 nx, .int .i64 zr] 48) t2
        cases hv : vDec R n rg nx zr
        · go_wp2_with fail
          go_region_held3 (fun w' => (w'.cell? ⟨w.heap.size, 0, none⟩ = some (.int .i64 R) ∧ w'.cell? ⟨w.heap.size, 1, none⟩ = some (.slice (some ⟨b, off, none⟩) n c)) ∧ w'.cell? ⟨w1.heap.size, 2, none⟩ = some (.func (.func 25) #[] #[]) ∧ w'.cell? ⟨wr.heap.size, 0, none⟩ = some (.int .i64 1) ∧ w'.cell? ⟨wr.heap.size, 1, none⟩ = some (.int .i64 rg) ∧ w'.cell? ⟨wr.heap.size, 2, none⟩ = some (.int .i64 nx) ∧ w'.cell? ⟨wr.heap.size, 3, none⟩ = some (.int .i64 zr)) (first | (refine ⟨⟨k1, k2⟩, k3, ?_, ?_, ?_, ?_⟩ <;> simp [go_sem]) | (exact keep7 hb' (by assumption)))
            (first
              | (go_at_call 25; refine (validDec_any _ _ _ _ _ _ _ _ _).mono ?_; rintro e w' ⟨rfl, hb'⟩))
          go_wp2_with fail
          go_ret
          refine ⟨ret_bool ?_, below_call hbw (by omega) hb'⟩
          rw [all_not HI.out (by rw [HL.out]; simpa [vIns] using hv)]
        · go_wp2_with fail
          go_region_held3 (fun w' => (w'.cell? ⟨w.heap.size, 0, none⟩ = some (.int .i64 R) ∧ w'.cell? ⟨w.heap.size, 1, none⟩ = some (.slice (some ⟨b, off, none⟩) n c)) ∧ w'.cell? ⟨w1.heap.size, 2, none⟩ = some (.func (.func 25) #[] #[]) ∧ w'.cell? ⟨wr.heap.size, 0, none⟩ = some (.int .i64 1) ∧ w'.cell? ⟨wr.heap.size, 1, none⟩ = some (.int .i64 rg) ∧ w'.cell? ⟨wr.heap.size, 2, none⟩ = some (.int .i64 nx) ∧ w'.cell? ⟨wr.heap.size, 3, none⟩ = some (.int .i64 zr)) (first | (refine ⟨⟨k1, k2⟩, k3, ?_, ?_, ?_, ?_⟩ <;> simp [go_sem]) | (exact keep7 hb' (by assumption)))
            (first
              | (go_at_call 25; refine (validDec_any _ _ _ _ _ _ _ _ _).mono ?_; rintro e w' ⟨rfl, hb'⟩))
          go_wp2_with fail
          go_roundw
          case rel => exact ⟨k + 1, by go_num, by omega, hid_ (all_step HI.out HT.out (by rw [HL.out]; simpa [vIns] using hv)), below_call hbr (by omega) hb'⟩
          case measure => simp [intOf]; omega
      by_cases ho2 : op = 2
      · subst ho2
        have k1 := keepa (.cells #[.int .i64 2, .int .i64 rg, .int .i64 nx, .int .i64 zr] 48) c1
        have k2 := keepa (.cells #[.int .i64 2, .int .i64 rg, .int .i64 nx, .int .i64 zr] 48) c2
        have k3 := keepa (.cells #[.int .i64 2, .int .i64 rg, .int .i64 nx, .int .i64 zr] 48) t4
        cases hv : vHalt rg nx zr
        · go_wp2_with fail
          go_region_held3 (fun w' => (w'.cell? ⟨w.heap.size, 0, none⟩ = some (.int .i64 R) ∧ w'.cell? ⟨w.heap.size, 1, none⟩ = some (.slice (some ⟨b, off, none⟩) n c)) ∧ w'.cell? ⟨w1.heap.size, 4, none⟩ = some (.func (.func 27) #[] #[]) ∧ w'.cell? ⟨wr.heap.size, 0, none⟩ = some (.int .i64 2) ∧ w'.cell? ⟨wr.heap.size, 1, none⟩ = some (.int .i64 rg) ∧ w'.cell? ⟨wr.heap.size, 2, none⟩ = some (.int .i64 nx) ∧ w'.cell? ⟨wr.heap.size, 3, none⟩ = some (.int .i64 zr)) (first | (refine ⟨⟨k1, k2⟩, k3, ?_, ?_, ?_, ?_⟩ <;> simp [go_sem]) | (exact keep7 hb' (by assumption)))
            (first
              | (go_at_call 27; refine (validHalt_any _ _ _ _ _ _ _ _ _).mono ?_; rintro e w' ⟨rfl, hb'⟩))
          go_wp2_with fail
          go_ret
          refine ⟨ret_bool ?_, below_call hbw (by omega) hb'⟩
          rw [all_not HI.out (by rw [HL.out]; simpa [vIns] using hv)]
        · go_wp2_with fail
          go_region_held3 (fun w' => (w'.cell? ⟨w.heap.size, 0, none⟩ = some (.int .i64 R) ∧ w'.cell? ⟨w.heap.size, 1, none⟩ = some (.slice (some ⟨b, off, none⟩) n c)) ∧ w'.cell? ⟨w1.heap.size, 4, none⟩ = some (.func (.func 27) #[] #[]) ∧ w'.cell? ⟨wr.heap.size, 0, none⟩ = some (.int .i64 2) ∧ w'.cell? ⟨wr.heap.size, 1, none⟩ = some (.int .i64 rg) ∧ w'.cell? ⟨wr.heap.size, 2, none⟩ = some (.int .i64 nx) ∧ w'.cell? ⟨wr.heap.size, 3, none⟩ = some (.int .i64 zr)) (first | (refine ⟨⟨k1, k2⟩, k3, ?_, ?_, ?_, ?_⟩ <;> simp [go_sem]) | (exact keep7 hb' (by assumption)))
            (first
              | (go_at_call 27; refine (validHalt_any _ _ _ _ _ _ _ _ _).mono ?_; rintro e w' ⟨rfl, hb'⟩))
          go_wp2_with fail
          go_roundw
          case rel => exact ⟨k + 1, by go_num, by omega, hid_ (all_step HI.out HT.out (by rw [HL.out]; simpa [vIns] using hv)), below_call hbr (by omega) hb'⟩
          case measure => simp [intOf]; omega
      have hvf : vIns R n ⟨op, rg, nx, zr⟩ = false := by simp [vIns, ho0, ho1, ho2]
      by_cases hneg : op < 0
      · go_wp2_with fail
        go_quiet (fail)
        go_wp2_with fail
        go_ret
        refine ⟨ret_bool ?_, below_drewN (hbw.alloc (by omega) _) _⟩
        rw [all_not HI.out (by rw [HL.out]; exact hvf)]
      · have hn1 : decide (op < 0) = false := by simpa using hneg
        have hn2 : decide (3 ≤ op) = true := by simp; omega
        go_wp2_with fail
        go_quiet (fail)
        go_wp2_with fail
        go_ret
        refine ⟨ret_bool ?_, below_drewN (hbw.alloc (by omega) _) _⟩
        rw [all_not HI.out (by rw [HL.out]; exact hvf)]
    · have hkn : k = n := by omega
      go_wp2_with fail
      go_ret
      refine ⟨ret_bool ?_, hbw⟩
      have := HT.out
      rw [hkn, ← HL.out, List.take_length, HL.out] at this
      rw [HL.out]
      exact this.symm

/-- A slice of instructions: nil or empty, or cells below block B. -/
structure CodeAt (w : World) (B : Nat) (A : Option Addr) (n : Nat) (code : List Ins) : Prop where
  len : code.length = n
  at_ : 0 < n → ∃ b off, A = some ⟨b, off, none⟩ ∧ b < B ∧ CodeIn w b off code
theorem CodeAt.below {w w' : World} {B B' : Nat} {A : Option Addr} {n : Nat} {code : List Ins} (h : CodeAt w B A n code) (hb : Below B' w w') (hB : B ≤ B') : CodeAt w' B A n code :=
  ⟨h.len, fun hn => by
    obtain ⟨b, off, e, hlt, hc⟩ := h.at_ hn
    exact ⟨b, off, e, hlt, hc.below hb (by omega)⟩⟩

set_option maxHeartbeats 1000000 in
theorem valid_any (R : Int) (A : Option Addr) (n c : Nat) (code : List Ins) (w : World) (hc : CodeAt w w.heap.size A n code) :
    Calls Try.prog 4 #[.agg #[.int .i64 R, .slice A n c]] w fun e w' => e = .returned (.bool (vCode R code)) ∧ Below w.heap.size w w' := by
  have hl := hc.len
  by_cases hok : 1 ≤ R ∧ R ≤ 16 ∧ 1 ≤ n ∧ n ≤ 2000
  · obtain ⟨r1, r2, n1, n2⟩ := hok
    obtain ⟨b, off, rfl, hlt, hin⟩ := hc.at_ (by omega)
    refine (valid_in R b off n c code w r1 r2 n1 n2 hl hlt hin).mono ?_
    rintro e w' ⟨rfl, hb⟩
    refine ⟨ret_bool ?_, hb⟩
    have e1 : decide (1 ≤ R ∧ R ≤ 16) = true := by simp [r1, r2]
    have e2 : decide (1 ≤ code.length ∧ code.length ≤ 2000) = true := by simp; omega
    rw [vCode, e1, e2]
    rfl
  · have hv : vCode R code = false := by
      rw [vCode, hl]
      by_cases h1 : 1 ≤ R ∧ R ≤ 16
      · have : decide (1 ≤ n ∧ n ≤ 2000) = false := by simp; omega
        rw [this]; simp
      · rw [decide_eq_false h1]; rfl
    have HV := hid_ hv
    clear hv hl hc
    by_cases h1 : R < 1
    · go_enter Try.func4, Try.ntmps4
      go_wp2_with fail
      go_ret
      exact ⟨ret_bool HV.out.symm, (Below.refl _ w).alloc (Nat.le_refl _) _⟩
    · by_cases h2 : 16 < R
      · go_enter Try.func4, Try.ntmps4
        go_wp2_with fail
        go_ret
        exact ⟨ret_bool HV.out.symm, (Below.refl _ w).alloc (Nat.le_refl _) _⟩
      · by_cases h3 : n < 1
        · have h3' : (n : Int) < 1 := by omega
          go_enter Try.func4, Try.ntmps4
          go_wp2_with fail
          go_ret
          exact ⟨ret_bool HV.out.symm, (Below.refl _ w).alloc (Nat.le_refl _) _⟩
        · have h3' : ¬ (n : Int) < 1 := by omega
          have h4' : 2000 < (n : Int) := by omega
          go_enter Try.func4, Try.ntmps4
          go_wp2_with fail
          go_ret
          exact ⟨ret_bool HV.out.symm, (Below.refl _ w).alloc (Nat.le_refl _) _⟩
end Go.Proofs.Ytonammaecpapmaa.Cn

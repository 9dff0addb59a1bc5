/- Contracts: on of package standstilltop (memory grows). -/
import Derived.Test.YtkbaiegfloajlaaUd
namespace Go.Proofs.Ytkbaiegfloajlaa.Tp
open Go.RowKit

section
variable {w w' : World} {B go : Nat} {m : MachS} {v : Value} {r : RunT}
theorem RAt.cells (h : RAt w B go m v r) : ∃ (A : Option Addr) (c : Nat), (w.cell? ⟨go, 2, none⟩ = some v ∧ w.cell? ⟨go, 3, none⟩ = some (.int .i64 r.st) ∧ w.cell? ⟨go, 4, none⟩ = some (.int .i64 r.pos) ∧ w.cell? ⟨go, 5, none⟩ = some (.slice A r.cells.length c) ∧
    w.cell? ⟨go, 6, none⟩ = some (.int .i64 r.zero) ∧ w.cell? ⟨go, 7, none⟩ = some (.int .i64 r.steps)) ∧ (∀ i, w.frozen? ⟨go, i, none⟩ = false) ∧
    w.ownsRow B 3 1 (.slice A r.cells.length c) r.cells.length (ints r.cells) ∧ B ≤ go ∧ some go ≠ (Value.slice A r.cells.length c).ownBlock ∧ Blk w go 37 #[.int .i64 m.states, .int .i64 m.symbols, v, .int .i64 r.st, .int .i64 r.pos, .slice A r.cells.length c, .int .i64 r.zero, .int .i64 r.steps] := by
  obtain ⟨A, c, h1, h2, h3, h4⟩ := h
  exact ⟨A, c, ⟨h1.cell 2, h1.cell 3, h1.cell 4, h1.cell 5, h1.cell 6, h1.cell 7⟩, h1.free, h2, h3, h4, h1⟩
theorem RAt.dN (h : RAt w B go m v r) (n : Nat) : RAt (w.drewN n) B go m v r := h
theorem RAt.set3 (h : RAt w B go m v r) (x : Int) : RAt (w.setCell ⟨go, 3, none⟩ (.int .i64 x)) B go m v { r with st := x } := by
  obtain ⟨A, c, h1, h2, h3, h4⟩ := h
  exact ⟨A, c, by simpa using h1.set_ 3 (.int .i64 x), ownsRow_setCell_other (a := ⟨go, 3, none⟩) h2 h4.symm _, h3, h4⟩
theorem RAt.set4 (h : RAt w B go m v r) (x : Int) : RAt (w.setCell ⟨go, 4, none⟩ (.int .i64 x)) B go m v { r with pos := x } := by
  obtain ⟨A, c, h1, h2, h3, h4⟩ := h
  exact ⟨A, c, by simpa using h1.set_ 4 (.int .i64 x), ownsRow_setCell_other (a := ⟨go, 4, none⟩) h2 h4.symm _, h3, h4⟩
theorem RAt.set6 (h : RAt w B go m v r) (x : Int) : RAt (w.setCell ⟨go, 6, none⟩ (.int .i64 x)) B go m v { r with zero := x } := by
  obtain ⟨A, c, h1, h2, h3, h4⟩ := h
  exact ⟨A, c, by simpa using h1.set_ 6 (.int .i64 x), ownsRow_setCell_other (a := ⟨go, 6, none⟩) h2 h4.symm _, h3, h4⟩
theorem RAt.set7 (h : RAt w B go m v r) (x : Int) : RAt (w.setCell ⟨go, 7, none⟩ (.int .i64 x)) B go m v { r with steps := x } := by
  obtain ⟨A, c, h1, h2, h3, h4⟩ := h
  exact ⟨A, c, by simpa using h1.set_ 7 (.int .i64 x), ownsRow_setCell_other (a := ⟨go, 7, none⟩) h2 h4.symm _, h3, h4⟩
/-- A new row for the cells. -/
theorem RAt.set5 (h : RAt w B go m v r) {A : Option Addr} {c : Nat} {xs : List Int} (ho : w.ownsRow B 3 1 (.slice A xs.length c) xs.length (ints xs)) (hne : some go ≠ (Value.slice A xs.length c).ownBlock) : RAt (w.setCell ⟨go, 5, none⟩ (.slice A xs.length c)) B go m v { r with cells := xs } := by
  obtain ⟨A', c', h1, h2, h3, h4⟩ := h
  exact ⟨A, c, by simpa using h1.set_ 5 (.slice A xs.length c), ownsRow_setCell_other (a := ⟨go, 5, none⟩) ho hne.symm _, h3, hne⟩
theorem RAt.put {c g : Nat} (h : RAt w B go m v r) (k : Nat) (x : Int) (hc : w.cell? ⟨go, 5, none⟩ = some (.slice (some ⟨g, 0, none⟩) r.cells.length c)) :
    RAt (w.setCell ⟨g, k, none⟩ (.int .i64 x)) B go m v { r with cells := r.cells.set k x } := by
  obtain ⟨A', c', h1, h2, h3, h4⟩ := h
  have e := h1.cell 5
  simp at e
  rw [hc] at e
  simp only [Option.some.injEq, Value.slice.injEq, true_and] at e
  obtain ⟨rfl, rfl⟩ := e
  refine ⟨some ⟨g, 0, none⟩, c, ?_, ?_, h3, ?_⟩
  · have := h1.far (p := ⟨g, k, none⟩) (fun e => h4 (by simp [Value.ownBlock, e])) (.int .i64 x)
    simpa using this
  · have := (h2.stored k (.int .i64 x)).1
    rw [ints_set] at this
    simpa using this
  · simpa using h4
end

set_option maxRecDepth 100000 in
set_option maxHeartbeats 8000000 in
theorem on_any (m : MachS) (v : Value) (N B go : Nat) (w : World) (hm : MachIn w B v m) (hv : validM m = true) (h : RAt w B go m v startT) (hN : N ≤ 100000) (hBw : B ≤ w.heap.size) :
    Calls Try.prog 7 #[.pointer (some ⟨go, 0, none⟩), .int .i64 N] w fun e w' => ∃ k d r lo hi, e = .returned (.tuple #[]) ∧ RAt w' B go m v r ∧ Below B w w' ∧ Rel m k d r lo hi ∧ k ≤ N ∧ (k = N ∨ d.st = -1) := by
  have HM := hid_ hm
  have HV := hid_ hv
  have HH := hid_ h
  have HR0 := hid_ (rel_start hv)
  obtain ⟨A2, c2, rfl⟩ := hm.rules.form
  clear hm hv h
  go_enter Try.func7, Try.ntmps7
  go_wp2_with fail
  go_loopg [] N (fun g wr => ∃ (k : Nat) (d : CfgS) (r : RunT) (lo hi : Int), k + g = N ∧ Hid (RAt wr B go m (.slice A2 m.rules.length c2) r) ∧ Hid (Rel m k d r lo hi) ∧ Below B w wr)
  case atStart => exact ⟨0, _, _, _, _, by omega, HH, HR0, Below.refl _ _⟩
  case round =>
    obtain ⟨k, d, r, lo, hi, hkg, HR, HL, hbr⟩ := hrel
    obtain ⟨A, c, ⟨c2', c3, c4, c5, c6, c7⟩, hf, hown, hB, hne, hbx⟩ := HR.out.cells
    have e1 := HL.out.st
    have e2 := HL.out.pos
    have e3 := HL.out.steps
    rw [e1] at c3
    rw [e2] at c4
    rw [e3] at c7
    have hk100 : k ≤ 100000 := by omega
    clear hf hown hne hbx e1 e2 e3
    by_cases hst : d.st = -1
    · have g1 : (d.st != -1) = false := by simpa using hst
      have HST := hid_ hst
      clear hst
      go_wp2_with fail
      go_end0
      exact ⟨k, d, r, lo, hi, rfl, HR.out, hbr, HL.out, by omega, .inr HST.out⟩
    · have g1 : (d.st != -1) = true := by simpa using hst
      have HST := hid_ hst
      clear hst
      by_cases hkN : k < N
      · obtain ⟨g', rfl⟩ : ∃ g', gk = g' + 1 := ⟨gk - 1, by omega⟩
        obtain ⟨v1, v2, v3, v4, v5, v6, v7, v8, v9⟩ := wide_ok HL.out
        have hzl := HL.out.zero
        have hle := HL.out.len
        have hle0 := HL.out.len0
        have hnear := HL.out.visit.near
        have HWD : Hid (r.wide = if d.pos + r.zero < 0 ∨ (r.cells.length : Int) ≤ d.pos + r.zero then { r with zero := r.zero + r.cells.length, cells := List.replicate r.cells.length 0 ++ r.cells ++ List.replicate r.cells.length 0 } else r) := hid_ (by rw [RunT.wide, HL.out.pos])
        have HPOS := hid_ HL.out.pos
        have m1 : IntKind.i64.wrap (d.pos + r.zero) = d.pos + r.zero := IntWalk.i64_in _ (by omega)
        have V7 := hid_ v7
        clear v1 v2 v3 v7
        go_upto_region 1 with fail
        go_cut [4] (fun s wx => s = .int .i64 (d.pos + r.zero) ∧ ∃ n, wx = wr.drewN n)
        case first => as_aux_lemma =>
          go_quiet (fail)
          go_wp2_with fail
          go_meet
          exact ⟨rfl, _, rfl⟩
        case rest => as_aux_lemma =>
          obtain ⟨rfl, n1, rfl⟩ := hcut
          replace HR := hid_ (HR.out.dN n1)
          replace hbr : Below B w (wr.drewN n1) := below_drewN hbr n1
          obtain ⟨A, c, ⟨c2', c3, c4, c5, c6, c7⟩, hf, hown, _, hne, hbx⟩ := HR.out.cells
          have hsz : B ≤ (wr.drewN n1).heap.size := Nat.le_trans hBw hbr.size
          have hgo : go < (wr.drewN n1).heap.size := hbx.lt
          generalize wr.drewN n1 = W at *
          rw [HPOS.out] at c4
          clear hf hown hne hbx c2' c3 c7
          go_upto_region 2 with fail
          go_cut [39] (fun s wx => s = .bool (decide (d.pos + r.zero < 0 ∨ (r.cells.length : Int) ≤ d.pos + r.zero)) ∧ ∃ n, wx = W.drewN n)
          case first => as_aux_lemma =>
            by_cases o1 : d.pos + r.zero < 0
            · have O1 := hid_ o1
              go_wp2_with fail
              go_meet
              first | exact ⟨by simp [O1.out], 0, rfl⟩ | exact ⟨by simp [O1.out], 1, rfl⟩
            · by_cases o2 : (r.cells.length : Int) ≤ d.pos + r.zero
              · have O1 := hid_ o1
                have O2 := hid_ o2
                go_wp2_with fail
                go_meet
                first | exact ⟨by simp [O2.out], 0, rfl⟩ | exact ⟨by simp [O2.out], 1, rfl⟩
              · have O1 := hid_ o1
                have O2 := hid_ o2
                go_wp2_with fail
                go_meet
                first | exact ⟨by simp [O1.out, O2.out], 0, rfl⟩ | exact ⟨by simp [O1.out, O2.out], 1, rfl⟩
          case rest => as_aux_lemma =>
            obtain ⟨rfl, n2, rfl⟩ := hcut
            replace HR := hid_ (HR.out.dN n2)
            replace hbr : Below B w (W.drewN n2) := below_drewN hbr n2
            obtain ⟨A, c, ⟨_, c3, c4, c5, c6, c7⟩, hf, hown, _, hne, hbx⟩ := HR.out.cells
            replace hsz : B ≤ (W.drewN n2).heap.size := Nat.le_trans hBw hbr.size
            replace hgo : go < (W.drewN n2).heap.size := hbx.lt
            generalize W.drewN n2 = W at *
            rw [HPOS.out] at c4
            clear hf hown hne hbx c3 c7
            go_upto_if 39 with fail
            go_cut [4] (fun s wx => s = .int .i64 (d.pos + r.wide.zero) ∧ RAt wx B go m (.slice A2 m.rules.length c2) r.wide ∧ Below B w wx)
            case first => as_aux_lemma =>
              obtain ⟨i0, hi0, hz0, hz1, hz2⟩ := info_parts Try.infoI
              have HS : Hid ((Try.prog.info? 3).map (·.size) = some 1) := hid_ (by kernel_rfl)
              by_cases hout : d.pos + r.zero < 0 ∨ (r.cells.length : Int) ≤ d.pos + r.zero
              · have hd : decide (d.pos + r.zero < 0 ∨ (r.cells.length : Int) ≤ d.pos + r.zero) = true := by simpa using hout
                have HOUT := hid_ hout
                clear hout
                obtain ⟨P, hP⟩ : ∃ P : Nat, P = 3 * r.cells.length := ⟨_, rfl⟩
                have hPi : (3 : Int) * (r.cells.length : Int) = (P : Int) := by omega
                have hPb : P ≤ 2000000 := by omega
                obtain ⟨Ln, hLn⟩ : ∃ Ln, Ln = r.cells.length := ⟨_, rfl⟩
                have HLN := hid_ hLn
                have HPP := hid_ hP
                have hne1 : ¬ P = r.cells.length := by omega
                have r2 : (r.cells.length : Int) ≤ (P : Int) := by omega
                have hlen1 : r.cells.length ≤ P - r.cells.length := by omega
                clear hLn hP
                go_upto_region 4 with (at_make; refine wpList_make_full _ rfl _ _ 30 rfl W.heap.size 3 i0 (.int .i64 0) 1 Try.underlying30 hi0 hz0 hz1 .i64 .i64 P P P rfl rfl rfl rfl (by rw [hz2]; omega) (by unfold maxLen; omega) (Nat.le_refl _) ?_; intro w3 hown hgr)
                have hb3 := make_below hgr
                have hblk : ∃ cur, w3.heap[W.heap.size]? = some (.cells cur 3 (0, 0)) ∧ cur.size = P ∧ cur.toList = List.replicate P (.int .i64 0) := by
                  rw [show (madeCells (Value.int .i64 0).cells (P * 1)).toList = List.replicate P (.int .i64 0) from by rw [Nat.mul_one]; exact toList_madeCells_one _ _] at hown
                  rcases hown.2 with ⟨hv, _⟩ | ⟨g, cap, cur, hv, hg, hh, _, _, h4, h5⟩
                  · cases hv
                  · simp only [Value.slice.injEq, Option.some.injEq, Addr.mk.injEq, and_true, true_and] at hv
                    obtain ⟨rfl, rfl⟩ := hv
                    rw [Nat.mul_one] at h4 h5
                    refine ⟨cur, hh, h4, ?_⟩
                    rw [← h5, List.take_of_length_le (by simp [h4])]
                obtain ⟨cur, hcur, hcs, hcl⟩ := hblk
                have HCUR := hid_ hcur
                have HCS := hid_ hcs
                have HCL := hid_ hcl
                have HR3 := hid_ (HR.out.to hb3)
                have hbw3 : Below B w w3 := hbr.trans (hb3.mono hsz)
                obtain ⟨A3, cc3, ⟨_, _, _, c5', c6', _⟩, _, hown', _, hne3, hbx'⟩ := HR3.out.cells
                have hsrc : 0 < r.cells.length → ∃ ad, A3 = some ad ∧ ∀ j v, (ints r.cells)[j]? = some v → w3.cell? (ad.add j) = some v := fun hp => by
                  obtain ⟨g, rfl, hg⟩ := own_addr hown' hp
                  refine ⟨_, rfl, fun j v hv => ?_⟩
                  have hj : j < r.cells.length := by have := (List.getElem?_eq_some_iff.1 hv).1; rwa [ints_len] at this
                  rw [addr_add, Nat.zero_add, hown'.cellAt j (by omega)]
                  exact hv
                have HSRC := hid_ hsrc
                have HBX := hid_ hbx'
                have HN3 := hid_ hne3
                have hlen2 : r.cells.length + r.cells.length ≤ cur.size := by rw [hcs]; omega
                clear hown hgr hcur hcs hcl hown' hne3 hbx' hsrc c4 c5 c6
                go_region_held3 (fun w' => w'.cell? ⟨go, 5, none⟩ = some (.slice A3 r.cells.length cc3))
                  (first | assumption | exact c5' | exact (hg4.cell_far _ (cell_lt c5') (fun e => by have := Option.some.inj e; simp at this; omega)).trans c5')
                  (first | (refine step_copy_off (by rfl) _ _ 30 (by rfl) 3 Try.underlying30 HS.out W.heap.size r.cells.length (P - r.cells.length) (P - r.cells.length) r.cells.length cc3 A3 (by rfl) (by rfl) cur 3 HCUR.out (ints r.cells) ints_len hlen1 hlen2 HSRC.out ints_one ?_; intro w4 hh4 hg4 hs4))
                replace hg4 : w3.grownBy w4 (some W.heap.size) := ⟨hg4.os, hg4.tape, hg4.output, hg4.size, hg4.block⟩
                have hne9 : some go ≠ some W.heap.size := fun e => by
                  have := Option.some.inj e
                  omega
                have B4 := HBX.out.grownby hg4 hne9
                have hown4 : w4.ownsRow B 3 1 (.slice A3 r.cells.length cc3) r.cells.length (ints r.cells) ∨ True := .inr trivial
                have b4 := B4.cell 4
                have b5 := B4.cell 5
                have b6 := B4.cell 6
                have g5 := B4.free 5
                have g6 := B4.free 6
                simp at b4 b5 b6
                rw [HPOS.out] at b4
                have HB4 := hid_ B4
                have HH4 := hid_ hh4
                have hbw4 : Below B w w4 := hbw3.trans (Below.grown (Below.refl B w3) hg4 (Nat.le_trans hsz hb3.size) (fun k hk => by cases hk; exact hsz))
                have m9 : IntKind.i64.wrap (r.zero + (r.cells.length : Int)) = r.zero + (r.cells.length : Int) := IntWalk.i64_in _ (by omega)
                have m8 : IntKind.i64.wrap (d.pos + (r.zero + (r.cells.length : Int))) = d.pos + (r.zero + (r.cells.length : Int)) := IntWalk.i64_in _ (by omega)
                clear B4 hh4 hs4 c5' c6' hown4
                go_upto_region 5 with fail
                go_region
                have HB5 : Hid (Blk (w4.setCell ⟨go, 6, none⟩ (.int .i64 (r.zero + (r.cells.length : Int)))).drew go 37 #[.int .i64 m.states, .int .i64 m.symbols, .slice A2 m.rules.length c2, .int .i64 r.st, .int .i64 r.pos, .slice A3 r.cells.length cc3, .int .i64 (r.zero + (r.cells.length : Int)), .int .i64 r.steps]) := hid_ (by
                  have := HB4.out.set_ 6 (.int .i64 (r.zero + (r.cells.length : Int)))
                  simp at this
                  exact this)
                have hbw5 : Below B w (w4.setCell ⟨go, 6, none⟩ (.int .i64 (r.zero + (r.cells.length : Int)))).drew := (below_set hbw4 hB 6 _).drew
                have HH5 : Hid ((w4.setCell ⟨go, 6, none⟩ (.int .i64 (r.zero + (r.cells.length : Int)))).drew.heap[W.heap.size]? = some (.cells (cur.toList.take r.cells.length ++ ints r.cells ++ cur.toList.drop (r.cells.length + r.cells.length)).toArray 3 (0, 0))) := hid_ ((Below.heap_setCell w4 ⟨go, 6, none⟩ _ W.heap.size (fun e => hne9 (by rw [e]))).trans HH4.out)
                clear HB4 hbw4 HH4 b4 b5 b6 g5 g6 m9 hg4
                generalize (w4.setCell ⟨go, 6, none⟩ (.int .i64 (r.zero + (r.cells.length : Int)))).drew = w5 at *
                have b4 := HB5.out.cell 4
                have b5 := HB5.out.cell 5
                have b6 := HB5.out.cell 6
                have g5 := HB5.out.free 5
                simp at b4 b5 b6
                rw [HPOS.out] at b4
                go_upto_region 7 with fail
                have k4 : (w5.setCell ⟨go, 5, none⟩ (.slice (some ⟨W.heap.size, 0, none⟩) P P)).cell? ⟨go, 4, none⟩ = some (.int .i64 d.pos) := by
                  have := (HB5.out.set_ 5 (.slice (some ⟨W.heap.size, 0, none⟩) P P)).cell 4
                  simp at this
                  rw [this, HPOS.out]
                have k6 : (w5.setCell ⟨go, 5, none⟩ (.slice (some ⟨W.heap.size, 0, none⟩) P P)).cell? ⟨go, 6, none⟩ = some (.int .i64 (r.zero + (r.cells.length : Int))) := by
                  have := (HB5.out.set_ 5 (.slice (some ⟨W.heap.size, 0, none⟩) P P)).cell 6
                  simp at this
                  exact this
                have hw : r.wide = { r with zero := r.zero + r.cells.length, cells := List.replicate r.cells.length 0 ++ r.cells ++ List.replicate r.cells.length 0 } := by rw [HWD.out, if_pos HOUT.out]
                have hlP : (List.replicate r.cells.length 0 ++ r.cells ++ List.replicate r.cells.length 0).length = P := by
                  have := HPP.out
                  simp
                  omega
                have hlist : cur.toList.take r.cells.length ++ ints r.cells ++ cur.toList.drop (r.cells.length + r.cells.length) = ints (List.replicate r.cells.length 0 ++ r.cells ++ List.replicate r.cells.length 0) := by
                  have h1 := HPP.out
                  rw [HCL.out]
                  simp only [ints, List.map_append, List.map_replicate, List.take_replicate, List.drop_replicate]
                  rw [show min r.cells.length P = r.cells.length by omega, show P - (r.cells.length + r.cells.length) = r.cells.length by omega]
                have hRW : RAt (w5.setCell ⟨go, 5, none⟩ (.slice (some ⟨W.heap.size, 0, none⟩) P P)) B go m (.slice A2 m.rules.length c2) r.wide := by
                  have own5 := own_of (w := w5) (base := B) (n := P) hsz HH5.out (by rw [hlist, List.size_toArray, ints_len, hlP]) (by unfold maxLen; omega)
                  have hneg : (Value.slice (some ⟨W.heap.size, 0, none⟩) P P).ownBlock ≠ some go := fun e => by
                    simp [Value.ownBlock] at e
                    omega
                  rw [hw]
                  refine ⟨some ⟨W.heap.size, 0, none⟩, P, ?_, ?_, hB, ?_⟩
                  · simp only
                    rw [hlP]
                    simpa using HB5.out.set_ 5 (.slice (some ⟨W.heap.size, 0, none⟩) P P)
                  · simp only
                    rw [hlP, ← hlist]
                    exact ownsRow_setCell_other (a := ⟨go, 5, none⟩) own5 hneg _
                  · simp only
                    rw [hlP]
                    exact hneg.symm
                have HRW := hid_ hRW
                have hbw6 := below_set hbw5 hB 5 (.slice (some ⟨W.heap.size, 0, none⟩) P P)
                have HZW : Hid (r.wide.zero = r.zero + (r.cells.length : Int)) := hid_ (by rw [hw])
                clear hRW hw hlP hlist b4 b5 b6 g5
                generalize (w5.setCell ⟨go, 5, none⟩ (.slice (some ⟨W.heap.size, 0, none⟩) P P)) = w6 at *
                go_quiet (fail)
                go_wp2_with fail
                go_meet
                exact ⟨by rw [HZW.out], HRW.out.dN _, below_drewN hbw6 _⟩
              · have hd : decide (d.pos + r.zero < 0 ∨ (r.cells.length : Int) ≤ d.pos + r.zero) = false := by simpa using hout
                have hw : r.wide = r := by rw [HWD.out, if_neg hout]
                have HW := hid_ hw
                clear hw hout
                rw [hd]
                clear hd
                go_wp2_with fail
                go_meet
                exact ⟨by rw [HW.out], by rw [HW.out]; exact HR.out, hbr⟩
            case rest => as_aux_lemma =>
              obtain ⟨rfl, hRX, hbX⟩ := hcut
              obtain ⟨X, rfl⟩ : ∃ X : World, X = wc := ⟨_, rfl⟩
              have HRX := hid_ hRX
              obtain ⟨v1, v2, v3, v4, v5, v6, v7, v8, v9⟩ := wide_ok HL.out
              obtain ⟨wd1, wd2, _, _, _, _, wd7⟩ := within_iff.1 HL.out.within
              obtain ⟨_, _, q3, _, q5, _⟩ := validM_parts HV.out
              have hcl := (symB_cells (b := d.frm) (by omega)).1 wd7
              have hst0 : 0 ≤ d.st := by
                have := HST.out
                omega
              obtain ⟨s, hse⟩ := Int.eq_ofNat_of_zero_le hst0
              obtain ⟨y, hye⟩ := Int.eq_ofNat_of_zero_le (hcl d.pos).1
              obtain ⟨row, x, hrow, hr, hat, hrb, hrl⟩ := rule_at HV.out (s := s) (x := y) (by omega) (by have := (hcl d.pos).2; omega)
              have NXT := next_ok HV.out HL.out HST.out (by omega)
              rw [hse, hye, hat] at NXT
              have HNX := hid_ NXT
              clear NXT
              obtain ⟨i, hi⟩ := Int.eq_ofNat_of_zero_le v8
              have HI := hid_ hi
              have HRB := hid_ (ruleB_yes.1 hrb).2.2.2.2
              obtain ⟨A, c, ⟨c2', c3, c4, c5, c6, c7⟩, hf, hown, _, hne, hbx⟩ := HRX.out.cells
              rw [v1, hse] at c3
              rw [v2] at c4
              rw [v3] at c7
              obtain ⟨g, rfl, hg⟩ := own_addr hown (by omega)
              have hil : i < r.wide.cells.length := by omega
              have hyi : r.wide.cells[i]? = some (y : Int) := by
                obtain ⟨z, hz⟩ : ∃ z, r.wide.cells[i]? = some z := ⟨_, List.getElem?_eq_getElem hil⟩
                have h1 := cellAt_get (b := -r.wide.zero) (p := d.pos) (by omega) hz
                rw [v7, hye] at h1
                rw [hz, h1]
              have hci : X.cell? ⟨g, i, none⟩ = some (.int .i64 (y : Int)) := by
                rw [hown.cellAt i (by omega), ints, List.getElem?_map, hyi]
                rfl
              obtain ⟨b2, o2, rfl, hb2⟩ := HM.out.rules.addr (by omega)
              obtain ⟨Ar, dr, hcr, hEr⟩ := HM.out.rules.row hrow
              obtain ⟨br, or, rfl, hb3, hcell⟩ := hEr.at_ (by omega)
              obtain ⟨i1, i2, i3⟩ := hcell y x hr
              replace hcr := (World.cell?_of_block (hbX.block b2 hb2)).trans hcr
              replace i1 := (World.cell?_of_block (hbX.block br hb3)).trans i1
              replace i2 := (World.cell?_of_block (hbX.block br hb3)).trans i2
              replace i3 := (World.cell?_of_block (hbX.block br hb3)).trans i3
              have t1 : 0 ≤ (s : Int) := by omega
              have t2 : (s : Int) < m.rules.length := by omega
              have t3 : 0 ≤ (y : Int) := by omega
              have hys := (hcl d.pos).2
              rw [hye] at hys
              have t4 : (y : Int) < row.length := by omega
              have hgo : go < X.heap.size := hbx.lt
              rw [hi]
              have l1 : 0 ≤ (i : Int) := by omega
              have l2 : (i : Int) < r.wide.cells.length := by omega
              have HBX := hid_ hbX
              clear v1 v2 v3 v4 v5 v6 v7 v8 v9 wd1 wd2 wd7 q3 q5 hcl hse hye hrow hr hat hrb hrl hi c4 c6 c7 hf hown hne hbx hyi hEr hcell hst0 hys hbX hRX
              go_upto_region 8 with fail
              go_cut [6] (fun s6 wx => s6 = .pointer (some ⟨X.heap.size, 0, none⟩) ∧ Blk wx X.heap.size 43 #[.int .i64 x.w, .int .i64 x.m, .int .i64 x.n] ∧ Below X.heap.size X wx)
              case first => as_aux_lemma =>
                have n1 := World.new_ne X _ c2'
                have n2 := World.new_ne X _ hci
                have n3 := World.new_ne X _ hcr
                have n4 := World.new_ne X _ i1
                simp only at n1 n2 n3 n4
                go_region_held3 (fun w' => w'.cell? ⟨go, 2, none⟩ = some (.slice (some ⟨b2, o2, none⟩) m.rules.length c2) ∧ w'.cell? ⟨go, 3, none⟩ = some (.int .i64 (s : Int)) ∧ w'.cell? ⟨go, 5, none⟩ = some (.slice (some ⟨g, 0, none⟩) r.wide.cells.length c) ∧ w'.cell? ⟨g, i, none⟩ = some (.int .i64 (y : Int)) ∧ w'.cell? ⟨b2, o2 + s, none⟩ = some (.slice (some ⟨br, or, none⟩) row.length dr) ∧ w'.cell? ⟨br, or + y * 3, none⟩ = some (.int .i64 x.w) ∧ w'.cell? ⟨br, or + y * 3 + 1, none⟩ = some (.int .i64 x.m) ∧ w'.cell? ⟨br, or + y * 3 + 2, none⟩ = some (.int .i64 x.n))
                  (first | assumption | exact ⟨c2', c3, c5, hci, hcr, i1, i2, i3⟩ | go_keep)
                  (fail)
                all_goals
                  go_wp2_with fail
                  go_meet
                  exact ⟨rfl, Blk.new _ _ _, (below1 X _).drew⟩
              case rest => as_aux_lemma =>
                obtain ⟨rfl, hBK, hb8⟩ := hcut
                obtain ⟨Y, rfl⟩ : ∃ Y : World, Y = wc := ⟨_, rfl⟩
                have hXs : B ≤ X.heap.size := Nat.le_trans hBw HBX.out.size
                have HRY := hid_ (HRX.out.to hb8)
                have hbY : Below B w Y := HBX.out.trans (hb8.mono hXs)
                obtain ⟨v1, v2, v3, v4, v5, v6, v7, v8, v9⟩ := wide_ok HL.out
                have HNE : Hid (r.wide.next x = ⟨x.n, d.pos + x.m, r.wide.zero, (k : Int) + 1, r.wide.cells.set i x.w⟩) := hid_ (by rw [RunT.next, v2, v3, HI.out, Int.toNat_natCast])
                have V2 := hid_ v2
                have V3 := hid_ v3
                have k5 := keepc hb8 c5
                have kci := keepc hb8 hci
                obtain ⟨A', c', ⟨_, _, _, k5', _, _⟩, kf, kown, _, kne, kbx⟩ := HRY.out.cells
                rw [k5] at k5'
                simp only [Option.some.injEq, Value.slice.injEq, true_and] at k5'
                obtain ⟨rfl, rfl⟩ := k5'
                have fk := kown.frozenAt i
                have hgX : X.heap.size ≠ g := fun e => by
                  have := cell_lt hci
                  simp only at this
                  omega
                have hpos1 : -100000 ≤ d.pos ∧ d.pos ≤ 100000 := by
                  have := HL.out.visit.near
                  omega
                have e0 := hBK.cell 0
                simp at e0
                have HBK := hid_ hBK
                have HP := hid_ (HRY.out.put i x.w k5)
                clear v1 v2 v3 v4 v5 v6 v7 v8 v9 c2' c3 c5 hci hcr i1 i2 i3 kf kown kne kbx hBK hb8 t1 t2 t3 t4
                go_upto_region 9 with fail
                go_region
                have HP2 : Hid (RAt (Y.setCell ⟨g, i, none⟩ (.int .i64 x.w)).drew B go m (.slice (some ⟨b2, o2, none⟩) m.rules.length c2) { r.wide with cells := r.wide.cells.set i x.w }) := hid_ (HP.out.dN 1)
                have HBK2 : Hid (Blk (Y.setCell ⟨g, i, none⟩ (.int .i64 x.w)).drew X.heap.size 43 #[.int .i64 x.w, .int .i64 x.m, .int .i64 x.n]) := hid_ ((HBK.out.far hgX _).dN 1)
                have hb9 : Below B w (Y.setCell ⟨g, i, none⟩ (.int .i64 x.w)).drew := (below_set hbY hg i _).drew
                clear HP HBK hbY k5 kci fk e0 l1 l2
                generalize (Y.setCell ⟨g, i, none⟩ (.int .i64 x.w)).drew = Z at *
                obtain ⟨A1, c1, ⟨_, _, k4, _, _, _⟩, kf, -, -, -, -⟩ := HP2.out.cells
                have f4 := kf 4
                have e1 := HBK2.out.cell 1
                simp at e1
                simp only at k4
                rw [V2.out] at k4
                have m1 : IntKind.i64.wrap (d.pos + x.m) = d.pos + x.m := IntWalk.i64_in _ (by rcases HRB.out with e | e <;> rw [e] <;> omega)
                clear kf
                go_upto_region 10 with fail
                go_region
                have HP3 : Hid (RAt (Z.setCell ⟨go, 4, none⟩ (.int .i64 (d.pos + x.m))).drew B go m (.slice (some ⟨b2, o2, none⟩) m.rules.length c2) { r.wide with cells := r.wide.cells.set i x.w, pos := d.pos + x.m }) := hid_ ((HP2.out.set4 (d.pos + x.m)).dN 1)
                have HBK3 : Hid (Blk (Z.setCell ⟨go, 4, none⟩ (.int .i64 (d.pos + x.m))).drew X.heap.size 43 #[.int .i64 x.w, .int .i64 x.m, .int .i64 x.n]) := hid_ ((HBK2.out.far (by show X.heap.size ≠ go; omega) _).dN 1)
                have hb10 : Below B w (Z.setCell ⟨go, 4, none⟩ (.int .i64 (d.pos + x.m))).drew := (below_set hb9 hB 4 _).drew
                clear HP2 HBK2 hb9 k4 f4 e1 m1
                generalize (Z.setCell ⟨go, 4, none⟩ (.int .i64 (d.pos + x.m))).drew = Z1 at *
                obtain ⟨A1', c1', ⟨_, k3, _, _, _, _⟩, kf, -, -, -, -⟩ := HP3.out.cells
                have f3 := kf 3
                have e2 := HBK3.out.cell 2
                simp at e2
                clear kf
                go_upto_region 12 with fail
                have HP4 : Hid (RAt (Z1.setCell ⟨go, 3, none⟩ (.int .i64 x.n)) B go m (.slice (some ⟨b2, o2, none⟩) m.rules.length c2) { r.wide with cells := r.wide.cells.set i x.w, pos := d.pos + x.m, st := x.n }) := hid_ (HP3.out.set3 x.n)
                have hb11 : Below B w (Z1.setCell ⟨go, 3, none⟩ (.int .i64 x.n)) := below_set hb10 hB 3 _
                clear HP3 HBK3 hb10 k3 f3 e2
                generalize Z1.setCell ⟨go, 3, none⟩ (.int .i64 x.n) = Z2 at *
                obtain ⟨A2', c2', ⟨_, _, _, _, _, k7⟩, kf, -, -, -, -⟩ := HP4.out.cells
                have f7 := kf 7
                simp only at k7
                rw [V3.out] at k7
                have m2 : IntKind.i64.wrap ((k : Int) + 1) = (k : Int) + 1 := IntWalk.i64_in _ (by omega)
                clear kf
                go_wp2_with fail
                go_roundg g'
                have HP5 := HP4.out.set7 ((k : Int) + 1)
                obtain ⟨e, lo', hi', hN⟩ := HNX.out
                refine ⟨k + 1, e, r.wide.next x, lo', hi', by omega, hid_ ?_, hid_ hN, below_set hb11 hB 7 _⟩
                · rw [HNE.out]
                  exact HP5
                case measure => omega

      · go_wp2_with fail
        go_end0
        exact ⟨k, d, r, lo, hi, rfl, HR.out, hbr, HL.out, by omega, .inl (by omega)⟩
end Go.Proofs.Ytkbaiegfloajlaa.Tp

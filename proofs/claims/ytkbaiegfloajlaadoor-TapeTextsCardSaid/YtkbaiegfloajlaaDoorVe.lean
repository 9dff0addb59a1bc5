/- Contracts: Parse of package tape, at the text of a machine. -/
import Derived.Test.YtkbaiegfloajlaaDoorVd
import Derived.Test.YtkbaiegfloajlaaDoorSh
import Derived.Test.YtkbaiegfloajlaaDoorTi
namespace Go.Proofs.YtkbaiegfloajlaaDoor.Tp
open Go.RowKit

/-- A machine whose rules are owned. -/
def MOwn (w : World) (B : Nat) (v : Value) (m : MachS) : Prop := ∃ (vs : List Value) (g n c : Nat), v = .slice (some ⟨g, 0, none⟩) n c ∧ w.ownsRow B 72 1 v n vs ∧ OwnRows w B vs m.rules
theorem MOwn.to {w w' : World} {B : Nat} {v : Value} {m : MachS} (h : MOwn w B v m) (hb : Below w.heap.size w w') : MOwn w' B v m := by
  obtain ⟨vs, g, n, c, rfl, h1, h2⟩ := h
  exact ⟨vs, g, n, c, rfl, own_below h1 hb, h2.below hb⟩
theorem MOwn.set {w : World} {B b i : Nat} {v : Value} {m : MachS} (h : MOwn w B v m) (hb : b < B) (x : Value) : MOwn (w.setCell ⟨b, i, none⟩ x) B v m := by
  obtain ⟨vs, g, n, c, rfl, h1, h2⟩ := h
  refine ⟨vs, g, n, c, rfl, ownsRow_setCell_other (a := ⟨b, i, none⟩) h1 (fun e => ?_) _, h2.set hb _⟩
  have := own_lt h1 _ e
  simp only at this
  omega
theorem MOwn.mach {w : World} {B : Nat} {v : Value} {m : MachS} (h : MOwn w B v m) (hv : validM m = true) : MachIn w w.heap.size v m := by
  obtain ⟨vs, g, n, c, rfl, h1, h2⟩ := h
  obtain ⟨_, _, _, v4, v5, v6⟩ := validM_parts hv
  refine ⟨h2.rules2 h1, by omega, fun r hr => ?_⟩
  have hb := (List.all_eq_true.1 v6) _ hr
  simp only [rowB, Bool.and_eq_true, decide_eq_true_eq] at hb
  omega
theorem bnext' {w w1 w2 : World} (h : Below w.heap.size w w1) (h2 : Below w1.heap.size w1 w2) : Below w.heap.size w w2 := bnext h h2
/-- What lies in memory while Parse goes through the parts of a text. -/
structure PSt (w : World) (ps : List ByteArray) (rows : List (List RuleS)) (k : Nat) (v : Value) (vs : List Value) (wr : World) : Prop where
  res : Blk wr w.heap.size 24 #[.int .i64 0, .int .i64 0, .slice none 0 0]
  box : Blk wr (w.heap.size + 1) 24 #[.int .i64 0, .int .i64 0, v]
  own : wr.ownsRow (w.heap.size + 3) 72 1 v k vs
  rws : OwnRows wr (w.heap.size + 3) vs (rows.take k)
  pcs : Blk wr (w.heap.size + 2) 9 (ps.map Value.string).toArray
  bel : Below w.heap.size w wr
theorem PSt.to {w wr X : World} {ps : List ByteArray} {rows : List (List RuleS)} {k : Nat} {v : Value} {vs : List Value} (h : PSt w ps rows k v vs wr) (hb : Below wr.heap.size wr X) : PSt w ps rows k v vs X :=
  ⟨h.res.to hb, h.box.to hb, own_below h.own hb, h.rws.below hb, h.pcs.to hb, h.bel.trans (hb.mono h.bel.size)⟩
theorem PSt.lt {w wr : World} {ps : List ByteArray} {rows : List (List RuleS)} {k : Nat} {v : Value} {vs : List Value} (h : PSt w ps rows k v vs wr) : w.heap.size + 3 ≤ wr.heap.size := h.pcs.lt
theorem PSt.next {w wr Z : World} {ps : List ByteArray} {rows : List (List RuleS)} {k g c B : Nat} {v v' : Value} {vs : List Value} {row : List RuleS} {o : Obj} (h : PSt w ps rows k v vs wr) (hu : wr.ownsRow B 74 3 (.slice (some ⟨g, 0, none⟩) row.length c) row.length (rcellsL row)) (hB : w.heap.size + 3 ≤ B) (hr : rows[k]? = some row)
    (hg : (wr.alloc o).grownBy Z v.ownBlock) (hown : Z.ownsRow (w.heap.size + 3) 72 1 v' (k + 1) (vs ++ [.slice (some ⟨g, 0, none⟩) row.length c])) : PSt w ps rows (k + 1) v' (vs ++ [.slice (some ⟨g, 0, none⟩) row.length c]) (Z.setCell ⟨w.heap.size + 1, 2, none⟩ v') := by
  have hv : ∀ q, v.ownBlock = some q → w.heap.size + 3 ≤ q := own_lt h.own
  have hv' : ∀ q, v'.ownBlock = some q → w.heap.size + 3 ≤ q := own_lt hown
  have hne : ∀ g cur, (wr.alloc o).heap[g]? = some (.cells cur 74 (0, 0)) → v.ownBlock ≠ some g := fun g cur hh e => by
    rcases (h.own.alloc o).2 with ⟨hn, _⟩ | ⟨q, cap, cu, hvv, _, hq, _⟩
    · rw [hn] at e; simp [Value.ownBlock] at e
    · rw [hvv] at e
      simp only [Value.ownBlock, Option.some.injEq] at e
      subst e
      rw [hq] at hh
      simp at hh
  have hw : w.heap.size ≤ wr.heap.size := h.bel.size
  refine ⟨?_, ?_, ?_, ?_, ?_, ?_⟩
  · exact ((h.res.alloc o).grownby hg (fun e => by have := hv _ e.symm; omega)).far (by show w.heap.size ≠ w.heap.size + 1; omega) _
  · have := ((h.box.alloc o).grownby hg (fun e => by have := hv _ e.symm; omega)).set_ 2 v'
    simpa using this
  · exact ownsRow_setCell_other (a := ⟨w.heap.size + 1, 2, none⟩) hown (fun e => by have := hv' _ e; simp only at this; omega) _
  · have hrk : rows.take (k + 1) = rows.take k ++ [row] := by rw [List.take_add_one, hr]; rfl
    rw [hrk]
    refine OwnRows.set (OwnRows.snoc ((h.rws.below (below1 wr o)).kept hg hne) ?_) (by omega) _
    have h1 := (hu.alloc o).kept hg (.inr fun e => by
      rcases (hu.alloc o).2 with ⟨hn, _⟩ | ⟨q, cap, cu, hvv, _, hq, _⟩
      · cases hn
      · simp only [Value.slice.injEq, Option.some.injEq, Addr.mk.injEq, and_true, true_and] at hvv
        obtain ⟨rfl, rfl⟩ := hvv
        exact hne g cu hq e.symm)
    exact own_base h1 hB
  · exact ((h.pcs.alloc o).grownby hg (fun e => by have := hv _ e.symm; omega)).far (by show w.heap.size + 2 ≠ w.heap.size + 1; omega) _
  · refine Below.setCell (Below.grown (h.bel.alloc hw o) hg (by simp; omega) (fun q hq => by have := hv _ hq; omega)) (by show w.heap.size ≤ w.heap.size + 1; omega) _

set_option maxRecDepth 100000 in
set_option maxHeartbeats 4000000 in
theorem parse_ok (s : ByteArray) (ps : List ByteArray) (m : MachS) (mx : Int) (w : World) (hmx : w.cell? ⟨0, 0, none⟩ = some (.int .i64 mx)) (hs : s.size ≤ 78) (hcnt : Lib.countB s ⟨#[95]⟩ + 1 = ps.length) (hspl : Lib.splitB ⟨#[95]⟩ 0 (Lib.countB s ⟨#[95]⟩) s = ps)
    (h3 : ∀ p ∈ ps, p.size % 3 = 0 ∧ p.size ≤ 78) (hrules : m.rules = ps.map fun p => chunksL p.data.toList) (hsym : ∀ r, m.rules[0]? = some r → (r.length : Int) = m.symbols) (hv : validM m = true) :
    Calls Tryd.prog 22 #[.string s] w fun e w' => ∃ v, e = .returned (.tuple #[.agg #[.int .i64 m.states, .int .i64 m.symbols, v], .int .i64 0]) ∧ MachIn w' w'.heap.size v m ∧ Below w.heap.size w w' := by
  obtain ⟨v1, v2, v3, v4, v5, _⟩ := validM_parts hv
  have hpl : ps.length = m.rules.length := by rw [hrules, List.length_map]
  have hlen : ps.length ≤ 6 := by omega
  have hlen1 : 1 ≤ ps.length := by omega
  have HV := hid_ hv
  have H3 := hid_ h3
  have HRU := hid_ hrules
  have HSY := hid_ hsym
  have HPL := hid_ hpl
  have HST : Hid ((ps.length : Int) = m.states) := hid_ (by rw [hpl, v5])
  have hbW : Below w.heap.size w ((w.alloc (.cells #[.int .i64 0, .int .i64 0, .slice none 0 0] 24)).alloc (.cells #[.int .i64 0, .int .i64 0, .slice none 0 0] 24)) := below2 w _ _
  have B1 := (Blk.new w 24 #[.int .i64 0, .int .i64 0, .slice none 0 0]).alloc (.cells #[.int .i64 0, .int .i64 0, .slice none 0 0] 24)
  have B2 := Blk.new (w.alloc (.cells #[.int .i64 0, .int .i64 0, .slice none 0 0] 24)) 24 #[.int .i64 0, .int .i64 0, .slice none 0 0]
  have hsz1 : (w.alloc (.cells #[.int .i64 0, .int .i64 0, .slice none 0 0] 24)).heap.size = w.heap.size + 1 := by simp
  have hsz2 : ((w.alloc (.cells #[.int .i64 0, .int .i64 0, .slice none 0 0] 24)).alloc (.cells #[.int .i64 0, .int .i64 0, .slice none 0 0] 24)).heap.size = w.heap.size + 2 := by simp
  rw [hsz1] at B2
  have hmx2 := keepc hbW hmx
  have t78 : ¬ (78 : Int) < (s.size : Int) := by omega
  have t78b : ¬ 78 < s.size := by omega
  clear v1 v2 v3 v4 v5 hv h3 hrules hsym hpl hsz1 hmx
  go_enter Tryd.func22, Tryd.ntmps22
  go_upto_region 4 with fail
  have HB1 := hid_ B1
  have HB2 := hid_ B2
  have HBW := hid_ hbW
  have HMX := hid_ hmx2
  have HSZ := hid_ hsz2
  clear B1 B2 hbW hmx2 hsz2
  generalize (w.alloc (.cells #[.int .i64 0, .int .i64 0, .slice none 0 0] 24)).alloc (.cells #[.int .i64 0, .int .i64 0, .slice none 0 0] 24) = W at *
  go_wp2_with fail
  refine (Tryd.strings_Split s ⟨#[95]⟩ mx W (by omega) HMX.out (by decide)).mono ?_
  rw [hspl, hcnt]
  rintro e V ⟨rfl, rfl⟩
  have HP0 : Hid (PSt w ps m.rules 0 (.slice none 0 0) [] (W.alloc (.cells (ps.map Value.string).toArray 9))) := hid_ ⟨HB1.out.alloc _, HB2.out.alloc _, own_nil _ _ _, OwnRows.nil _ _, by have := Blk.new W 9 (ps.map Value.string).toArray; rwa [HSZ.out] at this, HBW.out.alloc HBW.out.size _⟩
  have hszE := HSZ.out
  clear HB1 HB2 HBW HMX HSZ hspl hcnt t78 t78b
  rw [hszE]
  generalize W.alloc (.cells (ps.map Value.string).toArray 9) = V at *
  clear hszE
  obtain ⟨iR, hiR, hzR0, hzR1, hzR2⟩ := info_parts Tryd.infoR
  obtain ⟨iL, hiL, hzL0, hzL1, hzL2⟩ := info_parts Tryd.infoRL
  go_wp2_with fail
  go_loopw [16] (fun s wr => ∃ (k : Nat) (v : Value) (vs : List Value), s = .int .i64 (k : Int) ∧ k ≤ ps.length ∧ Hid (PSt w ps m.rules k v vs wr)) (fun s _ => ps.length - (RowKit.intOf s).toNat)
  case atStart => exact ⟨0, _, _, rfl, Nat.zero_le _, HP0⟩
  case round =>
    obtain ⟨k, v, vs, rfl, hk, HP⟩ := hrel
    by_cases hkl : k < ps.length
    · obtain ⟨p, hp⟩ : ∃ p, ps[k]? = some p := ⟨_, List.getElem?_eq_getElem hkl⟩
      obtain ⟨hp3, hp78⟩ := H3.out p (List.mem_of_getElem? hp)
      obtain ⟨n, hn⟩ : ∃ n : Nat, p.size = 3 * n := ⟨p.size / 3, by omega⟩
      have hrow : m.rules[k]? = some (chunksL p.data.toList) := by rw [HRU.out, List.getElem?_map, hp]; rfl
      have hrl : (chunksL p.data.toList).length = n := by
        rw [chunksL_len]
        have : p.data.toList.length = p.size := rfl
        omega
      have hcp : wr.cell? ⟨w.heap.size + 2, k, none⟩ = some (.string p) := by
        rw [HP.out.pcs.cell k]
        simp [hp]
      have hpi : ((p.size : Nat) : Int) = 3 * (n : Int) := by omega
      have hr : ((p.size : Nat) : Int).tmod 3 = 0 := by rw [hpi]; exact Int.mul_tmod_right 3 n
      have hq : ((p.size : Nat) : Int).tdiv 3 = (n : Int) := by rw [hpi]; exact Int.mul_tdiv_cancel_left _ (by decide)
      have hn20 : n ≤ 26 := by omega
      clear hpi
      have t0 : 0 ≤ (k : Int) := by omega
      obtain ⟨MC, hMC⟩ : ∃ MC, MC = madeCells (Value.agg #[.int .i64 0, .int .i64 0, .int .i64 0]).cells (n * 3) := ⟨_, rfl⟩
      have hmk : ∀ X : World, (Instr.makeSlice 72 (.int .i64 0) (.int .i64 (n : Int))).run Tryd.prog X = .ok (.slice (some ⟨X.heap.size, 0, none⟩) 0 n) (X.alloc (.cells MC 74)) := fun X => by
        have := run_make (P := Tryd.prog) (w := X) 72 74 iR (.agg #[.int .i64 0, .int .i64 0, .int .i64 0]) Tryd.underlying72 hiR hzR0 .i64 .i64 0 n (by omega) (by omega) (by rw [hzR2]; omega) (by omega)
        rw [hMC]
        simpa [hzR1] using this
      have hMS : MC.size = n * 3 := by
        rw [hMC]
        simp [madeCells]
      have HMS := hid_ hMS
      have HN := hid_ hn
      have HROW := hid_ hrow
      have HRL := hid_ hrl
      have HPK := hid_ hp
      clear hMC hMS hrow hrl hp hn hp3
      have hlw := HP.out.lt
      obtain ⟨X, rfl⟩ : ∃ X : World, X = wr := ⟨_, rfl⟩
      go_upto_region 10 with fail
      have HR0 : Hid ((X.alloc (.cells MC 74)).ownsRow X.heap.size 74 3 (.slice (some ⟨X.heap.size, 0, none⟩) 0 n) 0 (rcellsL ((chunksL p.data.toList).take 0))) := hid_ (own_cap3 (heap_alloc_new X _) (Nat.le_refl _) HMS.out (by unfold maxLen; omega))
      have hb0 : Below X.heap.size X (X.alloc (.cells MC 74)) := below1 X _
      clear hmk HMS hr hq hcp
      generalize X.alloc (.cells MC 74) = Y0 at *
      go_wp2_with fail
      go_loopw [7, 8] (fun a b wx => ∃ (j i : Nat) (A : Option Addr) (c : Nat), a = .slice A j c ∧ b = .int .i64 (i : Int) ∧ j ≤ n ∧ Hid (i = 3 * j) ∧ Hid (wx.ownsRow X.heap.size 74 3 (.slice A j c) j (rcellsL ((chunksL p.data.toList).take j))) ∧ Below X.heap.size X wx) (fun _ b _ => p.size - (RowKit.intOf b).toNat)
      case atStart => exact ⟨0, 0, _, _, rfl, rfl, Nat.zero_le _, hid_ rfl, HR0, hb0⟩
      case round =>
        obtain ⟨j, i, A, c, rfl, rfl, hj, HI, HU, hbx⟩ := hrel
        by_cases hjl : j < n
        · have hil : i + 3 ≤ p.size := by
            have h1 := HI.out; have h2 := HN.out; omega
          have hpl2 : p.data.toList.length = p.size := rfl
          obtain ⟨x, y, z, g1, g2, g3, g4⟩ := chunksL_get j p.data.toList (by have h1 := HI.out; rw [hpl2]; omega)
          rw [← HI.out] at g1 g2 g3
          have hext := extract3 g1 g2 g3
          have HG4 := hid_ g4
          have m1 : IntKind.i64.wrap ((i : Int) + 3) = ((i + 3 : Nat) : Int) := by rw [IntWalk.i64_in _ (by omega)]; omega
          have t1 : i < p.size := by omega
          have t2 : 0 ≤ (i : Int) := by omega
          clear g1 g2 g3 g4 hpl2
          have h63 : j + 1 ≤ maxLen := by unfold maxLen; omega
          have hby : (j + 1) * 24 ≤ 140737488355328 := by omega
          have hXs := HP.out.lt
          go_upto_region 12 with (first
            | (go_at_call 55; (with_reducible refine (prule_any x y z wr).mono ?_); rintro e Z ⟨rfl, hbz⟩; have HUZ := hid_ (own_below HU.out hbz); have hbxz := bnext hbx hbz; clear hbz)
            | (at_builtin; refine wpList_append_own_at _ rfl _ _ 72 rfl X.heap.size 74 iR (.agg #[.int .i64 0, .int .i64 0, .int .i64 0]) 3 24 Tryd.underlying72 hiR hzR0 hzR1 hzR2 rfl (by omega) (.slice A j c) j _ rfl (HUZ.out.alloc _) ⟨Z.heap.size, 0, none⟩ 1 1 (rcells (pruleB x y z)) rfl rfl (newsA Z _ (rcells (pruleB x y z))) (rcells_one _) h63 hby (Nat.le_trans hbxz.size (by simp)) ?_; intro u2 Z2 hown2 hg2 _ hat2))
          have HU3 : Hid (Z2.ownsRow X.heap.size 74 3 u2 (j + 1) (rcellsL ((chunksL p.data.toList).take (j + 1)))) := hid_ (by rw [rcellsL_take HG4.out]; exact hown2)
          have hbx2 : Below X.heap.size X Z2 := Below.grown (hbxz.alloc hbxz.size _) hg2 (Nat.le_trans hbxz.size (by simp)) (own_lt HUZ.out)
          obtain ⟨A2, c2, rfl⟩ := own_form HU3.out
          clear hown2 hg2 hat2 HUZ hbxz HG4 hext
          go_wp2_with fail
          go_roundw
          case rel => exact ⟨j + 1, i + 3, A2, c2, rfl, by go_num, by omega, hid_ (by have := HI.out; omega), HU3, hbx2⟩
          case measure => simp [RowKit.intOf]; omega
        · obtain rfl : j = n := by omega
          have hi3 : i = p.size := by have h1 := HI.out; have h2 := HN.out; omega
          have hd : decide (i < p.size) = false := by simp; omega
          have hlt : ¬ i < p.size := by omega
          obtain ⟨v1, v2, v3, v4, v5, v6⟩ := validM_parts HV.out
          have hrw : (2 : Int) ≤ (j : Int) := by
            have hb := (List.all_eq_true.1 v6) _ (List.mem_of_getElem? HROW.out)
            simp only [rowB, Bool.and_eq_true, decide_eq_true_eq] at hb
            have := HRL.out
            omega
          have HRT : Hid (rcellsL ((chunksL p.data.toList).take j) = rcellsL (chunksL p.data.toList)) := hid_ (by rw [List.take_of_length_le (by rw [HRL.out]; omega)])
          have HPW := hid_ (HP.out.to hbx)
          obtain ⟨g, rfl, hgX⟩ := own_addr HU.out (by omega)
          have HU2 : Hid (wr.ownsRow X.heap.size 74 3 (.slice (some ⟨g, 0, none⟩) (chunksL p.data.toList).length c) (chunksL p.data.toList).length (rcellsL (chunksL p.data.toList))) := hid_ (by rw [HRL.out, ← HRT.out]; exact HU.out)
          have hXs := HP.out.lt
          clear v1 v2 v3 v4 v5 v6 hi3
          obtain ⟨row, hrow⟩ : ∃ row, row = chunksL p.data.toList := ⟨_, rfl⟩
          rw [← hrow] at HU2 HROW HRL
          clear HRT HU hrow hbx HP HPK HN HI
          have hj2 := HRL.out
          clear HRL
          subst hj2
          obtain ⟨Av, cv, rfl⟩ := own_form HPW.out.own
          have b2 := HPW.out.box.cell 2
          simp at b2
          have hws : w.heap.size + 3 ≤ wr.heap.size := HPW.out.lt
          have h63 : k + 1 ≤ maxLen := by unfold maxLen; omega
          have hby : (k + 1) * 24 ≤ 140737488355328 := by omega
          go_upto_region 15 with (at_builtin; go_loud (refine wpList_append_own_at _ rfl _ _ 22 rfl (w.heap.size + 3) 72 iL (.slice none 0 0) 1 24 Tryd.underlying22 hiL hzL0 hzL1 hzL2 rfl (by omega) (.slice Av k cv) k _ rfl (HPW.out.own.alloc _) ⟨wr.heap.size, 0, none⟩ 1 1 [.slice (some ⟨g, 0, none⟩) row.length c] rfl rfl (newsA wr _ [.slice (some ⟨g, 0, none⟩) row.length c]) (by simp [Value.oneCell']) h63 hby (Nat.le_trans hws (by simp)) ?_); intro v2 Z hown2 hg2 _ hat2; have HNX := hid_ (HPW.out.next HU2.out hXs HROW.out hg2 hown2); obtain ⟨A3, c3, rfl⟩ := own_form hown2; have BZ := (HPW.out.box.alloc (.cells #[.slice (some ⟨g, 0, none⟩) row.length c] 72)).grownby hg2 (fun e => by have := own_lt HPW.out.own _ e.symm; omega); have z2 := BZ.cell 2; have y2 := BZ.free 2; simp at z2; clear hown2 hg2 hat2 BZ)
          go_wp2_with fail
          go_roundw
          case rel => exact ⟨k + 1, _, _, by go_num, by omega, HNX⟩
          case measure => simp [RowKit.intOf]; omega
    · obtain rfl : k = ps.length := by omega
      obtain ⟨Av, cv, rfl⟩ := own_form HP.out.own
      obtain ⟨gv, rfl, hgv⟩ := own_addr HP.out.own (by omega)
      have HRW : Hid (OwnRows wr (w.heap.size + 3) vs m.rules) := hid_ (by have := HP.out.rws; rwa [HPL.out, List.take_length] at this)
      have hml : 0 < m.rules.length := by have := HPL.out; omega
      obtain ⟨r0, hr0⟩ : ∃ r0, m.rules[0]? = some r0 := ⟨_, List.getElem?_eq_getElem hml⟩
      have HS0 := hid_ (HSY.out r0 hr0)
      obtain ⟨A0, d0, hq0, -⟩ := (HRW.out.rules2 HP.out.own).row hr0
      have b0 := HP.out.box.cell 0
      have b1 := HP.out.box.cell 1
      have b2 := HP.out.box.cell 2
      have f0 := HP.out.box.free 0
      have f1 := HP.out.box.free 1
      simp at b0 b1 b2 hq0
      have hlw := HP.out.lt
      have t1 : (0 : Int) < (ps.length : Int) := by omega
      have hgw : gv ≠ w.heap.size + 1 := by omega
      have HVA : Hid (∀ v X, MachIn X X.heap.size v m → Calls Tryd.prog 11 #[.agg #[.int .i64 (ps.length : Int), .int .i64 (r0.length : Int), v]] X fun e w' => e = .returned (.bool true) ∧ Below X.heap.size X w') := hid_ (fun v X h => by
        have := valid_any m v X h
        rw [HST.out, HS0.out]
        rwa [HV.out] at this)
      clear hr0 hml
      go_upto_region 16 with fail
      go_region
      have HU : Hid (PSt w ps m.rules ps.length (.slice (some ⟨gv, 0, none⟩) ps.length cv) vs wr) := HP
      obtain ⟨U, hU⟩ : ∃ U, U = ((wr.setCell ⟨w.heap.size + 1, 0, none⟩ (.int .i64 (ps.length : Int))).setCell ⟨w.heap.size + 1, 1, none⟩ (.int .i64 (r0.length : Int))).drew := ⟨_, rfl⟩
      rw [← hU]
      have HBU : Hid (Blk U (w.heap.size + 1) 24 #[.int .i64 (ps.length : Int), .int .i64 (r0.length : Int), .slice (some ⟨gv, 0, none⟩) ps.length cv]) := hid_ (by
        rw [hU]
        have : Blk ((wr.setCell ⟨w.heap.size + 1, 0, none⟩ (.int .i64 (ps.length : Int))).setCell ⟨w.heap.size + 1, 1, none⟩ (.int .i64 (r0.length : Int))) (w.heap.size + 1) 24 #[.int .i64 (ps.length : Int), .int .i64 (r0.length : Int), .slice (some ⟨gv, 0, none⟩) ps.length cv] := by simpa using (HP.out.box.set_ 0 (.int .i64 (ps.length : Int))).set_ 1 (.int .i64 (r0.length : Int))
        exact this)
      have HRU2 : Hid (Blk U w.heap.size 24 #[.int .i64 0, .int .i64 0, .slice none 0 0]) := hid_ (by
        rw [hU]
        exact (((HP.out.res.far (by show w.heap.size ≠ w.heap.size + 1; omega) _).far (by show w.heap.size ≠ w.heap.size + 1; omega) _).dN 1))
      have HOU : Hid (MOwn U (w.heap.size + 3) (.slice (some ⟨gv, 0, none⟩) ps.length cv) m) := hid_ (by
        rw [hU]
        exact MOwn.set (MOwn.set ⟨vs, gv, ps.length, cv, rfl, HP.out.own, HRW.out⟩ (by omega) _) (by omega) _)
      have hbU : Below w.heap.size w U := by
        rw [hU]
        exact (((HP.out.bel.setCell (by show w.heap.size ≤ w.heap.size + 1; omega) _).setCell (by show w.heap.size ≤ w.heap.size + 1; omega) _).drew)
      clear hU HU HP HRW b0 b1 b2 f0 f1 hq0 hgw hgv
      have b0 := HBU.out.cell 0
      have b1 := HBU.out.cell 1
      have b2 := HBU.out.cell 2
      simp at b0 b1 b2
      go_upto_region 19 with (go_at_call 11; (with_reducible refine (HVA.out _ U (HOU.out.mach HV.out)).mono ?_); rintro e Y ⟨rfl, hb5⟩)
      have HBY := hid_ (HBU.out.to hb5)
      have HRY := hid_ (HRU2.out.to hb5)
      have HOY := hid_ (HOU.out.to hb5)
      have hbY := bnext' hbU hb5
      clear b0 b1 b2 HBU HRU2 HOU hbU hb5
      have b0 := HBY.out.cell 0
      have b1 := HBY.out.cell 1
      have b2 := HBY.out.cell 2
      have s0 := HRY.out.cell 0
      have s1 := HRY.out.cell 1
      have s2 := HRY.out.cell 2
      have f0 := HRY.out.free 0
      have f1 := HRY.out.free 1
      have f2 := HRY.out.free 2
      simp at b0 b1 b2 s0 s1 s2
      go_wp2_with fail
      have E0 := ((HRY.out.set_ 0 (.int .i64 (ps.length : Int))).set_ 1 (.int .i64 (r0.length : Int))).set_ 2 (.slice (some ⟨gv, 0, none⟩) ps.length cv)
      have e0 := E0.cell 0
      have e1 := E0.cell 1
      have e2 := E0.cell 2
      simp at e0 e1 e2
      refine bodyPost_ret (v := .tuple #[.agg #[.int .i64 (ps.length : Int), .int .i64 (r0.length : Int), .slice (some ⟨gv, 0, none⟩) ps.length cv], .int .i64 0]) (by simp [results, Tryd.results22, go_sem, e0, e1, e2]) rfl ?_
      rw [HST.out, HS0.out]
      exact ⟨_, rfl, (((HOY.out.set (by omega) _).set (by omega) _).set (by omega) _).mach HV.out, below_set (below_set (below_set hbY (Nat.le_refl _) 0 _) (Nat.le_refl _) 1 _) (Nat.le_refl _) 2 _⟩
end Go.Proofs.YtkbaiegfloajlaaDoor.Tp

/- Contracts: config of package standstilltop. -/
import Derived.Test.YtkbaiegfloajlaaUg
import Derived.Test.YtkbaiegfloajlaaUh
import Derived.Test.YtkbaiegfloajlaaUk
import Derived.Test.YtkbaiegfloajlaaTl
import Derived.StillTailTactics
namespace Go.Proofs.Ytkbaiegfloajlaa.Tp
open Go.RowKit

/-- What config leaves. -/
def TRan (d : CfgS) (w : World) (e : Ending) (w' : World) : Prop :=
  ∃ v, e = .returned (.agg #[.int .i64 d.st, .int .i64 d.pos, .int .i64 d.frm, v]) ∧ Elems w' w'.heap.size v (ints d.cells) ∧ Below w.heap.size w w'

set_option maxRecDepth 100000 in
set_option maxHeartbeats 4000000 in
theorem tconfig_any (m : MachS) (k : Nat) (d : CfgS) (r : RunT) (lo hi : Int) (B go : Nat) (v : Value) (w : World) (h : RAt w B go m v r) (hr : Rel m k d r lo hi) (hk : k ≤ 100000) (hBw : B ≤ w.heap.size) :
    Calls Try.prog 10 #[.pointer (some ⟨go, 0, none⟩)] w (TRan d w) := by
  obtain ⟨i0, hi0, hz0, hz1, hz2⟩ := info_parts Try.infoI
  have htrim := trim_ok hr.norm hr.cells
  have HST := hid_ hr.st
  have HPOS := hid_ hr.pos
  have hlen := hr.len
  have hlen0 := hr.len0
  have hzero := hr.zero
  obtain ⟨R, hR⟩ : ∃ R, R = TRan d w := ⟨_, rfl⟩
  rw [← hR]
  have HR := hid_ hR
  have hbW := below1 w (.cells #[.int .i64 0, .int .i64 0, .int .i64 0, .slice none 0 0] 32)
  have HW := hid_ (h.to hbW)
  have BR := Blk.new w 32 #[.int .i64 0, .int .i64 0, .int .i64 0, .slice none 0 0]
  clear h hr hR
  go_enter Try.func10, Try.ntmps10
  go_upto_region 1 with fail
  have hsz : (w.alloc (.cells #[.int .i64 0, .int .i64 0, .int .i64 0, .slice none 0 0] 32)).heap.size = w.heap.size + 1 := by simp
  generalize w.alloc (.cells #[.int .i64 0, .int .i64 0, .int .i64 0, .slice none 0 0] 32) = W at *
  have HBR := hid_ BR
  have HSZ := hid_ hsz
  obtain ⟨A, c, ⟨c2, c3, c4, c5, c6, c7⟩, hf, hown, _, hne, hbxx⟩ := HW.out.cells
  have hgoW : go < W.heap.size := hbxx.lt
  have HC5 := hid_ c5
  have HAW : Hid (∀ k, (Value.slice A r.cells.length c).ownBlock = some k → k < W.heap.size) := hid_ (fun k e => (hown.lt _ e).2)
  rw [HST.out] at c3
  rw [HPOS.out] at c4
  clear BR hsz c2 c5 c6 c7 hf hown hne hbxx
  go_cut [3] (fun s wx => s = .pointer (some ⟨W.heap.size, 0, none⟩) ∧ Blk wx W.heap.size 32 #[.int .i64 d.st, .int .i64 d.pos, .int .i64 0, .slice none 0 0] ∧ Below W.heap.size W wx)
  case first => as_aux_lemma =>
    have a0 : ∀ (k : Nat) (o : Obj), ((W.drewN k).alloc o).cell? ⟨go, 3, none⟩ = some (.int .i64 d.st) := fun k o => keepa (w := W.drewN k) o c3
    have a1 : ∀ (k : Nat) (o : Obj), ((W.drewN k).alloc o).cell? ⟨go, 4, none⟩ = some (.int .i64 d.pos) := fun k o => keepa (w := W.drewN k) o c4
    have d0 : ∀ (o : Obj), (W.alloc o).cell? ⟨go, 3, none⟩ = some (.int .i64 d.st) := fun o => keepa o c3
    have d1 : ∀ (o : Obj), (W.alloc o).cell? ⟨go, 4, none⟩ = some (.int .i64 d.pos) := fun o => keepa o c4
    go_region
    all_goals
      go_wp2_with fail
      go_meet
      exact ⟨rfl, Blk.new _ _ _, (below1 W _).drew⟩
  case rest => as_aux_lemma =>
    obtain ⟨rfl, hb, hbx⟩ := hcut
    obtain ⟨X, rfl⟩ : ∃ X : World, X = wc := ⟨_, rfl⟩
    have hwX := bnext hbW hbx
    have hWs : w.heap.size < W.heap.size := by have := HSZ.out; omega
    obtain ⟨L, hL⟩ : ∃ L : Nat, (r.cells.length : Int) - 1 = L := ⟨r.cells.length - 1, by omega⟩
    have mL : IntKind.i64.wrap ((r.cells.length : Int) - 1) = (L : Int) := by rw [hL]; exact IntWalk.i64_in _ (by omega)
    have HX5 := hid_ (keepc hbx HC5.out)
    obtain ⟨A0, c0, ⟨c2, c3', c4', c5, c6, c7⟩, hf, hown, _, hne, hbxx⟩ := (HW.out.to hbx).cells
    clear c2 c3 c4 c3' c4' c6 c7 hf hown hne hbxx
    go_upto_region 2 with fail
    go_cut [4, 5] (fun s4 s5 wx => s4 = .int .i64 0 ∧ s5 = .int .i64 (L : Int) ∧ ∃ n, wx = X.drewN n)
    case first => as_aux_lemma =>
      go_quiet (fail)
      go_wp2_with fail
      go_meet
      exact ⟨rfl, rfl, _, rfl⟩
    case rest => as_aux_lemma =>
      obtain ⟨rfl, rfl, n2, rfl⟩ := hcut
      have HRY := hid_ ((HW.out.to hbx).dN n2)
      have HBT := hid_ (hb.dN n2)
      have HBRY := hid_ ((HBR.out.to hbx).dN n2)
      have hwY : Below w.heap.size w (X.drewN n2) := below_drewN hwX n2
      have HY5 : Hid ((X.drewN n2).cell? ⟨go, 5, none⟩ = some (.slice A r.cells.length c)) := HX5
      clear HW HBR hb hbx hwX hbW c5 HX5 HC5
      generalize X.drewN n2 = Y at *
      obtain ⟨A1, c1, ⟨c2, c3, c4, c5, c6, c7⟩, hf, hown, hBgo, hne, hbxx⟩ := HRY.out.cells
      rw [HY5.out] at c5
      simp only [Option.some.injEq, Value.slice.injEq, true_and] at c5
      obtain ⟨rfl, rfl⟩ := c5
      have c5 := HY5.out
      obtain ⟨g, rfl, hg⟩ := own_addr hown (by omega)
      have hgW : g ≠ W.heap.size := by
        have := HAW.out g rfl
        omega
      have hcell : ∀ j x, r.cells[j]? = some x → Y.cell? ⟨g, j, none⟩ = some (.int .i64 x) := fun j x hx => by
        have hj := (List.getElem?_eq_some_iff.1 hx).1
        exact (hown.cellAt j (by omega)).trans (ints_at hx)
      have HC := hid_ hcell
      have hcap := (own_cap hown).2.1
      have HEL := hid_ (own_elems hown)
      have hgo := hbxx.lt
      clear hcell hf hown hne hbxx c2 c3 c4 c7 HY5 HAW
      rcases htrim with ⟨hl, hf0, hz⟩ | ⟨F, E, hFE, hE, hz1, hz2, ⟨xf, hxf, hxf0⟩, ⟨xe, hxe, hxe0⟩, hfr, hcs⟩
      · have HZ := hid_ hz
        have HL0 := hid_ hl
        have HF0 := hid_ hf0
        clear hz hl hf0
        go_wp2_with fail
        go_loopw [4] (fun s wr => ∃ j : Nat, s = .int .i64 (j : Int) ∧ j ≤ r.cells.length ∧ wr = Y) (fun s _ => r.cells.length - (intOf s).toNat)
        case atStart => exact ⟨0, rfl, by omega, rfl⟩
        case round =>
          obtain ⟨j, rfl, hj, rfl⟩ := hrel
          by_cases hjl : j < r.cells.length
          · have hle : j ≤ L := by omega
            have hcj := HC.out j 0 (HZ.out j hjl)
            have t0 : 0 ≤ (j : Int) := by omega
            go_wp2_with fail
            go_roundw
            case rel => exact ⟨j + 1, by go_num, by omega, by trivial⟩
            case measure => simp [intOf]; omega
          · have hle : ¬ (j : Int) ≤ (L : Int) := by omega
            have hle2 : ¬ (L : Int) ≥ (j : Int) := by omega
            have hd1 : decide ((j : Int) ≤ (L : Int)) = false := by simpa using hle
            have hd2 : decide (j ≤ L) = false := by simpa using hle
            go_wp2_with fail
            go_loopw [5] (fun s wx => s = .int .i64 (L : Int) ∧ wx = wr) (fun _ _ => 0)
            case atStart => exact ⟨rfl, rfl⟩
            case round =>
              obtain ⟨rfl, rfl⟩ := hrel
              have HU := HBT
              have HRU := HBRY
              have t0 := HU.out.cell 0
              have t1 := HU.out.cell 1
              have t2 := HU.out.cell 2
              have t3 := HU.out.cell 3
              have s0 := HRU.out.cell 0
              have s1 := HRU.out.cell 1
              have s2 := HRU.out.cell 2
              have s3 := HRU.out.cell 3
              have f0 := HRU.out.free 0
              have f1 := HRU.out.free 1
              have f2 := HRU.out.free 2
              have f3 := HRU.out.free 3
              simp at t0 t1 t2 t3 s0 s1 s2 s3
              go_wp2_with fail
              have E0 := (((HRU.out.set_ 0 (.int .i64 d.st)).set_ 1 (.int .i64 d.pos)).set_ 2 (.int .i64 0)).set_ 3 (.slice none 0 0)
              have e0 := E0.cell 0
              have e1 := E0.cell 1
              have e2 := E0.cell 2
              have e3 := E0.cell 3
              simp at e0 e1 e2 e3
              refine bodyPost_ret (v := .agg #[.int .i64 d.st, .int .i64 d.pos, .int .i64 0, .slice none 0 0]) (by simp [results, Try.results10, go_sem, e0, e1, e2, e3]) rfl ?_
              rw [HR.out]
              exact ⟨.slice none 0 0, by rw [HF0.out], by rw [HL0.out]; exact Elems.nil _ _, below_set (below_set (below_set (below_set hwY (Nat.le_refl _) 0 _) (Nat.le_refl _) 1 _) (Nat.le_refl _) 2 _) (Nat.le_refl _) 3 _⟩
      · have HZ1 := hid_ hz1
        have HZ2 := hid_ hz2
        have HFR := hid_ hfr
        have HCS := hid_ hcs
        have HXF := hid_ hxf
        have HXE := hid_ hxe
        have nf : (xf == 0) = false := by simpa using hxf0
        have ne : (xe == 0) = false := by simpa using hxe0
        clear hz1 hz2 hfr hcs hxf hxe hxf0 hxe0
        go_wp2_with fail
        go_loopw [4] (fun s wr => ∃ j : Nat, s = .int .i64 (j : Int) ∧ j ≤ F ∧ wr = Y) (fun s _ => F - (intOf s).toNat)
        case atStart => exact ⟨0, rfl, by omega, rfl⟩
        case round =>
          obtain ⟨j, rfl, hj, rfl⟩ := hrel
          have hle : j ≤ L := by omega
          have t0 : 0 ≤ (j : Int) := by omega
          by_cases hjl : j < F
          · have hcj := HC.out j 0 (HZ1.out j hjl)
            go_wp2_with fail
            go_roundw
            case rel => exact ⟨j + 1, by go_num, by omega, by trivial⟩
            case measure => simp [intOf]; omega
          · obtain rfl : j = F := by omega
            have hcj := HC.out j xf HXF.out
            go_wp2_with fail
            clear hcj nf HXF HZ1
            go_loopw [5] (fun s wx => ∃ i : Nat, s = .int .i64 (i : Int) ∧ E ≤ i ∧ i ≤ L ∧ wx = wr) (fun s _ => (intOf s).toNat)
            case atStart => exact ⟨L, rfl, by omega, by omega, rfl⟩
            case round =>
              obtain ⟨i, rfl, hi1, hi2, rfl⟩ := hrel
              have hge : j ≤ i := by omega
              have t1 : 0 ≤ (i : Int) := by omega
              have t2 : (i : Int) < (r.cells.length : Int) := by omega
              by_cases hil : E < i
              · have hci := HC.out i 0 (HZ2.out i hil (by omega))
                have mi : IntKind.i64.wrap ((i : Int) - 1) = ((i - 1 : Nat) : Int) := by rw [IntWalk.i64_in _ (by omega)]; omega
                go_wp2_with fail
                go_roundw
                case rel => exact ⟨i - 1, by first | rfl | (rw [mi]), by omega, by omega, by trivial⟩
                case measure => simp [intOf]; omega
              · obtain rfl : i = E := by omega
                have hci := HC.out i xe HXE.out
                have m8 : IntKind.i64.wrap ((j : Int) - r.zero) = (j : Int) - r.zero := IntWalk.i64_in _ (by omega)
                have u2 := HBT.out.free 2
                have tt2 := HBT.out.cell 2
                simp at tt2
                go_upto_region 9 with fail
                have HT3 : Hid (Blk (wr.setCell ⟨W.heap.size, 2, none⟩ (.int .i64 ((j : Int) - r.zero))) W.heap.size 32 #[.int .i64 d.st, .int .i64 d.pos, .int .i64 ((j : Int) - r.zero), .slice none 0 0]) := hid_ (by simpa using HBT.out.set_ 2 (.int .i64 ((j : Int) - r.zero)))
                have HR3 : Hid (Blk (wr.setCell ⟨W.heap.size, 2, none⟩ (.int .i64 ((j : Int) - r.zero))) w.heap.size 32 #[.int .i64 0, .int .i64 0, .int .i64 0, .slice none 0 0]) := hid_ (HBRY.out.far (by show w.heap.size ≠ W.heap.size; omega) _)
                have hbZ : Below w.heap.size w (wr.setCell ⟨W.heap.size, 2, none⟩ (.int .i64 ((j : Int) - r.zero))) := below_set hwY (by omega) 2 _
                have k5 : (wr.setCell ⟨W.heap.size, 2, none⟩ (.int .i64 ((j : Int) - r.zero))).cell? ⟨go, 5, none⟩ = some (.slice (some ⟨g, 0, none⟩) r.cells.length c) := (World.cell?_of_block (Below.heap_setCell wr ⟨W.heap.size, 2, none⟩ _ go (by show go ≠ W.heap.size; omega))).trans c5
                have HE3 : Hid (Elems (wr.setCell ⟨W.heap.size, 2, none⟩ (.int .i64 ((j : Int) - r.zero))) (wr.setCell ⟨W.heap.size, 2, none⟩ (.int .i64 ((j : Int) - r.zero))).heap.size (.slice (some ⟨g, 0, none⟩) r.cells.length c) (ints r.cells)) := hid_ (elems_far HEL.out hgW)
                clear u2 tt2 HBT HBRY hwY c5 c6 HEL m8 hci HC HRY
                generalize (wr.setCell ⟨W.heap.size, 2, none⟩ (.int .i64 ((j : Int) - r.zero))) = Z at *
                have tt3 := HT3.out.cell 3
                simp at tt3
                have hWZ := HT3.out.lt
                obtain ⟨H, hH⟩ : ∃ H : Nat, i + 1 = H := ⟨_, rfl⟩
                have m9 : IntKind.i64.wrap ((i : Int) + 1) = (H : Int) := by rw [IntWalk.i64_in _ (by omega)]; omega
                have r1 : (j : Int) ≤ (H : Int) := by omega
                have r2 : (H : Int) ≤ (c : Int) := by omega
                have r4 : ¬ c = j := by omega
                go_still_tail 10, (by kernel_rfl)
                change wpList _ _ _ _ _ Z.drew
                have HPE : Hid (Elems Z.drew Z.drew.heap.size (.slice (some ⟨g, j, none⟩) (H - j) (c - j)) (ints ((r.cells.drop j).take (H - j)))) := hid_ (by
                  have := part_elems (F := j) (r := H - j) HE3.out (by omega) (by omega) (c - j)
                  rwa [Nat.zero_add] at this)
                have HON : Hid (Z.drew.ownsRow Z.heap.size 3 1 (.slice none 0 0) 0 []) := hid_ (own_nil _ _ _)
                have hseg : ((r.cells.drop j).take (H - j)).length ≤ 1000000 := by rw [List.length_take]; omega
                have hseg0 : 0 < ((r.cells.drop j).take (H - j)).length := by rw [List.length_take, List.length_drop]; omega
                have HCS2 : Hid (d.cells = (r.cells.drop j).take (H - j)) := hid_ (by rw [HCS.out, hH])
                clear HCS
                generalize (r.cells.drop j).take (H - j) = seg at *
                have h63 : 0 + (ints seg).length ≤ maxLen := by rw [ints_len]; unfold maxLen; omega
                have hby : (0 + (ints seg).length) * 8 ≤ 140737488355328 := by rw [ints_len]; omega
                refine wpList_append_e (by rfl) _ _ 30 (by rfl) 3 i0 (.int .i64 0) 8 Try.underlying30 hi0 hz0 hz1 hz2 rfl (by rfl) (by rfl) HON.out HPE.out ints_one h63 hby (Nat.le_refl _) ?_
                intro v3 V hown3 hg3 hat3
                have HO3 : Hid (V.ownsRow Z.heap.size 3 1 v3 seg.length (ints seg)) := hid_ (by rw [ints_len] at hown3; simpa using hown3)
                have HBV : Hid (Below Z.heap.size Z V) := hid_ (((Below.refl _ Z).drew).grown hg3 (Nat.le_refl _) (own_lt HON.out))
                have HTV := hid_ (HT3.out.to HBV.out)
                have HRV := hid_ (HR3.out.to HBV.out)
                obtain ⟨A3, c3, rfl⟩ := own_form HO3.out
                obtain ⟨g3, rfl, hg3z⟩ := own_addr HO3.out hseg0
                clear hown3 hg3 hat3 HPE HON HE3 tt3 k5 m9 h63 hby
                have tv3 := HTV.out.cell 3
                have fv3 := HTV.out.free 3
                simp at tv3
                obtain ⟨U, hU⟩ : ∃ U, U = V.setCell ⟨W.heap.size, 3, none⟩ (.slice (some ⟨g3, 0, none⟩) seg.length c3) := ⟨_, rfl⟩
                have HU : Hid (Blk U W.heap.size 32 #[.int .i64 d.st, .int .i64 d.pos, .int .i64 ((j : Int) - r.zero), .slice (some ⟨g3, 0, none⟩) seg.length c3]) := hid_ (by rw [hU]; simpa using HTV.out.set_ 3 (.slice (some ⟨g3, 0, none⟩) seg.length c3))
                have HRU : Hid (Blk U w.heap.size 32 #[.int .i64 0, .int .i64 0, .int .i64 0, .slice none 0 0]) := hid_ (by rw [hU]; exact HRV.out.far (by show w.heap.size ≠ W.heap.size; omega) _)
                have HEU : Hid (Elems U U.heap.size (.slice (some ⟨g3, 0, none⟩) seg.length c3) (ints seg)) := hid_ (by rw [hU]; exact elems_far (own_elems HO3.out) (by omega))
                have hbU : Below w.heap.size w U := by
                  rw [hU]
                  exact below_set (hbZ.trans (HBV.out.mono hbZ.size)) (by omega) 3 _
                have HUE := hid_ hU
                clear hU hbZ
                go_upto_region 10 with fail
                rw [← HUE.out]
                clear tv3 fv3 HUE HTV HRV HBV HO3 HT3 HR3
                have hg3w : g3 ≠ w.heap.size := by omega
                have t0 := HU.out.cell 0
                have t1 := HU.out.cell 1
                have t2 := HU.out.cell 2
                have t3 := HU.out.cell 3
                have s0 := HRU.out.cell 0
                have s1 := HRU.out.cell 1
                have s2 := HRU.out.cell 2
                have s3 := HRU.out.cell 3
                have f0 := HRU.out.free 0
                have f1 := HRU.out.free 1
                have f2 := HRU.out.free 2
                have f3 := HRU.out.free 3
                simp at t0 t1 t2 t3 s0 s1 s2 s3
                go_wp2_with fail
                have E0 := (((HRU.out.set_ 0 (.int .i64 d.st)).set_ 1 (.int .i64 d.pos)).set_ 2 (.int .i64 ((j : Int) - r.zero))).set_ 3 (.slice (some ⟨g3, 0, none⟩) seg.length c3)
                have e0 := E0.cell 0
                have e1 := E0.cell 1
                have e2 := E0.cell 2
                have e3 := E0.cell 3
                simp at e0 e1 e2 e3
                refine bodyPost_ret (v := .agg #[.int .i64 d.st, .int .i64 d.pos, .int .i64 ((j : Int) - r.zero), .slice (some ⟨g3, 0, none⟩) seg.length c3]) (by simp [results, Try.results10, go_sem, e0, e1, e2, e3]) rfl ?_
                rw [HR.out]
                exact ⟨.slice (some ⟨g3, 0, none⟩) seg.length c3, by rw [HFR.out, show (j : Int) + -r.zero = (j : Int) - r.zero by omega], by rw [HCS2.out]; exact elems_far (elems_far (elems_far (elems_far HEU.out hg3w) hg3w) hg3w) hg3w, below_set (below_set (below_set (below_set hbU (Nat.le_refl _) 0 _) (Nat.le_refl _) 1 _) (Nat.le_refl _) 2 _) (Nat.le_refl _) 3 _⟩
end Go.Proofs.Ytkbaiegfloajlaa.Tp

/- Contracts: Parse of package tape, at any string. -/
import Derived.Test.YtkbaiegfloajlaaDoorZb
namespace Go.Proofs.YtkbaiegfloajlaaDoor.Tp
open Go.RowKit

theorem spl_len : ∀ l, (spl l).length ≤ l.length + 1
  | [] => by simp [spl]
  | x :: l => by
    have ih := spl_len l
    have hne := spl_ne l
    unfold spl
    split
    · simp; omega
    · cases h : spl l with
      | nil => exact absurd h hne
      | cons a t => rw [h] at ih; simp at ih ⊢; omega
theorem spl_pos (l : List UInt8) : 1 ≤ (spl l).length := by
  have := spl_ne l
  cases h : spl l with
  | nil => exact absurd h this
  | cons a t => simp
theorem spl_mem : ∀ l, ∀ p ∈ spl l, p.length ≤ l.length
  | [], p, hp => by simp [spl] at hp; simp [hp]
  | x :: l, p, hp => by
    have ih := spl_mem l
    unfold spl at hp
    split at hp
    · rcases List.mem_cons.1 hp with h | h
      · subst h; simp
      · have := ih p h; simp; omega
    · cases h : spl l with
      | nil => exact absurd h (spl_ne l)
      | cons a t =>
        rw [h] at hp ih
        rcases List.mem_cons.1 hp with e | e
        · subst e
          have := ih a (by simp)
          simp at this ⊢
          exact this
        · have := ih p (by simp at e ⊢; exact .inr e)
          simp; omega
/-- A machine, and an error or none. -/
def ParRan (r : MachS × Int) (w : World) (e : Ending) (w' : World) : Prop :=
  ∃ (A : Option Addr) (d : Nat), e = .returned (.tuple #[.agg #[.int .i64 r.1.states, .int .i64 r.1.symbols, .slice A r.1.rules.length d], .int .i64 r.2]) ∧ MachIn w' w'.heap.size (.slice A r.1.rules.length d) r.1 ∧ Below w.heap.size w w'
theorem no_in (w : World) : MachIn w w.heap.size (.slice none 0 0) ⟨0, 0, []⟩ := ⟨⟨[], .inl ⟨.inl rfl, rfl⟩, rfl, fun k u r h => by cases h⟩, by simp, fun r h => by cases h⟩
theorem MOwn.machb {w : World} {B : Nat} {v : Value} {m : MachS} (h : MOwn w B v m) (h1 : m.rules.length ≤ 17592186044416) (h2 : ∀ r ∈ m.rules, r.length ≤ 17592186044416) : MachIn w w.heap.size v m := by
  obtain ⟨vs, g, n, c, rfl, h3, h4⟩ := h
  exact ⟨h4.rules2 h3, h1, h2⟩
def rowsB (ps : List ByteArray) : List (List RuleS) := ps.map fun p => chunksL p.data.toList
def machB (ps : List ByteArray) : MachS := ⟨ps.length, ((rowsB ps).headD []).length, rowsB ps⟩
def goodB (ps : List ByteArray) : Bool := ps.all fun p => decide (p.size % 3 = 0)
def parB (ps : List ByteArray) : MachS × Int := if goodB ps = true ∧ validM (machB ps) = true then (machB ps, 0) else (⟨0, 0, []⟩, 3)

set_option maxRecDepth 100000 in
set_option maxHeartbeats 8000000 in
theorem parse_cut (s : ByteArray) (ps : List ByteArray) (mx : Int) (w : World) (hmx : w.cell? ⟨0, 0, none⟩ = some (.int .i64 mx)) (hs : s.size ≤ 78) (hcnt : Lib.countB s ⟨#[95]⟩ + 1 = ps.length) (hspl : Lib.splitB ⟨#[95]⟩ 0 (Lib.countB s ⟨#[95]⟩) s = ps)
    (h78 : ∀ p ∈ ps, p.size ≤ 78) (hlen : ps.length ≤ 79) (hlen1 : 1 ≤ ps.length) :
    Calls Tryd.prog 22 #[.string s] w (ParRan (parB ps) w) := by
  have H78 := hid_ h78
  have hbW : Below w.heap.size w ((w.alloc (.cells #[.int .i64 0, .int .i64 0, .slice none 0 0] 24)).alloc (.cells #[.int .i64 0, .int .i64 0, .slice none 0 0] 24)) := below2 w _ _
  have B1 := (Blk.new w 24 #[.int .i64 0, .int .i64 0, .slice none 0 0]).alloc (.cells #[.int .i64 0, .int .i64 0, .slice none 0 0] 24)
  have B2 := Blk.new (w.alloc (.cells #[.int .i64 0, .int .i64 0, .slice none 0 0] 24)) 24 #[.int .i64 0, .int .i64 0, .slice none 0 0]
  have hsz1 : (w.alloc (.cells #[.int .i64 0, .int .i64 0, .slice none 0 0] 24)).heap.size = w.heap.size + 1 := by simp
  have hsz2 : ((w.alloc (.cells #[.int .i64 0, .int .i64 0, .slice none 0 0] 24)).alloc (.cells #[.int .i64 0, .int .i64 0, .slice none 0 0] 24)).heap.size = w.heap.size + 2 := by simp
  rw [hsz1] at B2
  have hmx2 := keepc hbW hmx
  have t78 : ¬ (78 : Int) < (s.size : Int) := by omega
  have t78b : ¬ 78 < s.size := by omega
  clear h78 hsz1 hmx
  go_enter Tryd.func22, Tryd.ntmps22
  go_upto_region 4 with fail
  have HB1 := hid_ B1
  have HB2 := hid_ B2
  have HBW := hid_ hbW
  have HMX := hid_ hmx2
  have HSZ := hid_ hsz2
  clear B1 B2 hbW hmx2 hsz2
  generalize (w.alloc (.cells #[.int .i64 0, .int .i64 0, .slice none 0 0] 24)).alloc (.cells #[.int .i64 0, .int .i64 0, .slice none 0 0] 24) = W at *
  go_wp2_with fail
  refine (Tryd.strings_Split s ⟨#[95]⟩ mx W (by omega) HMX.out (by decide)).mono ?_
  rw [hspl, hcnt]
  rintro e V ⟨rfl, rfl⟩
  have HP0 : Hid (PSt w ps (rowsB ps) 0 (.slice none 0 0) [] (W.alloc (.cells (ps.map Value.string).toArray 9))) := hid_ ⟨HB1.out.alloc _, HB2.out.alloc _, own_nil _ _ _, OwnRows.nil _ _, by have := Blk.new W 9 (ps.map Value.string).toArray; rwa [HSZ.out] at this, HBW.out.alloc HBW.out.size _⟩
  have hszE := HSZ.out
  clear HB1 HB2 HBW HMX HSZ hspl hcnt t78 t78b
  rw [hszE]
  generalize W.alloc (.cells (ps.map Value.string).toArray 9) = V at *
  clear hszE
  obtain ⟨iR, hiR, hzR0, hzR1, hzR2⟩ := info_parts Tryd.infoR
  obtain ⟨iL, hiL, hzL0, hzL1, hzL2⟩ := info_parts Tryd.infoRL
  go_wp2_with fail
  go_loopw [16] (fun s wr => ∃ (k : Nat) (v : Value) (vs : List Value), s = .int .i64 (k : Int) ∧ k ≤ ps.length ∧ Hid (PSt w ps (rowsB ps) k v vs wr) ∧ Hid (goodB (ps.take k) = true)) (fun s _ => ps.length - (RowKit.intOf s).toNat)
  case atStart => exact ⟨0, _, _, rfl, Nat.zero_le _, HP0, hid_ rfl⟩
  case round =>
    clear HP0
    obtain ⟨k, v, vs, rfl, hk, HP, HGK⟩ := hrel
    by_cases hkl : k < ps.length
    · obtain ⟨p, hp⟩ : ∃ p, ps[k]? = some p := ⟨_, List.getElem?_eq_getElem hkl⟩
      have hp78 := H78.out p (List.mem_of_getElem? hp)
      have hcp : wr.cell? ⟨w.heap.size + 2, k, none⟩ = some (.string p) := by
        rw [HP.out.pcs.cell k]
        simp [hp]
      have t0 : 0 ≤ (k : Int) := by omega
      by_cases hp3 : p.size % 3 = 0
      · have HGK1 : Hid (goodB (ps.take (k + 1)) = true) := hid_ (by
          have := HGK.out
          rw [goodB] at this ⊢
          rw [List.take_add_one, hp, List.all_append, this]
          simp [hp3])
        clear HGK
        obtain ⟨n, hn⟩ : ∃ n : Nat, p.size = 3 * n := ⟨p.size / 3, by omega⟩
        have hrow : (rowsB ps)[k]? = some (chunksL p.data.toList) := by rw [rowsB, List.getElem?_map, hp]; rfl
        have hrl : (chunksL p.data.toList).length = n := by
          rw [chunksL_len]
          have : p.data.toList.length = p.size := rfl
          omega
        have hpi : ((p.size : Nat) : Int) = 3 * (n : Int) := by omega
        have hr : ((p.size : Nat) : Int).tmod 3 = 0 := by rw [hpi]; exact Int.mul_tmod_right 3 n
        have hq : ((p.size : Nat) : Int).tdiv 3 = (n : Int) := by rw [hpi]; exact Int.mul_tdiv_cancel_left _ (by decide)
        have hn20 : n ≤ 26 := by omega
        clear hpi
        obtain ⟨MC, hMC⟩ : ∃ MC, MC = madeCells (Value.agg #[.int .i64 0, .int .i64 0, .int .i64 0]).cells (n * 3) := ⟨_, rfl⟩
        have hmk : ∀ X : World, (Instr.makeSlice 72 (.int .i64 0) (.int .i64 (n : Int))).run Tryd.prog X = .ok (.slice (some ⟨X.heap.size, 0, none⟩) 0 n) (X.alloc (.cells MC 74)) := fun X => by
          have := run_make (P := Tryd.prog) (w := X) 72 74 iR (.agg #[.int .i64 0, .int .i64 0, .int .i64 0]) Tryd.underlying72 hiR hzR0 .i64 .i64 0 n (by omega) (by omega) (by rw [hzR2]; omega) (by omega)
          rw [hMC]
          simpa [hzR1] using this
        have hMS : MC.size = n * 3 := by
          rw [hMC]
          simp [madeCells]
        have HMS := hid_ hMS
        have HN := hid_ hn
        have HROW := hid_ hrow
        have HRL := hid_ hrl
        have HPK := hid_ hp
        clear hMC hMS hrow hrl hp hn hp3
        have hlw := HP.out.lt
        obtain ⟨X, rfl⟩ : ∃ X : World, X = wr := ⟨_, rfl⟩
        go_upto_region 10 with fail
        have HR0 : Hid ((X.alloc (.cells MC 74)).ownsRow X.heap.size 74 3 (.slice (some ⟨X.heap.size, 0, none⟩) 0 n) 0 (rcellsL ((chunksL p.data.toList).take 0))) := hid_ (own_cap3 (heap_alloc_new X _) (Nat.le_refl _) HMS.out (by unfold maxLen; omega))
        have hb0 : Below X.heap.size X (X.alloc (.cells MC 74)) := below1 X _
        clear hmk HMS hr hq hcp
        generalize X.alloc (.cells MC 74) = Y0 at *
        go_wp2_with fail
        go_loopw [7, 8] (fun a b wx => ∃ (j i g c : Nat), a = .slice (some ⟨g, 0, none⟩) j c ∧ b = .int .i64 (i : Int) ∧ j ≤ n ∧ Hid (i = 3 * j) ∧ Hid (wx.ownsRow X.heap.size 74 3 (.slice (some ⟨g, 0, none⟩) j c) j (rcellsL ((chunksL p.data.toList).take j))) ∧ Below X.heap.size X wx) (fun _ b _ => p.size - (RowKit.intOf b).toNat)
        case atStart => exact ⟨0, 0, _, _, rfl, rfl, Nat.zero_le _, hid_ rfl, HR0, hb0⟩
        case round =>
          obtain ⟨j, i, g, c, rfl, rfl, hj, HI, HU, hbx⟩ := hrel
          clear HR0 hb0
          by_cases hjl : j < n
          · have hil : i + 3 ≤ p.size := by
              have h1 := HI.out; have h2 := HN.out; omega
            have hpl2 : p.data.toList.length = p.size := rfl
            obtain ⟨x, y, z, g1, g2, g3, g4⟩ := chunksL_get j p.data.toList (by have h1 := HI.out; rw [hpl2]; omega)
            rw [← HI.out] at g1 g2 g3
            have hext := extract3 g1 g2 g3
            have HG4 := hid_ g4
            have m1 : IntKind.i64.wrap ((i : Int) + 3) = ((i + 3 : Nat) : Int) := by rw [IntWalk.i64_in _ (by omega)]; omega
            have t1 : i < p.size := by omega
            have t2 : 0 ≤ (i : Int) := by omega
            clear g1 g2 g3 g4 hpl2
            have h63 : j + 1 ≤ maxLen := by unfold maxLen; omega
            have hby : (j + 1) * 24 ≤ 140737488355328 := by omega
            have hXs := HP.out.lt
            go_upto_region 12 with (first
              | (go_at_call 55; (with_reducible refine (prule_any x y z wr).mono ?_); rintro e Z ⟨rfl, hbz⟩; have HUZ := hid_ (own_below HU.out hbz); have hbxz := bnext hbx hbz; clear hbz)
              | (at_builtin; refine wpList_append_own_at _ rfl _ _ 72 rfl X.heap.size 74 iR (.agg #[.int .i64 0, .int .i64 0, .int .i64 0]) 3 24 Tryd.underlying72 hiR hzR0 hzR1 hzR2 rfl (by omega) (.slice (some ⟨g, 0, none⟩) j c) j _ rfl (HUZ.out.alloc _) ⟨Z.heap.size, 0, none⟩ 1 1 (rcells (pruleB x y z)) rfl rfl (newsA Z _ (rcells (pruleB x y z))) (rcells_one _) h63 hby (Nat.le_trans hbxz.size (by simp)) ?_; intro u2 Z2 hown2 hg2 _ hat2))
            have HU3 : Hid (Z2.ownsRow X.heap.size 74 3 u2 (j + 1) (rcellsL ((chunksL p.data.toList).take (j + 1)))) := hid_ (by rw [rcellsL_take HG4.out]; exact hown2)
            have hbx2 : Below X.heap.size X Z2 := Below.grown (hbxz.alloc hbxz.size _) hg2 (Nat.le_trans hbxz.size (by simp)) (own_lt HUZ.out)
            obtain ⟨A2, c2, rfl⟩ := own_form HU3.out
            obtain ⟨g2, rfl, _⟩ := own_addr HU3.out (by omega)
            clear hown2 hg2 hat2 HUZ hbxz HG4 hext
            go_wp2_with fail
            go_roundw
            case rel => exact ⟨j + 1, i + 3, g2, c2, rfl, by go_num, by omega, hid_ (by have := HI.out; omega), HU3, hbx2⟩
            case measure => simp [RowKit.intOf]; omega
          · obtain rfl : j = n := by omega
            have hi3 : i = p.size := by have h1 := HI.out; have h2 := HN.out; omega
            have hd : decide (i < p.size) = false := by simp; omega
            have hlt : ¬ i < p.size := by omega
            have HRT : Hid (rcellsL ((chunksL p.data.toList).take j) = rcellsL (chunksL p.data.toList)) := hid_ (by rw [List.take_of_length_le (by rw [HRL.out]; omega)])
            have HPW := hid_ (HP.out.to hbx)
            have HU2 : Hid (wr.ownsRow X.heap.size 74 3 (.slice (some ⟨g, 0, none⟩) (chunksL p.data.toList).length c) (chunksL p.data.toList).length (rcellsL (chunksL p.data.toList))) := hid_ (by rw [HRL.out, ← HRT.out]; exact HU.out)
            have hXs := HP.out.lt
            clear hi3
            obtain ⟨row, hrow⟩ : ∃ row, row = chunksL p.data.toList := ⟨_, rfl⟩
            rw [← hrow] at HU2 HROW HRL
            clear HRT HU hrow hbx HP HPK HN HI
            have hj2 := HRL.out
            clear HRL
            subst hj2
            obtain ⟨Av, cv, rfl⟩ := own_form HPW.out.own
            have b2 := HPW.out.box.cell 2
            simp at b2
            have hws : w.heap.size + 3 ≤ wr.heap.size := HPW.out.lt
            have h63 : k + 1 ≤ maxLen := by unfold maxLen; omega
            have hby : (k + 1) * 24 ≤ 140737488355328 := by omega
            go_upto_region 15 with (at_builtin; go_loud (refine wpList_append_own_at _ rfl _ _ 22 rfl (w.heap.size + 3) 72 iL (.slice none 0 0) 1 24 Tryd.underlying22 hiL hzL0 hzL1 hzL2 rfl (by omega) (.slice Av k cv) k _ rfl (HPW.out.own.alloc _) ⟨wr.heap.size, 0, none⟩ 1 1 [.slice (some ⟨g, 0, none⟩) row.length c] rfl rfl (newsA wr _ [.slice (some ⟨g, 0, none⟩) row.length c]) (by simp [Value.oneCell']) h63 hby (Nat.le_trans hws (by simp)) ?_); intro v2 Z hown2 hg2 _ hat2; have HNX := hid_ (HPW.out.next HU2.out hXs HROW.out hg2 hown2); obtain ⟨A3, c3, rfl⟩ := own_form hown2; have BZ := (HPW.out.box.alloc (.cells #[.slice (some ⟨g, 0, none⟩) row.length c] 72)).grownby hg2 (fun e => by have := own_lt HPW.out.own _ e.symm; omega); have z2 := BZ.cell 2; have y2 := BZ.free 2; simp at z2; clear hown2 hg2 hat2 BZ)
            go_wp2_with fail
            go_roundw
            case rel => exact ⟨k + 1, _, _, by go_num, by omega, HNX, HGK1⟩
            case measure => simp [RowKit.intOf]; omega
      · obtain ⟨q, hq⟩ : ∃ q : Nat, q = p.size % 3 := ⟨_, rfl⟩
        have hr : ((p.size : Nat) : Int).tmod 3 = (q : Int) := by rw [Int.tmod_eq_emod_of_nonneg (by omega)]; omega
        have tq : ((q : Int) != 0) = true := by simp; omega
        have HN : Hid (parB ps = (⟨0, 0, []⟩, 3)) := hid_ (by
          rw [parB, if_neg]
          rintro ⟨h1, _⟩
          have := (List.all_eq_true.1 h1) p (List.mem_of_getElem? hp)
          rw [decide_eq_true_eq] at this
          exact hp3 this)
        have HRS := hid_ HP.out.res
        have hbR := HP.out.bel
        clear hq hp hp3 HP HGK
        have s0 := HRS.out.free 0
        have s1 := HRS.out.free 1
        have s2 := HRS.out.free 2
        have r0 := HRS.out.cell 0
        have r1 := HRS.out.cell 1
        have r2 := HRS.out.cell 2
        simp at r0 r1 r2
        go_wp2_with fail
        have BZ := (((HRS.out).set_ 0 (.int .i64 0)).set_ 1 (.int .i64 0)).set_ 2 (.slice none 0 0)
        have e0 := BZ.cell 0
        have e1 := BZ.cell 1
        have e2 := BZ.cell 2
        simp at e0 e1 e2
        refine bodyPost_ret (v := .tuple #[.agg #[.int .i64 0, .int .i64 0, .slice none 0 0], .int .i64 3]) (by simp [results, Tryd.results22, go_sem, e0, e1, e2]) rfl ?_
        exact ⟨none, 0, by rw [HN.out]; rfl, by rw [HN.out]; exact no_in _, (((hbR).setCell (by simp <;> omega) _).setCell (by simp <;> omega) _).setCell (by simp <;> omega) _⟩
    · obtain rfl : k = ps.length := by omega
      obtain ⟨Av, cv, rfl⟩ := own_form HP.out.own
      obtain ⟨gv, rfl, hgv⟩ := own_addr HP.out.own (by omega)
      have HRW : Hid (OwnRows wr (w.heap.size + 3) vs (rowsB ps)) := hid_ (by have := HP.out.rws; rwa [List.take_of_length_le (by rw [rowsB, List.length_map]; omega)] at this)
      have hml : 0 < (rowsB ps).length := by rw [rowsB, List.length_map]; omega
      obtain ⟨rw0, hr0⟩ : ∃ rw0, (rowsB ps)[0]? = some rw0 := ⟨_, List.getElem?_eq_getElem hml⟩
      have HM0 : Hid (machB ps = ⟨(ps.length : Int), (rw0.length : Int), rowsB ps⟩) := hid_ (by
        unfold machB
        cases h : rowsB ps with
        | nil => rw [h] at hr0; simp at hr0
        | cons a l => rw [h] at hr0; simp at hr0; rw [hr0]; rfl)
      obtain ⟨vb, hvb⟩ : ∃ b, b = validM (machB ps) := ⟨_, rfl⟩
      have HVB := hid_ hvb
      have HGG : Hid (goodB ps = true) := hid_ (by have := HGK.out; rwa [List.take_length] at this)
      have HLR : Hid (∀ r ∈ rowsB ps, r.length ≤ 26) := hid_ (fun r hr => by
        obtain ⟨p, hp, rfl⟩ := List.mem_map.1 hr
        rw [chunksL_len]
        have := H78.out p hp
        have h2 : p.data.toList.length = p.size := rfl
        omega)
      clear hvb HGK
      obtain ⟨A0, d0, hq0, -⟩ := (HRW.out.rules2 HP.out.own).row hr0
      have b0 := HP.out.box.cell 0
      have b1 := HP.out.box.cell 1
      have b2 := HP.out.box.cell 2
      have f0 := HP.out.box.free 0
      have f1 := HP.out.box.free 1
      simp at b0 b1 b2 hq0
      have hlw := HP.out.lt
      have t1 : (0 : Int) < (ps.length : Int) := by omega
      have hgw : gv ≠ w.heap.size + 1 := by omega
      have HVA : Hid (∀ v X, MachIn X X.heap.size v (machB ps) → Calls Tryd.prog 11 #[.agg #[.int .i64 (ps.length : Int), .int .i64 (rw0.length : Int), v]] X fun e w' => e = .returned (.bool vb) ∧ Below X.heap.size X w') := hid_ (fun v X h => by
        have := valid_any (machB ps) v X h
        rw [← HVB.out, HM0.out] at this
        exact this)
      clear hr0 hml
      go_upto_region 16 with fail
      go_region
      have HU : Hid (PSt w ps (rowsB ps) ps.length (.slice (some ⟨gv, 0, none⟩) ps.length cv) vs wr) := HP
      obtain ⟨U, hU⟩ : ∃ U, U = ((wr.setCell ⟨w.heap.size + 1, 0, none⟩ (.int .i64 (ps.length : Int))).setCell ⟨w.heap.size + 1, 1, none⟩ (.int .i64 (rw0.length : Int))).drew := ⟨_, rfl⟩
      rw [← hU]
      have HBU : Hid (Blk U (w.heap.size + 1) 24 #[.int .i64 (ps.length : Int), .int .i64 (rw0.length : Int), .slice (some ⟨gv, 0, none⟩) ps.length cv]) := hid_ (by
        rw [hU]
        have : Blk ((wr.setCell ⟨w.heap.size + 1, 0, none⟩ (.int .i64 (ps.length : Int))).setCell ⟨w.heap.size + 1, 1, none⟩ (.int .i64 (rw0.length : Int))) (w.heap.size + 1) 24 #[.int .i64 (ps.length : Int), .int .i64 (rw0.length : Int), .slice (some ⟨gv, 0, none⟩) ps.length cv] := by simpa using (HP.out.box.set_ 0 (.int .i64 (ps.length : Int))).set_ 1 (.int .i64 (rw0.length : Int))
        exact this)
      have HRU2 : Hid (Blk U w.heap.size 24 #[.int .i64 0, .int .i64 0, .slice none 0 0]) := hid_ (by
        rw [hU]
        exact (((HP.out.res.far (by show w.heap.size ≠ w.heap.size + 1; omega) _).far (by show w.heap.size ≠ w.heap.size + 1; omega) _).dN 1))
      have HOU : Hid (MOwn U (w.heap.size + 3) (.slice (some ⟨gv, 0, none⟩) ps.length cv) (machB ps)) := hid_ (by
        rw [hU]
        exact MOwn.set (MOwn.set ⟨vs, gv, ps.length, cv, rfl, HP.out.own, HRW.out⟩ (by omega) _) (by omega) _)
      have hbU : Below w.heap.size w U := by
        rw [hU]
        exact (((HP.out.bel.setCell (by show w.heap.size ≤ w.heap.size + 1; omega) _).setCell (by show w.heap.size ≤ w.heap.size + 1; omega) _).drew)
      clear hU HU HP HRW b0 b1 b2 f0 f1 hq0 hgw hgv
      have b0 := HBU.out.cell 0
      have b1 := HBU.out.cell 1
      have b2 := HBU.out.cell 2
      simp at b0 b1 b2
      have HMU := hid_ (HOU.out.machb (by show (rowsB ps).length ≤ _; rw [rowsB, List.length_map]; omega) (fun r hr => Nat.le_trans (HLR.out r hr) (by decide)))
      go_upto_if 63 with (go_at_call 11; (with_reducible refine (HVA.out _ U HMU.out).mono ?_); rintro e Y ⟨rfl, hb5⟩)
      have HBY := hid_ (HBU.out.to hb5)
      have HRY := hid_ (HRU2.out.to hb5)
      have HOY := hid_ (HOU.out.to hb5)
      have hbY := bnext' hbU hb5
      clear b0 b1 b2 HBU HRU2 HOU hbU hb5
      have b0 := HBY.out.cell 0
      have b1 := HBY.out.cell 1
      have b2 := HBY.out.cell 2
      simp at b0 b1 b2
      cases vb with
      | false =>
        have HN : Hid (parB ps = (⟨0, 0, []⟩, 3)) := hid_ (by rw [parB, if_neg]; rintro ⟨_, h⟩; rw [← HVB.out] at h; simp at h)
        have s0 := HRY.out.free 0
        have s1 := HRY.out.free 1
        have s2 := HRY.out.free 2
        have r0 := HRY.out.cell 0
        have r1 := HRY.out.cell 1
        have r2 := HRY.out.cell 2
        simp at r0 r1 r2
        go_wp2_with fail
        have BZ := (((HRY.out).set_ 0 (.int .i64 0)).set_ 1 (.int .i64 0)).set_ 2 (.slice none 0 0)
        have e0 := BZ.cell 0
        have e1 := BZ.cell 1
        have e2 := BZ.cell 2
        simp at e0 e1 e2
        refine bodyPost_ret (v := .tuple #[.agg #[.int .i64 0, .int .i64 0, .slice none 0 0], .int .i64 3]) (by simp [results, Tryd.results22, go_sem, e0, e1, e2]) rfl ?_
        exact ⟨none, 0, by rw [HN.out]; rfl, by rw [HN.out]; exact no_in _, (((hbY).setCell (by simp <;> omega) _).setCell (by simp <;> omega) _).setCell (by simp <;> omega) _⟩
      | true =>
        have HN : Hid (parB ps = (machB ps, 0)) := hid_ (by rw [parB, if_pos ⟨HGG.out, HVB.out.symm⟩])
        have hll : (machB ps).rules.length = ps.length := by show (rowsB ps).length = _; rw [rowsB, List.length_map]
        have s0 := HRY.out.free 0
        have s1 := HRY.out.free 1
        have s2 := HRY.out.free 2
        have r0 := HRY.out.cell 0
        have r1 := HRY.out.cell 1
        have r2 := HRY.out.cell 2
        simp at r0 r1 r2
        go_wp2_with fail
        have BZ := (((HRY.out).set_ 0 (.int .i64 (ps.length : Int))).set_ 1 (.int .i64 (rw0.length : Int))).set_ 2 (.slice (some ⟨gv, 0, none⟩) ps.length cv)
        have e0 := BZ.cell 0
        have e1 := BZ.cell 1
        have e2 := BZ.cell 2
        simp at e0 e1 e2
        refine bodyPost_ret (v := .tuple #[.agg #[.int .i64 (ps.length : Int), .int .i64 (rw0.length : Int), .slice (some ⟨gv, 0, none⟩) ps.length cv], .int .i64 0]) (by simp [results, Tryd.results22, go_sem, e0, e1, e2]) rfl ?_
        have hmi := (((HOY.out.set (b := w.heap.size) (i := 0) (by omega) (.int .i64 (ps.length : Int))).set (b := w.heap.size) (i := 1) (by omega) (.int .i64 (rw0.length : Int))).set (b := w.heap.size) (i := 2) (by omega) (.slice (some ⟨gv, 0, none⟩) ps.length cv)).machb (by rw [hll]; omega) (fun r hr => Nat.le_trans (HLR.out r hr) (by decide))
        exact ⟨some ⟨gv, 0, none⟩, cv, by rw [HN.out]; show _ = Ending.returned (.tuple #[.agg #[.int .i64 (machB ps).states, .int .i64 (machB ps).symbols, .slice (some ⟨gv, 0, none⟩) (machB ps).rules.length cv], .int .i64 0]); rw [hll, HM0.out], by rw [HN.out]; show MachIn _ _ (.slice (some ⟨gv, 0, none⟩) (machB ps).rules.length cv) (machB ps); rw [hll]; exact hmi, below_set (below_set (below_set hbY (Nat.le_refl _) 0 _) (Nat.le_refl _) 1 _) (Nat.le_refl _) 2 _⟩
end Go.Proofs.YtkbaiegfloajlaaDoor.Tp

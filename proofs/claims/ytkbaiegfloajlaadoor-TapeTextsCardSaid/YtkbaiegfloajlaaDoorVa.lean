/- Contracts: parseRule of package tape. -/
import Derived.Test.YtkbaiegfloajlaaDoorTe
namespace Go.Proofs.YtkbaiegfloajlaaDoor.Tp
open Go.RowKit

/-- The rule of three characters. -/
def pruleB (x y z : UInt8) : RuleS := ⟨(x.toNat : Int) - 48, if y.toNat = 76 then -1 else if y.toNat = 82 then 1 else 0, if z.toNat = 90 then -1 else if (z.toNat : Int) - 65 < 0 then 6 else (z.toNat : Int) - 65⟩

set_option maxRecDepth 100000 in
set_option maxHeartbeats 2000000 in
theorem prule_any (x y z : UInt8) (w : World) :
    Calls Tryd.prog 55 #[.string ⟨#[x, y, z]⟩] w fun e w' => e = .returned (.agg #[.int .i64 (pruleB x y z).w, .int .i64 (pruleB x y z).m, .int .i64 (pruleB x y z).n]) ∧ Below w.heap.size w w' := by
  obtain ⟨R, hR⟩ : ∃ R, R = pruleB x y z := ⟨_, rfl⟩
  rw [← hR]
  have HR := hid_ hR
  clear hR
  obtain ⟨X, hX⟩ : ∃ X : Nat, X = x.toNat := ⟨_, rfl⟩
  obtain ⟨Y, hY⟩ : ∃ Y : Nat, Y = y.toNat := ⟨_, rfl⟩
  obtain ⟨Z, hZ⟩ : ∃ Z : Nat, Z = z.toNat := ⟨_, rfl⟩
  have lx : X < 256 := by rw [hX]; exact x.toNat_lt
  have ly : Y < 256 := by rw [hY]; exact y.toNat_lt
  have lz : Z < 256 := by rw [hZ]; exact z.toNat_lt
  have w0 : wrap64 (X : Int) = (X : Int) := IntWalk.wrap64_in _ (by omega)
  have w1 : wrap64 (Z : Int) = (Z : Int) := IntWalk.wrap64_in _ (by omega)
  have w2 : wrap64 ((X : Int) - 48) = (X : Int) - 48 := IntWalk.wrap64_in _ (by omega)
  have w3 : wrap64 ((Z : Int) - 65) = (Z : Int) - 65 := IntWalk.wrap64_in _ (by omega)
  have w4 : IntKind.i64.wrap (X : Int) = (X : Int) := IntWalk.i64_in _ (by omega)
  have w5 : IntKind.i64.wrap (Z : Int) = (Z : Int) := IntWalk.i64_in _ (by omega)
  have w6 : IntKind.i64.wrap ((X : Int) - 48) = (X : Int) - 48 := IntWalk.i64_in _ (by omega)
  have w7 : IntKind.i64.wrap ((Z : Int) - 65) = (Z : Int) - 65 := IntWalk.i64_in _ (by omega)
  have HR2 : Hid (R = ⟨(X : Int) - 48, if Y = 76 then -1 else if Y = 82 then 1 else 0, if Z = 90 then -1 else if (Z : Int) - 65 < 0 then 6 else (Z : Int) - 65⟩) := hid_ (by rw [HR.out, pruleB, hX, hY, hZ])
  have e0 : ((⟨#[x, y, z]⟩ : ByteArray)[0]'(show 0 < 3 by omega)).toNat = X := by rw [hX]; rfl
  have e1 : ((⟨#[x, y, z]⟩ : ByteArray)[1]'(show 1 < 3 by omega)).toNat = Y := by rw [hY]; rfl
  have e2 : ((⟨#[x, y, z]⟩ : ByteArray)[2]'(show 2 < 3 by omega)).toNat = Z := by rw [hZ]; rfl
  have E1 := hid_ e1
  have E2 := hid_ e2
  clear hX hY hZ HR e1
  have hbW := below1 w (.cells #[.int .i64 0, .int .i64 0, .int .i64 0] 74)
  have BR := Blk.new w 74 #[.int .i64 0, .int .i64 0, .int .i64 0]
  have hsz : (w.alloc (.cells #[.int .i64 0, .int .i64 0, .int .i64 0] 74)).heap.size = w.heap.size + 1 := by simp
  have HSZ := hid_ hsz
  clear hsz
  go_enter Tryd.func55, Tryd.ntmps55
  go_upto_region 1 with fail
  generalize w.alloc (.cells #[.int .i64 0, .int .i64 0, .int .i64 0] 74) = W at *
  go_cut [3] (fun s wx => s = .pointer (some ⟨W.heap.size, 0, none⟩) ∧ Blk wx W.heap.size 74 #[.int .i64 ((X : Int) - 48), .int .i64 0, .int .i64 ((Z : Int) - 65)] ∧ Below W.heap.size W wx)
  case first => as_aux_lemma =>
    go_region
    all_goals
      go_wp2_with fail
      go_meet
      exact ⟨rfl, Blk.new _ _ _, (below1 W _).drew⟩
  case rest => as_aux_lemma =>
    obtain ⟨rfl, hb, hbx⟩ := hcut
    obtain ⟨V, rfl⟩ : ∃ V : World, V = wc := ⟨_, rfl⟩
    clear e0 e2
    have HB := hid_ hb
    have HBR := hid_ (BR.to hbx)
    have hbV := bnext hbW hbx
    have hlt : w.heap.size < W.heap.size := by have := HSZ.out; omega
    clear HSZ
    clear hb BR hbx hbW
    have e1 := E1.out
    go_upto_block 0 with fail
    clear e1
    have c1 := HB.out.cell 1
    have f1 := HB.out.free 1
    simp at c1
    go_cut [3] (fun s wx => s = .pointer (some ⟨W.heap.size, 0, none⟩) ∧ Blk wx W.heap.size 74 #[.int .i64 ((X : Int) - 48), .int .i64 (if Y = 76 then -1 else if Y = 82 then 1 else 0), .int .i64 ((Z : Int) - 65)] ∧ Blk wx w.heap.size 74 #[.int .i64 0, .int .i64 0, .int .i64 0] ∧ Below w.heap.size w wx)
    case first => as_aux_lemma =>
      by_cases h1 : Y = 76
      · have y1 : ((Y : Int) == 76) = true := by simp; omega
        have HY := hid_ h1
        clear h1
        go_wp2_with fail
        go_meet
        refine ⟨rfl, ?_, HBR.out.far (by show w.heap.size ≠ W.heap.size; omega) _, below_set hbV (by omega) 1 _⟩
        rw [if_pos HY.out]
        simpa using HB.out.set_ 1 (.int .i64 (-1))
      · have y1 : ((Y : Int) == 76) = false := by simp; omega
        have HY := hid_ h1
        clear h1
        by_cases h2 : Y = 82
        · have y2 : ((Y : Int) == 82) = true := by simp; omega
          have HY2 := hid_ h2
          clear h2
          go_wp2_with fail
          go_meet
          refine ⟨rfl, ?_, HBR.out.far (by show w.heap.size ≠ W.heap.size; omega) _, below_set hbV (by omega) 1 _⟩
          rw [if_neg HY.out, if_pos HY2.out]
          simpa using HB.out.set_ 1 (.int .i64 1)
        · have y2 : ((Y : Int) == 82) = false := by simp; omega
          have HY2 := hid_ h2
          clear h2
          go_wp2_with fail
          go_meet
          refine ⟨rfl, ?_, HBR.out, hbV⟩
          rw [if_neg HY.out, if_neg HY2.out]
          exact HB.out
    case rest => as_aux_lemma =>
      obtain ⟨rfl, hb, hbr, hbV2⟩ := hcut
      obtain ⟨U, rfl⟩ : ∃ U : World, U = wc := ⟨_, rfl⟩
      have HB2 := hid_ hb
      have HBR2 := hid_ hbr
      clear hb hbr HB HBR c1 f1 hbV
      obtain ⟨M, hM⟩ : ∃ M : Int, M = if Y = 76 then -1 else if Y = 82 then 1 else 0 := ⟨_, rfl⟩
      rw [← hM] at HB2
      have HR3 : Hid (R = ⟨(X : Int) - 48, M, if Z = 90 then -1 else if (Z : Int) - 65 < 0 then 6 else (Z : Int) - 65⟩) := hid_ (by rw [HR2.out, hM])
      clear hM HR2
      have c2 := HB2.out.cell 2
      have f2 := HB2.out.free 2
      simp at c2
      have e2 := E2.out
      go_upto_if 23 with fail
      clear e2
      go_cut [3] (fun s wx => s = .pointer (some ⟨W.heap.size, 0, none⟩) ∧ Blk wx W.heap.size 74 #[.int .i64 ((X : Int) - 48), .int .i64 M, .int .i64 (if Z = 90 then -1 else if (Z : Int) - 65 < 0 then 6 else (Z : Int) - 65)] ∧ Blk wx w.heap.size 74 #[.int .i64 0, .int .i64 0, .int .i64 0] ∧ Below w.heap.size w wx)
      case first => as_aux_lemma =>
        by_cases h1 : Z = 90
        · have y1 : ((Z : Int) == 90) = true := by simp; omega
          have HY := hid_ h1
          clear h1
          go_wp2_with fail
          go_meet
          refine ⟨rfl, ?_, HBR2.out.far (by show w.heap.size ≠ W.heap.size; omega) _, below_set hbV2 (by omega) 2 _⟩
          rw [if_pos HY.out]
          simpa using HB2.out.set_ 2 (.int .i64 (-1))
        · have y1 : ((Z : Int) == 90) = false := by simp; omega
          have HY := hid_ h1
          clear h1
          by_cases h2 : (Z : Int) - 65 < 0
          · have HY2 := hid_ h2
            go_wp2_with fail
            go_meet
            refine ⟨rfl, ?_, HBR2.out.far (by show w.heap.size ≠ W.heap.size; omega) _, below_set hbV2 (by omega) 2 _⟩
            rw [if_neg HY.out, if_pos HY2.out]
            simpa using HB2.out.set_ 2 (.int .i64 6)
          · have HY2 := hid_ h2
            go_wp2_with fail
            go_meet
            refine ⟨rfl, ?_, HBR2.out, hbV2⟩
            rw [if_neg HY.out, if_neg (show ¬ ((Z : Int) - 65 < 0) by have := HY2.out; omega)]
            exact HB2.out
      case rest => as_aux_lemma =>
        obtain ⟨rfl, hb, hbr, hbV3⟩ := hcut
        obtain ⟨T, rfl⟩ : ∃ T : World, T = wc := ⟨_, rfl⟩
        have HB3 := hid_ hb
        have HBR3 := hid_ hbr
        clear hb hbr HB2 HBR2 c2 f2 hbV2
        obtain ⟨Nx, hN⟩ : ∃ Nx : Int, Nx = if Z = 90 then -1 else if (Z : Int) - 65 < 0 then 6 else (Z : Int) - 65 := ⟨_, rfl⟩
        rw [← hN] at HB3
        have HR4 : Hid (R = ⟨(X : Int) - 48, M, Nx⟩) := hid_ (by rw [HR3.out, hN])
        clear hN HR3
        have t0 := HB3.out.cell 0
        have t1 := HB3.out.cell 1
        have t2 := HB3.out.cell 2
        have s0 := HBR3.out.cell 0
        have s1 := HBR3.out.cell 1
        have s2 := HBR3.out.cell 2
        have f0 := HBR3.out.free 0
        have f1 := HBR3.out.free 1
        have f2 := HBR3.out.free 2
        simp at t0 t1 t2 s0 s1 s2
        go_wp2_with fail
        have E0 := ((HBR3.out.set_ 0 (.int .i64 ((X : Int) - 48))).set_ 1 (.int .i64 M)).set_ 2 (.int .i64 Nx)
        have e0 := E0.cell 0
        have e1 := E0.cell 1
        have e2 := E0.cell 2
        simp at e0 e1 e2
        refine bodyPost_ret (v := .agg #[.int .i64 ((X : Int) - 48), .int .i64 M, .int .i64 Nx]) (by simp [results, Tryd.results55, go_sem, e0, e1, e2]) rfl ?_
        rw [HR4.out]
        exact ⟨rfl, below_set (below_set (below_set hbV3 (Nat.le_refl _) 0 _) (Nat.le_refl _) 1 _) (Nat.le_refl _) 2 _⟩
end Go.Proofs.YtkbaiegfloajlaaDoor.Tp

/- The contract of the specification's Join. -/
import Derived.Test.YtgpcgjdnehlaeaaAd
namespace Go.Proofs.Ytgpcgjdnehlaeaa
open Go.RowKit

def RJRet (w : World) (M : Int) (code : List Ins) (e : Ending) (w' : World) : Prop :=
  ∃ A n c, e = .returned (.agg #[.int .i64 M, .slice A n c]) ∧ CodeAt w' w'.heap.size A n code ∧ Below w.heap.size w w'

theorem halts_step {a : List Ins} {k : Nat} {i : Ins} (hi : a[k]? = some i) (ho : i.op = 2) : halts (a.take (k + 1)) = true := by
  rw [List.take_add_one, hi]
  simp [halts, ho]
theorem halts_on {a : List Ins} {k : Nat} {i : Ins} (hi : a[k]? = some i) (ho : i.op ≠ 2) : halts (a.take (k + 1)) = halts (a.take k) := by
  rw [List.take_add_one, hi]
  simp [halts, ho]

set_option maxRecDepth 100000 in
set_option maxHeartbeats 8000000 in
theorem rjoin_lt (R1 R2 : Int) (A1 A2 : Option Addr) (n1 c1 n2 c2 : Nat) (a b : List Ins) (w : World) (h1 : CodeAt w w.heap.size A1 n1 a) (h2 : CodeAt w w.heap.size A2 n2 b) (hv1 : vCode R1 a = true) (hv2 : vCode R2 b = true) (hRR : R1 < R2) :
    Calls Try.prog 23 #[.agg #[.int .i64 R1, .slice A1 n1 c1], .agg #[.int .i64 R2, .slice A2 n2 c2]] w (RJRet w R2 (joinC a b)) := by
  have H1 := hid_ h1; clear h1
  have H2 := hid_ h2; clear h2
  have V1 := hid_ hv1; clear hv1
  have V2 := hid_ hv2; clear hv2
  have ha1 : 0 < n1 := by have := vCode_reg V1.out; have := H1.out.len; omega
  have hn1 : n1 ≤ 2000 := by have := vCode_reg V1.out; have := H1.out.len; omega
  have ha2 : 0 < n2 := by have := vCode_reg V2.out; have := H2.out.len; omega
  have hn2 : n2 ≤ 2000 := by have := vCode_reg V2.out; have := H2.out.len; omega
  obtain ⟨b1, off1, rfl, hb1, hin1⟩ := H1.out.at_ ha1
  obtain ⟨b2, off2, rfl, hb2, hin2⟩ := H2.out.at_ ha2
  have HI1 := hid_ hin1; clear hin1
  have HI2 := hid_ hin2; clear hin2
  have hlen1 := hid_ H1.out.len
  have hlen2 := hid_ H2.out.len
  obtain ⟨z0, hz0, hz1, hz2, hz3⟩ := info_parts Try.info50
  go_enter Try.func23, Try.ntmps23
  go_wp2_with fail
  generalize hW : ((w.alloc (.cells #[.int .i64 R1, .slice (some ⟨b1, off1, none⟩) n1 c1] 24)).alloc (.cells #[.int .i64 R2, .slice (some ⟨b2, off2, none⟩) n2 c2] 24)).alloc (.cells #[.int .i64 0, .slice none 0 0] 24) = w2
  have hsz : w2.heap.size = w.heap.size + 1 + 1 + 1 := by rw [← hW]; simp
  have hw2 : Below w.heap.size w w2 := by rw [← hW]; exact alloc3 w _ _ _
  have C1 : Blk w2 w.heap.size 24 #[.int .i64 R1, .slice (some ⟨b1, off1, none⟩) n1 c1] := by rw [← hW]; exact ((Blk.new w 24 _).alloc _).alloc _
  have C2 : Blk w2 (w.heap.size + 1) 24 #[.int .i64 R2, .slice (some ⟨b2, off2, none⟩) n2 c2] := by
    rw [← hW]
    have := (Blk.new (w.alloc (.cells #[.int .i64 R1, .slice (some ⟨b1, off1, none⟩) n1 c1] 24)) 24 #[.int .i64 R2, .slice (some ⟨b2, off2, none⟩) n2 c2]).alloc (.cells #[.int .i64 0, .slice none 0 0] 24)
    simpa using this
  have C3 : Blk w2 (w.heap.size + 1 + 1) 24 #[.int .i64 0, .slice none 0 0] := by
    rw [← hW]
    have := Blk.new ((w.alloc (.cells #[.int .i64 R1, .slice (some ⟨b1, off1, none⟩) n1 c1] 24)).alloc (.cells #[.int .i64 R2, .slice (some ⟨b2, off2, none⟩) n2 c2] 24)) 24 #[.int .i64 0, .slice none 0 0]
    simpa using this
  rw [← hsz]
  have HSZ := hid_ hsz
  have hz20 : w.heap.size + 1 + 1 < w2.heap.size := by omega
  have HC1 := hid_ C1; clear C1
  have HC2 := hid_ C2; clear C2
  have HC3 := hid_ C3; clear C3
  clear hW hsz
  go_loopw [7, 8] (fun s7 s8 wr => ∃ k A cap, s8 = .int .i64 ((k : Nat) : Int) ∧ k ≤ n1 ∧ s7 = .bool (halts (a.take k)) ∧ Blk wr w2.heap.size 24 #[.int .i64 R2, .slice A k cap] ∧ Hid (wr.ownsRow (w2.heap.size + 1) 50 4 (.slice A k cap) k (flat ((a.take k).map (linkI n1)))) ∧ Below w2.heap.size w2 wr)
    (fun _ s _ => n1 - (intOf s).toNat)
  case atStart => exact ⟨0, none, 0, rfl, Nat.zero_le _, by simp [halts], Blk.new _ _ _, hid_ ⟨rfl, .inl ⟨rfl, rfl⟩⟩, (Below.refl _ _).alloc (Nat.le_refl _) _⟩
  case round =>
    obtain ⟨k, A, cap, rfl, hk, rfl, hB, HO, hbr⟩ := hrel
    have o0 := hB.cell 0
    have o1 := hB.cell 1
    have of0 := hB.free 0
    have of1 := hB.free 1
    have hoz := hB.lt
    simp at o0 o1
    have hbw := hw2.trans (hbr.mono hw2.size)
    have E1 := HC1.out.below hbr (by omega)
    have E2 := HC2.out.below hbr (by omega)
    have E3 := HC3.out.below hbr (by omega)
    have p0 := E1.cell 0
    have p1 := E1.cell 1
    have q0 := E2.cell 0
    have q1 := E2.cell 1
    have x0 := E3.cell 0
    have x1 := E3.cell 1
    have y0 := E3.free 0
    have y1 := E3.free 1
    simp at p0 p1 q0 q1 x0 x1
    have ez1 := E1.lt
    have ez2 := E2.lt
    have ez3 := E3.lt
    by_cases hlt : k < n1
    · obtain ⟨i, hi⟩ : ∃ i, a[k]? = some i := ⟨_, List.getElem?_eq_getElem (by rw [hlen1.out]; exact hlt)⟩
      obtain ⟨i0, i1, i2, i3⟩ := (HI1.out.below hbw hb1) k i hi
      have HI := hid_ hi
      clear hi
      obtain ⟨op, rg, nx, zr⟩ := i
      simp only at i0 i1 i2 i3
      by_cases ho : op = 2
      · subst ho
        go_wp2_with (at_builtin; refine wpList_append_lies _ rfl _ _ _ rfl (w2.heap.size + 1) 50 z0 (.agg #[.int .i64 0, .int .i64 0, .int .i64 0, .int .i64 0]) 4 32 Try.underlying22 hz0 hz1 hz2 hz3 rfl (by omega) (.slice A k cap) k _ rfl ((HO.out.alloc (.cells #[.int .i64 0, .int .i64 0, .int .i64 n1, .int .i64 0] 50)).alloc (.cells #[.int .i64 0, .int .i64 0, .int .i64 n1, .int .i64 0] 50)) ⟨wr.heap.size + 1, 0, none⟩ 1 1 [.int .i64 0, .int .i64 0, .int .i64 n1, .int .i64 0] rfl rfl (news4 _ _ _ _ _ _ _) (ints4 _ _ _ _) (by omega) (by unfold maxLen; omega) (by omega) (by simp; omega) (wr.heap.size + 1 + 1) (by simp) ?_; intro g' cap' w' hown' hgrow hat hlt'; have BX := ((hB.alloc (.cells #[.int .i64 0, .int .i64 0, .int .i64 n1, .int .i64 0] 50)).alloc (.cells #[.int .i64 0, .int .i64 0, .int .i64 n1, .int .i64 0] 50)).grownby hgrow (own_ne HO.out (by omega)); have r1 := BX.cell 1; have f1 := BX.free 1; simp at r1)
        go_roundw
        case rel =>
          obtain ⟨n1', n2', n3'⟩ := out_next BX hown' (((hbr.alloc (by omega) (.cells #[.int .i64 0, .int .i64 0, .int .i64 n1, .int .i64 0] 50)).alloc (by simp; omega) (.cells #[.int .i64 0, .int .i64 0, .int .i64 n1, .int .i64 0] 50)).grown hgrow (by simp; omega) (fun k hk => by have := own_lt HO.out k hk; omega))
          exact ⟨k + 1, _, _, by go_num, by omega, by rw [halts_step HI.out rfl], n1', hid_ (by rw [flat_step HI.out]; simpa [linkI, Ins.cells] using n2'), n3'⟩
        case measure => simp [intOf]; omega
      · go_wp2_with (at_builtin; refine wpList_append_lies _ rfl _ _ _ rfl (w2.heap.size + 1) 50 z0 (.agg #[.int .i64 0, .int .i64 0, .int .i64 0, .int .i64 0]) 4 32 Try.underlying22 hz0 hz1 hz2 hz3 rfl (by omega) (.slice A k cap) k _ rfl ((HO.out.alloc (.cells #[.int .i64 op, .int .i64 rg, .int .i64 nx, .int .i64 zr] 50)).alloc (.cells #[.int .i64 op, .int .i64 rg, .int .i64 nx, .int .i64 zr] 50)) ⟨wr.heap.size + 1, 0, none⟩ 1 1 [.int .i64 op, .int .i64 rg, .int .i64 nx, .int .i64 zr] rfl rfl (news4 _ _ _ _ _ _ _) (ints4 _ _ _ _) (by omega) (by unfold maxLen; omega) (by omega) (by simp; omega) (wr.heap.size + 1 + 1) (by simp) ?_; intro g' cap' w' hown' hgrow hat hlt'; have BX := ((hB.alloc (.cells #[.int .i64 op, .int .i64 rg, .int .i64 nx, .int .i64 zr] 50)).alloc (.cells #[.int .i64 op, .int .i64 rg, .int .i64 nx, .int .i64 zr] 50)).grownby hgrow (own_ne HO.out (by omega)); have r1 := BX.cell 1; have f1 := BX.free 1; simp at r1)
        go_roundw
        case rel =>
          obtain ⟨n1', n2', n3'⟩ := out_next BX hown' (((hbr.alloc (by omega) (.cells #[.int .i64 op, .int .i64 rg, .int .i64 nx, .int .i64 zr] 50)).alloc (by simp; omega) (.cells #[.int .i64 op, .int .i64 rg, .int .i64 nx, .int .i64 zr] 50)).grown hgrow (by simp; omega) (fun k hk => by have := own_lt HO.out k hk; omega))
          exact ⟨k + 1, _, _, by go_num, by omega, by rw [halts_on HI.out ho], n1', hid_ (by rw [flat_step HI.out]; simpa [linkI, ho, Ins.cells] using n2'), n3'⟩
        case measure => simp [intOf]; omega
    · have hkn : k = n1 := by omega
      subst hkn
      rw [List.take_of_length_le (by rw [hlen1.out]; exact Nat.le_refl _)] at HO ⊢
      cases hh : halts a
      · go_wp2_with fail
        go_loopw [11] (fun s wr => ∃ kb A cap, s = .int .i64 ((kb : Nat) : Int) ∧ kb ≤ n2 ∧ Blk wr w2.heap.size 24 #[.int .i64 R2, .slice A (k + kb) cap] ∧ Hid (wr.ownsRow (w2.heap.size + 1) 50 4 (.slice A (k + kb) cap) (k + kb) (flat (a.map (linkI k) ++ (b.take kb).map (shiftI ((k : Nat) : Int))))) ∧ Below w2.heap.size w2 wr)
          (fun s _ => n2 - (intOf s).toNat)
        case atStart => exact ⟨0, _, _, rfl, Nat.zero_le _, hB, hid_ (by simpa using HO.out), hbr⟩
        case round =>
          clear hbw o0 o1 of0 of1 hoz p0 p1 q0 q1 x0 x1 y0 y1 ez1 ez2 ez3 E1 E2 E3
          obtain ⟨kb, A, cap, rfl, hkb, hB, HO, hbr⟩ := hrel
          have o0 := hB.cell 0
          have o1 := hB.cell 1
          have of0 := hB.free 0
          have of1 := hB.free 1
          have hoz := hB.lt
          simp at o0 o1
          have hbw := hw2.trans (hbr.mono hw2.size)
          have E1 := HC1.out.below hbr (by omega)
          have E2 := HC2.out.below hbr (by omega)
          have E3 := HC3.out.below hbr (by omega)
          have p0 := E1.cell 0
          have p1 := E1.cell 1
          have q0 := E2.cell 0
          have q1 := E2.cell 1
          have x0 := E3.cell 0
          have x1 := E3.cell 1
          have y0 := E3.free 0
          have y1 := E3.free 1
          simp at p0 p1 q0 q1 x0 x1
          have ez1 := E1.lt
          have ez2 := E2.lt
          have ez3 := E3.lt
          by_cases hlt : kb < n2
          · obtain ⟨i, hi⟩ : ∃ i, b[kb]? = some i := ⟨_, List.getElem?_eq_getElem (by rw [hlen2.out]; exact hlt)⟩
            obtain ⟨i0, i1, i2, i3⟩ := (HI2.out.below hbw hb2) kb i hi
            have hsm := vIns_small (n := n2) (by rw [← hlen2.out]; exact vCode_ins V2.out hi) (by omega)
            have hop := vIns_op (vCode_ins V2.out hi)
            have HI := hid_ hi
            clear hi
            obtain ⟨op, rg, nx, zr⟩ := i
            simp only at i0 i1 i2 i3 hsm hop
            obtain ⟨⟨s0, s1⟩, s2, s3⟩ := hsm
            rcases hop with rfl | rfl | rfl
            · go_wp2_with (at_builtin; refine wpList_append_lies _ rfl _ _ _ rfl (w2.heap.size + 1) 50 z0 (.agg #[.int .i64 0, .int .i64 0, .int .i64 0, .int .i64 0]) 4 32 Try.underlying22 hz0 hz1 hz2 hz3 rfl (by omega) (.slice A (k + kb) cap) (k + kb) _ rfl ((HO.out.alloc (.cells #[.int .i64 0, .int .i64 rg, .int .i64 (nx + ((k : Nat) : Int)), .int .i64 zr] 50)).alloc (.cells #[.int .i64 0, .int .i64 rg, .int .i64 (nx + ((k : Nat) : Int)), .int .i64 zr] 50)) ⟨wr.heap.size + 1, 0, none⟩ 1 1 [.int .i64 0, .int .i64 rg, .int .i64 (nx + ((k : Nat) : Int)), .int .i64 zr] rfl rfl (news4 _ _ _ _ _ _ _) (ints4 _ _ _ _) (by omega) (by unfold maxLen; omega) (by omega) (by simp; omega) (wr.heap.size + 1 + 1) (by simp) ?_; intro g' cap' w' hown' hgrow hat hlt'; have BX := ((hB.alloc (.cells #[.int .i64 0, .int .i64 rg, .int .i64 (nx + ((k : Nat) : Int)), .int .i64 zr] 50)).alloc (.cells #[.int .i64 0, .int .i64 rg, .int .i64 (nx + ((k : Nat) : Int)), .int .i64 zr] 50)).grownby hgrow (own_ne HO.out (by omega)); have r1 := BX.cell 1; have f1 := BX.free 1; simp at r1)
              go_roundw
              case rel =>
                obtain ⟨n1', n2', n3'⟩ := out_next BX hown' (((hbr.alloc (by omega) (.cells #[.int .i64 0, .int .i64 rg, .int .i64 (nx + ((k : Nat) : Int)), .int .i64 zr] 50)).alloc (by simp; omega) (.cells #[.int .i64 0, .int .i64 rg, .int .i64 (nx + ((k : Nat) : Int)), .int .i64 zr] 50)).grown hgrow (by simp; omega) (fun k hk => by have := own_lt HO.out k hk; omega))
                exact ⟨kb + 1, _, _, by go_num, by omega, n1', hid_ (by rw [flat_step2 HI.out, show (shiftI ((k : Nat) : Int) ⟨0, rg, nx, zr⟩).cells = [.int .i64 0, .int .i64 rg, .int .i64 (nx + ((k : Nat) : Int)), .int .i64 zr] from by simp [shiftI, Ins.cells]]; exact n2'), n3'⟩
              case measure => simp [intOf]; omega
            · go_wp2_with (at_builtin; refine wpList_append_lies _ rfl _ _ _ rfl (w2.heap.size + 1) 50 z0 (.agg #[.int .i64 0, .int .i64 0, .int .i64 0, .int .i64 0]) 4 32 Try.underlying22 hz0 hz1 hz2 hz3 rfl (by omega) (.slice A (k + kb) cap) (k + kb) _ rfl ((HO.out.alloc (.cells #[.int .i64 1, .int .i64 rg, .int .i64 (nx + ((k : Nat) : Int)), .int .i64 (zr + ((k : Nat) : Int))] 50)).alloc (.cells #[.int .i64 1, .int .i64 rg, .int .i64 (nx + ((k : Nat) : Int)), .int .i64 (zr + ((k : Nat) : Int))] 50)) ⟨wr.heap.size + 1, 0, none⟩ 1 1 [.int .i64 1, .int .i64 rg, .int .i64 (nx + ((k : Nat) : Int)), .int .i64 (zr + ((k : Nat) : Int))] rfl rfl (news4 _ _ _ _ _ _ _) (ints4 _ _ _ _) (by omega) (by unfold maxLen; omega) (by omega) (by simp; omega) (wr.heap.size + 1 + 1) (by simp) ?_; intro g' cap' w' hown' hgrow hat hlt'; have BX := ((hB.alloc (.cells #[.int .i64 1, .int .i64 rg, .int .i64 (nx + ((k : Nat) : Int)), .int .i64 (zr + ((k : Nat) : Int))] 50)).alloc (.cells #[.int .i64 1, .int .i64 rg, .int .i64 (nx + ((k : Nat) : Int)), .int .i64 (zr + ((k : Nat) : Int))] 50)).grownby hgrow (own_ne HO.out (by omega)); have r1 := BX.cell 1; have f1 := BX.free 1; simp at r1)
              go_roundw
              case rel =>
                obtain ⟨n1', n2', n3'⟩ := out_next BX hown' (((hbr.alloc (by omega) (.cells #[.int .i64 1, .int .i64 rg, .int .i64 (nx + ((k : Nat) : Int)), .int .i64 (zr + ((k : Nat) : Int))] 50)).alloc (by simp; omega) (.cells #[.int .i64 1, .int .i64 rg, .int .i64 (nx + ((k : Nat) : Int)), .int .i64 (zr + ((k : Nat) : Int))] 50)).grown hgrow (by simp; omega) (fun k hk => by have := own_lt HO.out k hk; omega))
                exact ⟨kb + 1, _, _, by go_num, by omega, n1', hid_ (by rw [flat_step2 HI.out, show (shiftI ((k : Nat) : Int) ⟨1, rg, nx, zr⟩).cells = [.int .i64 1, .int .i64 rg, .int .i64 (nx + ((k : Nat) : Int)), .int .i64 (zr + ((k : Nat) : Int))] from by simp [shiftI, Ins.cells]]; exact n2'), n3'⟩
              case measure => simp [intOf]; omega
            · go_wp2_with (at_builtin; refine wpList_append_lies _ rfl _ _ _ rfl (w2.heap.size + 1) 50 z0 (.agg #[.int .i64 0, .int .i64 0, .int .i64 0, .int .i64 0]) 4 32 Try.underlying22 hz0 hz1 hz2 hz3 rfl (by omega) (.slice A (k + kb) cap) (k + kb) _ rfl ((HO.out.alloc (.cells #[.int .i64 2, .int .i64 rg, .int .i64 nx, .int .i64 zr] 50)).alloc (.cells #[.int .i64 2, .int .i64 rg, .int .i64 nx, .int .i64 zr] 50)) ⟨wr.heap.size + 1, 0, none⟩ 1 1 [.int .i64 2, .int .i64 rg, .int .i64 nx, .int .i64 zr] rfl rfl (news4 _ _ _ _ _ _ _) (ints4 _ _ _ _) (by omega) (by unfold maxLen; omega) (by omega) (by simp; omega) (wr.heap.size + 1 + 1) (by simp) ?_; intro g' cap' w' hown' hgrow hat hlt'; have BX := ((hB.alloc (.cells #[.int .i64 2, .int .i64 rg, .int .i64 nx, .int .i64 zr] 50)).alloc (.cells #[.int .i64 2, .int .i64 rg, .int .i64 nx, .int .i64 zr] 50)).grownby hgrow (own_ne HO.out (by omega)); have r1 := BX.cell 1; have f1 := BX.free 1; simp at r1)
              go_roundw
              case rel =>
                obtain ⟨n1', n2', n3'⟩ := out_next BX hown' (((hbr.alloc (by omega) (.cells #[.int .i64 2, .int .i64 rg, .int .i64 nx, .int .i64 zr] 50)).alloc (by simp; omega) (.cells #[.int .i64 2, .int .i64 rg, .int .i64 nx, .int .i64 zr] 50)).grown hgrow (by simp; omega) (fun k hk => by have := own_lt HO.out k hk; omega))
                exact ⟨kb + 1, _, _, by go_num, by omega, n1', hid_ (by rw [flat_step2 HI.out, show (shiftI ((k : Nat) : Int) ⟨2, rg, nx, zr⟩).cells = [.int .i64 2, .int .i64 rg, .int .i64 nx, .int .i64 zr] from by simp [shiftI, Ins.cells]]; exact n2'), n3'⟩
              case measure => simp [intOf]; omega
          · have hkn : kb = n2 := by omega
            subst hkn
            rw [List.take_of_length_le (by rw [hlen2.out]; exact Nat.le_refl _)] at HO
            go_wp2_with fail
            obtain ⟨e0, e1⟩ := res_cells E3 (.int .i64 R2) (.slice A (k + kb) cap)
            refine bodyPost_ret (v := .agg #[.int .i64 R2, .slice A (k + kb) cap]) (by simp [results, Try.results23, go_sem, e0, e1]) rfl ?_
            have hown := own_res2 (q := w.heap.size + 1 + 1) HO.out (by omega) (.int .i64 R2) (.slice A (k + kb) cap)
            obtain ⟨gg, cc, hv, _, _⟩ := hown.form (by omega)
            simp only [Value.slice.injEq, true_and] at hv
            obtain ⟨rfl, rfl⟩ := hv
            refine ⟨_, _, _, rfl, ?_, below_res hbw (by omega) _ _⟩
            rw [show joinC a b = a.map (linkI k) ++ b.map (shiftI ((k : Nat) : Int)) by simp [joinC, firstI, hh, hlen1.out]]
            exact row_code hown
      · go_wp2_with (at_builtin; refine wpList_append_lies _ rfl _ _ _ rfl (w2.heap.size + 1) 50 z0 (.agg #[.int .i64 0, .int .i64 0, .int .i64 0, .int .i64 0]) 4 32 Try.underlying22 hz0 hz1 hz2 hz3 rfl (by omega) (.slice A k cap) k _ rfl (HO.out.alloc (.cells #[.int .i64 1, .int .i64 0, .int .i64 ((k : Int) + 1), .int .i64 ((k : Int) + 1)] 50)) ⟨wr.heap.size, 0, none⟩ 1 1 [.int .i64 1, .int .i64 0, .int .i64 ((k : Int) + 1), .int .i64 ((k : Int) + 1)] rfl rfl (news4d _ _ _ _ _ _) (ints4 _ _ _ _) (by omega) (by unfold maxLen; omega) (by omega) (by simp; omega) (wr.heap.size + 1) (by simp) ?_; intro g' cap' w' hown' hgrow hat hlt'; have BX := (hB.alloc (.cells #[.int .i64 1, .int .i64 0, .int .i64 ((k : Int) + 1), .int .i64 ((k : Int) + 1)] 50)).grownby hgrow (own_ne HO.out (by omega)); have r1 := BX.cell 1; have f1 := BX.free 1; simp at r1; have F2 := (E2.alloc (.cells #[.int .i64 1, .int .i64 0, .int .i64 ((k : Int) + 1), .int .i64 ((k : Int) + 1)] 50)).grownby hgrow (by intro e; have := own_lt HO.out _ e.symm; omega); have p0' := F2.cell 0; have p1' := F2.cell 1; simp at p0' p1'; have hz41 := F2.lt; have hz42 := BX.lt)
        have hbr1 := (hbr.alloc (by omega) (.cells #[.int .i64 1, .int .i64 0, .int .i64 ((k : Int) + 1), .int .i64 ((k : Int) + 1)] 50)).grown hgrow (by simp; omega) (fun k hk => by have := own_lt HO.out k hk; omega)
        obtain ⟨m1, m2, m3⟩ := out_next BX hown' hbr1
        have M1 := hid_ m1
        have M2 := hid_ m2
        have M3 := hid_ m3
        clear m1 m2 m3 hgrow hown' HO hB hbr hbr1 BX F2 hat hlt' r1 f1 p0' p1' hz41 hz42
        go_loopw [11] (fun s wr => ∃ kb A cap, s = .int .i64 ((kb : Nat) : Int) ∧ kb ≤ n2 ∧ Blk wr w2.heap.size 24 #[.int .i64 R2, .slice A ((k + 1) + kb) cap] ∧ Hid (wr.ownsRow (w2.heap.size + 1) 50 4 (.slice A ((k + 1) + kb) cap) ((k + 1) + kb) (flat ((a.map (linkI k) ++ [⟨1, 0, (k : Int) + 1, (k : Int) + 1⟩]) ++ (b.take kb).map (shiftI ((k : Int) + 1))))) ∧ Below w2.heap.size w2 wr)
          (fun s _ => n2 - (intOf s).toNat)
        case atStart => exact ⟨0, _, _, rfl, Nat.zero_le _, M1.out, hid_ (by simpa using (show _ from (by have h := M2.out; rwa [show flat (List.map (linkI k) a) ++ [.int .i64 1, .int .i64 0, .int .i64 ((k : Int) + 1), .int .i64 ((k : Int) + 1)] = flat (List.map (linkI k) a ++ [⟨1, 0, (k : Int) + 1, (k : Int) + 1⟩]) from by simp [flat, Ins.cells]] at h))), M3.out⟩
        case round =>
          clear hbw o0 o1 of0 of1 hoz p0 p1 q0 q1 x0 x1 y0 y1 ez1 ez2 ez3 E1 E2 E3
          obtain ⟨kb, A, cap, rfl, hkb, hB, HO, hbr⟩ := hrel
          have o0 := hB.cell 0
          have o1 := hB.cell 1
          have of0 := hB.free 0
          have of1 := hB.free 1
          have hoz := hB.lt
          simp at o0 o1
          have hbw := hw2.trans (hbr.mono hw2.size)
          have E1 := HC1.out.below hbr (by omega)
          have E2 := HC2.out.below hbr (by omega)
          have E3 := HC3.out.below hbr (by omega)
          have p0 := E1.cell 0
          have p1 := E1.cell 1
          have q0 := E2.cell 0
          have q1 := E2.cell 1
          have x0 := E3.cell 0
          have x1 := E3.cell 1
          have y0 := E3.free 0
          have y1 := E3.free 1
          simp at p0 p1 q0 q1 x0 x1
          have ez1 := E1.lt
          have ez2 := E2.lt
          have ez3 := E3.lt
          by_cases hlt : kb < n2
          · obtain ⟨i, hi⟩ : ∃ i, b[kb]? = some i := ⟨_, List.getElem?_eq_getElem (by rw [hlen2.out]; exact hlt)⟩
            obtain ⟨i0, i1, i2, i3⟩ := (HI2.out.below hbw hb2) kb i hi
            have hsm := vIns_small (n := n2) (by rw [← hlen2.out]; exact vCode_ins V2.out hi) (by omega)
            have hop := vIns_op (vCode_ins V2.out hi)
            have HI := hid_ hi
            clear hi
            obtain ⟨op, rg, nx, zr⟩ := i
            simp only at i0 i1 i2 i3 hsm hop
            obtain ⟨⟨s0, s1⟩, s2, s3⟩ := hsm
            rcases hop with rfl | rfl | rfl
            · go_wp2_with (at_builtin; refine wpList_append_lies _ rfl _ _ _ rfl (w2.heap.size + 1) 50 z0 (.agg #[.int .i64 0, .int .i64 0, .int .i64 0, .int .i64 0]) 4 32 Try.underlying22 hz0 hz1 hz2 hz3 rfl (by omega) (.slice A ((k + 1) + kb) cap) ((k + 1) + kb) _ rfl ((HO.out.alloc (.cells #[.int .i64 0, .int .i64 rg, .int .i64 (nx + ((k : Int) + 1)), .int .i64 zr] 50)).alloc (.cells #[.int .i64 0, .int .i64 rg, .int .i64 (nx + ((k : Int) + 1)), .int .i64 zr] 50)) ⟨wr.heap.size + 1, 0, none⟩ 1 1 [.int .i64 0, .int .i64 rg, .int .i64 (nx + ((k : Int) + 1)), .int .i64 zr] rfl rfl (news4 _ _ _ _ _ _ _) (ints4 _ _ _ _) (by omega) (by unfold maxLen; omega) (by omega) (by simp; omega) (wr.heap.size + 1 + 1) (by simp) ?_; intro g' cap' w' hown' hgrow hat hlt'; have BX := ((hB.alloc (.cells #[.int .i64 0, .int .i64 rg, .int .i64 (nx + ((k : Int) + 1)), .int .i64 zr] 50)).alloc (.cells #[.int .i64 0, .int .i64 rg, .int .i64 (nx + ((k : Int) + 1)), .int .i64 zr] 50)).grownby hgrow (own_ne HO.out (by omega)); have r1 := BX.cell 1; have f1 := BX.free 1; simp at r1)
              go_roundw
              case rel =>
                obtain ⟨n1', n2', n3'⟩ := out_next BX hown' (((hbr.alloc (by omega) (.cells #[.int .i64 0, .int .i64 rg, .int .i64 (nx + ((k : Int) + 1)), .int .i64 zr] 50)).alloc (by simp; omega) (.cells #[.int .i64 0, .int .i64 rg, .int .i64 (nx + ((k : Int) + 1)), .int .i64 zr] 50)).grown hgrow (by simp; omega) (fun k hk => by have := own_lt HO.out k hk; omega))
                exact ⟨kb + 1, _, _, by go_num, by omega, n1', hid_ (by rw [flat_step2 HI.out, show (shiftI ((k : Int) + 1) ⟨0, rg, nx, zr⟩).cells = [.int .i64 0, .int .i64 rg, .int .i64 (nx + ((k : Int) + 1)), .int .i64 zr] from by simp [shiftI, Ins.cells]]; exact n2'), n3'⟩
              case measure => simp [intOf]; omega
            · go_wp2_with (at_builtin; refine wpList_append_lies _ rfl _ _ _ rfl (w2.heap.size + 1) 50 z0 (.agg #[.int .i64 0, .int .i64 0, .int .i64 0, .int .i64 0]) 4 32 Try.underlying22 hz0 hz1 hz2 hz3 rfl (by omega) (.slice A ((k + 1) + kb) cap) ((k + 1) + kb) _ rfl ((HO.out.alloc (.cells #[.int .i64 1, .int .i64 rg, .int .i64 (nx + ((k : Int) + 1)), .int .i64 (zr + ((k : Int) + 1))] 50)).alloc (.cells #[.int .i64 1, .int .i64 rg, .int .i64 (nx + ((k : Int) + 1)), .int .i64 (zr + ((k : Int) + 1))] 50)) ⟨wr.heap.size + 1, 0, none⟩ 1 1 [.int .i64 1, .int .i64 rg, .int .i64 (nx + ((k : Int) + 1)), .int .i64 (zr + ((k : Int) + 1))] rfl rfl (news4 _ _ _ _ _ _ _) (ints4 _ _ _ _) (by omega) (by unfold maxLen; omega) (by omega) (by simp; omega) (wr.heap.size + 1 + 1) (by simp) ?_; intro g' cap' w' hown' hgrow hat hlt'; have BX := ((hB.alloc (.cells #[.int .i64 1, .int .i64 rg, .int .i64 (nx + ((k : Int) + 1)), .int .i64 (zr + ((k : Int) + 1))] 50)).alloc (.cells #[.int .i64 1, .int .i64 rg, .int .i64 (nx + ((k : Int) + 1)), .int .i64 (zr + ((k : Int) + 1))] 50)).grownby hgrow (own_ne HO.out (by omega)); have r1 := BX.cell 1; have f1 := BX.free 1; simp at r1)
              go_roundw
              case rel =>
                obtain ⟨n1', n2', n3'⟩ := out_next BX hown' (((hbr.alloc (by omega) (.cells #[.int .i64 1, .int .i64 rg, .int .i64 (nx + ((k : Int) + 1)), .int .i64 (zr + ((k : Int) + 1))] 50)).alloc (by simp; omega) (.cells #[.int .i64 1, .int .i64 rg, .int .i64 (nx + ((k : Int) + 1)), .int .i64 (zr + ((k : Int) + 1))] 50)).grown hgrow (by simp; omega) (fun k hk => by have := own_lt HO.out k hk; omega))
                exact ⟨kb + 1, _, _, by go_num, by omega, n1', hid_ (by rw [flat_step2 HI.out, show (shiftI ((k : Int) + 1) ⟨1, rg, nx, zr⟩).cells = [.int .i64 1, .int .i64 rg, .int .i64 (nx + ((k : Int) + 1)), .int .i64 (zr + ((k : Int) + 1))] from by simp [shiftI, Ins.cells]]; exact n2'), n3'⟩
              case measure => simp [intOf]; omega
            · go_wp2_with (at_builtin; refine wpList_append_lies _ rfl _ _ _ rfl (w2.heap.size + 1) 50 z0 (.agg #[.int .i64 0, .int .i64 0, .int .i64 0, .int .i64 0]) 4 32 Try.underlying22 hz0 hz1 hz2 hz3 rfl (by omega) (.slice A ((k + 1) + kb) cap) ((k + 1) + kb) _ rfl ((HO.out.alloc (.cells #[.int .i64 2, .int .i64 rg, .int .i64 nx, .int .i64 zr] 50)).alloc (.cells #[.int .i64 2, .int .i64 rg, .int .i64 nx, .int .i64 zr] 50)) ⟨wr.heap.size + 1, 0, none⟩ 1 1 [.int .i64 2, .int .i64 rg, .int .i64 nx, .int .i64 zr] rfl rfl (news4 _ _ _ _ _ _ _) (ints4 _ _ _ _) (by omega) (by unfold maxLen; omega) (by omega) (by simp; omega) (wr.heap.size + 1 + 1) (by simp) ?_; intro g' cap' w' hown' hgrow hat hlt'; have BX := ((hB.alloc (.cells #[.int .i64 2, .int .i64 rg, .int .i64 nx, .int .i64 zr] 50)).alloc (.cells #[.int .i64 2, .int .i64 rg, .int .i64 nx, .int .i64 zr] 50)).grownby hgrow (own_ne HO.out (by omega)); have r1 := BX.cell 1; have f1 := BX.free 1; simp at r1)
              go_roundw
              case rel =>
                obtain ⟨n1', n2', n3'⟩ := out_next BX hown' (((hbr.alloc (by omega) (.cells #[.int .i64 2, .int .i64 rg, .int .i64 nx, .int .i64 zr] 50)).alloc (by simp; omega) (.cells #[.int .i64 2, .int .i64 rg, .int .i64 nx, .int .i64 zr] 50)).grown hgrow (by simp; omega) (fun k hk => by have := own_lt HO.out k hk; omega))
                exact ⟨kb + 1, _, _, by go_num, by omega, n1', hid_ (by rw [flat_step2 HI.out, show (shiftI ((k : Int) + 1) ⟨2, rg, nx, zr⟩).cells = [.int .i64 2, .int .i64 rg, .int .i64 nx, .int .i64 zr] from by simp [shiftI, Ins.cells]]; exact n2'), n3'⟩
              case measure => simp [intOf]; omega
          · have hkn : kb = n2 := by omega
            subst hkn
            rw [List.take_of_length_le (by rw [hlen2.out]; exact Nat.le_refl _)] at HO
            go_wp2_with fail
            obtain ⟨e0, e1⟩ := res_cells E3 (.int .i64 R2) (.slice A ((k + 1) + kb) cap)
            refine bodyPost_ret (v := .agg #[.int .i64 R2, .slice A ((k + 1) + kb) cap]) (by simp [results, Try.results23, go_sem, e0, e1]) rfl ?_
            have hown := own_res2 (q := w.heap.size + 1 + 1) HO.out (by omega) (.int .i64 R2) (.slice A ((k + 1) + kb) cap)
            obtain ⟨gg, cc, hv, _, _⟩ := hown.form (by omega)
            simp only [Value.slice.injEq, true_and] at hv
            obtain ⟨rfl, rfl⟩ := hv
            refine ⟨_, _, _, rfl, ?_, below_res hbw (by omega) _ _⟩
            rw [show joinC a b = (a.map (linkI k) ++ [⟨1, 0, (k : Int) + 1, (k : Int) + 1⟩]) ++ b.map (shiftI ((k : Int) + 1)) by simp [joinC, firstI, hh, hlen1.out]]
            exact row_code hown

set_option maxRecDepth 100000 in
set_option maxHeartbeats 8000000 in
theorem rjoin_ge (R1 R2 : Int) (A1 A2 : Option Addr) (n1 c1 n2 c2 : Nat) (a b : List Ins) (w : World) (h1 : CodeAt w w.heap.size A1 n1 a) (h2 : CodeAt w w.heap.size A2 n2 b) (hv1 : vCode R1 a = true) (hv2 : vCode R2 b = true) (hRR : R2 ≤ R1) :
    Calls Try.prog 23 #[.agg #[.int .i64 R1, .slice A1 n1 c1], .agg #[.int .i64 R2, .slice A2 n2 c2]] w (RJRet w R1 (joinC a b)) := by
  have H1 := hid_ h1; clear h1
  have H2 := hid_ h2; clear h2
  have V1 := hid_ hv1; clear hv1
  have V2 := hid_ hv2; clear hv2
  have ha1 : 0 < n1 := by have := vCode_reg V1.out; have := H1.out.len; omega
  have hn1 : n1 ≤ 2000 := by have := vCode_reg V1.out; have := H1.out.len; omega
  have ha2 : 0 < n2 := by have := vCode_reg V2.out; have := H2.out.len; omega
  have hn2 : n2 ≤ 2000 := by have := vCode_reg V2.out; have := H2.out.len; omega
  obtain ⟨b1, off1, rfl, hb1, hin1⟩ := H1.out.at_ ha1
  obtain ⟨b2, off2, rfl, hb2, hin2⟩ := H2.out.at_ ha2
  have HI1 := hid_ hin1; clear hin1
  have HI2 := hid_ hin2; clear hin2
  have hlen1 := hid_ H1.out.len
  have hlen2 := hid_ H2.out.len
  obtain ⟨z0, hz0, hz1, hz2, hz3⟩ := info_parts Try.info50
  go_enter Try.func23, Try.ntmps23
  go_wp2_with fail
  generalize hW : ((w.alloc (.cells #[.int .i64 R1, .slice (some ⟨b1, off1, none⟩) n1 c1] 24)).alloc (.cells #[.int .i64 R2, .slice (some ⟨b2, off2, none⟩) n2 c2] 24)).alloc (.cells #[.int .i64 0, .slice none 0 0] 24) = w2
  have hsz : w2.heap.size = w.heap.size + 1 + 1 + 1 := by rw [← hW]; simp
  have hw2 : Below w.heap.size w w2 := by rw [← hW]; exact alloc3 w _ _ _
  have C1 : Blk w2 w.heap.size 24 #[.int .i64 R1, .slice (some ⟨b1, off1, none⟩) n1 c1] := by rw [← hW]; exact ((Blk.new w 24 _).alloc _).alloc _
  have C2 : Blk w2 (w.heap.size + 1) 24 #[.int .i64 R2, .slice (some ⟨b2, off2, none⟩) n2 c2] := by
    rw [← hW]
    have := (Blk.new (w.alloc (.cells #[.int .i64 R1, .slice (some ⟨b1, off1, none⟩) n1 c1] 24)) 24 #[.int .i64 R2, .slice (some ⟨b2, off2, none⟩) n2 c2]).alloc (.cells #[.int .i64 0, .slice none 0 0] 24)
    simpa using this
  have C3 : Blk w2 (w.heap.size + 1 + 1) 24 #[.int .i64 0, .slice none 0 0] := by
    rw [← hW]
    have := Blk.new ((w.alloc (.cells #[.int .i64 R1, .slice (some ⟨b1, off1, none⟩) n1 c1] 24)).alloc (.cells #[.int .i64 R2, .slice (some ⟨b2, off2, none⟩) n2 c2] 24)) 24 #[.int .i64 0, .slice none 0 0]
    simpa using this
  rw [← hsz]
  have HSZ := hid_ hsz
  have hz20 : w.heap.size + 1 + 1 < w2.heap.size := by omega
  have HC1 := hid_ C1; clear C1
  have HC2 := hid_ C2; clear C2
  have HC3 := hid_ C3; clear C3
  clear hW hsz
  go_loopw [7, 8] (fun s7 s8 wr => ∃ k A cap, s8 = .int .i64 ((k : Nat) : Int) ∧ k ≤ n1 ∧ s7 = .bool (halts (a.take k)) ∧ Blk wr w2.heap.size 24 #[.int .i64 R1, .slice A k cap] ∧ Hid (wr.ownsRow (w2.heap.size + 1) 50 4 (.slice A k cap) k (flat ((a.take k).map (linkI n1)))) ∧ Below w2.heap.size w2 wr)
    (fun _ s _ => n1 - (intOf s).toNat)
  case atStart => exact ⟨0, none, 0, rfl, Nat.zero_le _, by simp [halts], Blk.new _ _ _, hid_ ⟨rfl, .inl ⟨rfl, rfl⟩⟩, (Below.refl _ _).alloc (Nat.le_refl _) _⟩
  case round =>
    obtain ⟨k, A, cap, rfl, hk, rfl, hB, HO, hbr⟩ := hrel
    have o0 := hB.cell 0
    have o1 := hB.cell 1
    have of0 := hB.free 0
    have of1 := hB.free 1
    have hoz := hB.lt
    simp at o0 o1
    have hbw := hw2.trans (hbr.mono hw2.size)
    have E1 := HC1.out.below hbr (by omega)
    have E2 := HC2.out.below hbr (by omega)
    have E3 := HC3.out.below hbr (by omega)
    have p0 := E1.cell 0
    have p1 := E1.cell 1
    have q0 := E2.cell 0
    have q1 := E2.cell 1
    have x0 := E3.cell 0
    have x1 := E3.cell 1
    have y0 := E3.free 0
    have y1 := E3.free 1
    simp at p0 p1 q0 q1 x0 x1
    have ez1 := E1.lt
    have ez2 := E2.lt
    have ez3 := E3.lt
    by_cases hlt : k < n1
    · obtain ⟨i, hi⟩ : ∃ i, a[k]? = some i := ⟨_, List.getElem?_eq_getElem (by rw [hlen1.out]; exact hlt)⟩
      obtain ⟨i0, i1, i2, i3⟩ := (HI1.out.below hbw hb1) k i hi
      have HI := hid_ hi
      clear hi
      obtain ⟨op, rg, nx, zr⟩ := i
      simp only at i0 i1 i2 i3
      by_cases ho : op = 2
      · subst ho
        go_wp2_with (at_builtin; refine wpList_append_lies _ rfl _ _ _ rfl (w2.heap.size + 1) 50 z0 (.agg #[.int .i64 0, .int .i64 0, .int .i64 0, .int .i64 0]) 4 32 Try.underlying22 hz0 hz1 hz2 hz3 rfl (by omega) (.slice A k cap) k _ rfl ((HO.out.alloc (.cells #[.int .i64 0, .int .i64 0, .int .i64 n1, .int .i64 0] 50)).alloc (.cells #[.int .i64 0, .int .i64 0, .int .i64 n1, .int .i64 0] 50)) ⟨wr.heap.size + 1, 0, none⟩ 1 1 [.int .i64 0, .int .i64 0, .int .i64 n1, .int .i64 0] rfl rfl (news4 _ _ _ _ _ _ _) (ints4 _ _ _ _) (by omega) (by unfold maxLen; omega) (by omega) (by simp; omega) (wr.heap.size + 1 + 1) (by simp) ?_; intro g' cap' w' hown' hgrow hat hlt'; have BX := ((hB.alloc (.cells #[.int .i64 0, .int .i64 0, .int .i64 n1, .int .i64 0] 50)).alloc (.cells #[.int .i64 0, .int .i64 0, .int .i64 n1, .int .i64 0] 50)).grownby hgrow (own_ne HO.out (by omega)); have r1 := BX.cell 1; have f1 := BX.free 1; simp at r1)
        go_roundw
        case rel =>
          obtain ⟨n1', n2', n3'⟩ := out_next BX hown' (((hbr.alloc (by omega) (.cells #[.int .i64 0, .int .i64 0, .int .i64 n1, .int .i64 0] 50)).alloc (by simp; omega) (.cells #[.int .i64 0, .int .i64 0, .int .i64 n1, .int .i64 0] 50)).grown hgrow (by simp; omega) (fun k hk => by have := own_lt HO.out k hk; omega))
          exact ⟨k + 1, _, _, by go_num, by omega, by rw [halts_step HI.out rfl], n1', hid_ (by rw [flat_step HI.out]; simpa [linkI, Ins.cells] using n2'), n3'⟩
        case measure => simp [intOf]; omega
      · go_wp2_with (at_builtin; refine wpList_append_lies _ rfl _ _ _ rfl (w2.heap.size + 1) 50 z0 (.agg #[.int .i64 0, .int .i64 0, .int .i64 0, .int .i64 0]) 4 32 Try.underlying22 hz0 hz1 hz2 hz3 rfl (by omega) (.slice A k cap) k _ rfl ((HO.out.alloc (.cells #[.int .i64 op, .int .i64 rg, .int .i64 nx, .int .i64 zr] 50)).alloc (.cells #[.int .i64 op, .int .i64 rg, .int .i64 nx, .int .i64 zr] 50)) ⟨wr.heap.size + 1, 0, none⟩ 1 1 [.int .i64 op, .int .i64 rg, .int .i64 nx, .int .i64 zr] rfl rfl (news4 _ _ _ _ _ _ _) (ints4 _ _ _ _) (by omega) (by unfold maxLen; omega) (by omega) (by simp; omega) (wr.heap.size + 1 + 1) (by simp) ?_; intro g' cap' w' hown' hgrow hat hlt'; have BX := ((hB.alloc (.cells #[.int .i64 op, .int .i64 rg, .int .i64 nx, .int .i64 zr] 50)).alloc (.cells #[.int .i64 op, .int .i64 rg, .int .i64 nx, .int .i64 zr] 50)).grownby hgrow (own_ne HO.out (by omega)); have r1 := BX.cell 1; have f1 := BX.free 1; simp at r1)
        go_roundw
        case rel =>
          obtain ⟨n1', n2', n3'⟩ := out_next BX hown' (((hbr.alloc (by omega) (.cells #[.int .i64 op, .int .i64 rg, .int .i64 nx, .int .i64 zr] 50)).alloc (by simp; omega) (.cells #[.int .i64 op, .int .i64 rg, .int .i64 nx, .int .i64 zr] 50)).grown hgrow (by simp; omega) (fun k hk => by have := own_lt HO.out k hk; omega))
          exact ⟨k + 1, _, _, by go_num, by omega, by rw [halts_on HI.out ho], n1', hid_ (by rw [flat_step HI.out]; simpa [linkI, ho, Ins.cells] using n2'), n3'⟩
        case measure => simp [intOf]; omega
    · have hkn : k = n1 := by omega
      subst hkn
      rw [List.take_of_length_le (by rw [hlen1.out]; exact Nat.le_refl _)] at HO ⊢
      cases hh : halts a
      · go_wp2_with fail
        go_loopw [11] (fun s wr => ∃ kb A cap, s = .int .i64 ((kb : Nat) : Int) ∧ kb ≤ n2 ∧ Blk wr w2.heap.size 24 #[.int .i64 R1, .slice A (k + kb) cap] ∧ Hid (wr.ownsRow (w2.heap.size + 1) 50 4 (.slice A (k + kb) cap) (k + kb) (flat (a.map (linkI k) ++ (b.take kb).map (shiftI ((k : Nat) : Int))))) ∧ Below w2.heap.size w2 wr)
          (fun s _ => n2 - (intOf s).toNat)
        case atStart => exact ⟨0, _, _, rfl, Nat.zero_le _, hB, hid_ (by simpa using HO.out), hbr⟩
        case round =>
          clear hbw o0 o1 of0 of1 hoz p0 p1 q0 q1 x0 x1 y0 y1 ez1 ez2 ez3 E1 E2 E3
          obtain ⟨kb, A, cap, rfl, hkb, hB, HO, hbr⟩ := hrel
          have o0 := hB.cell 0
          have o1 := hB.cell 1
          have of0 := hB.free 0
          have of1 := hB.free 1
          have hoz := hB.lt
          simp at o0 o1
          have hbw := hw2.trans (hbr.mono hw2.size)
          have E1 := HC1.out.below hbr (by omega)
          have E2 := HC2.out.below hbr (by omega)
          have E3 := HC3.out.below hbr (by omega)
          have p0 := E1.cell 0
          have p1 := E1.cell 1
          have q0 := E2.cell 0
          have q1 := E2.cell 1
          have x0 := E3.cell 0
          have x1 := E3.cell 1
          have y0 := E3.free 0
          have y1 := E3.free 1
          simp at p0 p1 q0 q1 x0 x1
          have ez1 := E1.lt
          have ez2 := E2.lt
          have ez3 := E3.lt
          by_cases hlt : kb < n2
          · obtain ⟨i, hi⟩ : ∃ i, b[kb]? = some i := ⟨_, List.getElem?_eq_getElem (by rw [hlen2.out]; exact hlt)⟩
            obtain ⟨i0, i1, i2, i3⟩ := (HI2.out.below hbw hb2) kb i hi
            have hsm := vIns_small (n := n2) (by rw [← hlen2.out]; exact vCode_ins V2.out hi) (by omega)
            have hop := vIns_op (vCode_ins V2.out hi)
            have HI := hid_ hi
            clear hi
            obtain ⟨op, rg, nx, zr⟩ := i
            simp only at i0 i1 i2 i3 hsm hop
            obtain ⟨⟨s0, s1⟩, s2, s3⟩ := hsm
            rcases hop with rfl | rfl | rfl
            · go_wp2_with (at_builtin; refine wpList_append_lies _ rfl _ _ _ rfl (w2.heap.size + 1) 50 z0 (.agg #[.int .i64 0, .int .i64 0, .int .i64 0, .int .i64 0]) 4 32 Try.underlying22 hz0 hz1 hz2 hz3 rfl (by omega) (.slice A (k + kb) cap) (k + kb) _ rfl ((HO.out.alloc (.cells #[.int .i64 0, .int .i64 rg, .int .i64 (nx + ((k : Nat) : Int)), .int .i64 zr] 50)).alloc (.cells #[.int .i64 0, .int .i64 rg, .int .i64 (nx + ((k : Nat) : Int)), .int .i64 zr] 50)) ⟨wr.heap.size + 1, 0, none⟩ 1 1 [.int .i64 0, .int .i64 rg, .int .i64 (nx + ((k : Nat) : Int)), .int .i64 zr] rfl rfl (news4 _ _ _ _ _ _ _) (ints4 _ _ _ _) (by omega) (by unfold maxLen; omega) (by omega) (by simp; omega) (wr.heap.size + 1 + 1) (by simp) ?_; intro g' cap' w' hown' hgrow hat hlt'; have BX := ((hB.alloc (.cells #[.int .i64 0, .int .i64 rg, .int .i64 (nx + ((k : Nat) : Int)), .int .i64 zr] 50)).alloc (.cells #[.int .i64 0, .int .i64 rg, .int .i64 (nx + ((k : Nat) : Int)), .int .i64 zr] 50)).grownby hgrow (own_ne HO.out (by omega)); have r1 := BX.cell 1; have f1 := BX.free 1; simp at r1)
              go_roundw
              case rel =>
                obtain ⟨n1', n2', n3'⟩ := out_next BX hown' (((hbr.alloc (by omega) (.cells #[.int .i64 0, .int .i64 rg, .int .i64 (nx + ((k : Nat) : Int)), .int .i64 zr] 50)).alloc (by simp; omega) (.cells #[.int .i64 0, .int .i64 rg, .int .i64 (nx + ((k : Nat) : Int)), .int .i64 zr] 50)).grown hgrow (by simp; omega) (fun k hk => by have := own_lt HO.out k hk; omega))
                exact ⟨kb + 1, _, _, by go_num, by omega, n1', hid_ (by rw [flat_step2 HI.out, show (shiftI ((k : Nat) : Int) ⟨0, rg, nx, zr⟩).cells = [.int .i64 0, .int .i64 rg, .int .i64 (nx + ((k : Nat) : Int)), .int .i64 zr] from by simp [shiftI, Ins.cells]]; exact n2'), n3'⟩
              case measure => simp [intOf]; omega
            · go_wp2_with (at_builtin; refine wpList_append_lies _ rfl _ _ _ rfl (w2.heap.size + 1) 50 z0 (.agg #[.int .i64 0, .int .i64 0, .int .i64 0, .int .i64 0]) 4 32 Try.underlying22 hz0 hz1 hz2 hz3 rfl (by omega) (.slice A (k + kb) cap) (k + kb) _ rfl ((HO.out.alloc (.cells #[.int .i64 1, .int .i64 rg, .int .i64 (nx + ((k : Nat) : Int)), .int .i64 (zr + ((k : Nat) : Int))] 50)).alloc (.cells #[.int .i64 1, .int .i64 rg, .int .i64 (nx + ((k : Nat) : Int)), .int .i64 (zr + ((k : Nat) : Int))] 50)) ⟨wr.heap.size + 1, 0, none⟩ 1 1 [.int .i64 1, .int .i64 rg, .int .i64 (nx + ((k : Nat) : Int)), .int .i64 (zr + ((k : Nat) : Int))] rfl rfl (news4 _ _ _ _ _ _ _) (ints4 _ _ _ _) (by omega) (by unfold maxLen; omega) (by omega) (by simp; omega) (wr.heap.size + 1 + 1) (by simp) ?_; intro g' cap' w' hown' hgrow hat hlt'; have BX := ((hB.alloc (.cells #[.int .i64 1, .int .i64 rg, .int .i64 (nx + ((k : Nat) : Int)), .int .i64 (zr + ((k : Nat) : Int))] 50)).alloc (.cells #[.int .i64 1, .int .i64 rg, .int .i64 (nx + ((k : Nat) : Int)), .int .i64 (zr + ((k : Nat) : Int))] 50)).grownby hgrow (own_ne HO.out (by omega)); have r1 := BX.cell 1; have f1 := BX.free 1; simp at r1)
              go_roundw
              case rel =>
                obtain ⟨n1', n2', n3'⟩ := out_next BX hown' (((hbr.alloc (by omega) (.cells #[.int .i64 1, .int .i64 rg, .int .i64 (nx + ((k : Nat) : Int)), .int .i64 (zr + ((k : Nat) : Int))] 50)).alloc (by simp; omega) (.cells #[.int .i64 1, .int .i64 rg, .int .i64 (nx + ((k : Nat) : Int)), .int .i64 (zr + ((k : Nat) : Int))] 50)).grown hgrow (by simp; omega) (fun k hk => by have := own_lt HO.out k hk; omega))
                exact ⟨kb + 1, _, _, by go_num, by omega, n1', hid_ (by rw [flat_step2 HI.out, show (shiftI ((k : Nat) : Int) ⟨1, rg, nx, zr⟩).cells = [.int .i64 1, .int .i64 rg, .int .i64 (nx + ((k : Nat) : Int)), .int .i64 (zr + ((k : Nat) : Int))] from by simp [shiftI, Ins.cells]]; exact n2'), n3'⟩
              case measure => simp [intOf]; omega
            · go_wp2_with (at_builtin; refine wpList_append_lies _ rfl _ _ _ rfl (w2.heap.size + 1) 50 z0 (.agg #[.int .i64 0, .int .i64 0, .int .i64 0, .int .i64 0]) 4 32 Try.underlying22 hz0 hz1 hz2 hz3 rfl (by omega) (.slice A (k + kb) cap) (k + kb) _ rfl ((HO.out.alloc (.cells #[.int .i64 2, .int .i64 rg, .int .i64 nx, .int .i64 zr] 50)).alloc (.cells #[.int .i64 2, .int .i64 rg, .int .i64 nx, .int .i64 zr] 50)) ⟨wr.heap.size + 1, 0, none⟩ 1 1 [.int .i64 2, .int .i64 rg, .int .i64 nx, .int .i64 zr] rfl rfl (news4 _ _ _ _ _ _ _) (ints4 _ _ _ _) (by omega) (by unfold maxLen; omega) (by omega) (by simp; omega) (wr.heap.size + 1 + 1) (by simp) ?_; intro g' cap' w' hown' hgrow hat hlt'; have BX := ((hB.alloc (.cells #[.int .i64 2, .int .i64 rg, .int .i64 nx, .int .i64 zr] 50)).alloc (.cells #[.int .i64 2, .int .i64 rg, .int .i64 nx, .int .i64 zr] 50)).grownby hgrow (own_ne HO.out (by omega)); have r1 := BX.cell 1; have f1 := BX.free 1; simp at r1)
              go_roundw
              case rel =>
                obtain ⟨n1', n2', n3'⟩ := out_next BX hown' (((hbr.alloc (by omega) (.cells #[.int .i64 2, .int .i64 rg, .int .i64 nx, .int .i64 zr] 50)).alloc (by simp; omega) (.cells #[.int .i64 2, .int .i64 rg, .int .i64 nx, .int .i64 zr] 50)).grown hgrow (by simp; omega) (fun k hk => by have := own_lt HO.out k hk; omega))
                exact ⟨kb + 1, _, _, by go_num, by omega, n1', hid_ (by rw [flat_step2 HI.out, show (shiftI ((k : Nat) : Int) ⟨2, rg, nx, zr⟩).cells = [.int .i64 2, .int .i64 rg, .int .i64 nx, .int .i64 zr] from by simp [shiftI, Ins.cells]]; exact n2'), n3'⟩
              case measure => simp [intOf]; omega
          · have hkn : kb = n2 := by omega
            subst hkn
            rw [List.take_of_length_le (by rw [hlen2.out]; exact Nat.le_refl _)] at HO
            go_wp2_with fail
            obtain ⟨e0, e1⟩ := res_cells E3 (.int .i64 R1) (.slice A (k + kb) cap)
            refine bodyPost_ret (v := .agg #[.int .i64 R1, .slice A (k + kb) cap]) (by simp [results, Try.results23, go_sem, e0, e1]) rfl ?_
            have hown := own_res2 (q := w.heap.size + 1 + 1) HO.out (by omega) (.int .i64 R1) (.slice A (k + kb) cap)
            obtain ⟨gg, cc, hv, _, _⟩ := hown.form (by omega)
            simp only [Value.slice.injEq, true_and] at hv
            obtain ⟨rfl, rfl⟩ := hv
            refine ⟨_, _, _, rfl, ?_, below_res hbw (by omega) _ _⟩
            rw [show joinC a b = a.map (linkI k) ++ b.map (shiftI ((k : Nat) : Int)) by simp [joinC, firstI, hh, hlen1.out]]
            exact row_code hown
      · go_wp2_with (at_builtin; refine wpList_append_lies _ rfl _ _ _ rfl (w2.heap.size + 1) 50 z0 (.agg #[.int .i64 0, .int .i64 0, .int .i64 0, .int .i64 0]) 4 32 Try.underlying22 hz0 hz1 hz2 hz3 rfl (by omega) (.slice A k cap) k _ rfl (HO.out.alloc (.cells #[.int .i64 1, .int .i64 0, .int .i64 ((k : Int) + 1), .int .i64 ((k : Int) + 1)] 50)) ⟨wr.heap.size, 0, none⟩ 1 1 [.int .i64 1, .int .i64 0, .int .i64 ((k : Int) + 1), .int .i64 ((k : Int) + 1)] rfl rfl (news4d _ _ _ _ _ _) (ints4 _ _ _ _) (by omega) (by unfold maxLen; omega) (by omega) (by simp; omega) (wr.heap.size + 1) (by simp) ?_; intro g' cap' w' hown' hgrow hat hlt'; have BX := (hB.alloc (.cells #[.int .i64 1, .int .i64 0, .int .i64 ((k : Int) + 1), .int .i64 ((k : Int) + 1)] 50)).grownby hgrow (own_ne HO.out (by omega)); have r1 := BX.cell 1; have f1 := BX.free 1; simp at r1; have F2 := (E2.alloc (.cells #[.int .i64 1, .int .i64 0, .int .i64 ((k : Int) + 1), .int .i64 ((k : Int) + 1)] 50)).grownby hgrow (by intro e; have := own_lt HO.out _ e.symm; omega); have p0' := F2.cell 0; have p1' := F2.cell 1; simp at p0' p1'; have hz41 := F2.lt; have hz42 := BX.lt)
        have hbr1 := (hbr.alloc (by omega) (.cells #[.int .i64 1, .int .i64 0, .int .i64 ((k : Int) + 1), .int .i64 ((k : Int) + 1)] 50)).grown hgrow (by simp; omega) (fun k hk => by have := own_lt HO.out k hk; omega)
        obtain ⟨m1, m2, m3⟩ := out_next BX hown' hbr1
        have M1 := hid_ m1
        have M2 := hid_ m2
        have M3 := hid_ m3
        clear m1 m2 m3 hgrow hown' HO hB hbr hbr1 BX F2 hat hlt' r1 f1 p0' p1' hz41 hz42
        go_loopw [11] (fun s wr => ∃ kb A cap, s = .int .i64 ((kb : Nat) : Int) ∧ kb ≤ n2 ∧ Blk wr w2.heap.size 24 #[.int .i64 R1, .slice A ((k + 1) + kb) cap] ∧ Hid (wr.ownsRow (w2.heap.size + 1) 50 4 (.slice A ((k + 1) + kb) cap) ((k + 1) + kb) (flat ((a.map (linkI k) ++ [⟨1, 0, (k : Int) + 1, (k : Int) + 1⟩]) ++ (b.take kb).map (shiftI ((k : Int) + 1))))) ∧ Below w2.heap.size w2 wr)
          (fun s _ => n2 - (intOf s).toNat)
        case atStart => exact ⟨0, _, _, rfl, Nat.zero_le _, M1.out, hid_ (by simpa using (show _ from (by have h := M2.out; rwa [show flat (List.map (linkI k) a) ++ [.int .i64 1, .int .i64 0, .int .i64 ((k : Int) + 1), .int .i64 ((k : Int) + 1)] = flat (List.map (linkI k) a ++ [⟨1, 0, (k : Int) + 1, (k : Int) + 1⟩]) from by simp [flat, Ins.cells]] at h))), M3.out⟩
        case round =>
          clear hbw o0 o1 of0 of1 hoz p0 p1 q0 q1 x0 x1 y0 y1 ez1 ez2 ez3 E1 E2 E3
          obtain ⟨kb, A, cap, rfl, hkb, hB, HO, hbr⟩ := hrel
          have o0 := hB.cell 0
          have o1 := hB.cell 1
          have of0 := hB.free 0
          have of1 := hB.free 1
          have hoz := hB.lt
          simp at o0 o1
          have hbw := hw2.trans (hbr.mono hw2.size)
          have E1 := HC1.out.below hbr (by omega)
          have E2 := HC2.out.below hbr (by omega)
          have E3 := HC3.out.below hbr (by omega)
          have p0 := E1.cell 0
          have p1 := E1.cell 1
          have q0 := E2.cell 0
          have q1 := E2.cell 1
          have x0 := E3.cell 0
          have x1 := E3.cell 1
          have y0 := E3.free 0
          have y1 := E3.free 1
          simp at p0 p1 q0 q1 x0 x1
          have ez1 := E1.lt
          have ez2 := E2.lt
          have ez3 := E3.lt
          by_cases hlt : kb < n2
          · obtain ⟨i, hi⟩ : ∃ i, b[kb]? = some i := ⟨_, List.getElem?_eq_getElem (by rw [hlen2.out]; exact hlt)⟩
            obtain ⟨i0, i1, i2, i3⟩ := (HI2.out.below hbw hb2) kb i hi
            have hsm := vIns_small (n := n2) (by rw [← hlen2.out]; exact vCode_ins V2.out hi) (by omega)
            have hop := vIns_op (vCode_ins V2.out hi)
            have HI := hid_ hi
            clear hi
            obtain ⟨op, rg, nx, zr⟩ := i
            simp only at i0 i1 i2 i3 hsm hop
            obtain ⟨⟨s0, s1⟩, s2, s3⟩ := hsm
            rcases hop with rfl | rfl | rfl
            · go_wp2_with (at_builtin; refine wpList_append_lies _ rfl _ _ _ rfl (w2.heap.size + 1) 50 z0 (.agg #[.int .i64 0, .int .i64 0, .int .i64 0, .int .i64 0]) 4 32 Try.underlying22 hz0 hz1 hz2 hz3 rfl (by omega) (.slice A ((k + 1) + kb) cap) ((k + 1) + kb) _ rfl ((HO.out.alloc (.cells #[.int .i64 0, .int .i64 rg, .int .i64 (nx + ((k : Int) + 1)), .int .i64 zr] 50)).alloc (.cells #[.int .i64 0, .int .i64 rg, .int .i64 (nx + ((k : Int) + 1)), .int .i64 zr] 50)) ⟨wr.heap.size + 1, 0, none⟩ 1 1 [.int .i64 0, .int .i64 rg, .int .i64 (nx + ((k : Int) + 1)), .int .i64 zr] rfl rfl (news4 _ _ _ _ _ _ _) (ints4 _ _ _ _) (by omega) (by unfold maxLen; omega) (by omega) (by simp; omega) (wr.heap.size + 1 + 1) (by simp) ?_; intro g' cap' w' hown' hgrow hat hlt'; have BX := ((hB.alloc (.cells #[.int .i64 0, .int .i64 rg, .int .i64 (nx + ((k : Int) + 1)), .int .i64 zr] 50)).alloc (.cells #[.int .i64 0, .int .i64 rg, .int .i64 (nx + ((k : Int) + 1)), .int .i64 zr] 50)).grownby hgrow (own_ne HO.out (by omega)); have r1 := BX.cell 1; have f1 := BX.free 1; simp at r1)
              go_roundw
              case rel =>
                obtain ⟨n1', n2', n3'⟩ := out_next BX hown' (((hbr.alloc (by omega) (.cells #[.int .i64 0, .int .i64 rg, .int .i64 (nx + ((k : Int) + 1)), .int .i64 zr] 50)).alloc (by simp; omega) (.cells #[.int .i64 0, .int .i64 rg, .int .i64 (nx + ((k : Int) + 1)), .int .i64 zr] 50)).grown hgrow (by simp; omega) (fun k hk => by have := own_lt HO.out k hk; omega))
                exact ⟨kb + 1, _, _, by go_num, by omega, n1', hid_ (by rw [flat_step2 HI.out, show (shiftI ((k : Int) + 1) ⟨0, rg, nx, zr⟩).cells = [.int .i64 0, .int .i64 rg, .int .i64 (nx + ((k : Int) + 1)), .int .i64 zr] from by simp [shiftI, Ins.cells]]; exact n2'), n3'⟩
              case measure => simp [intOf]; omega
            · go_wp2_with (at_builtin; refine wpList_append_lies _ rfl _ _ _ rfl (w2.heap.size + 1) 50 z0 (.agg #[.int .i64 0, .int .i64 0, .int .i64 0, .int .i64 0]) 4 32 Try.underlying22 hz0 hz1 hz2 hz3 rfl (by omega) (.slice A ((k + 1) + kb) cap) ((k + 1) + kb) _ rfl ((HO.out.alloc (.cells #[.int .i64 1, .int .i64 rg, .int .i64 (nx + ((k : Int) + 1)), .int .i64 (zr + ((k : Int) + 1))] 50)).alloc (.cells #[.int .i64 1, .int .i64 rg, .int .i64 (nx + ((k : Int) + 1)), .int .i64 (zr + ((k : Int) + 1))] 50)) ⟨wr.heap.size + 1, 0, none⟩ 1 1 [.int .i64 1, .int .i64 rg, .int .i64 (nx + ((k : Int) + 1)), .int .i64 (zr + ((k : Int) + 1))] rfl rfl (news4 _ _ _ _ _ _ _) (ints4 _ _ _ _) (by omega) (by unfold maxLen; omega) (by omega) (by simp; omega) (wr.heap.size + 1 + 1) (by simp) ?_; intro g' cap' w' hown' hgrow hat hlt'; have BX := ((hB.alloc (.cells #[.int .i64 1, .int .i64 rg, .int .i64 (nx + ((k : Int) + 1)), .int .i64 (zr + ((k : Int) + 1))] 50)).alloc (.cells #[.int .i64 1, .int .i64 rg, .int .i64 (nx + ((k : Int) + 1)), .int .i64 (zr + ((k : Int) + 1))] 50)).grownby hgrow (own_ne HO.out (by omega)); have r1 := BX.cell 1; have f1 := BX.free 1; simp at r1)
              go_roundw
              case rel =>
                obtain ⟨n1', n2', n3'⟩ := out_next BX hown' (((hbr.alloc (by omega) (.cells #[.int .i64 1, .int .i64 rg, .int .i64 (nx + ((k : Int) + 1)), .int .i64 (zr + ((k : Int) + 1))] 50)).alloc (by simp; omega) (.cells #[.int .i64 1, .int .i64 rg, .int .i64 (nx + ((k : Int) + 1)), .int .i64 (zr + ((k : Int) + 1))] 50)).grown hgrow (by simp; omega) (fun k hk => by have := own_lt HO.out k hk; omega))
                exact ⟨kb + 1, _, _, by go_num, by omega, n1', hid_ (by rw [flat_step2 HI.out, show (shiftI ((k : Int) + 1) ⟨1, rg, nx, zr⟩).cells = [.int .i64 1, .int .i64 rg, .int .i64 (nx + ((k : Int) + 1)), .int .i64 (zr + ((k : Int) + 1))] from by simp [shiftI, Ins.cells]]; exact n2'), n3'⟩
              case measure => simp [intOf]; omega
            · go_wp2_with (at_builtin; refine wpList_append_lies _ rfl _ _ _ rfl (w2.heap.size + 1) 50 z0 (.agg #[.int .i64 0, .int .i64 0, .int .i64 0, .int .i64 0]) 4 32 Try.underlying22 hz0 hz1 hz2 hz3 rfl (by omega) (.slice A ((k + 1) + kb) cap) ((k + 1) + kb) _ rfl ((HO.out.alloc (.cells #[.int .i64 2, .int .i64 rg, .int .i64 nx, .int .i64 zr] 50)).alloc (.cells #[.int .i64 2, .int .i64 rg, .int .i64 nx, .int .i64 zr] 50)) ⟨wr.heap.size + 1, 0, none⟩ 1 1 [.int .i64 2, .int .i64 rg, .int .i64 nx, .int .i64 zr] rfl rfl (news4 _ _ _ _ _ _ _) (ints4 _ _ _ _) (by omega) (by unfold maxLen; omega) (by omega) (by simp; omega) (wr.heap.size + 1 + 1) (by simp) ?_; intro g' cap' w' hown' hgrow hat hlt'; have BX := ((hB.alloc (.cells #[.int .i64 2, .int .i64 rg, .int .i64 nx, .int .i64 zr] 50)).alloc (.cells #[.int .i64 2, .int .i64 rg, .int .i64 nx, .int .i64 zr] 50)).grownby hgrow (own_ne HO.out (by omega)); have r1 := BX.cell 1; have f1 := BX.free 1; simp at r1)
              go_roundw
              case rel =>
                obtain ⟨n1', n2', n3'⟩ := out_next BX hown' (((hbr.alloc (by omega) (.cells #[.int .i64 2, .int .i64 rg, .int .i64 nx, .int .i64 zr] 50)).alloc (by simp; omega) (.cells #[.int .i64 2, .int .i64 rg, .int .i64 nx, .int .i64 zr] 50)).grown hgrow (by simp; omega) (fun k hk => by have := own_lt HO.out k hk; omega))
                exact ⟨kb + 1, _, _, by go_num, by omega, n1', hid_ (by rw [flat_step2 HI.out, show (shiftI ((k : Int) + 1) ⟨2, rg, nx, zr⟩).cells = [.int .i64 2, .int .i64 rg, .int .i64 nx, .int .i64 zr] from by simp [shiftI, Ins.cells]]; exact n2'), n3'⟩
              case measure => simp [intOf]; omega
          · have hkn : kb = n2 := by omega
            subst hkn
            rw [List.take_of_length_le (by rw [hlen2.out]; exact Nat.le_refl _)] at HO
            go_wp2_with fail
            obtain ⟨e0, e1⟩ := res_cells E3 (.int .i64 R1) (.slice A ((k + 1) + kb) cap)
            refine bodyPost_ret (v := .agg #[.int .i64 R1, .slice A ((k + 1) + kb) cap]) (by simp [results, Try.results23, go_sem, e0, e1]) rfl ?_
            have hown := own_res2 (q := w.heap.size + 1 + 1) HO.out (by omega) (.int .i64 R1) (.slice A ((k + 1) + kb) cap)
            obtain ⟨gg, cc, hv, _, _⟩ := hown.form (by omega)
            simp only [Value.slice.injEq, true_and] at hv
            obtain ⟨rfl, rfl⟩ := hv
            refine ⟨_, _, _, rfl, ?_, below_res hbw (by omega) _ _⟩
            rw [show joinC a b = (a.map (linkI k) ++ [⟨1, 0, (k : Int) + 1, (k : Int) + 1⟩]) ++ b.map (shiftI ((k : Int) + 1)) by simp [joinC, firstI, hh, hlen1.out]]
            exact row_code hown
end Go.Proofs.Ytgpcgjdnehlaeaa

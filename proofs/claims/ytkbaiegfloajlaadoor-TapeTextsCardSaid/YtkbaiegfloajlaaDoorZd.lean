/- Contracts: Parse of package tape at any string; Text at a machine that is not valid. -/
import Derived.Test.YtkbaiegfloajlaaDoorZc
namespace Go.Proofs.YtkbaiegfloajlaaDoor.Tp
open Go.RowKit

theorem parB_is (s : ByteArray) (h : s.size ≤ 78) : parB (Lib.splitB ⟨#[95]⟩ 0 (Lib.countB s ⟨#[95]⟩) s) = parseC s.data.toList := by
  have hm := splitB_spl s
  generalize Lib.splitB ⟨#[95]⟩ 0 (Lib.countB s ⟨#[95]⟩) s = ps at *
  have hsz : s.data.toList.length = s.size := rfl
  have e1 : rowsB ps = (spl s.data.toList).map chunksL := by rw [← hm, List.map_map]; rfl
  have e2 : machB ps = machP (spl s.data.toList) := by
    unfold machB machP
    rw [e1, ← hm, List.length_map]
  have e3 : goodB ps = goodP (spl s.data.toList) := by
    rw [goodB, goodP, ← hm, List.all_map]
    rfl
  rw [parB, parseC, e2, e3, if_neg (show ¬ 78 < s.data.toList.length by omega)]
  rfl

set_option maxRecDepth 100000 in
set_option maxHeartbeats 8000000 in
theorem parse_long (s : ByteArray) (w : World) (hs : 78 < s.size) (h62 : s.size ≤ 4611686018427387904) : Calls Tryd.prog 22 #[.string s] w (ParRan (noM, 3) w) := by
  have hbW := below2 w (.cells #[.int .i64 0, .int .i64 0, .slice none 0 0] 24) (.cells #[.int .i64 0, .int .i64 0, .slice none 0 0] 24)
  have B1 := (Blk.new w 24 #[.int .i64 0, .int .i64 0, .slice none 0 0]).alloc (.cells #[.int .i64 0, .int .i64 0, .slice none 0 0] 24)
  have B2 := Blk.new (w.alloc (.cells #[.int .i64 0, .int .i64 0, .slice none 0 0] 24)) 24 #[.int .i64 0, .int .i64 0, .slice none 0 0]
  rw [show (w.alloc (.cells #[.int .i64 0, .int .i64 0, .slice none 0 0] 24)).heap.size = w.heap.size + 1 by simp] at B2
  have HB1 := hid_ B1
  have HB2 := hid_ B2
  clear B1 B2
  have t1 : (78 : Int) < (s.size : Int) := by omega
  go_enter Tryd.func22, Tryd.ntmps22
  go_upto_region 2 with fail
  generalize (w.alloc (.cells #[.int .i64 0, .int .i64 0, .slice none 0 0] 24)).alloc (.cells #[.int .i64 0, .int .i64 0, .slice none 0 0] 24) = W at *
  have b0 := HB2.out.cell 0
  have b1 := HB2.out.cell 1
  have b2 := HB2.out.cell 2
  simp at b0 b1 b2
  have s0 := HB1.out.free 0
  have s1 := HB1.out.free 1
  have s2 := HB1.out.free 2
  have r0 := HB1.out.cell 0
  have r1 := HB1.out.cell 1
  have r2 := HB1.out.cell 2
  simp at r0 r1 r2
  go_wp2_with fail
  have BZ := (((HB1.out).set_ 0 (.int .i64 0)).set_ 1 (.int .i64 0)).set_ 2 (.slice none 0 0)
  have e0 := BZ.cell 0
  have e1 := BZ.cell 1
  have e2 := BZ.cell 2
  simp at e0 e1 e2
  refine bodyPost_ret (v := .tuple #[.agg #[.int .i64 0, .int .i64 0, .slice none 0 0], .int .i64 3]) (by simp [results, Tryd.results22, go_sem, e0, e1, e2]) rfl ?_
  exact ⟨none, 0, rfl, noM_in _, (((hbW).setCell (by simp <;> omega) _).setCell (by simp <;> omega) _).setCell (by simp <;> omega) _⟩

theorem parse_any (s : ByteArray) (mx : Int) (w : World) (hmx : w.cell? ⟨0, 0, none⟩ = some (.int .i64 mx)) (hs : s.size ≤ 100000) : Calls Tryd.prog 22 #[.string s] w (ParRan (parseC s.data.toList) w) := by
  by_cases h : s.size ≤ 78
  · have hm := splitB_spl s
    have hl := congrArg List.length hm
    rw [List.length_map] at hl
    have h1 := spl_len s.data.toList
    have h2 := spl_pos s.data.toList
    have hsz : s.data.toList.length = s.size := rfl
    have := parse_cut s (Lib.splitB ⟨#[95]⟩ 0 (Lib.countB s ⟨#[95]⟩) s) mx w hmx h (Lib.splitB_all ⟨#[95]⟩ (by decide) 0 _ s rfl).symm rfl (fun p hp => by
      have h3 : p.data.toList ∈ spl s.data.toList := by rw [← hm]; exact List.mem_map_of_mem hp
      have h4 := spl_mem _ _ h3
      have h5 : p.data.toList.length = p.size := rfl
      omega) (by omega) (by omega)
    rw [parB_is s h] at this
    exact this
  · have hsz : s.data.toList.length = s.size := rfl
    rw [parseC, if_pos (show 78 < s.data.toList.length by omega)]
    exact parse_long s w (by omega) (by omega)

set_option maxRecDepth 100000 in
set_option maxHeartbeats 4000000 in
theorem text_bad (m : MachS) (v : Value) (w : World) (hm : MachIn w w.heap.size v m) (hv : validM m = false) :
    Calls Tryd.prog 21 #[.agg #[.int .i64 m.states, .int .i64 m.symbols, v]] w fun e w' => e = .returned (.tuple #[.string ⟨#[]⟩, .int .i64 1]) ∧ Below w.heap.size w w' := by
  obtain ⟨A2, c2, rfl⟩ := hm.rules.form
  have hbW := below1 w (.cells #[.int .i64 m.states, .int .i64 m.symbols, .slice A2 m.rules.length c2] 24)
  have HM := hid_ (hm.to hbW)
  have HB1 := hid_ (Blk.new w 24 #[.int .i64 m.states, .int .i64 m.symbols, .slice A2 m.rules.length c2])
  have HVV : Hid (∀ Y, MachIn Y Y.heap.size (.slice A2 m.rules.length c2) m → Calls Tryd.prog 11 #[.agg #[.int .i64 m.states, .int .i64 m.symbols, .slice A2 m.rules.length c2]] Y fun e w' => e = .returned (.bool false) ∧ Below Y.heap.size Y w') := hid_ (fun Y h => by have := valid_any m _ Y h; rwa [hv] at this)
  clear hm hv
  go_enter Tryd.func21, Tryd.ntmps21
  go_upto_region 1 with fail
  generalize w.alloc (.cells #[.int .i64 m.states, .int .i64 m.symbols, .slice A2 m.rules.length c2] 24) = W at *
  have p0 := HB1.out.cell 0
  have p1 := HB1.out.cell 1
  have p2 := HB1.out.cell 2
  simp at p0 p1 p2
  go_wp2_with (go_at_call 11; (with_reducible refine (HVV.out _ HM.out).mono ?_); rintro e x1 ⟨rfl, hx1⟩)
  refine bodyPost_ret (v := .tuple #[.string ⟨#[]⟩, .int .i64 1]) (by simp [results, Tryd.results21, go_sem]) rfl ?_
  exact ⟨rfl, bnext hbW hx1⟩
end Go.Proofs.YtkbaiegfloajlaaDoor.Tp

/- Contracts: awake of the law package of layer 1. -/
import Derived.Test.YtkbaiegfloajlaaDoorVc
import Derived.Test.YtkbaiegfloajlaaDoorVe
import Derived.Test.YtkbaiegfloajlaaDoorVf
import Derived.Test.YtkbaiegfloajlaaDoorVg
namespace Go.Proofs.YtkbaiegfloajlaaDoor.Tp
open Go.RowKit

def champA : MachS := ⟨2, 2, [[⟨1, 1, 1⟩, ⟨1, -1, 1⟩], [⟨1, -1, 0⟩, ⟨1, 1, -1⟩]]⟩
theorem champA_valid : validM champA = true := by rfl
theorem champA_run : runS champA noC 100 = ⟨⟨-1, 0, -2, [1, 1, 1, 1]⟩, 6, 0⟩ := by rfl
theorem champA_step : stepS champA noC = ⟨⟨1, 1, 0, [1]⟩, 0⟩ := by rfl
theorem champA_text : textM champA = [49, 82, 66, 49, 76, 66, 95, 49, 76, 65, 49, 82, 90] := by rfl
theorem parseA (mx : Int) (w : World) (hmx : w.cell? ⟨0, 0, none⟩ = some (.int .i64 mx)) :
    Calls Tryd.prog 22 #[.string ⟨#[49, 82, 66, 49, 76, 66, 95, 49, 76, 65, 49, 82, 90]⟩] w fun e w' => ∃ A c, e = .returned (.tuple #[.agg #[.int .i64 2, .int .i64 2, .slice A 2 c], .int .i64 0]) ∧ MachIn w' w'.heap.size (.slice A 2 c) champA ∧ Below w.heap.size w w' := by
  refine (parse_ok ⟨#[49, 82, 66, 49, 76, 66, 95, 49, 76, 65, 49, 82, 90]⟩ [⟨#[49, 82, 66, 49, 76, 66]⟩, ⟨#[49, 76, 65, 49, 82, 90]⟩] champA mx w hmx (by decide) (by kernel_rfl) (by kernel_rfl) (by decide) (by kernel_rfl) (fun r hr => by obtain rfl := Option.some.inj hr; rfl) champA_valid).mono ?_
  rintro e w' ⟨v, rfl, hm, hb⟩
  obtain ⟨A, c, rfl⟩ := hm.rules.form
  exact ⟨A, c, rfl, hm, hb⟩
theorem runA (A : Option Addr) (c : Nat) (w : World) (hm : MachIn w w.heap.size (.slice A 2 c) champA) :
    Calls Tryd.prog 16 #[.agg #[.int .i64 2, .int .i64 2, .slice A 2 c], .agg #[.int .i64 0, .int .i64 0, .int .i64 0, .slice none 0 0], .int .i64 100] w fun e w' =>
      ∃ B d, e = .returned (.tuple #[.agg #[.int .i64 (-1), .int .i64 0, .int .i64 (-2), .slice B 4 d], .int .i64 6, .int .i64 0]) ∧ Elems w' w'.heap.size (.slice B 4 d) (ints [1, 1, 1, 1]) ∧ Below w.heap.size w w' := by
  have := run_any champA noC 100 (.slice A 2 c) (.slice none 0 0) w hm (Elems.nil _ _) (by decide)
  rw [champA_run] at this
  refine this.mono ?_
  rintro e w' ⟨u, he, hE, hb⟩
  obtain ⟨B, d, rfl⟩ := hE.form
  exact ⟨B, d, he, hE, hb⟩
theorem stepA (A : Option Addr) (c : Nat) (w : World) (hm : MachIn w w.heap.size (.slice A 2 c) champA) :
    Calls Tryd.prog 15 #[.agg #[.int .i64 2, .int .i64 2, .slice A 2 c], .agg #[.int .i64 0, .int .i64 0, .int .i64 0, .slice none 0 0]] w fun e w' =>
      ∃ B d, e = .returned (.tuple #[.agg #[.int .i64 1, .int .i64 1, .int .i64 0, .slice B 1 d], .int .i64 0]) ∧ Elems w' w'.heap.size (.slice B 1 d) (ints [1]) ∧ Below w.heap.size w w' := by
  have := stepT_any champA noC (.slice A 2 c) (.slice none 0 0) w hm (Elems.nil _ _) (by decide)
  rw [champA_step] at this
  refine this.mono ?_
  rintro e w' ⟨u, he, hE, hb⟩
  obtain ⟨B, d, rfl⟩ := hE.form
  exact ⟨B, d, he, hE, hb⟩
theorem textA (A : Option Addr) (c : Nat) (w : World) (hm : MachIn w w.heap.size (.slice A 2 c) champA) :
    Calls Tryd.prog 21 #[.agg #[.int .i64 2, .int .i64 2, .slice A 2 c]] w fun e w' => e = .returned (.tuple #[.string ⟨#[49, 82, 66, 49, 76, 66, 95, 49, 76, 65, 49, 82, 90]⟩, .int .i64 0]) ∧ Below w.heap.size w w' := by
  have := text_any champA (.slice A 2 c) w hm champA_valid
  rw [champA_text] at this
  exact this
theorem onesA (B : Option Addr) (d : Nat) (w : World) (hE : Elems w w.heap.size (.slice B 4 d) (ints [1, 1, 1, 1])) :
    Calls Tryd.prog 26 #[.agg #[.int .i64 (-1), .int .i64 0, .int .i64 (-2), .slice B 4 d]] w fun e w' => e = .returned (.int .i64 4) ∧ Below w.heap.size w w' :=
  ones_any ⟨-1, 0, -2, [1, 1, 1, 1]⟩ (.slice B 4 d) w hE (by decide)
theorem sameA (B D : Option Addr) (d f : Nat) (w : World) (h1 : Elems w w.heap.size (.slice B 1 d) (ints [1])) (h2 : Elems w w.heap.size (.slice D 1 f) (ints [1])) :
    Calls Tryd.prog 17 #[.agg #[.int .i64 1, .int .i64 1, .int .i64 0, .slice B 1 d], .agg #[.int .i64 1, .int .i64 1, .int .i64 0, .slice D 1 f]] w fun e w' => e = .returned (.bool true) ∧ Below w.heap.size w w' := by
  have := rsame_any ⟨1, 1, 0, [1]⟩ ⟨1, 1, 0, [1]⟩ (.slice B 1 d) (.slice D 1 f) w h1 h2 (by decide)
  rw [sameC_iff.2 rfl] at this
  exact this

set_option maxRecDepth 100000 in
set_option maxHeartbeats 4000000 in
theorem awake_any (mx : Int) (w : World) (hmx : w.cell? ⟨0, 0, none⟩ = some (.int .i64 mx)) :
    Calls Tryd.prog 10 #[] w fun e w' => e = .returned (.bool true) ∧ Below w.heap.size w w' := by
  have HMX := hid_ hmx
  clear hmx
  go_enter Tryd.func10, Tryd.ntmps10
  go_upto_region 2 with (go_at_call 22; (with_reducible refine (parseA mx w HMX.out).mono ?_); rintro e w1 ⟨A, c, rfl, hm, hb1⟩)
  have B1 := Blk.new w1 24 #[.int .i64 2, .int .i64 2, .slice A 2 c]
  have HM1 := hid_ (hm.to (below1 w1 (.cells #[.int .i64 2, .int .i64 2, .slice A 2 c] 24)))
  have hw1 : Below w.heap.size w (w1.alloc (.cells #[.int .i64 2, .int .i64 2, .slice A 2 c] 24)) := hb1.alloc hb1.size _
  clear hm hb1
  generalize w1.alloc (.cells #[.int .i64 2, .int .i64 2, .slice A 2 c] 24) = W1 at *
  have p0 := B1.cell 0
  have p1 := B1.cell 1
  have p2 := B1.cell 2
  simp at p0 p1 p2
  go_upto_region 3 with (go_at_call 16; (with_reducible refine (runA A c W1 HM1.out).mono ?_); rintro e w2 ⟨B, d, rfl, hE, hb2⟩)
  have HM2 := hid_ ((HM1.out.to hb2).to (below1 w2 (.cells #[.int .i64 (-1), .int .i64 0, .int .i64 (-2), .slice B 4 d] 27)))
  have HE2 := hid_ (hE.to (below1 w2 (.cells #[.int .i64 (-1), .int .i64 0, .int .i64 (-2), .slice B 4 d] 27)))
  have B2 := (B1.to hb2).to (below1 w2 (.cells #[.int .i64 (-1), .int .i64 0, .int .i64 (-2), .slice B 4 d] 27))
  have C2 := Blk.new w2 27 #[.int .i64 (-1), .int .i64 0, .int .i64 (-2), .slice B 4 d]
  have hw2 := bnext hw1 (hb2.alloc hb2.size (.cells #[.int .i64 (-1), .int .i64 0, .int .i64 (-2), .slice B 4 d] 27))
  clear hE hb2 B1 p0 p1 p2 HM1 hw1
  generalize w2.alloc (.cells #[.int .i64 (-1), .int .i64 0, .int .i64 (-2), .slice B 4 d] 27) = W2 at *
  have p0 := B2.cell 0
  have p1 := B2.cell 1
  have p2 := B2.cell 2
  simp at p0 p1 p2
  go_upto_region 4 with (go_at_call 21; (with_reducible refine (textA A c W2 HM2.out).mono ?_); rintro e w3 ⟨rfl, hb3⟩)
  have HM3 := hid_ (HM2.out.to hb3)
  have HE3 := hid_ (HE2.out.to hb3)
  have B3 := B2.to hb3
  have C3 := C2.to hb3
  have hw3 := bnext hw2 hb3
  clear B2 C2 p0 p1 p2 HM2 HE2 hw2 hb3
  have p0 := B3.cell 0
  have p1 := B3.cell 1
  have p2 := B3.cell 2
  simp at p0 p1 p2
  go_upto_region 5 with (go_at_call 15; (with_reducible refine (stepA A c w3 HM3.out).mono ?_); rintro e w4 ⟨D, f, rfl, hE, hb4⟩)
  have HE4 := hid_ ((HE3.out.to hb4).to (below1 w4 (.cells #[.int .i64 1, .int .i64 1, .int .i64 0, .slice D 1 f] 27)))
  have HD4 := hid_ (hE.to (below1 w4 (.cells #[.int .i64 1, .int .i64 1, .int .i64 0, .slice D 1 f] 27)))
  have C4 := (C3.to hb4).to (below1 w4 (.cells #[.int .i64 1, .int .i64 1, .int .i64 0, .slice D 1 f] 27))
  have D4 := Blk.new w4 27 #[.int .i64 1, .int .i64 1, .int .i64 0, .slice D 1 f]
  have hw4 := bnext hw3 (hb4.alloc hb4.size (.cells #[.int .i64 1, .int .i64 1, .int .i64 0, .slice D 1 f] 27))
  clear hE hb4 B3 C3 p0 p1 p2 HM3 HE3 hw3
  generalize w4.alloc (.cells #[.int .i64 1, .int .i64 1, .int .i64 0, .slice D 1 f] 27) = W4 at *
  have q0 := C4.cell 0
  have q1 := C4.cell 1
  have q2 := C4.cell 2
  have q3 := C4.cell 3
  simp at q0 q1 q2 q3
  go_wp2_with fail
  refine (onesA B d W4 HE4.out).mono ?_
  rintro e w5 ⟨rfl, hb5⟩
  have C5 := C4.to hb5
  have D5 := D4.to hb5
  have HD5 := hid_ (HD4.out.to hb5)
  have hw5 := bnext hw4 hb5
  clear C4 D4 HE4 HD4 hw4 hb5 q0 q1 q2 q3
  have q0 := C5.cell 0
  have r0 := D5.cell 0
  have r1 := D5.cell 1
  have r2 := D5.cell 2
  have r3 := D5.cell 3
  simp at q0 r0 r1 r2 r3
  go_wp2_with fail
  refine (sameA D (some ⟨w5.heap.size, 0, none⟩) f 1 _ (HD5.out.to (below1 w5 _)) (blk_elems (Blk.new w5 3 #[.int .i64 1]) rfl)).mono ?_
  rintro e w6 ⟨rfl, hb6⟩
  go_wp2_with fail
  go_ret
  exact ⟨rfl, bnext hw5 (bnext (below1 w5 _) hb6)⟩
end Go.Proofs.YtkbaiegfloajlaaDoor.Tp

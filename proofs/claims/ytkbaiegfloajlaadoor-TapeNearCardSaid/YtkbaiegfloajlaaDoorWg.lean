/- Contracts: others of the law package of layer 1, where it holds. -/
import Derived.Test.YtkbaiegfloajlaaDoorWe
import Derived.Test.YtkbaiegfloajlaaDoorWd
namespace Go.Proofs.YtkbaiegfloajlaaDoor.Tp
open Go.RowKit

set_option maxRecDepth 100000 in
set_option maxHeartbeats 8000000 in
theorem others_yes (a c : CfgS) (k : Nat) (v u : Value) (w : World) (hA : Elems w w.heap.size v (ints a.cells)) (hC : Elems w w.heap.size u (ints c.cells)) (la : a.cells.length ≤ 100000) (lc : c.cells.length ≤ 100000) (hk : k ≤ 1000)
    (fa : -1099511627776 ≤ a.frm ∧ a.frm ≤ 1099511627776) (fc : -1099511627776 ≤ c.frm ∧ c.frm ≤ 1099511627776) (pc : -1099511627776 ≤ c.pos ∧ c.pos ≤ 1099511627776) (hs : ∀ p, (p < c.pos - k ∨ c.pos + k < p) → cellAt a.frm a.cells p = cellAt c.frm c.cells p) :
    Calls Tryd.prog 41 #[.agg #[.int .i64 a.st, .int .i64 a.pos, .int .i64 a.frm, v], .agg #[.int .i64 c.st, .int .i64 c.pos, .int .i64 c.frm, u], .int .i64 (k : Int)] w fun e w' => e = .returned (.bool true) ∧ Below w.heap.size w w' := by
  obtain ⟨A1, c1, rfl⟩ := hA.form
  obtain ⟨A2, c2, rfl⟩ := hC.form
  rw [ints_len] at hA hC ⊢
  rw [ints_len]
  have hbW := below2 w (.cells #[.int .i64 a.st, .int .i64 a.pos, .int .i64 a.frm, .slice A1 a.cells.length c1] 27) (.cells #[.int .i64 c.st, .int .i64 c.pos, .int .i64 c.frm, .slice A2 c.cells.length c2] 27)
  have HA := hid_ (hA.to hbW)
  have HC := hid_ (hC.to hbW)
  have BA := (Blk.new w 27 #[.int .i64 a.st, .int .i64 a.pos, .int .i64 a.frm, .slice A1 a.cells.length c1]).alloc (.cells #[.int .i64 c.st, .int .i64 c.pos, .int .i64 c.frm, .slice A2 c.cells.length c2] 27)
  have BC := Blk.new (w.alloc (.cells #[.int .i64 a.st, .int .i64 a.pos, .int .i64 a.frm, .slice A1 a.cells.length c1] 27)) 27 #[.int .i64 c.st, .int .i64 c.pos, .int .i64 c.frm, .slice A2 c.cells.length c2]
  rw [show (w.alloc (.cells #[.int .i64 a.st, .int .i64 a.pos, .int .i64 a.frm, .slice A1 a.cells.length c1] 27)).heap.size = w.heap.size + 1 by simp] at BC
  have HBA := hid_ BA
  have HBC := hid_ BC
  have HS := hid_ hs
  clear hA hC BA BC hs
  go_enter Tryd.func41, Tryd.ntmps41
  go_wp2_with fail
  generalize (w.alloc (.cells #[.int .i64 a.st, .int .i64 a.pos, .int .i64 a.frm, .slice A1 a.cells.length c1] 27)).alloc (.cells #[.int .i64 c.st, .int .i64 c.pos, .int .i64 c.frm, .slice A2 c.cells.length c2] 27) = W at *
  go_loopw [7] (fun s wr => ∃ i : Nat, s = .int .i64 (i : Int) ∧ i ≤ a.cells.length + c.cells.length ∧ Below W.heap.size W wr) (fun s _ => a.cells.length + c.cells.length - (intOf s).toNat)
  case atStart => exact ⟨0, rfl, Nat.zero_le _, Below.refl _ _⟩
  case round =>
    obtain ⟨i, rfl, hi, hbr⟩ := hrel
    have B1 := HBA.out.to hbr
    have B2 := HBC.out.to hbr
    have a2 := B1.cell 2
    have a0 := B1.cell 0
    have a1 := B1.cell 1
    have a3 := B1.cell 3
    have q0 := B2.cell 0
    have q1 := B2.cell 1
    have q2 := B2.cell 2
    have q3 := B2.cell 3
    simp at a0 a1 a2 a3 q0 q1 q2 q3
    have m0 : IntKind.i64.wrap ((a.cells.length : Int) + (c.cells.length : Int)) = ((a.cells.length + c.cells.length : Nat) : Int) := by rw [IntWalk.i64_in _ (by omega)]; omega
    obtain ⟨T, hT⟩ : ∃ T, T = a.cells.length + c.cells.length := ⟨_, rfl⟩
    rw [← hT] at m0 hi
    have HT := hid_ hT
    have hT3 : T ≤ 200000 := by omega
    have hwr := bnext hbW hbr
    clear hT B1 B2
    by_cases hil : i < T
    · have HA2 := hid_ (HA.out.to hbr)
      have HC2 := hid_ (HC.out.to hbr)
      have m1 : IntKind.i64.wrap (c.pos - (k : Int)) = c.pos - (k : Int) := IntWalk.i64_in _ (by omega)
      have m2 : IntKind.i64.wrap (c.pos + (k : Int)) = c.pos + (k : Int) := IntWalk.i64_in _ (by omega)
      have m3 : IntKind.i64.wrap (c.frm + (i : Int)) = c.frm + (i : Int) := IntWalk.i64_in _ (by have := HT.out; omega)
      have hcase : ∃ p : Int, -2199023255552 ≤ p ∧ p ≤ 2199023255552 ∧ ((i < a.cells.length ∧ IntKind.i64.wrap (a.frm + (i : Int)) = p ∧ IntKind.i64.wrap (c.frm + (i : Int) - (a.cells.length : Int)) = c.frm + (i : Int) - (a.cells.length : Int)) ∨ (¬ i < a.cells.length ∧ IntKind.i64.wrap (c.frm + (i : Int) - (a.cells.length : Int)) = p)) := by
        have := HT.out
        by_cases h : i < a.cells.length
        · exact ⟨a.frm + i, by omega, by omega, .inl ⟨h, IntWalk.i64_in _ (by omega), IntWalk.i64_in _ (by omega)⟩⟩
        · exact ⟨c.frm + i - a.cells.length, by omega, by omega, .inr ⟨h, IntWalk.i64_in _ (by omega)⟩⟩
      obtain ⟨p, p1, p2, hcase⟩ := hcase
      have HRA : Hid (∀ X, Elems X X.heap.size (.slice A1 a.cells.length c1) (ints a.cells) → Calls Tryd.prog 29 #[.agg #[.int .i64 a.st, .int .i64 a.pos, .int .i64 a.frm, .slice A1 a.cells.length c1], .int .i64 p] X fun e w' => e = .returned (.int .i64 (cellAt a.frm a.cells p)) ∧ Below X.heap.size X w') := hid_ (fun X h => rread_any a p _ X h (by omega) (by omega) (by omega))
      have HRC : Hid (∀ X, Elems X X.heap.size (.slice A2 c.cells.length c2) (ints c.cells) → Calls Tryd.prog 29 #[.agg #[.int .i64 c.st, .int .i64 c.pos, .int .i64 c.frm, .slice A2 c.cells.length c2], .int .i64 p] X fun e w' => e = .returned (.int .i64 (cellAt c.frm c.cells p)) ∧ Below X.heap.size X w') := hid_ (fun X h => rread_any c p _ X h (by omega) (by omega) (by omega))
      rcases hcase with ⟨h1, h2, h3⟩ | ⟨h1, h2⟩
      all_goals
        go_upto_region 7 with fail
        obtain ⟨X, rfl⟩ : ∃ X : World, X = wr := ⟨_, rfl⟩
        clear h1 h2
        go_cut [59] (fun s wx => s = .bool false ∧ Below X.heap.size X wx)
        case first => as_aux_lemma =>
          by_cases g1 : p < c.pos - k
          · obtain ⟨z, hz⟩ : ∃ z, z = cellAt c.frm c.cells p := ⟨_, rfl⟩
            have hza : cellAt a.frm a.cells p = z := by rw [HS.out p (.inl g1), hz]
            rw [hza] at HRA
            rw [← hz] at HRC
            clear hz hza
            refine wp_region_held_drew (S := (fun w' => w'.cell? ⟨w.heap.size, 0, none⟩ = some (.int .i64 a.st) ∧ w'.cell? ⟨w.heap.size, 1, none⟩ = some (.int .i64 a.pos) ∧ w'.cell? ⟨w.heap.size, 2, none⟩ = some (.int .i64 a.frm) ∧ w'.cell? ⟨w.heap.size, 3, none⟩ = some (.slice A1 a.cells.length c1) ∧ w'.cell? ⟨w.heap.size + 1, 0, none⟩ = some (.int .i64 c.st) ∧ w'.cell? ⟨w.heap.size + 1, 1, none⟩ = some (.int .i64 c.pos) ∧ w'.cell? ⟨w.heap.size + 1, 2, none⟩ = some (.int .i64 c.frm) ∧ w'.cell? ⟨w.heap.size + 1, 3, none⟩ = some (.slice A2 c.cells.length c2) ∧ Below X.heap.size X w')) (by kernel_rfl) ⟨a0, a1, a2, a3, q0, q1, q2, q3, (Below.refl _ _).drew⟩ (fun hS => ?_)
            refine wpAnyH_take (i := 0) (oi := ({ dst := some 37, op := Op.move (Operand.tmp 8), type := 3, pos := "outright.go:100", after := #[], guard := none } : Oper)) (v := ?_) rfl (by kernel_rfl) (by kernel_rfl) (by kernel_rfl) (fun _ _ _ h => h) (Or.inl ⟨by rfl, ?_⟩) (by assumption) ?_
            rotate_left
            · intro w hSw
              try dsimp only at hSw
              go_simp
              try with_reducible rfl
            try simp only [Act.put, List.setIfInBounds_toArray, List.set_cons_zero, List.set_cons_succ]
            refine wpAnyH_take (i := 1) (oi := ({ dst := some 38, op := Op.fieldAddr 27 (Operand.tmp 4) 1, type := 0, pos := "outright.go:100", after := #[], guard := none } : Oper)) (v := ?_) rfl (by kernel_rfl) (by kernel_rfl) (by kernel_rfl) (fun _ _ _ h => h) (Or.inl ⟨by rfl, ?_⟩) (by assumption) ?_
            rotate_left
            · intro w hSw
              try dsimp only at hSw
              go_simp
              try with_reducible rfl
            try simp only [Act.put, List.setIfInBounds_toArray, List.set_cons_zero, List.set_cons_succ]
            refine wpAnyH_take (i := 2) (oi := ({ dst := some 39, op := Op.load 3 (Operand.tmp 38), type := 3, pos := "outright.go:100", after := #[{ on := 1, ground := Ground.data }], guard := none } : Oper)) (v := ?_) rfl (by kernel_rfl) (by kernel_rfl) (by kernel_rfl) (fun _ _ _ h => h) (Or.inl ⟨by rfl, ?_⟩) (by assumption) ?_
            rotate_left
            · intro w hSw
              try dsimp only at hSw
              go_simp
              try with_reducible rfl
            try simp only [Act.put, List.setIfInBounds_toArray, List.set_cons_zero, List.set_cons_succ]
            refine wpAnyH_take (i := 3) (oi := ({ dst := some 40, op := Op.move (Operand.tmp 2), type := 3, pos := "outright.go:100", after := #[], guard := none } : Oper)) (v := ?_) rfl (by kernel_rfl) (by kernel_rfl) (by kernel_rfl) (fun _ _ _ h => h) (Or.inl ⟨by rfl, ?_⟩) (by assumption) ?_
            rotate_left
            · intro w hSw
              try dsimp only at hSw
              go_simp
              try with_reducible rfl
            try simp only [Act.put, List.setIfInBounds_toArray, List.set_cons_zero, List.set_cons_succ]
            refine wpAnyH_take (i := 4) (oi := ({ dst := some 41, op := Op.binOp BinOp.sub 3 (Operand.tmp 39) (Operand.tmp 40) 3, type := 3, pos := "outright.go:100", after := #[{ on := 2, ground := Ground.data }, { on := 3, ground := Ground.data }], guard := none } : Oper)) (v := ?_) rfl (by kernel_rfl) (by kernel_rfl) (by kernel_rfl) (fun _ _ _ h => h) (Or.inl ⟨by rfl, ?_⟩) (by assumption) ?_
            rotate_left
            · intro w hSw
              try dsimp only at hSw
              go_simp
              try with_reducible rfl
            try simp only [Act.put, List.setIfInBounds_toArray, List.set_cons_zero, List.set_cons_succ]
            refine wpAnyH_take (i := 5) (oi := ({ dst := some 42, op := Op.binOp BinOp.lss 3 (Operand.tmp 37) (Operand.tmp 41) 3, type := 4, pos := "outright.go:100", after := #[{ on := 0, ground := Ground.data }, { on := 4, ground := Ground.data }], guard := none } : Oper)) (v := ?_) rfl (by kernel_rfl) (by kernel_rfl) (by kernel_rfl) (fun _ _ _ h => h) (Or.inl ⟨by rfl, ?_⟩) (by assumption) ?_
            rotate_left
            · intro w hSw
              try dsimp only at hSw
              go_simp
              try with_reducible rfl
            try simp only [Act.put, List.setIfInBounds_toArray, List.set_cons_zero, List.set_cons_succ]
            refine wpAnyH_take (i := 6) (oi := ({ dst := some 43, op := Op.move (Operand.tmp 42), type := 4, pos := "outright.go:100", after := #[{ on := 5, ground := Ground.data }], guard := none } : Oper)) (v := ?_) rfl (by kernel_rfl) (by kernel_rfl) (by kernel_rfl) (fun _ _ _ h => h) (Or.inl ⟨by rfl, ?_⟩) (by assumption) ?_
            rotate_left
            · intro w hSw
              try dsimp only at hSw
              go_simp
              try with_reducible rfl
            try simp only [Act.put, List.setIfInBounds_toArray, List.set_cons_zero, List.set_cons_succ]
            refine wpAnyH_take (i := 7) (oi := ({ dst := some 44, op := Op.move (Operand.tmp 8), type := 3, pos := "outright.go:100", after := #[{ on := 6, ground := Ground.guard }], guard := some (6, false) } : Oper)) (v := undef) rfl (by kernel_rfl) (by kernel_rfl) (by kernel_rfl) (fun _ _ _ h => h) (Or.inr ⟨by rfl, rfl⟩) (by assumption) ?_
            try simp only [Act.put, List.setIfInBounds_toArray, List.set_cons_zero, List.set_cons_succ]
            refine wpAnyH_take (i := 8) (oi := ({ dst := some 45, op := Op.fieldAddr 27 (Operand.tmp 4) 1, type := 0, pos := "outright.go:100", after := #[{ on := 6, ground := Ground.guard }], guard := some (6, false) } : Oper)) (v := undef) rfl (by kernel_rfl) (by kernel_rfl) (by kernel_rfl) (fun _ _ _ h => h) (Or.inr ⟨by rfl, rfl⟩) (by assumption) ?_
            try simp only [Act.put, List.setIfInBounds_toArray, List.set_cons_zero, List.set_cons_succ]
            refine wpAnyH_take (i := 9) (oi := ({ dst := some 46, op := Op.load 3 (Operand.tmp 45), type := 3, pos := "outright.go:100", after := #[{ on := 8, ground := Ground.data }, { on := 6, ground := Ground.guard }], guard := some (6, false) } : Oper)) (v := undef) rfl (by kernel_rfl) (by kernel_rfl) (by kernel_rfl) (fun _ _ _ h => h) (Or.inr ⟨by rfl, rfl⟩) (by assumption) ?_
            try simp only [Act.put, List.setIfInBounds_toArray, List.set_cons_zero, List.set_cons_succ]
            refine wpAnyH_take (i := 10) (oi := ({ dst := some 47, op := Op.move (Operand.tmp 2), type := 3, pos := "outright.go:100", after := #[{ on := 6, ground := Ground.guard }], guard := some (6, false) } : Oper)) (v := undef) rfl (by kernel_rfl) (by kernel_rfl) (by kernel_rfl) (fun _ _ _ h => h) (Or.inr ⟨by rfl, rfl⟩) (by assumption) ?_
            try simp only [Act.put, List.setIfInBounds_toArray, List.set_cons_zero, List.set_cons_succ]
            refine wpAnyH_take (i := 11) (oi := ({ dst := some 48, op := Op.binOp BinOp.add 3 (Operand.tmp 46) (Operand.tmp 47) 3, type := 3, pos := "outright.go:100", after := #[{ on := 9, ground := Ground.data }, { on := 10, ground := Ground.data }, { on := 6, ground := Ground.guard }], guard := some (6, false) } : Oper)) (v := undef) rfl (by kernel_rfl) (by kernel_rfl) (by kernel_rfl) (fun _ _ _ h => h) (Or.inr ⟨by rfl, rfl⟩) (by assumption) ?_
            try simp only [Act.put, List.setIfInBounds_toArray, List.set_cons_zero, List.set_cons_succ]
            refine wpAnyH_take (i := 12) (oi := ({ dst := some 49, op := Op.binOp BinOp.gtr 3 (Operand.tmp 44) (Operand.tmp 48) 3, type := 4, pos := "outright.go:100", after := #[{ on := 7, ground := Ground.data }, { on := 11, ground := Ground.data }, { on := 6, ground := Ground.guard }], guard := some (6, false) } : Oper)) (v := undef) rfl (by kernel_rfl) (by kernel_rfl) (by kernel_rfl) (fun _ _ _ h => h) (Or.inr ⟨by rfl, rfl⟩) (by assumption) ?_
            try simp only [Act.put, List.setIfInBounds_toArray, List.set_cons_zero, List.set_cons_succ]
            refine wpAnyH_take (i := 13) (oi := ({ dst := some 50, op := Op.pick (Operand.tmp 43) (Operand.const (Value.bool true)) (Operand.tmp 49), type := 4, pos := "outright.go:100", after := #[{ on := 6, ground := Ground.data }, { on := 12, ground := Ground.data }], guard := none } : Oper)) (v := ?_) rfl (by kernel_rfl) (by kernel_rfl) (by kernel_rfl) (fun _ _ _ h => h) (Or.inl ⟨by rfl, ?_⟩) (by assumption) ?_
            rotate_left
            · intro w hSw
              try dsimp only at hSw
              go_simp
              try with_reducible rfl
            try simp only [Act.put, List.setIfInBounds_toArray, List.set_cons_zero, List.set_cons_succ]
            refine wpAnyH_take (i := 14) (oi := ({ dst := some 51, op := Op.move (Operand.tmp 50), type := 4, pos := "outright.go:100", after := #[{ on := 13, ground := Ground.data }, { on := 6, ground := Ground.chain }], guard := none } : Oper)) (v := ?_) rfl (by kernel_rfl) (by kernel_rfl) (by kernel_rfl) (fun _ _ _ h => h) (Or.inl ⟨by rfl, ?_⟩) (by assumption) ?_
            rotate_left
            · intro w hSw
              try dsimp only at hSw
              go_simp
              try with_reducible rfl
            try simp only [Act.put, List.setIfInBounds_toArray, List.set_cons_zero, List.set_cons_succ]
            refine wpAnyH_take (i := 15) (oi := ({ dst := some 52, op := Op.load 27 (Operand.tmp 3), type := 27, pos := "outright.go:100", after := #[{ on := 14, ground := Ground.guard }], guard := some (14, true) } : Oper)) (v := ?_) rfl (by kernel_rfl) (by kernel_rfl) (by kernel_rfl) (fun _ _ _ h => h) (Or.inl ⟨by rfl, ?_⟩) (by assumption) ?_
            rotate_left
            · intro w hSw
              try dsimp only at hSw
              go_simp
              try with_reducible rfl
            try simp only [Act.put, List.setIfInBounds_toArray, List.set_cons_zero, List.set_cons_succ]
            refine wpAnyH_take (i := 16) (oi := ({ dst := some 53, op := Op.move (Operand.tmp 8), type := 3, pos := "outright.go:100", after := #[{ on := 14, ground := Ground.guard }], guard := some (14, true) } : Oper)) (v := ?_) rfl (by kernel_rfl) (by kernel_rfl) (by kernel_rfl) (fun _ _ _ h => h) (Or.inl ⟨by rfl, ?_⟩) (by assumption) ?_
            rotate_left
            · intro w hSw
              try dsimp only at hSw
              go_simp
              try with_reducible rfl
            try simp only [Act.put, List.setIfInBounds_toArray, List.set_cons_zero, List.set_cons_succ]
            refine wpAnyH_take (i := 18) (oi := ({ dst := some 55, op := Op.load 27 (Operand.tmp 4), type := 27, pos := "outright.go:100", after := #[{ on := 14, ground := Ground.guard }], guard := some (14, true) } : Oper)) (v := ?_) rfl (by kernel_rfl) (by kernel_rfl) (by kernel_rfl) (fun _ _ _ h => h) (Or.inl ⟨by rfl, ?_⟩) (by assumption) ?_
            rotate_left
            · intro w hSw
              try dsimp only at hSw
              go_simp
              try with_reducible rfl
            try simp only [Act.put, List.setIfInBounds_toArray, List.set_cons_zero, List.set_cons_succ]
            refine wpAnyH_take (i := 19) (oi := ({ dst := some 56, op := Op.move (Operand.tmp 8), type := 3, pos := "outright.go:100", after := #[{ on := 14, ground := Ground.guard }], guard := some (14, true) } : Oper)) (v := ?_) rfl (by kernel_rfl) (by kernel_rfl) (by kernel_rfl) (fun _ _ _ h => h) (Or.inl ⟨by rfl, ?_⟩) (by assumption) ?_
            rotate_left
            · intro w hSw
              try dsimp only at hSw
              go_simp
              try with_reducible rfl
            try simp only [Act.put, List.setIfInBounds_toArray, List.set_cons_zero, List.set_cons_succ]
            refine wpAnyH_ready (rs := [17]) (by kernel_rfl) (by simp) ?_
            refine AllReadyH.cons rfl (fun K hK => ?_) AllReadyH.nil
            go_simp
            refine (HRA.out _ (HA2.out.to (And.right (And.right (And.right (And.right (And.right (And.right (And.right (And.right hS)))))))))).mono ?_
            rintro e w3 ⟨rfl, hz3⟩
            have H3 : Hid (Below X.heap.size X w3) := hid_ (bnext (And.right (And.right (And.right (And.right (And.right (And.right (And.right (And.right hS)))))))) hz3)
            clear hz3
            go_wp2_with fail
            refine hK.out _ _ ⟨keepc H3.out a0, keepc H3.out a1, keepc H3.out a2, keepc H3.out a3, keepc H3.out q0, keepc H3.out q1, keepc H3.out q2, keepc H3.out q3, H3.out⟩ (fun hS3 => ?_)
            clear hK K hS
            try simp only [Act.put, List.setIfInBounds_toArray, List.set_cons_zero, List.set_cons_succ]
            refine wpAnyH_ready (rs := [20]) (by kernel_rfl) (by simp) ?_
            refine AllReadyH.cons rfl (fun K hK => ?_) AllReadyH.nil
            go_simp
            refine (HRC.out _ (HC2.out.to H3.out)).mono ?_
            rintro e w4 ⟨rfl, hz4⟩
            have H4 : Hid (Below X.heap.size X w4) := hid_ (bnext H3.out hz4)
            clear hz4
            go_wp2_with fail
            refine hK.out _ _ ⟨keepc H4.out a0, keepc H4.out a1, keepc H4.out a2, keepc H4.out a3, keepc H4.out q0, keepc H4.out q1, keepc H4.out q2, keepc H4.out q3, H4.out⟩ (fun hS4 => ?_)
            clear hK K hS3
            try simp only [Act.put, List.setIfInBounds_toArray, List.set_cons_zero, List.set_cons_succ]
            refine wpAnyH_take (i := 21) (oi := ({ dst := some 58, op := Op.binOp BinOp.neq 3 (Operand.tmp 54) (Operand.tmp 57) 3, type := 4, pos := "outright.go:100", after := #[{ on := 17, ground := Ground.data }, { on := 20, ground := Ground.data }, { on := 14, ground := Ground.guard }], guard := some (14, true) } : Oper)) (v := ?_) rfl (by kernel_rfl) (by kernel_rfl) (by kernel_rfl) (fun _ _ _ h => h) (Or.inl ⟨by rfl, ?_⟩) (by assumption) ?_
            rotate_left
            · intro w hSw
              try dsimp only at hSw
              go_simp
              try with_reducible rfl
            try simp only [Act.put, List.setIfInBounds_toArray, List.set_cons_zero, List.set_cons_succ]
            refine wpAnyH_take (i := 22) (oi := ({ dst := some 59, op := Op.pick (Operand.tmp 51) (Operand.tmp 58) (Operand.const (Value.bool false)), type := 4, pos := "outright.go:100", after := #[{ on := 14, ground := Ground.data }, { on := 21, ground := Ground.data }], guard := none } : Oper)) (v := ?_) rfl (by kernel_rfl) (by kernel_rfl) (by kernel_rfl) (fun _ _ _ h => h) (Or.inl ⟨by rfl, ?_⟩) (by assumption) ?_
            rotate_left
            · intro w hSw
              try dsimp only at hSw
              go_simp
              try with_reducible rfl
            try simp only [Act.put, List.setIfInBounds_toArray, List.set_cons_zero, List.set_cons_succ]
            refine wpAnyH_done (by kernel_rfl) ?_ _
            go_wp2_with fail
            go_meet
            exact ⟨rfl, H4.out⟩
          · by_cases g2 : c.pos + k < p
            · obtain ⟨z, hz⟩ : ∃ z, z = cellAt c.frm c.cells p := ⟨_, rfl⟩
              have hza : cellAt a.frm a.cells p = z := by rw [HS.out p (.inr g2), hz]
              rw [hza] at HRA
              rw [← hz] at HRC
              clear hz hza
              have d1 : decide (p < c.pos - k) = false := decide_eq_false g1
              have d2 : c.pos - k ≤ p := by omega
              go_region_held3 (fun w' => w'.cell? ⟨w.heap.size, 0, none⟩ = some (.int .i64 a.st) ∧ w'.cell? ⟨w.heap.size, 1, none⟩ = some (.int .i64 a.pos) ∧ w'.cell? ⟨w.heap.size, 2, none⟩ = some (.int .i64 a.frm) ∧ w'.cell? ⟨w.heap.size, 3, none⟩ = some (.slice A1 a.cells.length c1) ∧ w'.cell? ⟨w.heap.size + 1, 0, none⟩ = some (.int .i64 c.st) ∧ w'.cell? ⟨w.heap.size + 1, 1, none⟩ = some (.int .i64 c.pos) ∧ w'.cell? ⟨w.heap.size + 1, 2, none⟩ = some (.int .i64 c.frm) ∧ w'.cell? ⟨w.heap.size + 1, 3, none⟩ = some (.slice A2 c.cells.length c2) ∧ Below X.heap.size X w')
                (first | assumption | exact ⟨a0, a1, a2, a3, q0, q1, q2, q3, (Below.refl _ _).drew⟩ | exact ⟨a0, a1, a2, a3, q0, q1, q2, q3, Below.refl _ _⟩ | exact ⟨keepc H4.out a0, keepc H4.out a1, keepc H4.out a2, keepc H4.out a3, keepc H4.out q0, keepc H4.out q1, keepc H4.out q2, keepc H4.out q3, H4.out⟩ | exact ⟨keepc H3.out a0, keepc H3.out a1, keepc H3.out a2, keepc H3.out a3, keepc H3.out q0, keepc H3.out q1, keepc H3.out q2, keepc H3.out q3, H3.out⟩)
                (first
                | (go_at_call 29; (with_reducible refine (HRA.out _ (HA2.out.to (And.right (And.right (And.right (And.right (And.right (And.right (And.right (And.right (by assumption))))))))))).mono ?_); rintro e w3 ⟨rfl, hz3⟩; have H3 : Hid (Below X.heap.size X w3) := hid_ (bnext (And.right (And.right (And.right (And.right (And.right (And.right (And.right (And.right (by assumption))))))))) hz3); clear hz3)
                | (go_at_call 29; (with_reducible refine (HRC.out _ (HC2.out.to (And.right (And.right (And.right (And.right (And.right (And.right (And.right (And.right (by assumption))))))))))).mono ?_); rintro e w4 ⟨rfl, hz4⟩; have H4 : Hid (Below X.heap.size X w4) := hid_ (bnext (And.right (And.right (And.right (And.right (And.right (And.right (And.right (And.right (by assumption))))))))) hz4); clear hz4))
              go_wp2_with fail
              go_meet
              exact ⟨rfl, H4.out⟩
            · have d2 : decide (p > c.pos + k) = false := decide_eq_false (by omega)
              have d3 : p ≤ c.pos + k := by omega
              go_quiet (fail)
              go_wp2_with fail
              go_meet
              exact ⟨rfl, below_drewN (Below.refl _ _) _⟩
        case rest => as_aux_lemma =>
          obtain ⟨rfl, hbx⟩ := hcut
          go_wp2_with fail
          go_roundw
          case rel => exact ⟨i + 1, by go_num, by have := HT.out; omega, hbr.trans (hbx.mono hbr.size)⟩
          case measure => have := HT.out; simp [intOf]; omega
    · have hd : ¬ i < T := hil
      go_wp2_with fail
      go_ret
      exact ⟨rfl, hwr⟩
end Go.Proofs.YtkbaiegfloajlaaDoor.Tp

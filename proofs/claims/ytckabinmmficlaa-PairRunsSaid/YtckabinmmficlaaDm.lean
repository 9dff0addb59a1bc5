/- The laws' next: the simulated step. -/
import Derived.Test.YtckabinmmficlaaDl
namespace Go.Proofs.Ytckabinmmficlaa.Pp
open Go.RowKit


set_option maxRecDepth 100000 in
set_option maxHeartbeats 8000000 in
theorem next_go0 (R : Int) (b0 o0 n c b off c1 b2 off2 c2 b4 o4 m c4 a L : Nat) (code : List Cn.Ins) (rs : List Int) (M : Nat) (w : World) (hM : M ≤ 5000) (hv : Cn.vCode R code = true) (hR : ¬ 6 < R) (hs : ¬ 2000 < sizeL (code.map sOf)) (hL : sizeL (code.map sOf) = L) (hg : Cn.Good R.toNat code a rs) (hm : m = R.toNat) (hn : code.length = n)
    (hb0 : b0 < w.heap.size) (hc0 : Cn.CodeIn w b0 o0 code) (hb : b < w.heap.size) (hq : Cn.CodeIn w b off (qOf code)) (hb2 : b2 < w.heap.size) (hp : Cn.IntsIn w b2 off2 (pOf code)) (hb4 : b4 < w.heap.size) (hr : Cn.IntsIn w b4 o4 rs) (a' : Nat) (rs' : List Int) (hst : Cn.stp code a rs = some (some (a', rs'))) (hg' : Cn.Good R.toNat code a' rs') (hsp : Cn.stepS R code a rs = ⟨(a' : Int), rs', 1, 0⟩) (n1 m1 : Nat) (ho1 : encS 0 (natL rs) 1 = some n1) (ho2 : encS 0 (natL rs') 1 = some m1) (hn1 : n1 ≤ M) (hm1 : m1 ≤ M) (hmx : m1 ≤ n1) :
    Calls Try.prog 19 #[.agg #[.int .i64 R, .slice (some ⟨b0, o0, none⟩) n c], .agg #[.int .i64 2, .slice (some ⟨b, off, none⟩) L c1], .slice (some ⟨b2, off2, none⟩) n c2, .agg #[.int .i64 (a : Int), .slice (some ⟨b4, o4, none⟩) m c4], .int .i64 (M : Int)] w (NextRan R code m b4 w) := by
  have hm0 : 0 < m := by have := Cn.vCode_reg hv; omega
  have hn0 : 0 < n := by have := hg.lt; omega
  have hlr : rs.length = m := by rw [hg.len, hm]
  obtain ⟨hcb, hci, hcl⟩ := good_cont hv hR hg
  obtain ⟨hcb', hci', hcl'⟩ := good_cont hv hR hg'
  have hlr' : rs'.length = m := by rw [hg'.len, hm]
  have KST : Hid (∀ Y, b0 < Y.heap.size → Cn.CodeIn Y b0 o0 code → b4 < Y.heap.size → Cn.IntsIn Y b4 o4 rs → Calls Try.prog 29 #[.agg #[.int .i64 R, .slice (some ⟨b0, o0, none⟩) n c], .agg #[.int .i64 (a : Int), .slice (some ⟨b4, o4, none⟩) m c4]] Y fun e w' => ∃ b5 o5 c5, e = .returned (.tuple #[.agg #[.int .i64 (a' : Int), .slice (some ⟨b5, o5, none⟩) m c5], .int .i64 0]) ∧ b5 < w'.heap.size ∧ Cn.IntsIn w' b5 o5 rs' ∧ Y.heap.size ≤ b5 ∧ Below Y.heap.size Y w') := hid_ (fun Y h1 h2 h3 h4 => (Cn.step_any R a _ _ n c m c4 code rs Y ⟨hn, fun _ => ⟨b0, o0, rfl, h1, h2⟩⟩ ⟨hlr, fun _ => ⟨b4, o4, rfl, h3, h4⟩⟩).mono fun e w' h => by
    obtain ⟨A, k, d, e1, hI, hF, e2⟩ := h
    rw [hsp] at e1 hI
    simp only at e1 hI
    have e3 : k = m := by rw [← hI.len, hlr']
    subst e3
    obtain ⟨b5, o5, rfl, h5, h6⟩ := hI.at_ hm0
    exact ⟨b5, o5, d, e1, h5, h6, hF _ rfl, e2⟩)
  have KCO : Hid (∀ Y (l : List Int) A5 c5, contB l = true → l.length ≤ 6 → Elems Y Y.heap.size (.slice A5 m c5) (ints l) → Calls Try.prog 12 #[.slice A5 m c5] Y fun e w' => e = .returned (.bool true) ∧ Y = w') := hid_ (fun Y l A5 c5 h1 h2 h3 => (contents_any l _ Y h3 (by omega)).mono fun e w' h => by rw [h1] at h; exact ⟨h.1, h.2.symm⟩)
  have HCB := hid_ (And.intro hcb (And.intro hcb' (And.intro hcl hcl')))
  have HL5 := hid_ hlr'
  have HG' := hid_ hg'
  have KE1 : Hid (∀ Y, Elems Y Y.heap.size (.slice (some ⟨b4, o4, none⟩) m c4) (ints rs) → Calls Try.prog 13 #[.slice (some ⟨b4, o4, none⟩) m c4] Y fun e w' => e = .returned (.tuple #[.int .i64 (n1 : Int), .bool true]) ∧ Below Y.heap.size Y w') := hid_ (fun Y h => by
    have h2 := rencode_any rs _ Y h hcb hci
    rw [ho1] at h2
    exact h2)
  have KE2 : Hid (∀ Y b5 o5 c5, Elems Y Y.heap.size (.slice (some ⟨b5, o5, none⟩) m c5) (ints rs') → Calls Try.prog 13 #[.slice (some ⟨b5, o5, none⟩) m c5] Y fun e w' => e = .returned (.tuple #[.int .i64 (m1 : Int), .bool true]) ∧ Below Y.heap.size Y w') := hid_ (fun Y b5 o5 c5 h => by
    have h2 := rencode_any rs' _ Y h hcb' hci'
    rw [ho2] at h2
    exact h2)
  obtain ⟨k0, hk0, hun⟩ := until_two hv hR hs hg hst ho1 ho2 (by omega)
  rw [show max n1 m1 = n1 by omega] at hk0 hun
  obtain ⟨pa, hpa⟩ : ∃ x, x = sizeL ((code.map sOf).take a) := ⟨_, rfl⟩
  obtain ⟨pb, hpb⟩ : ∃ x, x = sizeL ((code.map sOf).take a') := ⟨_, rfl⟩
  rw [← hpa, ← hpb] at hun
  have HPA : Hid ((pOf code)[a]? = some (pa : Int)) := hid_ (by rw [hpa]; exact pOf_at hg.lt)
  have HPB : Hid ((pOf code)[a']? = some (pb : Int)) := hid_ (by rw [hpb]; exact pOf_at hg'.lt)
  have hLQ : (qOf code).length = L := by rw [qOf_len, hL]
  have hLP : (pOf code).length = n := by rw [pOf_len, hn]
  have hL1 : 0 < L := by
    have := size_lt (p := code.map sOf) (a := 0) (b := (code.map sOf).length) (by rw [List.length_map]; omega) (by rw [List.length_map]; omega)
    rw [List.take_length] at this
    omega
  have hn4 : n ≤ 4000 := by have := (Cn.vCode_reg hv).2.2.2; omega
  have hta : (a : Int) < (n : Int) := by have := hg.lt; omega
  have htb : (a' : Int) < (n : Int) := by have := hg'.lt; omega
  have KUN : Hid (∀ Y g (NN : Int), NN = 100 + 100 * (n1 : Int) → b < Y.heap.size → Cn.CodeIn Y b off (qOf code) → b2 < Y.heap.size → Cn.IntsIn Y b2 off2 (pOf code) → g < Y.heap.size → Cn.IntsIn Y g 0 [(n1 : Int), 0] → Calls Try.prog 30 #[.agg #[.int .i64 2, .slice (some ⟨b, off, none⟩) L c1], .agg #[.int .i64 (pa : Int), .slice (some ⟨g, 0, none⟩) 2 2], .slice (some ⟨b2, off2, none⟩) n c2, .int .i64 NN] Y fun e w' => ∃ A d, e = .returned (.tuple #[.agg #[.int .i64 (pb : Int), .slice A 2 d], .int .i64 k0, .int .i64 0]) ∧ Elems w' w'.heap.size (.slice A 2 d) (ints [(m1 : Int), 0]) ∧ (∀ q, (Value.slice A 2 d).ownBlock = some q → Y.heap.size ≤ q) ∧ Below Y.heap.size Y w') := hid_ (fun Y g NN hNN h1 h2 h3 h4 h5 h6 => (by rw [hNN]; exact Cn.until_any 2 pa _ _ _ _ L c1 2 2 n c2 (qOf code) [(n1 : Int), 0] (pOf code) Y ⟨hLQ, fun _ => ⟨b, off, rfl, h1, h2⟩⟩ ⟨rfl, fun _ => ⟨g, 0, rfl, h5, h6⟩⟩ ⟨hLP, fun _ => ⟨b2, off2, rfl, h3, h4⟩⟩ hn4 : Calls Try.prog 30 #[.agg #[.int .i64 2, .slice (some ⟨b, off, none⟩) L c1], .agg #[.int .i64 (pa : Int), .slice (some ⟨g, 0, none⟩) 2 2], .slice (some ⟨b2, off2, none⟩) n c2, .int .i64 NN] Y (Cn.Ran Y (Cn.untilS 2 (qOf code) (pa : Int) [(n1 : Int), 0] (pOf code) (100 + 100 * (n1 : Int))))).mono fun e w' h => by
    obtain ⟨A, k, d, e1, hI, hF, e2⟩ := h
    rw [hun] at e1 hI
    simp only at e1 hI
    have e3 : k = 2 := hI.len.symm
    subst e3
    refine ⟨A, d, e1, ints_elems hI (by omega), fun q hq => ?_, e2⟩
    obtain ⟨b9, o9, rfl, _, _⟩ := hI.at_ (by omega)
    simp only [Value.ownBlock, Option.some.injEq] at hq
    subst hq
    exact hF _ rfl)
  have t1 : ¬ (M : Int) < (n1 : Int) := by omega
  have t2 : ¬ (M : Int) < (m1 : Int) := by omega
  have t3 : ¬ (a : Int) < 0 := by omega
  have t4 : ¬ (a' : Int) < 0 := by omega
  have t5 : ¬ (n : Int) ≤ (a : Int) := by omega
  have t6 : ¬ (n : Int) ≤ (a' : Int) := by omega
  have t7 : ¬ (n1 : Int) < (m1 : Int) := by omega
  have t8 : 0 ≤ (a : Int) := by omega
  have t9 : 0 ≤ (a' : Int) := by omega
  have m1x : IntKind.i64.wrap (100 * (n1 : Int)) = 100 * (n1 : Int) := IntWalk.i64_in _ (by omega)
  have m2x : IntKind.i64.wrap (100 + 100 * (n1 : Int)) = 100 + 100 * (n1 : Int) := IntWalk.i64_in _ (by omega)
  have HNN : Hid (IntKind.i64.wrap (100 + IntKind.i64.wrap (100 * if n1 < m1 then (m1 : Int) else (n1 : Int))) = 100 + 100 * (n1 : Int)) := hid_ (by rw [if_neg (show ¬ n1 < m1 by omega), m1x, m2x])
  have hk00 : k0 ≤ 100 + 100 * (n1 : Int) := hk0
  clear hst hg' hsp hcb hcb' hci hci' hcl hcl' hlr' ho1 ho2 hun hpa hpb hLQ hLP hk0
  have hbW : Below w.heap.size w ((((w.alloc (.cells #[.int .i64 R, .slice (some ⟨b0, o0, none⟩) n c] 38)).alloc (.cells #[.int .i64 2, .slice (some ⟨b, off, none⟩) L c1] 38)).alloc (.cells #[.int .i64 (a : Int), .slice (some ⟨b4, o4, none⟩) m c4] 47)).alloc (.cells #[.int .i64 0, .slice none 0 0] 47)) := (((below1 w (.cells #[.int .i64 R, .slice (some ⟨b0, o0, none⟩) n c] 38)).alloc (by simp <;> omega) (.cells #[.int .i64 2, .slice (some ⟨b, off, none⟩) L c1] 38)).alloc (by simp <;> omega) (.cells #[.int .i64 (a : Int), .slice (some ⟨b4, o4, none⟩) m c4] 47)).alloc (by simp <;> omega) (.cells #[.int .i64 0, .slice none 0 0] 47)
  have HC0 := hid_ (hc0.below hbW hb0)
  have HCQ := hid_ (hq.below hbW hb)
  have HP := hid_ (hp.below hbW hb2)
  have HR := hid_ (hr.below hbW hb4)
  have hsz : ((((w.alloc (.cells #[.int .i64 R, .slice (some ⟨b0, o0, none⟩) n c] 38)).alloc (.cells #[.int .i64 2, .slice (some ⟨b, off, none⟩) L c1] 38)).alloc (.cells #[.int .i64 (a : Int), .slice (some ⟨b4, o4, none⟩) m c4] 47)).alloc (.cells #[.int .i64 0, .slice none 0 0] 47)).heap.size = w.heap.size + 1 + 1 + 1 + 1 := by simp
  have HB0 : Hid (Blk ((((w.alloc (.cells #[.int .i64 R, .slice (some ⟨b0, o0, none⟩) n c] 38)).alloc (.cells #[.int .i64 2, .slice (some ⟨b, off, none⟩) L c1] 38)).alloc (.cells #[.int .i64 (a : Int), .slice (some ⟨b4, o4, none⟩) m c4] 47)).alloc (.cells #[.int .i64 0, .slice none 0 0] 47)) w.heap.size 38 #[.int .i64 R, .slice (some ⟨b0, o0, none⟩) n c]) := hid_ ((((Blk.new w 38 #[.int .i64 R, .slice (some ⟨b0, o0, none⟩) n c]).alloc _).alloc _).alloc _)
  have HB1 : Hid (Blk ((((w.alloc (.cells #[.int .i64 R, .slice (some ⟨b0, o0, none⟩) n c] 38)).alloc (.cells #[.int .i64 2, .slice (some ⟨b, off, none⟩) L c1] 38)).alloc (.cells #[.int .i64 (a : Int), .slice (some ⟨b4, o4, none⟩) m c4] 47)).alloc (.cells #[.int .i64 0, .slice none 0 0] 47)) (w.heap.size + 1) 38 #[.int .i64 2, .slice (some ⟨b, off, none⟩) L c1]) := hid_ (by
    have h := ((Blk.new (w.alloc (.cells #[.int .i64 R, .slice (some ⟨b0, o0, none⟩) n c] 38)) 38 #[.int .i64 2, .slice (some ⟨b, off, none⟩) L c1]).alloc (.cells #[.int .i64 (a : Int), .slice (some ⟨b4, o4, none⟩) m c4] 47)).alloc (.cells #[.int .i64 0, .slice none 0 0] 47)
    rw [show (w.alloc (.cells #[.int .i64 R, .slice (some ⟨b0, o0, none⟩) n c] 38)).heap.size = w.heap.size + 1 by simp] at h
    exact h)
  have HB2 : Hid (Blk ((((w.alloc (.cells #[.int .i64 R, .slice (some ⟨b0, o0, none⟩) n c] 38)).alloc (.cells #[.int .i64 2, .slice (some ⟨b, off, none⟩) L c1] 38)).alloc (.cells #[.int .i64 (a : Int), .slice (some ⟨b4, o4, none⟩) m c4] 47)).alloc (.cells #[.int .i64 0, .slice none 0 0] 47)) (w.heap.size + 1 + 1) 47 #[.int .i64 (a : Int), .slice (some ⟨b4, o4, none⟩) m c4]) := hid_ (by
    have h := (Blk.new ((w.alloc (.cells #[.int .i64 R, .slice (some ⟨b0, o0, none⟩) n c] 38)).alloc (.cells #[.int .i64 2, .slice (some ⟨b, off, none⟩) L c1] 38)) 47 #[.int .i64 (a : Int), .slice (some ⟨b4, o4, none⟩) m c4]).alloc (.cells #[.int .i64 0, .slice none 0 0] 47)
    rw [show ((w.alloc (.cells #[.int .i64 R, .slice (some ⟨b0, o0, none⟩) n c] 38)).alloc (.cells #[.int .i64 2, .slice (some ⟨b, off, none⟩) L c1] 38)).heap.size = w.heap.size + 1 + 1 by simp] at h
    exact h)
  have HB3 : Hid (Blk ((((w.alloc (.cells #[.int .i64 R, .slice (some ⟨b0, o0, none⟩) n c] 38)).alloc (.cells #[.int .i64 2, .slice (some ⟨b, off, none⟩) L c1] 38)).alloc (.cells #[.int .i64 (a : Int), .slice (some ⟨b4, o4, none⟩) m c4] 47)).alloc (.cells #[.int .i64 0, .slice none 0 0] 47)) (w.heap.size + 1 + 1 + 1) 47 #[.int .i64 0, .slice none 0 0]) := hid_ (by
    have h := Blk.new (((w.alloc (.cells #[.int .i64 R, .slice (some ⟨b0, o0, none⟩) n c] 38)).alloc (.cells #[.int .i64 2, .slice (some ⟨b, off, none⟩) L c1] 38)).alloc (.cells #[.int .i64 (a : Int), .slice (some ⟨b4, o4, none⟩) m c4] 47)) 47 #[.int .i64 0, .slice none 0 0]
    rw [show (((w.alloc (.cells #[.int .i64 R, .slice (some ⟨b0, o0, none⟩) n c] 38)).alloc (.cells #[.int .i64 2, .slice (some ⟨b, off, none⟩) L c1] 38)).alloc (.cells #[.int .i64 (a : Int), .slice (some ⟨b4, o4, none⟩) m c4] 47)).heap.size = w.heap.size + 1 + 1 + 1 by simp] at h
    exact h)
  have HB4N := hid_ hb4
  have HB2N := hid_ hb2
  have HG := hid_ hg
  have HV := hid_ hv
  have HLR := hid_ hlr
  have HLC := hid_ hn
  have hLI : (0 : Int) ≤ 0 := by omega
  replace hb0 : b0 < ((((w.alloc (.cells #[.int .i64 R, .slice (some ⟨b0, o0, none⟩) n c] 38)).alloc (.cells #[.int .i64 2, .slice (some ⟨b, off, none⟩) L c1] 38)).alloc (.cells #[.int .i64 (a : Int), .slice (some ⟨b4, o4, none⟩) m c4] 47)).alloc (.cells #[.int .i64 0, .slice none 0 0] 47)).heap.size := by omega
  replace hb : b < ((((w.alloc (.cells #[.int .i64 R, .slice (some ⟨b0, o0, none⟩) n c] 38)).alloc (.cells #[.int .i64 2, .slice (some ⟨b, off, none⟩) L c1] 38)).alloc (.cells #[.int .i64 (a : Int), .slice (some ⟨b4, o4, none⟩) m c4] 47)).alloc (.cells #[.int .i64 0, .slice none 0 0] 47)).heap.size := by omega
  replace hb2 : b2 < ((((w.alloc (.cells #[.int .i64 R, .slice (some ⟨b0, o0, none⟩) n c] 38)).alloc (.cells #[.int .i64 2, .slice (some ⟨b, off, none⟩) L c1] 38)).alloc (.cells #[.int .i64 (a : Int), .slice (some ⟨b4, o4, none⟩) m c4] 47)).alloc (.cells #[.int .i64 0, .slice none 0 0] 47)).heap.size := by omega
  replace hb4 : b4 < ((((w.alloc (.cells #[.int .i64 R, .slice (some ⟨b0, o0, none⟩) n c] 38)).alloc (.cells #[.int .i64 2, .slice (some ⟨b, off, none⟩) L c1] 38)).alloc (.cells #[.int .i64 (a : Int), .slice (some ⟨b4, o4, none⟩) m c4] 47)).alloc (.cells #[.int .i64 0, .slice none 0 0] 47)).heap.size := by omega
  have HWZ := hid_ hsz
  clear hc0 hq hp hr hsz hg hv hlr hn hs hm hL
  go_enter Try.func19, Try.ntmps19
  go_upto_region 1 with fail
  generalize (((w.alloc (.cells #[.int .i64 R, .slice (some ⟨b0, o0, none⟩) n c] 38)).alloc (.cells #[.int .i64 2, .slice (some ⟨b, off, none⟩) L c1] 38)).alloc (.cells #[.int .i64 (a : Int), .slice (some ⟨b4, o4, none⟩) m c4] 47)).alloc (.cells #[.int .i64 0, .slice none 0 0] 47) = W at *
  have p0 := HB0.out.cell 0
  have p1 := HB0.out.cell 1
  have q0 := HB1.out.cell 0
  have q1 := HB1.out.cell 1
  have v0 := HB2.out.cell 0
  have v1 := HB2.out.cell 1
  have r0 := HB3.out.cell 0
  have r1 := HB3.out.cell 1
  simp at p0 p1 q0 q1 v0 v1 r0 r1
  go_upto_region 2 with (go_at_call 29; (with_reducible refine (KST.out _ hb0 HC0.out hb4 HR.out).mono ?_); rintro e w1 ⟨b5, o5, c5, rfl, hb5, hr5, hf5, hb1⟩)
  have HF5 := hid_ hf5
  clear hf5
  have hbx := hb1.alloc hb1.size (.cells #[.int .i64 (a' : Int), .slice (some ⟨b5, o5, none⟩) m c5] 47)
  have HR5 := hid_ (hr5.below (below1 w1 (.cells #[.int .i64 (a' : Int), .slice (some ⟨b5, o5, none⟩) m c5] 47)) hb5)
  have HB4 := hid_ (Blk.new w1 47 #[.int .i64 (a' : Int), .slice (some ⟨b5, o5, none⟩) m c5])
  have hs9 : (w1.alloc (.cells #[.int .i64 (a' : Int), .slice (some ⟨b5, o5, none⟩) m c5] 47)).heap.size = w1.heap.size + 1 := by simp
  replace hb5 : b5 < (w1.alloc (.cells #[.int .i64 (a' : Int), .slice (some ⟨b5, o5, none⟩) m c5] 47)).heap.size := by omega
  have hl1 : W.heap.size ≤ w1.heap.size := hb1.size
  clear p0 p1 q0 q1 v0 v1 r0 r1
  replace hbW := bnext hbW hbx; replace HC0 := hid_ (HC0.out.below hbx hb0); replace HCQ := hid_ (HCQ.out.below hbx hb); replace HP := hid_ (HP.out.below hbx hb2); replace HR := hid_ (HR.out.below hbx hb4); replace HB0 := hid_ (HB0.out.to hbx); replace HB1 := hid_ (HB1.out.to hbx); replace HB2 := hid_ (HB2.out.to hbx); replace HB3 := hid_ (HB3.out.to hbx); replace hb0 := Nat.lt_of_lt_of_le hb0 hbx.size; replace hb := Nat.lt_of_lt_of_le hb hbx.size; replace hb2 := Nat.lt_of_lt_of_le hb2 hbx.size; replace hb4 := Nat.lt_of_lt_of_le hb4 hbx.size; 
  clear hb1 hbx hr5 hs9
  generalize w1.alloc (.cells #[.int .i64 (a' : Int), .slice (some ⟨b5, o5, none⟩) m c5] 47) = W2 at *
  have p0 := HB0.out.cell 0
  have p1 := HB0.out.cell 1
  have q0 := HB1.out.cell 0
  have q1 := HB1.out.cell 1
  have v0 := HB2.out.cell 0
  have v1 := HB2.out.cell 1
  have r0 := HB3.out.cell 0
  have r1 := HB3.out.cell 1
  have d0 := HB4.out.cell 0
  have d1 := HB4.out.cell 1
  simp at p0 p1 q0 q1 v0 v1 r0 r1 d0 d1
  have HE1 := hid_ (ints_elems (c := c4) (A := some ⟨b4, o4, none⟩) (n := m) ⟨HLR.out, fun _ => ⟨b4, o4, rfl, hb4, HR.out⟩⟩ hm0)
  have HE2 := hid_ (ints_elems (c := c5) (A := some ⟨b5, o5, none⟩) (n := m) ⟨HL5.out, fun _ => ⟨b5, o5, rfl, hb5, HR5.out⟩⟩ hm0)
  have l2 := HB2.out.lt
  have l4 := HB4.out.lt
  go_upto_region 6 with (first
    | (go_at_call 12; (with_reducible refine (KCO.out _ _ _ _ HCB.out.1 HCB.out.2.2.1 HE1.out).mono ?_); rintro e _ ⟨rfl, rfl⟩)
    | (go_at_call 12; (with_reducible refine (KCO.out _ _ _ _ HCB.out.2.1 HCB.out.2.2.2 HE2.out).mono ?_); rintro e _ ⟨rfl, rfl⟩))
  go_upto_region 7 with (go_at_call 13; (with_reducible refine (KE1.out _ HE1.out).mono ?_); rintro e w3 ⟨rfl, hb3⟩)
  clear p0 p1 q0 q1 v0 v1 r0 r1 d0 d1
  replace hbW := bnext hbW hb3; replace HC0 := hid_ (HC0.out.below hb3 hb0); replace HCQ := hid_ (HCQ.out.below hb3 hb); replace HP := hid_ (HP.out.below hb3 hb2); replace HR := hid_ (HR.out.below hb3 hb4); replace HB0 := hid_ (HB0.out.to hb3); replace HB1 := hid_ (HB1.out.to hb3); replace HB2 := hid_ (HB2.out.to hb3); replace HB3 := hid_ (HB3.out.to hb3); replace HB4 := hid_ (HB4.out.to hb3); replace HE2 := hid_ (HE2.out.to hb3); replace hb0 := Nat.lt_of_lt_of_le hb0 hb3.size; replace hb := Nat.lt_of_lt_of_le hb hb3.size; replace hb2 := Nat.lt_of_lt_of_le hb2 hb3.size; replace hb4 := Nat.lt_of_lt_of_le hb4 hb3.size; replace HR5 := hid_ (HR5.out.below hb3 hb5); replace hb5 := Nat.lt_of_lt_of_le hb5 hb3.size
  clear hb3 HE1 l2 l4
  have p0 := HB0.out.cell 0
  have p1 := HB0.out.cell 1
  have q0 := HB1.out.cell 0
  have q1 := HB1.out.cell 1
  have v0 := HB2.out.cell 0
  have v1 := HB2.out.cell 1
  have r0 := HB3.out.cell 0
  have r1 := HB3.out.cell 1
  have d0 := HB4.out.cell 0
  have d1 := HB4.out.cell 1
  simp at p0 p1 q0 q1 v0 v1 r0 r1 d0 d1
  have l2 := HB2.out.lt
  have l4 := HB4.out.lt
  go_upto_region 8 with (go_at_call 13; (with_reducible refine (KE2.out _ _ _ _ HE2.out).mono ?_); rintro e w4 ⟨rfl, hb3⟩)
  clear p0 p1 q0 q1 v0 v1 r0 r1 d0 d1
  replace hbW := bnext hbW hb3; replace HC0 := hid_ (HC0.out.below hb3 hb0); replace HCQ := hid_ (HCQ.out.below hb3 hb); replace HP := hid_ (HP.out.below hb3 hb2); replace HR := hid_ (HR.out.below hb3 hb4); replace HB0 := hid_ (HB0.out.to hb3); replace HB1 := hid_ (HB1.out.to hb3); replace HB2 := hid_ (HB2.out.to hb3); replace HB3 := hid_ (HB3.out.to hb3); replace HB4 := hid_ (HB4.out.to hb3); replace hb0 := Nat.lt_of_lt_of_le hb0 hb3.size; replace hb := Nat.lt_of_lt_of_le hb hb3.size; replace hb2 := Nat.lt_of_lt_of_le hb2 hb3.size; replace hb4 := Nat.lt_of_lt_of_le hb4 hb3.size; replace HR5 := hid_ (HR5.out.below hb3 hb5); replace hb5 := Nat.lt_of_lt_of_le hb5 hb3.size
  clear hb3 HE2 l2 l4
  obtain ⟨W4, rfl⟩ : ∃ X : World, X = w4 := ⟨_, rfl⟩
  have p0 := HB0.out.cell 0
  have p1 := HB0.out.cell 1
  have q0 := HB1.out.cell 0
  have q1 := HB1.out.cell 1
  have v0 := HB2.out.cell 0
  have v1 := HB2.out.cell 1
  have r0 := HB3.out.cell 0
  have r1 := HB3.out.cell 1
  have d0 := HB4.out.cell 0
  have d1 := HB4.out.cell 1
  simp at p0 p1 q0 q1 v0 v1 r0 r1 d0 d1
  have l2 := HB2.out.lt
  have l4 := HB4.out.lt
  have a0 := HP.out a _ HPA.out
  clear p0 p1 r0 r1
  go_upto_region 12 with fail
  have hw1 : Below W4.heap.size W4 (W4.alloc (.cells #[.int .i64 (n1 : Int), .int .i64 0] 3)).drew := (below1 W4 _).drew
  have hz1 : ((W4.alloc (.cells #[.int .i64 (n1 : Int), .int .i64 0] 3)).drew).heap.size = W4.heap.size + 1 := by show ((W4.alloc (.cells #[.int .i64 (n1 : Int), .int .i64 0] 3))).heap.size = _; simp
  have HX1 : Hid (b < ((W4.alloc (.cells #[.int .i64 (n1 : Int), .int .i64 0] 3)).drew).heap.size ∧ Cn.CodeIn ((W4.alloc (.cells #[.int .i64 (n1 : Int), .int .i64 0] 3)).drew) b off (qOf code) ∧ b2 < ((W4.alloc (.cells #[.int .i64 (n1 : Int), .int .i64 0] 3)).drew).heap.size ∧ Cn.IntsIn ((W4.alloc (.cells #[.int .i64 (n1 : Int), .int .i64 0] 3)).drew) b2 off2 (pOf code) ∧ W4.heap.size < ((W4.alloc (.cells #[.int .i64 (n1 : Int), .int .i64 0] 3)).drew).heap.size) := hid_ ⟨by omega, HCQ.out.below hw1 hb, by omega, HP.out.below hw1 hb2, by omega⟩
  have HBX : Blk ((W4.alloc (.cells #[.int .i64 (n1 : Int), .int .i64 0] 3)).drew) W4.heap.size 3 #[.int .i64 (n1 : Int), .int .i64 0] := Blk.new W4 3 _
  have HI1 : Hid (Cn.IntsIn ((W4.alloc (.cells #[.int .i64 (n1 : Int), .int .i64 0] 3)).drew) W4.heap.size 0 [(n1 : Int), 0]) := hid_ (fun k x hk => by
    rw [HBX.cell]
    match k, hk with
    | 0, hk => simp at hk; subst hk; rfl
    | 1, hk => simp at hk; subst hk; rfl
    | k + 2, hk => simp at hk)
  clear HBX hw1 hz1
  have hw2 : Below W4.heap.size W4 ((W4.alloc (.cells #[.int .i64 (n1 : Int), .int .i64 0] 3)).alloc (.cells #[.int .i64 0, .slice none 0 0] 47)).drew := (below2 W4 _ _).drew
  have hz2 : (((W4.alloc (.cells #[.int .i64 (n1 : Int), .int .i64 0] 3)).alloc (.cells #[.int .i64 0, .slice none 0 0] 47)).drew).heap.size = W4.heap.size + 2 := by show (((W4.alloc (.cells #[.int .i64 (n1 : Int), .int .i64 0] 3)).alloc (.cells #[.int .i64 0, .slice none 0 0] 47))).heap.size = _; simp
  have HX2 : Hid (b < (((W4.alloc (.cells #[.int .i64 (n1 : Int), .int .i64 0] 3)).alloc (.cells #[.int .i64 0, .slice none 0 0] 47)).drew).heap.size ∧ Cn.CodeIn (((W4.alloc (.cells #[.int .i64 (n1 : Int), .int .i64 0] 3)).alloc (.cells #[.int .i64 0, .slice none 0 0] 47)).drew) b off (qOf code) ∧ b2 < (((W4.alloc (.cells #[.int .i64 (n1 : Int), .int .i64 0] 3)).alloc (.cells #[.int .i64 0, .slice none 0 0] 47)).drew).heap.size ∧ Cn.IntsIn (((W4.alloc (.cells #[.int .i64 (n1 : Int), .int .i64 0] 3)).alloc (.cells #[.int .i64 0, .slice none 0 0] 47)).drew) b2 off2 (pOf code) ∧ W4.heap.size < (((W4.alloc (.cells #[.int .i64 (n1 : Int), .int .i64 0] 3)).alloc (.cells #[.int .i64 0, .slice none 0 0] 47)).drew).heap.size) := hid_ ⟨by omega, HCQ.out.below hw2 hb, by omega, HP.out.below hw2 hb2, by omega⟩
  have HBX : Blk (((W4.alloc (.cells #[.int .i64 (n1 : Int), .int .i64 0] 3)).alloc (.cells #[.int .i64 0, .slice none 0 0] 47)).drew) W4.heap.size 3 #[.int .i64 (n1 : Int), .int .i64 0] := (Blk.new W4 3 _).alloc _
  have HI2 : Hid (Cn.IntsIn (((W4.alloc (.cells #[.int .i64 (n1 : Int), .int .i64 0] 3)).alloc (.cells #[.int .i64 0, .slice none 0 0] 47)).drew) W4.heap.size 0 [(n1 : Int), 0]) := hid_ (fun k x hk => by
    rw [HBX.cell]
    match k, hk with
    | 0, hk => simp at hk; subst hk; rfl
    | 1, hk => simp at hk; subst hk; rfl
    | k + 2, hk => simp at hk)
  clear HBX hw2 hz2
  have hw3 : Below W4.heap.size W4 ((W4.alloc (.cells #[.int .i64 0, .slice none 0 0] 47)).alloc (.cells #[.int .i64 (n1 : Int), .int .i64 0] 3)).drew := (below2 W4 _ _).drew
  have hz3 : (((W4.alloc (.cells #[.int .i64 0, .slice none 0 0] 47)).alloc (.cells #[.int .i64 (n1 : Int), .int .i64 0] 3)).drew).heap.size = W4.heap.size + 2 := by show (((W4.alloc (.cells #[.int .i64 0, .slice none 0 0] 47)).alloc (.cells #[.int .i64 (n1 : Int), .int .i64 0] 3))).heap.size = _; simp
  have HX3 : Hid (b < (((W4.alloc (.cells #[.int .i64 0, .slice none 0 0] 47)).alloc (.cells #[.int .i64 (n1 : Int), .int .i64 0] 3)).drew).heap.size ∧ Cn.CodeIn (((W4.alloc (.cells #[.int .i64 0, .slice none 0 0] 47)).alloc (.cells #[.int .i64 (n1 : Int), .int .i64 0] 3)).drew) b off (qOf code) ∧ b2 < (((W4.alloc (.cells #[.int .i64 0, .slice none 0 0] 47)).alloc (.cells #[.int .i64 (n1 : Int), .int .i64 0] 3)).drew).heap.size ∧ Cn.IntsIn (((W4.alloc (.cells #[.int .i64 0, .slice none 0 0] 47)).alloc (.cells #[.int .i64 (n1 : Int), .int .i64 0] 3)).drew) b2 off2 (pOf code) ∧ (W4.heap.size + 1) < (((W4.alloc (.cells #[.int .i64 0, .slice none 0 0] 47)).alloc (.cells #[.int .i64 (n1 : Int), .int .i64 0] 3)).drew).heap.size) := hid_ ⟨by omega, HCQ.out.below hw3 hb, by omega, HP.out.below hw3 hb2, by omega⟩
  have HBX : Blk (((W4.alloc (.cells #[.int .i64 0, .slice none 0 0] 47)).alloc (.cells #[.int .i64 (n1 : Int), .int .i64 0] 3)).drew) (W4.heap.size + 1) 3 #[.int .i64 (n1 : Int), .int .i64 0] := by have h := Blk.new (W4.alloc (.cells #[.int .i64 0, .slice none 0 0] 47)) 3 #[.int .i64 (n1 : Int), .int .i64 0]; rw [show (W4.alloc (.cells #[.int .i64 0, .slice none 0 0] 47)).heap.size = W4.heap.size + 1 by simp] at h; exact h
  have HI3 : Hid (Cn.IntsIn (((W4.alloc (.cells #[.int .i64 0, .slice none 0 0] 47)).alloc (.cells #[.int .i64 (n1 : Int), .int .i64 0] 3)).drew) (W4.heap.size + 1) 0 [(n1 : Int), 0]) := hid_ (fun k x hk => by
    rw [HBX.cell]
    match k, hk with
    | 0, hk => simp at hk; subst hk; rfl
    | 1, hk => simp at hk; subst hk; rfl
    | k + 2, hk => simp at hk)
  clear HBX hw3 hz3
  have HZ2 : Hid (Blk ((W4.alloc (.cells #[.int .i64 (n1 : Int), .int .i64 0] 3)).alloc (.cells #[.int .i64 0, .slice none 0 0] 47)).drew (W4.heap.size + 1) 47 #[.int .i64 0, .slice none 0 0]) := hid_ (by
    have h := Blk.new (W4.alloc (.cells #[.int .i64 (n1 : Int), .int .i64 0] 3)) 47 #[.int .i64 0, .slice none 0 0]
    rw [show (W4.alloc (.cells #[.int .i64 (n1 : Int), .int .i64 0] 3)).heap.size = W4.heap.size + 1 by simp] at h
    exact h)
  have HZ3 : Hid (Blk ((W4.alloc (.cells #[.int .i64 0, .slice none 0 0] 47)).alloc (.cells #[.int .i64 (n1 : Int), .int .i64 0] 3)).drew W4.heap.size 47 #[.int .i64 0, .slice none 0 0]) := hid_ ((Blk.new W4 47 #[.int .i64 0, .slice none 0 0]).alloc _)
  have HLE : Hid (W4.heap.size ≤ W4.heap.size + 1) := hid_ (by omega)
  have HLF : Hid (W4.heap.size ≤ W4.heap.size) := hid_ (Nat.le_refl _)
  clear d0 d1
  go_cut [19, 20, 21] (fun p q r wx => ∃ (gx : Nat) (A : Option Addr) (d : Nat), p = .pointer (some ⟨gx, 0, none⟩) ∧ q = .int .i64 k0 ∧ r = .int .i64 0 ∧ W4.heap.size ≤ gx ∧ (∀ y, (Value.slice A 2 d).ownBlock = some y → W4.heap.size ≤ y) ∧ Blk wx gx 47 #[.int .i64 (pb : Int), .slice A 2 d] ∧ Elems wx wx.heap.size (.slice A 2 d) (ints [(m1 : Int), 0]) ∧ Below W4.heap.size W4 wx)
  case first => as_aux_lemma =>
    go_region_held3 (fun w' => w'.cell? ⟨w.heap.size + 1, 0, none⟩ = some (.int .i64 2) ∧ w'.cell? ⟨w.heap.size + 1, 1, none⟩ = some (.slice (some ⟨b, off, none⟩) L c1) ∧ w'.cell? ⟨w.heap.size + 1 + 1, 0, none⟩ = some (.int .i64 (a : Int)) ∧ w'.cell? ⟨b2, off2 + a, none⟩ = some (.int .i64 (pa : Int)) ∧ Below W4.heap.size W4 w')
      (first
        | (with_reducible assumption)
        | (with_reducible exact (let hb := (Below.refl W4.heap.size W4).drew; ⟨keepc hb q0, keepc hb q1, keepc hb v0, keepc hb a0, hb⟩))
        | (with_reducible exact (let hb := (below1 W4 _).drew; ⟨keepc hb q0, keepc hb q1, keepc hb v0, keepc hb a0, hb⟩))
        | (with_reducible exact (let hb := (below2 W4 _ _).drew; ⟨keepc hb q0, keepc hb q1, keepc hb v0, keepc hb a0, hb⟩))
        | (with_reducible exact (let hb := H7.out; ⟨keepc hb q0, keepc hb q1, keepc hb v0, keepc hb a0, hb⟩))
        | (with_reducible exact (let hb := H7.out.alloc H7.out.size _; ⟨keepc hb q0, keepc hb q1, keepc hb v0, keepc hb a0, hb⟩))
        | (with_reducible exact (let hb := (H7.out.alloc H7.out.size _).setCell H7.out.size _; ⟨keepc hb q0, keepc hb q1, keepc hb v0, keepc hb a0, hb⟩))
        | (with_reducible exact (let hb := ((H7.out.alloc H7.out.size _).setCell H7.out.size _).setCell H7.out.size _; ⟨keepc hb q0, keepc hb q1, keepc hb v0, keepc hb a0, hb⟩))
        | (with_reducible exact (let hb := H7.out.setCell HLE.out _; ⟨keepc hb q0, keepc hb q1, keepc hb v0, keepc hb a0, hb⟩))
        | (with_reducible exact (let hb := (H7.out.setCell HLE.out _).setCell HLE.out _; ⟨keepc hb q0, keepc hb q1, keepc hb v0, keepc hb a0, hb⟩))
        | (with_reducible exact (let hb := H7.out.setCell HLF.out _; ⟨keepc hb q0, keepc hb q1, keepc hb v0, keepc hb a0, hb⟩))
        | (with_reducible exact (let hb := (H7.out.setCell HLF.out _).setCell HLF.out _; ⟨keepc hb q0, keepc hb q1, keepc hb v0, keepc hb a0, hb⟩))
        | (go_keep; done))
      (first
        | (go_at_call 30; (with_reducible refine (KUN.out _ _ _ (by first | exact HNN.out | rfl) HX1.out.1 HX1.out.2.1 HX1.out.2.2.1 HX1.out.2.2.2.1 HX1.out.2.2.2.2 HI1.out).mono ?_); rintro e w7 ⟨A, d, rfl, hE, hfr, hb7⟩; have HFR := hid_ hfr; have HF4 : Hid (∀ y, (Value.slice A 2 d).ownBlock = some y → W4.heap.size ≤ y) := hid_ (fun y hy => Nat.le_trans ((below1 W4 _).drew).size (hfr y hy)); clear hfr; have H7 : Hid (Below W4.heap.size W4 w7) := hid_ (bnext (below1 W4 _).drew hb7); have HE := hid_ hE; have n0 := World.new_ne w7 _ (keepc H7.out q0); have n1 := World.new_ne w7 _ (keepc H7.out q1); have n2 := World.new_ne w7 _ (keepc H7.out v0); have n3 := World.new_ne w7 _ (keepc H7.out a0); simp only at n0 n1 n2 n3; have z1 : ∀ (cs : Array Value) (t : TypeId) (i : Nat), (w7.alloc (.cells cs t)).cell? ⟨w7.heap.size, i, none⟩ = cs[i]? := fun cs t i => (Blk.new w7 t cs).cell i; have z2 : ∀ (cs : Array Value) (t : TypeId) (i : Nat), (w7.alloc (.cells cs t)).frozen? ⟨w7.heap.size, i, none⟩ = false := fun cs t i => (Blk.new w7 t cs).free i; have z3 : ∀ (cs : Array Value) (t : TypeId) (i : Nat) (u : Value), (w7.alloc (.cells cs t)).setCell ⟨w7.heap.size, i, none⟩ u = w7.alloc (.cells (cs.setIfInBounds i u) t) := fun cs t i u => World.setCell_alloc_at (w := w7) _ _ _ _ _ rfl; clear hE hb7)
        | (go_at_call 30; (with_reducible refine (KUN.out _ _ _ (by first | exact HNN.out | rfl) HX2.out.1 HX2.out.2.1 HX2.out.2.2.1 HX2.out.2.2.2.1 HX2.out.2.2.2.2 HI2.out).mono ?_); rintro e w7 ⟨A, d, rfl, hE, hfr, hb7⟩; have HFR := hid_ hfr; have HF4 : Hid (∀ y, (Value.slice A 2 d).ownBlock = some y → W4.heap.size ≤ y) := hid_ (fun y hy => Nat.le_trans ((below2 W4 _ _).drew).size (hfr y hy)); clear hfr; have H7 : Hid (Below W4.heap.size W4 w7) := hid_ (bnext (below2 W4 _ _).drew hb7); have HE := hid_ hE; have BB := HZ2.out.to hb7; have HBB := hid_ BB; have y0 := BB.cell 0; have y1 := BB.cell 1; have f0 := BB.free 0; have f1 := BB.free 1; simp at y0 y1; clear hE hb7 BB)
        | (go_at_call 30; (with_reducible refine (KUN.out _ _ _ (by first | exact HNN.out | rfl) HX3.out.1 HX3.out.2.1 HX3.out.2.2.1 HX3.out.2.2.2.1 HX3.out.2.2.2.2 HI3.out).mono ?_); rintro e w7 ⟨A, d, rfl, hE, hfr, hb7⟩; have HFR := hid_ hfr; have HF4 : Hid (∀ y, (Value.slice A 2 d).ownBlock = some y → W4.heap.size ≤ y) := hid_ (fun y hy => Nat.le_trans ((below2 W4 _ _).drew).size (hfr y hy)); clear hfr; have H7 : Hid (Below W4.heap.size W4 w7) := hid_ (bnext (below2 W4 _ _).drew hb7); have HE := hid_ hE; have BB := HZ3.out.to hb7; have HBB := hid_ BB; have y0 := BB.cell 0; have y1 := BB.cell 1; have f0 := BB.free 0; have f1 := BB.free 1; simp at y0 y1; clear hE hb7 BB))
    all_goals
      go_wp2_with fail
      go_meet
      first
        | (with_reducible exact ⟨w7.heap.size, A, d, rfl, rfl, rfl, H7.out.size, HF4.out, Blk.new w7 _ _, HE.out.to (below1 w7 _), H7.out.alloc H7.out.size _⟩)
        | (have hne : (Value.slice A 2 d).ownBlock ≠ some (W4.heap.size + 1) := (fun e => by
            have h1 := HFR.out _ e
            have h2 := HZ2.out.lt
            omega)
           have hbz := (HBB.out.set_ 0 (.int .i64 (pb : Int))).set_ 1 (.slice A 2 d)
           simp at hbz
           with_reducible exact ⟨W4.heap.size + 1, A, d, rfl, rfl, rfl, HLE.out, HF4.out, hbz, elems_out (p := ⟨W4.heap.size + 1, 1, none⟩) (elems_out (p := ⟨W4.heap.size + 1, 0, none⟩) HE.out hne) hne, (H7.out.setCell HLE.out _).setCell HLE.out _⟩)
        | (have hne : (Value.slice A 2 d).ownBlock ≠ some W4.heap.size := (fun e => by
            have h1 := HFR.out _ e
            have h2 := HZ3.out.lt
            omega)
           have hbz := (HBB.out.set_ 0 (.int .i64 (pb : Int))).set_ 1 (.slice A 2 d)
           simp at hbz
           with_reducible exact ⟨W4.heap.size, A, d, rfl, rfl, rfl, HLF.out, HF4.out, hbz, elems_out (p := ⟨W4.heap.size, 1, none⟩) (elems_out (p := ⟨W4.heap.size, 0, none⟩) HE.out hne) hne, (H7.out.setCell HLF.out _).setCell HLF.out _⟩)
  case rest => as_aux_lemma =>
    obtain ⟨gx, A, d, rfl, rfl, rfl, hgx, hfA, hB, hE, hbc⟩ := hcut
    obtain ⟨W7, rfl⟩ : ∃ X : World, X = wc := ⟨_, rfl⟩
    obtain ⟨r, hr9⟩ : ∃ r, r = w.heap.size + 1 + 1 + 1 := ⟨_, rfl⟩
    rw [← hr9] at HB3 ⊢
    have HWR : Hid (W.heap.size = r + 1) := hid_ (by have := HWZ.out; omega)
    have HRW : Hid (w.heap.size ≤ r ∧ b4 < w.heap.size) := hid_ ⟨by omega, HB4N.out⟩
    have hb2r : b2 ≠ r := by have := HB2N.out; omega
    have HB5R : Hid (b5 ≠ r) := hid_ (by have h1 := HF5.out; have h2 := HWR.out; omega)
    have hgr : gx ≠ r := by have h1 := HB3.out.lt; omega
    have hdr : w1.heap.size ≠ r := by have h2 := HWR.out; omega
    have hAr : (Value.slice A 2 d).ownBlock ≠ some r := fun e => by have h1 := hfA r e; have h2 := HB3.out.lt; omega
    have d0 := HB4.out.cell 0
    have d1 := HB4.out.cell 1
    simp at d0 d1
    replace d0 := keepc hbc d0
    replace d1 := keepc hbc d1
    have a1 := keepc hbc (HP.out a' _ HPB.out)
    have u0 := hB.cell 0
    have u1 := hB.cell 1
    simp at u0 u1
    have HBR := hid_ (HB3.out.to hbc)
    have hrl := HBR.out.lt
    have hbZ := bnext hbW hbc
    have HR5' := hid_ (HR5.out.below hbc hb5)
    have hb5' : b5 < W7.heap.size := Nat.lt_of_lt_of_le hb5 hbc.size
    have x0 := HBR.out.cell 0
    have x1 := HBR.out.cell 1
    have f0 := HBR.out.free 0
    have f1 := HBR.out.free 1
    simp at x0 x1
    have HSX : Hid (((W7.setCell ⟨r, 0, none⟩ (.int .i64 (a' : Int))).setCell ⟨r, 1, none⟩ (.slice (some ⟨b5, o5, none⟩) m c5)).cell? ⟨w1.heap.size, 0, none⟩ = some (.int .i64 (a' : Int)) ∧ ((W7.setCell ⟨r, 0, none⟩ (.int .i64 (a' : Int))).setCell ⟨r, 1, none⟩ (.slice (some ⟨b5, o5, none⟩) m c5)).cell? ⟨w1.heap.size, 1, none⟩ = some (.slice (some ⟨b5, o5, none⟩) m c5) ∧ ((W7.setCell ⟨r, 0, none⟩ (.int .i64 (a' : Int))).setCell ⟨r, 1, none⟩ (.slice (some ⟨b5, o5, none⟩) m c5)).cell? ⟨gx, 0, none⟩ = some (.int .i64 (pb : Int)) ∧ ((W7.setCell ⟨r, 0, none⟩ (.int .i64 (a' : Int))).setCell ⟨r, 1, none⟩ (.slice (some ⟨b5, o5, none⟩) m c5)).cell? ⟨gx, 1, none⟩ = some (.slice A 2 d) ∧ ((W7.setCell ⟨r, 0, none⟩ (.int .i64 (a' : Int))).setCell ⟨r, 1, none⟩ (.slice (some ⟨b5, o5, none⟩) m c5)).cell? ⟨b2, off2 + a', none⟩ = some (.int .i64 (pb : Int))) := hid_ ⟨cell_two d0 hdr _ _, cell_two d1 hdr _ _, cell_two u0 hgr _ _, cell_two u1 hgr _ _, cell_two a1 hb2r _ _⟩
    have HEA1 := hid_ (hE.to (below1 W7 (.cells #[.int .i64 (m1 : Int), .int .i64 0] 3)).drew)
    have HEB1 : Hid (Elems (W7.alloc (.cells #[.int .i64 (m1 : Int), .int .i64 0] 3)).drew (W7.alloc (.cells #[.int .i64 (m1 : Int), .int .i64 0] 3)).drew.heap.size (.slice (some ⟨W7.heap.size, 0, none⟩) 2 2) (ints [(m1 : Int), 0])) := hid_ (blk_elems (w := (W7.alloc (.cells #[.int .i64 (m1 : Int), .int .i64 0] 3)).drew) (Blk.new W7 3 #[.int .i64 (m1 : Int), .int .i64 0]) rfl)
    have HEX : Elems ((W7.setCell ⟨r, 0, none⟩ (.int .i64 (a' : Int))).setCell ⟨r, 1, none⟩ (.slice (some ⟨b5, o5, none⟩) m c5)) ((W7.setCell ⟨r, 0, none⟩ (.int .i64 (a' : Int))).setCell ⟨r, 1, none⟩ (.slice (some ⟨b5, o5, none⟩) m c5)).heap.size (.slice A 2 d) (ints [(m1 : Int), 0]) := elems_out (p := ⟨r, 1, none⟩) (elems_out (p := ⟨r, 0, none⟩) hE hAr) hAr
    have HEA2 := hid_ (HEX.to (below1 ((W7.setCell ⟨r, 0, none⟩ (.int .i64 (a' : Int))).setCell ⟨r, 1, none⟩ (.slice (some ⟨b5, o5, none⟩) m c5)) (.cells #[.int .i64 (m1 : Int), .int .i64 0] 3)).drew)
    have hXs : ((W7.setCell ⟨r, 0, none⟩ (.int .i64 (a' : Int))).setCell ⟨r, 1, none⟩ (.slice (some ⟨b5, o5, none⟩) m c5)).heap.size = W7.heap.size := by rw [set_size, set_size]
    have HEB2 : Hid (Elems (((W7.setCell ⟨r, 0, none⟩ (.int .i64 (a' : Int))).setCell ⟨r, 1, none⟩ (.slice (some ⟨b5, o5, none⟩) m c5)).alloc (.cells #[.int .i64 (m1 : Int), .int .i64 0] 3)).drew (((W7.setCell ⟨r, 0, none⟩ (.int .i64 (a' : Int))).setCell ⟨r, 1, none⟩ (.slice (some ⟨b5, o5, none⟩) m c5)).alloc (.cells #[.int .i64 (m1 : Int), .int .i64 0] 3)).drew.heap.size (.slice (some ⟨W7.heap.size, 0, none⟩) 2 2) (ints [(m1 : Int), 0])) := hid_ (by
      have h := blk_elems (w := (((W7.setCell ⟨r, 0, none⟩ (.int .i64 (a' : Int))).setCell ⟨r, 1, none⟩ (.slice (some ⟨b5, o5, none⟩) m c5)).alloc (.cells #[.int .i64 (m1 : Int), .int .i64 0] 3)).drew) (n := 2) (c := 2) (l := ints [(m1 : Int), 0]) (Blk.new ((W7.setCell ⟨r, 0, none⟩ (.int .i64 (a' : Int))).setCell ⟨r, 1, none⟩ (.slice (some ⟨b5, o5, none⟩) m c5)) 3 #[.int .i64 (m1 : Int), .int .i64 0]) rfl
      rw [hXs] at h
      exact h)
    have HEA3 : Hid (Elems (((W7.alloc (.cells #[.int .i64 (m1 : Int), .int .i64 0] 3)).setCell ⟨r, 0, none⟩ (.int .i64 (a' : Int))).setCell ⟨r, 1, none⟩ (.slice (some ⟨b5, o5, none⟩) m c5)).drew (((W7.alloc (.cells #[.int .i64 (m1 : Int), .int .i64 0] 3)).setCell ⟨r, 0, none⟩ (.int .i64 (a' : Int))).setCell ⟨r, 1, none⟩ (.slice (some ⟨b5, o5, none⟩) m c5)).drew.heap.size (.slice A 2 d) (ints [(m1 : Int), 0])) := hid_ ((elems_out (p := ⟨r, 1, none⟩) (elems_out (p := ⟨r, 0, none⟩) (hE.to (below1 W7 (.cells #[.int .i64 (m1 : Int), .int .i64 0] 3))) hAr) hAr).to (Below.refl _ _).drew)
    have HEB3 : Hid (Elems (((W7.alloc (.cells #[.int .i64 (m1 : Int), .int .i64 0] 3)).setCell ⟨r, 0, none⟩ (.int .i64 (a' : Int))).setCell ⟨r, 1, none⟩ (.slice (some ⟨b5, o5, none⟩) m c5)).drew (((W7.alloc (.cells #[.int .i64 (m1 : Int), .int .i64 0] 3)).setCell ⟨r, 0, none⟩ (.int .i64 (a' : Int))).setCell ⟨r, 1, none⟩ (.slice (some ⟨b5, o5, none⟩) m c5)).drew.heap.size (.slice (some ⟨W7.heap.size, 0, none⟩) 2 2) (ints [(m1 : Int), 0])) := hid_ (by
      have hne : (Value.slice (some ⟨W7.heap.size, 0, none⟩) 2 2).ownBlock ≠ some r := by simp [Value.ownBlock]; omega
      have h := blk_elems (w := W7.alloc (.cells #[.int .i64 (m1 : Int), .int .i64 0] 3)) (n := 2) (c := 2) (l := ints [(m1 : Int), 0]) (Blk.new W7 3 #[.int .i64 (m1 : Int), .int .i64 0]) rfl
      exact (elems_out (p := ⟨r, 1, none⟩) (elems_out (p := ⟨r, 0, none⟩) h hne) hne).to (Below.refl _ _).drew)
    have HST : Hid ((((W7.alloc (.cells #[.int .i64 (m1 : Int), .int .i64 0] 3)).setCell ⟨r, 0, none⟩ (.int .i64 (a' : Int))).setCell ⟨r, 1, none⟩ (.slice (some ⟨b5, o5, none⟩) m c5)).cell? ⟨w1.heap.size, 0, none⟩ = some (.int .i64 (a' : Int)) ∧ (((W7.alloc (.cells #[.int .i64 (m1 : Int), .int .i64 0] 3)).setCell ⟨r, 0, none⟩ (.int .i64 (a' : Int))).setCell ⟨r, 1, none⟩ (.slice (some ⟨b5, o5, none⟩) m c5)).cell? ⟨w1.heap.size, 1, none⟩ = some (.slice (some ⟨b5, o5, none⟩) m c5) ∧ (((W7.alloc (.cells #[.int .i64 (m1 : Int), .int .i64 0] 3)).setCell ⟨r, 0, none⟩ (.int .i64 (a' : Int))).setCell ⟨r, 1, none⟩ (.slice (some ⟨b5, o5, none⟩) m c5)).cell? ⟨gx, 0, none⟩ = some (.int .i64 (pb : Int)) ∧ (((W7.alloc (.cells #[.int .i64 (m1 : Int), .int .i64 0] 3)).setCell ⟨r, 0, none⟩ (.int .i64 (a' : Int))).setCell ⟨r, 1, none⟩ (.slice (some ⟨b5, o5, none⟩) m c5)).cell? ⟨gx, 1, none⟩ = some (.slice A 2 d) ∧ (((W7.alloc (.cells #[.int .i64 (m1 : Int), .int .i64 0] 3)).setCell ⟨r, 0, none⟩ (.int .i64 (a' : Int))).setCell ⟨r, 1, none⟩ (.slice (some ⟨b5, o5, none⟩) m c5)).cell? ⟨b2, off2 + a', none⟩ = some (.int .i64 (pb : Int))) := hid_ (let hb := below1 W7 (.cells #[.int .i64 (m1 : Int), .int .i64 0] 3); ⟨cell_two (keepc hb d0) hdr _ _, cell_two (keepc hb d1) hdr _ _, cell_two (keepc hb u0) hgr _ _, cell_two (keepc hb u1) hgr _ _, cell_two (keepc hb a1) hb2r _ _⟩)
    have KSC : Hid (∀ Y B9 f9, Elems Y Y.heap.size (.slice A 2 d) (ints [(m1 : Int), 0]) → Elems Y Y.heap.size (.slice B9 2 f9) (ints [(m1 : Int), 0]) → Calls Try.prog 22 #[.agg #[.int .i64 (pb : Int), .slice A 2 d], .agg #[.int .i64 (pb : Int), .slice B9 2 f9]] Y fun e w' => e = .returned (.bool true) ∧ Below Y.heap.size Y w') := hid_ (fun Y B9 f9 h1 h2 => by
      have h := samecount_any (pb : Int) [(m1 : Int), 0] [(m1 : Int), 0] _ _ Y h1 h2 (by simp) (by simp)
      rw [decide_eq_true rfl] at h
      exact h)
    have tk : k0 ≤ IntKind.i64.wrap (100 + IntKind.i64.wrap (100 * if n1 < m1 then (m1 : Int) else (n1 : Int))) := by rw [HNN.out]; exact hk00
    have HDR := hid_ hdr
    have HGR := hid_ hgr
    have HB2R := hid_ hb2r
    clear hr9 HEX hE hB HB0 HB1 HB2 HB4 hXs hdr hgr hb2r hAr hfA hgx HB3 hbc q0 q1 v0 v1 a0 l2 l4
    go_upto_region 13 with fail
    go_region_held3 (fun w' => w'.cell? ⟨w1.heap.size, 0, none⟩ = some (.int .i64 (a' : Int)) ∧ w'.cell? ⟨w1.heap.size, 1, none⟩ = some (.slice (some ⟨b5, o5, none⟩) m c5) ∧ w'.cell? ⟨gx, 0, none⟩ = some (.int .i64 (pb : Int)) ∧ w'.cell? ⟨gx, 1, none⟩ = some (.slice A 2 d) ∧ w'.cell? ⟨b2, off2 + a', none⟩ = some (.int .i64 (pb : Int)))
      (first
        | (with_reducible assumption)
        | (with_reducible exact (let hb := (Below.refl W7.heap.size W7).drew; ⟨keepc hb d0, keepc hb d1, keepc hb u0, keepc hb u1, keepc hb a1⟩))
        | (with_reducible exact (let hb := (below1 W7 _); ⟨keepc hb d0, keepc hb d1, keepc hb u0, keepc hb u1, keepc hb a1⟩))
        | (with_reducible exact (let hb := (below1 W7 _).drew; ⟨keepc hb d0, keepc hb d1, keepc hb u0, keepc hb u1, keepc hb a1⟩))
        | (with_reducible exact (let hb := H8.out; ⟨keepc hb d0, keepc hb d1, keepc hb u0, keepc hb u1, keepc hb a1⟩))
        | (with_reducible exact (let hb := (Below.refl ((W7.setCell ⟨r, 0, none⟩ (.int .i64 (a' : Int))).setCell ⟨r, 1, none⟩ (.slice (some ⟨b5, o5, none⟩) m c5)).heap.size ((W7.setCell ⟨r, 0, none⟩ (.int .i64 (a' : Int))).setCell ⟨r, 1, none⟩ (.slice (some ⟨b5, o5, none⟩) m c5))).drew; ⟨keepc hb HSX.out.1, keepc hb HSX.out.2.1, keepc hb HSX.out.2.2.1, keepc hb HSX.out.2.2.2.1, keepc hb HSX.out.2.2.2.2⟩))
        | (with_reducible exact (let hb := (below1 ((W7.setCell ⟨r, 0, none⟩ (.int .i64 (a' : Int))).setCell ⟨r, 1, none⟩ (.slice (some ⟨b5, o5, none⟩) m c5)) _); ⟨keepc hb HSX.out.1, keepc hb HSX.out.2.1, keepc hb HSX.out.2.2.1, keepc hb HSX.out.2.2.2.1, keepc hb HSX.out.2.2.2.2⟩))
        | (with_reducible exact (let hb := (below1 ((W7.setCell ⟨r, 0, none⟩ (.int .i64 (a' : Int))).setCell ⟨r, 1, none⟩ (.slice (some ⟨b5, o5, none⟩) m c5)) _).drew; ⟨keepc hb HSX.out.1, keepc hb HSX.out.2.1, keepc hb HSX.out.2.2.1, keepc hb HSX.out.2.2.2.1, keepc hb HSX.out.2.2.2.2⟩))
        | (with_reducible exact (let hb := bnext (below1 ((W7.setCell ⟨r, 0, none⟩ (.int .i64 (a' : Int))).setCell ⟨r, 1, none⟩ (.slice (some ⟨b5, o5, none⟩) m c5)) _).drew H8X.out; ⟨keepc hb HSX.out.1, keepc hb HSX.out.2.1, keepc hb HSX.out.2.2.1, keepc hb HSX.out.2.2.2.1, keepc hb HSX.out.2.2.2.2⟩))
        | (with_reducible exact (let hb := (Below.refl (((W7.alloc (.cells #[.int .i64 (m1 : Int), .int .i64 0] 3)).setCell ⟨r, 0, none⟩ (.int .i64 (a' : Int))).setCell ⟨r, 1, none⟩ (.slice (some ⟨b5, o5, none⟩) m c5)).heap.size (((W7.alloc (.cells #[.int .i64 (m1 : Int), .int .i64 0] 3)).setCell ⟨r, 0, none⟩ (.int .i64 (a' : Int))).setCell ⟨r, 1, none⟩ (.slice (some ⟨b5, o5, none⟩) m c5))).drew; ⟨keepc hb HST.out.1, keepc hb HST.out.2.1, keepc hb HST.out.2.2.1, keepc hb HST.out.2.2.2.1, keepc hb HST.out.2.2.2.2⟩))
        | (with_reducible exact (let hb := bnext (Below.refl (((W7.alloc (.cells #[.int .i64 (m1 : Int), .int .i64 0] 3)).setCell ⟨r, 0, none⟩ (.int .i64 (a' : Int))).setCell ⟨r, 1, none⟩ (.slice (some ⟨b5, o5, none⟩) m c5)).heap.size (((W7.alloc (.cells #[.int .i64 (m1 : Int), .int .i64 0] 3)).setCell ⟨r, 0, none⟩ (.int .i64 (a' : Int))).setCell ⟨r, 1, none⟩ (.slice (some ⟨b5, o5, none⟩) m c5))).drew H8Y.out; ⟨keepc hb HST.out.1, keepc hb HST.out.2.1, keepc hb HST.out.2.2.1, keepc hb HST.out.2.2.2.1, keepc hb HST.out.2.2.2.2⟩))
        | (with_reducible exact HS8.out)
        | (with_reducible exact HSX.out)
        | (with_reducible exact HST.out)
        | (go_keep; done))
      (first
        | (go_at_call 22; (with_reducible refine (KSC.out _ _ _ HEA1.out HEB1.out).mono ?_); rintro e w8 ⟨rfl, hb8⟩; have H8 := hid_ (bnext (below1 W7 _).drew hb8); have HB8 := hid_ ((HBR.out.to (below1 W7 _).drew).to hb8); have HS8 : Hid (((w8.setCell ⟨r, 0, none⟩ (.int .i64 (a' : Int))).setCell ⟨r, 1, none⟩ (.slice (some ⟨b5, o5, none⟩) m c5)).cell? ⟨w1.heap.size, 0, none⟩ = some (.int .i64 (a' : Int)) ∧ ((w8.setCell ⟨r, 0, none⟩ (.int .i64 (a' : Int))).setCell ⟨r, 1, none⟩ (.slice (some ⟨b5, o5, none⟩) m c5)).cell? ⟨w1.heap.size, 1, none⟩ = some (.slice (some ⟨b5, o5, none⟩) m c5) ∧ ((w8.setCell ⟨r, 0, none⟩ (.int .i64 (a' : Int))).setCell ⟨r, 1, none⟩ (.slice (some ⟨b5, o5, none⟩) m c5)).cell? ⟨gx, 0, none⟩ = some (.int .i64 (pb : Int)) ∧ ((w8.setCell ⟨r, 0, none⟩ (.int .i64 (a' : Int))).setCell ⟨r, 1, none⟩ (.slice (some ⟨b5, o5, none⟩) m c5)).cell? ⟨gx, 1, none⟩ = some (.slice A 2 d) ∧ ((w8.setCell ⟨r, 0, none⟩ (.int .i64 (a' : Int))).setCell ⟨r, 1, none⟩ (.slice (some ⟨b5, o5, none⟩) m c5)).cell? ⟨b2, off2 + a', none⟩ = some (.int .i64 (pb : Int))) := hid_ (let hb := H8.out; ⟨cell_two (keepc hb d0) HDR.out _ _, cell_two (keepc hb d1) HDR.out _ _, cell_two (keepc hb u0) HGR.out _ _, cell_two (keepc hb u1) HGR.out _ _, cell_two (keepc hb a1) HB2R.out _ _⟩); have g0 := HB8.out.cell 0; have g1 := HB8.out.cell 1; have j0 := HB8.out.free 0; have j1 := HB8.out.free 1; simp at g0 g1; clear hb8)
        | (go_at_call 22; (with_reducible refine (KSC.out _ _ _ HEA2.out HEB2.out).mono ?_); rintro e w8 ⟨rfl, hb8⟩; have H8X := hid_ hb8; clear hb8)
        | (go_at_call 22; (with_reducible refine (KSC.out _ _ _ HEA3.out HEB3.out).mono ?_); rintro e w8 ⟨rfl, hb8⟩; have H8Y := hid_ hb8; clear hb8))
    obtain ⟨e0, e1⟩ := res_two HB8.out (.int .i64 (a' : Int)) (.slice (some ⟨b5, o5, none⟩) m c5)
    go_wp2_with fail
    refine bodyPost_ret (v := .tuple #[.agg #[.int .i64 (a' : Int), .slice (some ⟨b5, o5, none⟩) m c5], .bool false, .bool true]) (by simp [results, Try.results19, go_sem, e0, e1]) rfl ?_
    exact ⟨a', rs', b5, o5, c5, false, rfl, HG'.out, by rw [set_size, set_size]; exact Nat.lt_of_lt_of_le hb5' H8.out.size, ints_two (HR5'.out.below H8.out hb5') HB5R.out _ _, .inr (by have h1 := HF5.out; have h2 := HWZ.out; omega), below_two (bnext hbZ H8.out) HRW.out.1 _ _⟩
end Go.Proofs.Ytckabinmmficlaa.Pp

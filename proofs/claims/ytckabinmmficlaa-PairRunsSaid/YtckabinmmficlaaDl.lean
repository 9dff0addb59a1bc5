/- The laws' next: where a step follows. -/
import Derived.Test.YtckabinmmficlaaDk
namespace Go.Proofs.Ytckabinmmficlaa.Pp
open Go.RowKit


set_option maxRecDepth 100000 in
set_option maxHeartbeats 8000000 in
theorem next_stop (R : Int) (b0 o0 n c b off c1 b2 off2 c2 b4 o4 m c4 a L : Nat) (code : List Cn.Ins) (rs : List Int) (M : Nat) (w : World) (hM : M ≤ 5000) (hv : Cn.vCode R code = true) (hR : ¬ 6 < R) (hs : ¬ 2000 < sizeL (code.map sOf)) (hL : sizeL (code.map sOf) = L) (hg : Cn.Good R.toNat code a rs) (hm : m = R.toNat) (hn : code.length = n)
    (hb0 : b0 < w.heap.size) (hc0 : Cn.CodeIn w b0 o0 code) (hb : b < w.heap.size) (hq : Cn.CodeIn w b off (qOf code)) (hb2 : b2 < w.heap.size) (hp : Cn.IntsIn w b2 off2 (pOf code)) (hb4 : b4 < w.heap.size) (hr : Cn.IntsIn w b4 o4 rs) (a' : Nat) (rs' : List Int) (hst : Cn.stp code a rs = some (some (a', rs'))) (hg' : Cn.Good R.toNat code a' rs') (hsp : Cn.stepS R code a rs = ⟨(a' : Int), rs', 1, 0⟩) (hbig : encS 0 (natL rs) 1 = none ∨ encS 0 (natL rs') 1 = none ∨ (M : Int) < ((encS 0 (natL rs) 1).getD 0 : Nat) ∨ (M : Int) < ((encS 0 (natL rs') 1).getD 0 : Nat)) :
    Calls Try.prog 19 #[.agg #[.int .i64 R, .slice (some ⟨b0, o0, none⟩) n c], .agg #[.int .i64 2, .slice (some ⟨b, off, none⟩) L c1], .slice (some ⟨b2, off2, none⟩) n c2, .agg #[.int .i64 (a : Int), .slice (some ⟨b4, o4, none⟩) m c4], .int .i64 (M : Int)] w (NextRan R code m b4 w) := by
  have hm0 : 0 < m := by have := Cn.vCode_reg hv; omega
  have hn0 : 0 < n := by have := hg.lt; omega
  have hlr : rs.length = m := by rw [hg.len, hm]
  obtain ⟨hcb, hci, hcl⟩ := good_cont hv hR hg
  obtain ⟨hcb', hci', hcl'⟩ := good_cont hv hR hg'
  have hlr' : rs'.length = m := by rw [hg'.len, hm]
  have KST : Hid (∀ Y, b0 < Y.heap.size → Cn.CodeIn Y b0 o0 code → b4 < Y.heap.size → Cn.IntsIn Y b4 o4 rs → Calls Try.prog 29 #[.agg #[.int .i64 R, .slice (some ⟨b0, o0, none⟩) n c], .agg #[.int .i64 (a : Int), .slice (some ⟨b4, o4, none⟩) m c4]] Y fun e w' => ∃ b5 o5 c5, e = .returned (.tuple #[.agg #[.int .i64 (a' : Int), .slice (some ⟨b5, o5, none⟩) m c5], .int .i64 0]) ∧ b5 < w'.heap.size ∧ Cn.IntsIn w' b5 o5 rs' ∧ Y.heap.size ≤ b5 ∧ Below Y.heap.size Y w') := hid_ (fun Y h1 h2 h3 h4 => (Cn.step_any R a _ _ n c m c4 code rs Y ⟨hn, fun _ => ⟨b0, o0, rfl, h1, h2⟩⟩ ⟨hlr, fun _ => ⟨b4, o4, rfl, h3, h4⟩⟩).mono fun e w' h => by
    obtain ⟨A, k, d, e1, hI, hF, e2⟩ := h
    rw [hsp] at e1 hI
    simp only at e1 hI
    have e3 : k = m := by rw [← hI.len, hlr']
    subst e3
    obtain ⟨b5, o5, rfl, h5, h6⟩ := hI.at_ hm0
    exact ⟨b5, o5, d, e1, h5, h6, hF _ rfl, e2⟩)
  have KCO : Hid (∀ Y (l : List Int) A5 c5, contB l = true → l.length ≤ 6 → Elems Y Y.heap.size (.slice A5 m c5) (ints l) → Calls Try.prog 12 #[.slice A5 m c5] Y fun e w' => e = .returned (.bool true) ∧ Y = w') := hid_ (fun Y l A5 c5 h1 h2 h3 => (contents_any l _ Y h3 (by omega)).mono fun e w' h => by rw [h1] at h; exact ⟨h.1, h.2.symm⟩)
  have HCB := hid_ (And.intro hcb (And.intro hcb' (And.intro hcl hcl')))
  have HL5 := hid_ hlr'
  have HG' := hid_ hg'
  obtain ⟨o1, ho1⟩ : ∃ x, x = encS 0 (natL rs) 1 := ⟨_, rfl⟩
  obtain ⟨o2, ho2⟩ : ∃ x, x = encS 0 (natL rs') 1 := ⟨_, rfl⟩
  have KE1 : Hid (∀ Y, Elems Y Y.heap.size (.slice (some ⟨b4, o4, none⟩) m c4) (ints rs) → Calls Try.prog 13 #[.slice (some ⟨b4, o4, none⟩) m c4] Y fun e w' => e = .returned (.tuple #[.int .i64 ((o1.getD 0 : Nat) : Int), .bool o1.isSome]) ∧ Below Y.heap.size Y w') := hid_ (fun Y h => by
    have h2 := rencode_any rs _ Y h hcb hci
    rw [← ho1] at h2
    exact h2)
  have KE2 : Hid (∀ Y b5 o5 c5, Elems Y Y.heap.size (.slice (some ⟨b5, o5, none⟩) m c5) (ints rs') → Calls Try.prog 13 #[.slice (some ⟨b5, o5, none⟩) m c5] Y fun e w' => e = .returned (.tuple #[.int .i64 ((o2.getD 0 : Nat) : Int), .bool o2.isSome]) ∧ Below Y.heap.size Y w') := hid_ (fun Y b5 o5 c5 h => by
    have h2 := rencode_any rs' _ Y h hcb' hci'
    rw [← ho2] at h2
    exact h2)
  rw [← ho1, ← ho2] at hbig
  have HBG := hid_ hbig
  clear hbig ho1 ho2 hst hg' hsp hcb hcb' hci hci' hcl hcl' hlr'
  have hbW : Below w.heap.size w ((((w.alloc (.cells #[.int .i64 R, .slice (some ⟨b0, o0, none⟩) n c] 38)).alloc (.cells #[.int .i64 2, .slice (some ⟨b, off, none⟩) L c1] 38)).alloc (.cells #[.int .i64 (a : Int), .slice (some ⟨b4, o4, none⟩) m c4] 47)).alloc (.cells #[.int .i64 0, .slice none 0 0] 47)) := (((below1 w (.cells #[.int .i64 R, .slice (some ⟨b0, o0, none⟩) n c] 38)).alloc (by simp <;> omega) (.cells #[.int .i64 2, .slice (some ⟨b, off, none⟩) L c1] 38)).alloc (by simp <;> omega) (.cells #[.int .i64 (a : Int), .slice (some ⟨b4, o4, none⟩) m c4] 47)).alloc (by simp <;> omega) (.cells #[.int .i64 0, .slice none 0 0] 47)
  have HC0 := hid_ (hc0.below hbW hb0)
  have HCQ := hid_ (hq.below hbW hb)
  have HP := hid_ (hp.below hbW hb2)
  have HR := hid_ (hr.below hbW hb4)
  have hsz : ((((w.alloc (.cells #[.int .i64 R, .slice (some ⟨b0, o0, none⟩) n c] 38)).alloc (.cells #[.int .i64 2, .slice (some ⟨b, off, none⟩) L c1] 38)).alloc (.cells #[.int .i64 (a : Int), .slice (some ⟨b4, o4, none⟩) m c4] 47)).alloc (.cells #[.int .i64 0, .slice none 0 0] 47)).heap.size = w.heap.size + 1 + 1 + 1 + 1 := by simp
  have HB0 : Hid (Blk ((((w.alloc (.cells #[.int .i64 R, .slice (some ⟨b0, o0, none⟩) n c] 38)).alloc (.cells #[.int .i64 2, .slice (some ⟨b, off, none⟩) L c1] 38)).alloc (.cells #[.int .i64 (a : Int), .slice (some ⟨b4, o4, none⟩) m c4] 47)).alloc (.cells #[.int .i64 0, .slice none 0 0] 47)) w.heap.size 38 #[.int .i64 R, .slice (some ⟨b0, o0, none⟩) n c]) := hid_ ((((Blk.new w 38 #[.int .i64 R, .slice (some ⟨b0, o0, none⟩) n c]).alloc _).alloc _).alloc _)
  have HB1 : Hid (Blk ((((w.alloc (.cells #[.int .i64 R, .slice (some ⟨b0, o0, none⟩) n c] 38)).alloc (.cells #[.int .i64 2, .slice (some ⟨b, off, none⟩) L c1] 38)).alloc (.cells #[.int .i64 (a : Int), .slice (some ⟨b4, o4, none⟩) m c4] 47)).alloc (.cells #[.int .i64 0, .slice none 0 0] 47)) (w.heap.size + 1) 38 #[.int .i64 2, .slice (some ⟨b, off, none⟩) L c1]) := hid_ (by
    have h := ((Blk.new (w.alloc (.cells #[.int .i64 R, .slice (some ⟨b0, o0, none⟩) n c] 38)) 38 #[.int .i64 2, .slice (some ⟨b, off, none⟩) L c1]).alloc (.cells #[.int .i64 (a : Int), .slice (some ⟨b4, o4, none⟩) m c4] 47)).alloc (.cells #[.int .i64 0, .slice none 0 0] 47)
    rw [show (w.alloc (.cells #[.int .i64 R, .slice (some ⟨b0, o0, none⟩) n c] 38)).heap.size = w.heap.size + 1 by simp] at h
    exact h)
  have HB2 : Hid (Blk ((((w.alloc (.cells #[.int .i64 R, .slice (some ⟨b0, o0, none⟩) n c] 38)).alloc (.cells #[.int .i64 2, .slice (some ⟨b, off, none⟩) L c1] 38)).alloc (.cells #[.int .i64 (a : Int), .slice (some ⟨b4, o4, none⟩) m c4] 47)).alloc (.cells #[.int .i64 0, .slice none 0 0] 47)) (w.heap.size + 1 + 1) 47 #[.int .i64 (a : Int), .slice (some ⟨b4, o4, none⟩) m c4]) := hid_ (by
    have h := (Blk.new ((w.alloc (.cells #[.int .i64 R, .slice (some ⟨b0, o0, none⟩) n c] 38)).alloc (.cells #[.int .i64 2, .slice (some ⟨b, off, none⟩) L c1] 38)) 47 #[.int .i64 (a : Int), .slice (some ⟨b4, o4, none⟩) m c4]).alloc (.cells #[.int .i64 0, .slice none 0 0] 47)
    rw [show ((w.alloc (.cells #[.int .i64 R, .slice (some ⟨b0, o0, none⟩) n c] 38)).alloc (.cells #[.int .i64 2, .slice (some ⟨b, off, none⟩) L c1] 38)).heap.size = w.heap.size + 1 + 1 by simp] at h
    exact h)
  have HB3 : Hid (Blk ((((w.alloc (.cells #[.int .i64 R, .slice (some ⟨b0, o0, none⟩) n c] 38)).alloc (.cells #[.int .i64 2, .slice (some ⟨b, off, none⟩) L c1] 38)).alloc (.cells #[.int .i64 (a : Int), .slice (some ⟨b4, o4, none⟩) m c4] 47)).alloc (.cells #[.int .i64 0, .slice none 0 0] 47)) (w.heap.size + 1 + 1 + 1) 47 #[.int .i64 0, .slice none 0 0]) := hid_ (by
    have h := Blk.new (((w.alloc (.cells #[.int .i64 R, .slice (some ⟨b0, o0, none⟩) n c] 38)).alloc (.cells #[.int .i64 2, .slice (some ⟨b, off, none⟩) L c1] 38)).alloc (.cells #[.int .i64 (a : Int), .slice (some ⟨b4, o4, none⟩) m c4] 47)) 47 #[.int .i64 0, .slice none 0 0]
    rw [show (((w.alloc (.cells #[.int .i64 R, .slice (some ⟨b0, o0, none⟩) n c] 38)).alloc (.cells #[.int .i64 2, .slice (some ⟨b, off, none⟩) L c1] 38)).alloc (.cells #[.int .i64 (a : Int), .slice (some ⟨b4, o4, none⟩) m c4] 47)).heap.size = w.heap.size + 1 + 1 + 1 by simp] at h
    exact h)
  have HB4N := hid_ hb4
  have HB2N := hid_ hb2
  have HG := hid_ hg
  have HV := hid_ hv
  have HLR := hid_ hlr
  have HLC := hid_ hn
  have hLI : (0 : Int) ≤ 0 := by omega
  replace hb0 : b0 < ((((w.alloc (.cells #[.int .i64 R, .slice (some ⟨b0, o0, none⟩) n c] 38)).alloc (.cells #[.int .i64 2, .slice (some ⟨b, off, none⟩) L c1] 38)).alloc (.cells #[.int .i64 (a : Int), .slice (some ⟨b4, o4, none⟩) m c4] 47)).alloc (.cells #[.int .i64 0, .slice none 0 0] 47)).heap.size := by omega
  replace hb : b < ((((w.alloc (.cells #[.int .i64 R, .slice (some ⟨b0, o0, none⟩) n c] 38)).alloc (.cells #[.int .i64 2, .slice (some ⟨b, off, none⟩) L c1] 38)).alloc (.cells #[.int .i64 (a : Int), .slice (some ⟨b4, o4, none⟩) m c4] 47)).alloc (.cells #[.int .i64 0, .slice none 0 0] 47)).heap.size := by omega
  replace hb2 : b2 < ((((w.alloc (.cells #[.int .i64 R, .slice (some ⟨b0, o0, none⟩) n c] 38)).alloc (.cells #[.int .i64 2, .slice (some ⟨b, off, none⟩) L c1] 38)).alloc (.cells #[.int .i64 (a : Int), .slice (some ⟨b4, o4, none⟩) m c4] 47)).alloc (.cells #[.int .i64 0, .slice none 0 0] 47)).heap.size := by omega
  replace hb4 : b4 < ((((w.alloc (.cells #[.int .i64 R, .slice (some ⟨b0, o0, none⟩) n c] 38)).alloc (.cells #[.int .i64 2, .slice (some ⟨b, off, none⟩) L c1] 38)).alloc (.cells #[.int .i64 (a : Int), .slice (some ⟨b4, o4, none⟩) m c4] 47)).alloc (.cells #[.int .i64 0, .slice none 0 0] 47)).heap.size := by omega
  have HWZ := hid_ hsz
  clear hc0 hq hp hr hsz hg hv hlr hn hs hm hL
  go_enter Try.func19, Try.ntmps19
  go_upto_region 1 with fail
  generalize (((w.alloc (.cells #[.int .i64 R, .slice (some ⟨b0, o0, none⟩) n c] 38)).alloc (.cells #[.int .i64 2, .slice (some ⟨b, off, none⟩) L c1] 38)).alloc (.cells #[.int .i64 (a : Int), .slice (some ⟨b4, o4, none⟩) m c4] 47)).alloc (.cells #[.int .i64 0, .slice none 0 0] 47) = W at *
  have p0 := HB0.out.cell 0
  have p1 := HB0.out.cell 1
  have q0 := HB1.out.cell 0
  have q1 := HB1.out.cell 1
  have v0 := HB2.out.cell 0
  have v1 := HB2.out.cell 1
  have r0 := HB3.out.cell 0
  have r1 := HB3.out.cell 1
  simp at p0 p1 q0 q1 v0 v1 r0 r1
  go_upto_region 2 with (go_at_call 29; (with_reducible refine (KST.out _ hb0 HC0.out hb4 HR.out).mono ?_); rintro e w1 ⟨b5, o5, c5, rfl, hb5, hr5, hf5, hb1⟩)
  have HF5 := hid_ hf5
  clear hf5
  have hbx := hb1.alloc hb1.size (.cells #[.int .i64 (a' : Int), .slice (some ⟨b5, o5, none⟩) m c5] 47)
  have HR5 := hid_ (hr5.below (below1 w1 (.cells #[.int .i64 (a' : Int), .slice (some ⟨b5, o5, none⟩) m c5] 47)) hb5)
  have HB4 := hid_ (Blk.new w1 47 #[.int .i64 (a' : Int), .slice (some ⟨b5, o5, none⟩) m c5])
  have hs9 : (w1.alloc (.cells #[.int .i64 (a' : Int), .slice (some ⟨b5, o5, none⟩) m c5] 47)).heap.size = w1.heap.size + 1 := by simp
  replace hb5 : b5 < (w1.alloc (.cells #[.int .i64 (a' : Int), .slice (some ⟨b5, o5, none⟩) m c5] 47)).heap.size := by omega
  have hl1 : W.heap.size ≤ w1.heap.size := hb1.size
  clear p0 p1 q0 q1 v0 v1 r0 r1
  replace hbW := bnext hbW hbx; replace HC0 := hid_ (HC0.out.below hbx hb0); replace HCQ := hid_ (HCQ.out.below hbx hb); replace HP := hid_ (HP.out.below hbx hb2); replace HR := hid_ (HR.out.below hbx hb4); replace HB0 := hid_ (HB0.out.to hbx); replace HB1 := hid_ (HB1.out.to hbx); replace HB2 := hid_ (HB2.out.to hbx); replace HB3 := hid_ (HB3.out.to hbx); replace hb0 := Nat.lt_of_lt_of_le hb0 hbx.size; replace hb := Nat.lt_of_lt_of_le hb hbx.size; replace hb2 := Nat.lt_of_lt_of_le hb2 hbx.size; replace hb4 := Nat.lt_of_lt_of_le hb4 hbx.size; 
  clear hb1 hbx hr5 hs9
  generalize w1.alloc (.cells #[.int .i64 (a' : Int), .slice (some ⟨b5, o5, none⟩) m c5] 47) = W2 at *
  have p0 := HB0.out.cell 0
  have p1 := HB0.out.cell 1
  have q0 := HB1.out.cell 0
  have q1 := HB1.out.cell 1
  have v0 := HB2.out.cell 0
  have v1 := HB2.out.cell 1
  have r0 := HB3.out.cell 0
  have r1 := HB3.out.cell 1
  have d0 := HB4.out.cell 0
  have d1 := HB4.out.cell 1
  simp at p0 p1 q0 q1 v0 v1 r0 r1 d0 d1
  have HE1 := hid_ (ints_elems (c := c4) (A := some ⟨b4, o4, none⟩) (n := m) ⟨HLR.out, fun _ => ⟨b4, o4, rfl, hb4, HR.out⟩⟩ hm0)
  have HE2 := hid_ (ints_elems (c := c5) (A := some ⟨b5, o5, none⟩) (n := m) ⟨HL5.out, fun _ => ⟨b5, o5, rfl, hb5, HR5.out⟩⟩ hm0)
  have l2 := HB2.out.lt
  have l4 := HB4.out.lt
  go_upto_region 6 with (first
    | (go_at_call 12; (with_reducible refine (KCO.out _ _ _ _ HCB.out.1 HCB.out.2.2.1 HE1.out).mono ?_); rintro e _ ⟨rfl, rfl⟩)
    | (go_at_call 12; (with_reducible refine (KCO.out _ _ _ _ HCB.out.2.1 HCB.out.2.2.2 HE2.out).mono ?_); rintro e _ ⟨rfl, rfl⟩))
  go_upto_region 7 with (go_at_call 13; (with_reducible refine (KE1.out _ HE1.out).mono ?_); rintro e w3 ⟨rfl, hb3⟩)
  clear p0 p1 q0 q1 v0 v1 r0 r1 d0 d1
  replace hbW := bnext hbW hb3; replace HC0 := hid_ (HC0.out.below hb3 hb0); replace HCQ := hid_ (HCQ.out.below hb3 hb); replace HP := hid_ (HP.out.below hb3 hb2); replace HR := hid_ (HR.out.below hb3 hb4); replace HB0 := hid_ (HB0.out.to hb3); replace HB1 := hid_ (HB1.out.to hb3); replace HB2 := hid_ (HB2.out.to hb3); replace HB3 := hid_ (HB3.out.to hb3); replace HB4 := hid_ (HB4.out.to hb3); replace HE2 := hid_ (HE2.out.to hb3); replace hb0 := Nat.lt_of_lt_of_le hb0 hb3.size; replace hb := Nat.lt_of_lt_of_le hb hb3.size; replace hb2 := Nat.lt_of_lt_of_le hb2 hb3.size; replace hb4 := Nat.lt_of_lt_of_le hb4 hb3.size; replace HR5 := hid_ (HR5.out.below hb3 hb5); replace hb5 := Nat.lt_of_lt_of_le hb5 hb3.size
  clear hb3 HE1 l2 l4
  have p0 := HB0.out.cell 0
  have p1 := HB0.out.cell 1
  have q0 := HB1.out.cell 0
  have q1 := HB1.out.cell 1
  have v0 := HB2.out.cell 0
  have v1 := HB2.out.cell 1
  have r0 := HB3.out.cell 0
  have r1 := HB3.out.cell 1
  have d0 := HB4.out.cell 0
  have d1 := HB4.out.cell 1
  simp at p0 p1 q0 q1 v0 v1 r0 r1 d0 d1
  have l2 := HB2.out.lt
  have l4 := HB4.out.lt
  go_upto_region 8 with (go_at_call 13; (with_reducible refine (KE2.out _ _ _ _ HE2.out).mono ?_); rintro e w4 ⟨rfl, hb3⟩)
  clear p0 p1 q0 q1 v0 v1 r0 r1 d0 d1
  replace hbW := bnext hbW hb3; replace HC0 := hid_ (HC0.out.below hb3 hb0); replace HCQ := hid_ (HCQ.out.below hb3 hb); replace HP := hid_ (HP.out.below hb3 hb2); replace HR := hid_ (HR.out.below hb3 hb4); replace HB0 := hid_ (HB0.out.to hb3); replace HB1 := hid_ (HB1.out.to hb3); replace HB2 := hid_ (HB2.out.to hb3); replace HB3 := hid_ (HB3.out.to hb3); replace HB4 := hid_ (HB4.out.to hb3); replace hb0 := Nat.lt_of_lt_of_le hb0 hb3.size; replace hb := Nat.lt_of_lt_of_le hb hb3.size; replace hb2 := Nat.lt_of_lt_of_le hb2 hb3.size; replace hb4 := Nat.lt_of_lt_of_le hb4 hb3.size; replace HR5 := hid_ (HR5.out.below hb3 hb5); replace hb5 := Nat.lt_of_lt_of_le hb5 hb3.size
  clear hb3 HE2 l2 l4
  obtain ⟨W4, rfl⟩ : ∃ X : World, X = w4 := ⟨_, rfl⟩
  have p0 := HB0.out.cell 0
  have p1 := HB0.out.cell 1
  have q0 := HB1.out.cell 0
  have q1 := HB1.out.cell 1
  have v0 := HB2.out.cell 0
  have v1 := HB2.out.cell 1
  have r0 := HB3.out.cell 0
  have r1 := HB3.out.cell 1
  have d0 := HB4.out.cell 0
  have d1 := HB4.out.cell 1
  simp at p0 p1 q0 q1 v0 v1 r0 r1 d0 d1
  have l2 := HB2.out.lt
  have l4 := HB4.out.lt
  go_cut [75] (fun s wx => s = .bool true ∧ W4 = wx)
  case first => as_aux_lemma =>
    cases o1 with
    | none =>
      go_wp2_with fail
      go_meet
      exact ⟨rfl, rfl⟩
    | some x1 =>
      cases o2 with
      | none =>
        go_wp2_with fail
        go_meet
        exact ⟨rfl, rfl⟩
      | some x2 =>
        have hb := HBG.out
        simp only [Option.getD_some, reduceCtorEq, false_or] at hb
        by_cases h1 : (M : Int) < (x1 : Int)
        · clear hb
          go_wp2_with fail
          go_meet
          exact ⟨rfl, rfl⟩
        · have h2 : (M : Int) < (x2 : Int) := by omega
          clear hb
          go_wp2_with fail
          go_meet
          exact ⟨rfl, rfl⟩
  case rest => as_aux_lemma =>
    obtain ⟨rfl, rfl⟩ := hcut
    have s0 := HB3.out.free 0
    have s1 := HB3.out.free 1
    have l3 := HB3.out.lt
    obtain ⟨e0, e1⟩ := res_two HB3.out (.int .i64 (a : Int)) (.slice (some ⟨b4, o4, none⟩) m c4)
    go_wp2_with fail
    refine bodyPost_ret (v := .tuple #[.agg #[.int .i64 (a : Int), .slice (some ⟨b4, o4, none⟩) m c4], .bool true, .bool true]) (by simp [results, Try.results19, go_sem, e0, e1]) rfl ?_
    exact ⟨a, rs, b4, o4, c4, true, rfl, HG.out, by rw [set_size, set_size]; exact hb4, ints_two HR.out (by have := HB4N.out; omega) _ _, .inl rfl, below_two hbW (by omega) _ _⟩
end Go.Proofs.Ytckabinmmficlaa.Pp

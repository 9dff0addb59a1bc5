/- The laws' next, all ways; the law PairSteps. -/
import Derived.Test.YtckabinmmficlaaDm
import Derived.Test.YtckabinmmficlaaDn
namespace Go.Proofs.Ytckabinmmficlaa.Pp
open Go.RowKit

theorem next_any (R : Int) (b0 o0 n c b off c1 b2 off2 c2 b4 o4 m c4 a L : Nat) (code : List Cn.Ins) (rs : List Int) (M : Nat) (w : World) (hM : M ≤ 5000) (hv : Cn.vCode R code = true) (hR : ¬ 6 < R) (hs : ¬ 2000 < sizeL (code.map sOf)) (hL : sizeL (code.map sOf) = L) (hg : Cn.Good R.toNat code a rs) (hm : m = R.toNat) (hn : code.length = n)
    (hb0 : b0 < w.heap.size) (hc0 : Cn.CodeIn w b0 o0 code) (hb : b < w.heap.size) (hq : Cn.CodeIn w b off (qOf code)) (hb2 : b2 < w.heap.size) (hp : Cn.IntsIn w b2 off2 (pOf code)) (hb4 : b4 < w.heap.size) (hr : Cn.IntsIn w b4 o4 rs) :
    Calls Try.prog 19 #[.agg #[.int .i64 R, .slice (some ⟨b0, o0, none⟩) n c], .agg #[.int .i64 2, .slice (some ⟨b, off, none⟩) L c1], .slice (some ⟨b2, off2, none⟩) n c2, .agg #[.int .i64 (a : Int), .slice (some ⟨b4, o4, none⟩) m c4], .int .i64 (M : Int)] w (NextRan R code m b4 w) := by
  rcases step_two hv hg with he | ⟨a', rs', hst, hg', hsp⟩
  · exact next_end R b0 o0 n c b off c1 b2 off2 c2 b4 o4 m c4 a L code rs M w hM hv hR hs hL hg hm hn hb0 hc0 hb hq hb2 hp hb4 hr he
  · cases ho1 : encS 0 (natL rs) 1 with
    | none => exact next_stop R b0 o0 n c b off c1 b2 off2 c2 b4 o4 m c4 a L code rs M w hM hv hR hs hL hg hm hn hb0 hc0 hb hq hb2 hp hb4 hr a' rs' hst hg' hsp (.inl ho1)
    | some n1 =>
      cases ho2 : encS 0 (natL rs') 1 with
      | none => exact next_stop R b0 o0 n c b off c1 b2 off2 c2 b4 o4 m c4 a L code rs M w hM hv hR hs hL hg hm hn hb0 hc0 hb hq hb2 hp hb4 hr a' rs' hst hg' hsp (.inr (.inl ho2))
      | some m1 =>
        by_cases h1 : M < n1
        · exact next_stop R b0 o0 n c b off c1 b2 off2 c2 b4 o4 m c4 a L code rs M w hM hv hR hs hL hg hm hn hb0 hc0 hb hq hb2 hp hb4 hr a' rs' hst hg' hsp (.inr (.inr (.inl (by rw [ho1]; simp; exact h1))))
        · by_cases h2 : M < m1
          · exact next_stop R b0 o0 n c b off c1 b2 off2 c2 b4 o4 m c4 a L code rs M w hM hv hR hs hL hg hm hn hb0 hc0 hb hq hb2 hp hb4 hr a' rs' hst hg' hsp (.inr (.inr (.inr (by rw [ho2]; simp; exact h2))))
          · by_cases h3 : m1 ≤ n1
            · exact next_go0 R b0 o0 n c b off c1 b2 off2 c2 b4 o4 m c4 a L code rs M w hM hv hR hs hL hg hm hn hb0 hc0 hb hq hb2 hp hb4 hr a' rs' hst hg' hsp n1 m1 ho1 ho2 (by omega) (by omega) h3
            · exact next_go1 R b0 o0 n c b off c1 b2 off2 c2 b4 o4 m c4 a L code rs M w hM hv hR hs hL hg hm hn hb0 hc0 hb hq hb2 hp hb4 hr a' rs' hst hg' hsp n1 m1 ho1 ho2 (by omega) (by omega) (by omega)

set_option maxRecDepth 100000 in
set_option maxHeartbeats 8000000 in
theorem steps_wide (R at_ : Int) (A A4 : Option Addr) (n c m c4 : Nat) (code : List Cn.Ins) (rs : List Int) (w : World) (hc : Cn.CodeAt w w.heap.size A n code) (hr : Cn.IntsAt w w.heap.size A4 m rs) (hn : 4000 < n) :
    Calls Try.prog 5 #[.agg #[.int .i64 R, .slice A n c], .agg #[.int .i64 at_, .slice A4 m c4]] w fun e w' => e = .returned (.bool true) ∧ Below w.heap.size w w' := by
  have hbW := below2 w (.cells #[.int .i64 R, .slice A n c] 38) (.cells #[.int .i64 at_, .slice A4 m c4] 47)
  have HC := hid_ (hc.to hbW)
  have HR := hid_ (hr.to hbW)
  have HB0 := hid_ ((Blk.new w 38 #[.int .i64 R, .slice A n c]).alloc (.cells #[.int .i64 at_, .slice A4 m c4] 47))
  have HB1 : Hid (Blk ((w.alloc (.cells #[.int .i64 R, .slice A n c] 38)).alloc (.cells #[.int .i64 at_, .slice A4 m c4] 47)) (w.heap.size + 1) 47 #[.int .i64 at_, .slice A4 m c4]) := hid_ (by
    have h := Blk.new (w.alloc (.cells #[.int .i64 R, .slice A n c] 38)) 47 #[.int .i64 at_, .slice A4 m c4]
    rw [show (w.alloc (.cells #[.int .i64 R, .slice A n c] 38)).heap.size = w.heap.size + 1 by simp] at h
    exact h)
  have KRF : Hid (∀ Y, Cn.CodeAt Y Y.heap.size A n code → Cn.IntsAt Y Y.heap.size A4 m rs → Calls Try.prog 18 #[.agg #[.int .i64 R, .slice A n c], .agg #[.int .i64 at_, .slice A4 m c4]] Y fun e w' => e = .returned (.bool (Cn.fitsB R code at_ rs)) ∧ Below Y.heap.size Y w') := hid_ (fun Y h1 h2 => (Cn.rfits_any R at_ A A4 n c m c4 code rs Y h1 h2).mono fun e w' h => by skip; exact h)
  have hn2 : (4000 : Int) < n := by omega
  clear hc hr
  go_enter Try.func5, Try.ntmps5
  go_upto_region 1 with fail
  generalize (w.alloc (.cells #[.int .i64 R, .slice A n c] 38)).alloc (.cells #[.int .i64 at_, .slice A4 m c4] 47) = W at *
  have p0 := HB0.out.cell 0
  have p1 := HB0.out.cell 1
  have q0 := HB1.out.cell 0
  have q1 := HB1.out.cell 1
  have pl := HB0.out.lt
  have ql := HB1.out.lt
  simp at p0 p1 q0 q1
  go_wp2_with (first | (go_at_call 18; (with_reducible refine (KRF.out _ HC.out HR.out).mono ?_); rintro e w1 ⟨rfl, hb1⟩; replace hbW := bnext hbW hb1; replace HC := hid_ (HC.out.to hb1); replace HR := hid_ (HR.out.to hb1); replace HB0 := hid_ (HB0.out.to hb1); replace HB1 := hid_ (HB1.out.to hb1); replace p0 := keepc hb1 p0; replace p1 := keepc hb1 p1; replace q0 := keepc hb1 q0; replace q1 := keepc hb1 q1; replace pl := Nat.lt_of_lt_of_le pl hb1.size; replace ql := Nat.lt_of_lt_of_le ql hb1.size; clear hb1) | (go_at_call 7; (with_reducible refine (awake_any _).mono ?_); rintro e w99 ⟨rfl, hb99⟩))
  go_ret
  exact ⟨rfl, bnext hbW hb99⟩

set_option maxRecDepth 100000 in
set_option maxHeartbeats 8000000 in
theorem steps_bad (R at_ : Int) (A A4 : Option Addr) (n c m c4 : Nat) (code : List Cn.Ins) (rs : List Int) (w : World) (hc : Cn.CodeAt w w.heap.size A n code) (hr : Cn.IntsAt w w.heap.size A4 m rs) (hn : n ≤ 4000) (hf : Cn.fitsB R code at_ rs = false) :
    Calls Try.prog 5 #[.agg #[.int .i64 R, .slice A n c], .agg #[.int .i64 at_, .slice A4 m c4]] w fun e w' => e = .returned (.bool true) ∧ Below w.heap.size w w' := by
  have hbW := below2 w (.cells #[.int .i64 R, .slice A n c] 38) (.cells #[.int .i64 at_, .slice A4 m c4] 47)
  have HC := hid_ (hc.to hbW)
  have HR := hid_ (hr.to hbW)
  have HB0 := hid_ ((Blk.new w 38 #[.int .i64 R, .slice A n c]).alloc (.cells #[.int .i64 at_, .slice A4 m c4] 47))
  have HB1 : Hid (Blk ((w.alloc (.cells #[.int .i64 R, .slice A n c] 38)).alloc (.cells #[.int .i64 at_, .slice A4 m c4] 47)) (w.heap.size + 1) 47 #[.int .i64 at_, .slice A4 m c4]) := hid_ (by
    have h := Blk.new (w.alloc (.cells #[.int .i64 R, .slice A n c] 38)) 47 #[.int .i64 at_, .slice A4 m c4]
    rw [show (w.alloc (.cells #[.int .i64 R, .slice A n c] 38)).heap.size = w.heap.size + 1 by simp] at h
    exact h)
  have KRF : Hid (∀ Y, Cn.CodeAt Y Y.heap.size A n code → Cn.IntsAt Y Y.heap.size A4 m rs → Calls Try.prog 18 #[.agg #[.int .i64 R, .slice A n c], .agg #[.int .i64 at_, .slice A4 m c4]] Y fun e w' => e = .returned (.bool false) ∧ Below Y.heap.size Y w') := hid_ (fun Y h1 h2 => (Cn.rfits_any R at_ A A4 n c m c4 code rs Y h1 h2).mono fun e w' h => by rw [hf] at h; exact h)
  have hn2 : ¬ (4000 : Int) < n := by omega
  clear hf
  clear hc hr
  go_enter Try.func5, Try.ntmps5
  go_upto_region 1 with fail
  generalize (w.alloc (.cells #[.int .i64 R, .slice A n c] 38)).alloc (.cells #[.int .i64 at_, .slice A4 m c4] 47) = W at *
  have p0 := HB0.out.cell 0
  have p1 := HB0.out.cell 1
  have q0 := HB1.out.cell 0
  have q1 := HB1.out.cell 1
  have pl := HB0.out.lt
  have ql := HB1.out.lt
  simp at p0 p1 q0 q1
  go_wp2_with (first | (go_at_call 18; (with_reducible refine (KRF.out _ HC.out HR.out).mono ?_); rintro e w1 ⟨rfl, hb1⟩; replace hbW := bnext hbW hb1; replace HC := hid_ (HC.out.to hb1); replace HR := hid_ (HR.out.to hb1); replace HB0 := hid_ (HB0.out.to hb1); replace HB1 := hid_ (HB1.out.to hb1); replace p0 := keepc hb1 p0; replace p1 := keepc hb1 p1; replace q0 := keepc hb1 q0; replace q1 := keepc hb1 q1; replace pl := Nat.lt_of_lt_of_le pl hb1.size; replace ql := Nat.lt_of_lt_of_le ql hb1.size; clear hb1) | (go_at_call 7; (with_reducible refine (awake_any _).mono ?_); rintro e w99 ⟨rfl, hb99⟩))
  go_ret
  exact ⟨rfl, bnext hbW hb99⟩

set_option maxRecDepth 100000 in
set_option maxHeartbeats 8000000 in
theorem steps_arg (R at_ : Int) (A A4 : Option Addr) (n c m c4 : Nat) (code : List Cn.Ins) (rs : List Int) (w : World) (hc : Cn.CodeAt w w.heap.size A n code) (hr : Cn.IntsAt w w.heap.size A4 m rs) (hn : n ≤ 4000) (hf : Cn.fitsB R code at_ rs = true) (hR : 6 < R) :
    Calls Try.prog 5 #[.agg #[.int .i64 R, .slice A n c], .agg #[.int .i64 at_, .slice A4 m c4]] w fun e w' => e = .returned (.bool true) ∧ Below w.heap.size w w' := by
  have hbW := below2 w (.cells #[.int .i64 R, .slice A n c] 38) (.cells #[.int .i64 at_, .slice A4 m c4] 47)
  have HC := hid_ (hc.to hbW)
  have HR := hid_ (hr.to hbW)
  have HB0 := hid_ ((Blk.new w 38 #[.int .i64 R, .slice A n c]).alloc (.cells #[.int .i64 at_, .slice A4 m c4] 47))
  have HB1 : Hid (Blk ((w.alloc (.cells #[.int .i64 R, .slice A n c] 38)).alloc (.cells #[.int .i64 at_, .slice A4 m c4] 47)) (w.heap.size + 1) 47 #[.int .i64 at_, .slice A4 m c4]) := hid_ (by
    have h := Blk.new (w.alloc (.cells #[.int .i64 R, .slice A n c] 38)) 47 #[.int .i64 at_, .slice A4 m c4]
    rw [show (w.alloc (.cells #[.int .i64 R, .slice A n c] 38)).heap.size = w.heap.size + 1 by simp] at h
    exact h)
  have KRF : Hid (∀ Y, Cn.CodeAt Y Y.heap.size A n code → Cn.IntsAt Y Y.heap.size A4 m rs → Calls Try.prog 18 #[.agg #[.int .i64 R, .slice A n c], .agg #[.int .i64 at_, .slice A4 m c4]] Y fun e w' => e = .returned (.bool true) ∧ Below Y.heap.size Y w') := hid_ (fun Y h1 h2 => (Cn.rfits_any R at_ A A4 n c m c4 code rs Y h1 h2).mono fun e w' h => by rw [hf] at h; exact h)
  have hn2 : ¬ (4000 : Int) < n := by omega
  clear hf
  clear hc hr
  go_enter Try.func5, Try.ntmps5
  go_upto_region 1 with fail
  generalize (w.alloc (.cells #[.int .i64 R, .slice A n c] 38)).alloc (.cells #[.int .i64 at_, .slice A4 m c4] 47) = W at *
  have p0 := HB0.out.cell 0
  have p1 := HB0.out.cell 1
  have q0 := HB1.out.cell 0
  have q1 := HB1.out.cell 1
  have pl := HB0.out.lt
  have ql := HB1.out.lt
  simp at p0 p1 q0 q1
  go_wp2_with (first | (go_at_call 18; (with_reducible refine (KRF.out _ HC.out HR.out).mono ?_); rintro e w1 ⟨rfl, hb1⟩; replace hbW := bnext hbW hb1; replace HC := hid_ (HC.out.to hb1); replace HR := hid_ (HR.out.to hb1); replace HB0 := hid_ (HB0.out.to hb1); replace HB1 := hid_ (HB1.out.to hb1); replace p0 := keepc hb1 p0; replace p1 := keepc hb1 p1; replace q0 := keepc hb1 q0; replace q1 := keepc hb1 q1; replace pl := Nat.lt_of_lt_of_le pl hb1.size; replace ql := Nat.lt_of_lt_of_le ql hb1.size; clear hb1) | (go_at_call 7; (with_reducible refine (awake_any _).mono ?_); rintro e w99 ⟨rfl, hb99⟩))
  go_ret
  exact ⟨rfl, bnext hbW hb99⟩

set_option maxRecDepth 100000 in
set_option maxHeartbeats 8000000 in
theorem steps_size (R at_ : Int) (A A4 : Option Addr) (n c m c4 : Nat) (code : List Cn.Ins) (rs : List Int) (w : World) (hc : Cn.CodeAt w w.heap.size A n code) (hr : Cn.IntsAt w w.heap.size A4 m rs) (hn : n ≤ 4000) (hf : Cn.fitsB R code at_ rs = true) (hR : ¬ 6 < R) (hs : 2000 < sizeL (code.map sOf)) :
    Calls Try.prog 5 #[.agg #[.int .i64 R, .slice A n c], .agg #[.int .i64 at_, .slice A4 m c4]] w fun e w' => e = .returned (.bool true) ∧ Below w.heap.size w w' := by
  have hbW := below2 w (.cells #[.int .i64 R, .slice A n c] 38) (.cells #[.int .i64 at_, .slice A4 m c4] 47)
  have HC := hid_ (hc.to hbW)
  have HR := hid_ (hr.to hbW)
  have HB0 := hid_ ((Blk.new w 38 #[.int .i64 R, .slice A n c]).alloc (.cells #[.int .i64 at_, .slice A4 m c4] 47))
  have HB1 : Hid (Blk ((w.alloc (.cells #[.int .i64 R, .slice A n c] 38)).alloc (.cells #[.int .i64 at_, .slice A4 m c4] 47)) (w.heap.size + 1) 47 #[.int .i64 at_, .slice A4 m c4]) := hid_ (by
    have h := Blk.new (w.alloc (.cells #[.int .i64 R, .slice A n c] 38)) 47 #[.int .i64 at_, .slice A4 m c4]
    rw [show (w.alloc (.cells #[.int .i64 R, .slice A n c] 38)).heap.size = w.heap.size + 1 by simp] at h
    exact h)
  have KRF : Hid (∀ Y, Cn.CodeAt Y Y.heap.size A n code → Cn.IntsAt Y Y.heap.size A4 m rs → Calls Try.prog 18 #[.agg #[.int .i64 R, .slice A n c], .agg #[.int .i64 at_, .slice A4 m c4]] Y fun e w' => e = .returned (.bool true) ∧ Below Y.heap.size Y w') := hid_ (fun Y h1 h2 => (Cn.rfits_any R at_ A A4 n c m c4 code rs Y h1 h2).mono fun e w' h => by rw [hf] at h; exact h)
  have hn2 : ¬ (4000 : Int) < n := by omega
  have hv := (Cn.fitsB_good hf).1
  have KTW : Hid (∀ Y, Cn.CodeAt Y Y.heap.size A n code → Calls Try.prog 14 #[.agg #[.int .i64 R, .slice A n c]] Y fun e w' => ∃ B c1 D c2, e = .returned (.tuple #[.agg #[.int .i64 0, .slice B 0 c1], .slice D 0 c2, .int .i64 4]) ∧ Below Y.heap.size Y w') := hid_ (fun Y h => two_nil R A n c code Y h 4 (by rw [twoS, if_neg (by rw [hv]; simp), if_neg hR, if_pos hs]))
  clear hf hv hs
  clear hc hr
  go_enter Try.func5, Try.ntmps5
  go_upto_region 1 with fail
  generalize (w.alloc (.cells #[.int .i64 R, .slice A n c] 38)).alloc (.cells #[.int .i64 at_, .slice A4 m c4] 47) = W at *
  have p0 := HB0.out.cell 0
  have p1 := HB0.out.cell 1
  have q0 := HB1.out.cell 0
  have q1 := HB1.out.cell 1
  have pl := HB0.out.lt
  have ql := HB1.out.lt
  simp at p0 p1 q0 q1
  go_wp2_with (first | (go_at_call 18; (with_reducible refine (KRF.out _ HC.out HR.out).mono ?_); rintro e w1 ⟨rfl, hb1⟩; replace hbW := bnext hbW hb1; replace HC := hid_ (HC.out.to hb1); replace HR := hid_ (HR.out.to hb1); replace HB0 := hid_ (HB0.out.to hb1); replace HB1 := hid_ (HB1.out.to hb1); replace p0 := keepc hb1 p0; replace p1 := keepc hb1 p1; replace q0 := keepc hb1 q0; replace q1 := keepc hb1 q1; replace pl := Nat.lt_of_lt_of_le pl hb1.size; replace ql := Nat.lt_of_lt_of_le ql hb1.size; clear hb1) | (go_at_call 14; (with_reducible refine (KTW.out _ HC.out).mono ?_); rintro e w2 ⟨B, c1, D, c2, rfl, hb2⟩; replace hbW := bnext hbW hb2) | (go_at_call 7; (with_reducible refine (awake_any _).mono ?_); rintro e w99 ⟨rfl, hb99⟩))
  go_ret
  exact ⟨rfl, bnext hbW (bnext (below1 _ _) hb99)⟩

set_option maxRecDepth 100000 in
set_option maxHeartbeats 8000000 in
theorem steps_ok (R at_ : Int) (A A4 : Option Addr) (n c m c4 : Nat) (code : List Cn.Ins) (rs : List Int) (w : World) (hc : Cn.CodeAt w w.heap.size A n code) (hr : Cn.IntsAt w w.heap.size A4 m rs) (hn : n ≤ 4000) (hf : Cn.fitsB R code at_ rs = true) (hR : ¬ 6 < R) (hs : ¬ 2000 < sizeL (code.map sOf)) :
    Calls Try.prog 5 #[.agg #[.int .i64 R, .slice A n c], .agg #[.int .i64 at_, .slice A4 m c4]] w fun e w' => e = .returned (.bool true) ∧ Below w.heap.size w w' := by
  have hbW := below2 w (.cells #[.int .i64 R, .slice A n c] 38) (.cells #[.int .i64 at_, .slice A4 m c4] 47)
  have HC := hid_ (hc.to hbW)
  have HR := hid_ (hr.to hbW)
  have HB0 := hid_ ((Blk.new w 38 #[.int .i64 R, .slice A n c]).alloc (.cells #[.int .i64 at_, .slice A4 m c4] 47))
  have HB1 : Hid (Blk ((w.alloc (.cells #[.int .i64 R, .slice A n c] 38)).alloc (.cells #[.int .i64 at_, .slice A4 m c4] 47)) (w.heap.size + 1) 47 #[.int .i64 at_, .slice A4 m c4]) := hid_ (by
    have h := Blk.new (w.alloc (.cells #[.int .i64 R, .slice A n c] 38)) 47 #[.int .i64 at_, .slice A4 m c4]
    rw [show (w.alloc (.cells #[.int .i64 R, .slice A n c] 38)).heap.size = w.heap.size + 1 by simp] at h
    exact h)
  have KRF : Hid (∀ Y, Cn.CodeAt Y Y.heap.size A n code → Cn.IntsAt Y Y.heap.size A4 m rs → Calls Try.prog 18 #[.agg #[.int .i64 R, .slice A n c], .agg #[.int .i64 at_, .slice A4 m c4]] Y fun e w' => e = .returned (.bool true) ∧ Below Y.heap.size Y w') := hid_ (fun Y h1 h2 => (Cn.rfits_any R at_ A A4 n c m c4 code rs Y h1 h2).mono fun e w' h => by rw [hf] at h; exact h)
  have hn2 : ¬ (4000 : Int) < n := by omega
  obtain ⟨hv, hg, hRR, hat⟩ := Cn.fitsB_good hf
  have hlm := hr.len
  have hlc := hc.len
  have hRm : m = R.toNat := by rw [← hlm, hg.len]
  have hm0 : 0 < m := by have := Cn.vCode_reg hv; omega
  have hn0 : 0 < n := by have := hg.lt; omega
  obtain ⟨a, ha⟩ : ∃ a : Nat, a = at_.toNat := ⟨_, rfl⟩
  rw [← ha] at hg hat
  subst hat
  obtain ⟨L, hL⟩ : ∃ L, L = sizeL (code.map sOf) := ⟨_, rfl⟩
  have KTW : Hid (∀ Y, Cn.CodeAt Y Y.heap.size A n code → Calls Try.prog 14 #[.agg #[.int .i64 R, .slice A n c]] Y fun e w' => ∃ b off c1 b2 off2 c2, e = .returned (.tuple #[.agg #[.int .i64 2, .slice (some ⟨b, off, none⟩) L c1], .slice (some ⟨b2, off2, none⟩) n c2, .int .i64 0]) ∧ b < w'.heap.size ∧ Cn.CodeIn w' b off (qOf code) ∧ b2 < w'.heap.size ∧ Cn.IntsIn w' b2 off2 (pOf code) ∧ Below Y.heap.size Y w') := hid_ (fun Y h => by rw [hL]; exact two_ok R _ n c code Y h hv hR hs)
  have KNE : Hid (∀ Y b off c1 b2 off2 c2, Cn.CodeAt Y Y.heap.size A n code → Cn.IntsAt Y Y.heap.size A4 m rs → b < Y.heap.size → Cn.CodeIn Y b off (qOf code) → b2 < Y.heap.size → Cn.IntsIn Y b2 off2 (pOf code) → Calls Try.prog 19 #[.agg #[.int .i64 R, .slice A n c], .agg #[.int .i64 2, .slice (some ⟨b, off, none⟩) L c1], .slice (some ⟨b2, off2, none⟩) n c2, .agg #[.int .i64 (a : Int), .slice A4 m c4], .int .i64 5000] Y fun e w' => ∃ (x : Int) (A5 : Option Addr) (c5 : Nat) (dn : Bool), e = .returned (.tuple #[.agg #[.int .i64 x, .slice A5 m c5], .bool dn, .bool true]) ∧ Below Y.heap.size Y w') := hid_ (fun Y b off c1 b2 off2 c2 h1 h2 h3 h4 h5 h6 => by
    obtain ⟨b0, o0, rfl, k1, k2⟩ := h1.at_ hn0
    obtain ⟨b4, o4, rfl, k3, k4⟩ := h2.at_ hm0
    refine (next_any R b0 o0 n c b off c1 b2 off2 c2 b4 o4 m c4 a L code rs 5000 Y (by omega) hv hR hs hL.symm hg hRm hlc k1 k2 h3 h4 h5 h6 k3 k4).mono ?_
    rintro e w' ⟨a', rs', b', o', c', dn, rfl, _, _, _, _, hb⟩
    exact ⟨_, _, _, dn, rfl, hb⟩)
  clear hf hv hg hs hL hlm hlc hRm ha hRR
  clear hc hr
  go_enter Try.func5, Try.ntmps5
  go_upto_region 1 with fail
  generalize (w.alloc (.cells #[.int .i64 R, .slice A n c] 38)).alloc (.cells #[.int .i64 (a : Int), .slice A4 m c4] 47) = W at *
  have p0 := HB0.out.cell 0
  have p1 := HB0.out.cell 1
  have q0 := HB1.out.cell 0
  have q1 := HB1.out.cell 1
  have pl := HB0.out.lt
  have ql := HB1.out.lt
  simp at p0 p1 q0 q1
  go_upto_region 4 with (first | (go_at_call 18; (with_reducible refine (KRF.out _ HC.out HR.out).mono ?_); rintro e w1 ⟨rfl, hb1⟩; replace hbW := bnext hbW hb1; replace HC := hid_ (HC.out.to hb1); replace HR := hid_ (HR.out.to hb1); replace HB0 := hid_ (HB0.out.to hb1); replace HB1 := hid_ (HB1.out.to hb1); replace p0 := keepc hb1 p0; replace p1 := keepc hb1 p1; replace q0 := keepc hb1 q0; replace q1 := keepc hb1 q1; replace pl := Nat.lt_of_lt_of_le pl hb1.size; replace ql := Nat.lt_of_lt_of_le ql hb1.size; clear hb1) | (go_at_call 14; (with_reducible refine (KTW.out _ HC.out).mono ?_); rintro e w2 ⟨b, off, c1, b2, off2, c2, rfl, hbl, hq, hbl2, hp, hb2⟩))
  have hbx := hb2.alloc hb2.size (.cells #[.int .i64 2, .slice (some ⟨b, off, none⟩) L c1] 38)
  have HQ := hid_ (hq.below (below1 w2 (.cells #[.int .i64 2, .slice (some ⟨b, off, none⟩) L c1] 38)) hbl)
  have HP := hid_ (hp.below (below1 w2 (.cells #[.int .i64 2, .slice (some ⟨b, off, none⟩) L c1] 38)) hbl2)
  have HBQ := hid_ (Blk.new w2 38 #[.int .i64 2, .slice (some ⟨b, off, none⟩) L c1])
  have hs2 : (w2.alloc (.cells #[.int .i64 2, .slice (some ⟨b, off, none⟩) L c1] 38)).heap.size = w2.heap.size + 1 := by simp
  replace hbl : b < (w2.alloc (.cells #[.int .i64 2, .slice (some ⟨b, off, none⟩) L c1] 38)).heap.size := by omega
  replace hbl2 : b2 < (w2.alloc (.cells #[.int .i64 2, .slice (some ⟨b, off, none⟩) L c1] 38)).heap.size := by omega
  replace hbW := bnext hbW hbx
  replace HC := hid_ (HC.out.to hbx)
  replace HR := hid_ (HR.out.to hbx)
  replace p0 := keepc hbx p0
  replace p1 := keepc hbx p1
  replace q0 := keepc hbx q0
  replace q1 := keepc hbx q1
  clear hs2 hq hp hb2 hbx HB0 HB1 pl ql
  generalize w2.alloc (.cells #[.int .i64 2, .slice (some ⟨b, off, none⟩) L c1] 38) = W2 at *
  have z0 := HBQ.out.cell 0
  have z1 := HBQ.out.cell 1
  simp at z0 z1
  go_wp2_with (first | (go_at_call 19; (with_reducible refine (KNE.out _ _ _ _ _ _ _ HC.out HR.out hbl HQ.out hbl2 HP.out).mono ?_); rintro e w3 ⟨x, A5, c5, dn, rfl, hb3⟩; replace hbW := bnext hbW hb3) | (go_at_call 7; (with_reducible refine (awake_any _).mono ?_); rintro e w99 ⟨rfl, hb99⟩))
  go_ret
  exact ⟨rfl, bnext hbW (bnext (below1 _ _) hb99)⟩
end Go.Proofs.Ytckabinmmficlaa.Pp

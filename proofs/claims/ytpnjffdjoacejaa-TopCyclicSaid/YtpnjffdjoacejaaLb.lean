/- Contracts: named of the law package; the specification's Step and Run. -/
import Derived.Test.YtpnjffdjoacejaaKr
import Derived.Test.YtpnjffdjoacejaaLa
namespace Go.Proofs.Ytpnjffdjoacejaa
open Go.RowKit

theorem own_nil (w : World) (B : Nat) (e : TypeId) : w.ownsRow B e 1 (.slice none 0 0) 0 [] := ⟨rfl, .inl ⟨rfl, rfl⟩⟩

set_option maxRecDepth 100000 in
set_option maxHeartbeats 1000000 in
theorem named_any (l tos : List Int) (v1 v2 : Value) (w : World) (h1 : Elems w w.heap.size v1 (ints l)) (h2 : Elems w w.heap.size v2 (ints tos)) (hl : l.length ≤ 1000000) (hin : wordB tos.length l = true) :
    Calls Try.prog 41 #[v1, v2] w (Cloned w (ints (nameL tos l))) := by
  obtain ⟨i0, hi, hz0, hz1, hz2⟩ := info_parts Try.infoI
  obtain ⟨A1, c1, rfl⟩ := h1.form
  obtain ⟨A2, c2, rfl⟩ := h2.form
  rw [ints_len] at h1 h2 ⊢
  rw [ints_len]
  have H1 := hid_ h1
  have H2 := hid_ h2
  have HI := hid_ hin
  clear h1 h2 hin
  go_enter Try.func41, Try.ntmps41
  go_wp2_with fail
  go_loopw [5, 6] (fun o s wr => ∃ k : Nat, s = .int .i64 ((k : Nat) : Int) ∧ k ≤ l.length ∧ Hid (wr.ownsRow w.heap.size 3 1 o k (ints (nameL tos (l.take k)))) ∧ Below w.heap.size w wr) (fun _ s _ => l.length - (intOf s).toNat)
  case atStart => exact ⟨0, rfl, Nat.zero_le _, hid_ (own_nil _ _ _), Below.refl _ _⟩
  case round =>
    obtain ⟨k, rfl, hk, HO, hbr⟩ := hrel
    by_cases hlt : k < l.length
    · obtain ⟨b1, o1, rfl, hb1, hc1⟩ := H1.out.at_ (by omega)
      obtain ⟨x, hx⟩ : ∃ x, l[k]? = some x := ⟨_, List.getElem?_eq_getElem hlt⟩
      have hxr := wordB_get HI.out hx
      obtain ⟨j, rfl⟩ := Int.eq_ofNat_of_zero_le hxr.1
      obtain ⟨b2, o2, rfl, hb2, hc2⟩ := H2.out.at_ (by omega)
      obtain ⟨y, hy⟩ : ∃ y, tos[j]? = some y := ⟨_, List.getElem?_eq_getElem (by omega)⟩
      have i1 := (hbr.cell (p := ⟨b1, o1 + k, none⟩) hb1).trans (hc1 k _ (ints_at hx))
      have i2 := (hbr.cell (p := ⟨b2, o2 + j, none⟩) hb2).trans (hc2 j _ (ints_at hy))
      have t0 : 0 ≤ (j : Int) := by omega
      have t1 : (j : Int) < tos.length := hxr.2
      have HS := hid_ (nameL_snoc hx hy)
      obtain ⟨A, c, rfl⟩ := own_form HO.out
      have HU : Hid (Elems (wr.alloc (.cells #[.int .i64 y] 3)) (wr.alloc (.cells #[.int .i64 y] 3)).heap.size (.slice (some ⟨wr.heap.size, 0, none⟩) 1 1) (ints [y])) := hid_ (blk_elems (Blk.new wr _ _) rfl)
      have HO2 := hid_ (HO.out.alloc (.cells #[.int .i64 y] 3))
      have hbz := hbr.size
      clear hx hy hc1 hc2 hxr
      go_wp2_with (at_builtin; refine wpList_append_e rfl _ _ 26 rfl 3 i0 (.int .i64 0) 8 Try.underlying26 hi hz0 hz1 hz2 rfl rfl rfl HO2.out HU.out ints_one ?h63 ?hby ?hbs ?_)
      case h63 => simp only [ints_len, List.length_cons, List.length_nil]; unfold maxLen; omega
      case hby => simp only [ints_len, List.length_cons, List.length_nil]; omega
      case hbs => simp; omega
      intro v' w' hown hg hat
      have HO3 : Hid (w'.ownsRow w.heap.size 3 1 v' (k + 1) (ints (nameL tos (l.take (k + 1))))) := by
        rw [HS.out]
        exact hid_ (by simpa [ints, ints_len] using hown)
      have hb3 : Below w.heap.size w w' := (hbr.alloc hbr.size _).grown hg (by simp; omega) (own_lt HO.out)
      clear hown hg hat
      go_wp2_with fail
      go_roundw
      case rel => exact ⟨k + 1, by go_num, by omega, HO3, hb3⟩
      case measure => simp [intOf]; omega
    · go_wp2_with fail
      go_ret
      have hkl : k = l.length := by omega
      subst hkl
      have := HO.out
      rw [List.take_length] at this
      exact ⟨_, rfl, by rw [ints_len, nameL_len]; exact this, hbr⟩

section
variable {P : Program} {w : World}
theorem step_append_e {ops : Array Oper} {o : Oper} {a : Act} {K : Act → World → Prop} {Q : Exit → Act → World → Prop} {E : Prop} (hgd : o.guard = none) (s x : Operand) (t : TypeId)
    (ho : o.op = .call { callee := .builtin .append, args := #[s, x], argTypes := #[t, t] }) (e : TypeId) (i : TypeInfo) (z : Value) (bytes : Nat) (ht : P.underlying t = some (.slice e)) (hi : P.info? e = some i) (hz : i.zero = some z) (hsize : i.size = 1) (hby : i.bytes = bytes) (hzs : z.cells.size = 1)
    {base n B : Nat} {v u : Value} {xs news : List Value} (hs : a.eval s = v) (hx : a.eval x = u) (hown : w.ownsRow base e 1 v n xs) (hu : Elems w B u news) (h1 : ∀ y ∈ news, y.oneCell' = true)
    (h63 : n + news.length ≤ maxLen) (hbytes : (n + news.length) * bytes ≤ 140737488355328) (hbase : base ≤ w.heap.size)
    (h : ∀ v' w', w'.ownsRow base e 1 v' (n + news.length) (xs ++ news) → w.grownBy w' v.ownBlock → (v'.ownBlock = v.ownBlock ∨ v'.ownBlock = some w.heap.size) → K (a.put o.dst v') w') :
    if Region.wanted o (yielded ops a.tmps) = true then Oper.wp P o a w K Q else E := by
  have hw : Region.wanted o (yielded ops a.tmps) = true := by simp [Region.wanted, hgd]
  rw [if_pos hw]
  obtain ⟨v', w', hr, h2, h3, h4⟩ := run_append_e (P := P) t o.type e i z bytes ht hi hz hsize hby hzs hown hu h1 h63 hbytes hbase
  unfold Oper.wp execOp
  simp only [ho, resolve, invoke, builtin, Sem.run_bind, Sem.run_pure, Result.andThen_ok, List.map_toArray, List.map_cons, List.map_nil, hs, hx, hr]
  exact h v' w' h2 h3 h4
end

/-- What the specification's Step leaves. -/
def RSRan (w : World) (o : List Int) (e : Ending) (w' : World) : Prop :=
  ∃ v, e = .returned (.tuple #[v, .bool (decide (o.length ≤ 100000))]) ∧ Elems w' w'.heap.size v (ints (if o.length ≤ 100000 then o else [])) ∧ Below w.heap.size w w'

theorem rs_big {w w' : World} {o : List Int} (h : ¬ o.length ≤ 100000) (hb : Below w.heap.size w w') : RSRan w o (.returned (.tuple #[.slice none 0 0, .bool false])) w' :=
  ⟨_, by rw [decide_eq_false h], by rw [if_neg h]; exact Elems.nil _ _, hb⟩
theorem rs_ok {w w' : World} {o : List Int} {v : Value} (h : o.length ≤ 100000) (he : Elems w' w'.heap.size v (ints o)) (hb : Below w.heap.size w w') : RSRan w o (.returned (.tuple #[v, .bool true])) w' :=
  ⟨_, by rw [decide_eq_true h], by rw [if_pos h]; exact he, hb⟩
theorem own_drop {w : World} {base n c d : Nat} {A : Option Addr} {xs : List Int} (h : w.ownsRow base 3 1 (.slice A n c) n (ints xs)) (hd : d ≤ n) : Elems w w.heap.size (.slice (if c = d then A else A.map (·.add d)) (n - d) (c - d)) (ints (xs.drop d)) := by
  have hl := QAt.len h
  rcases own_block h with ⟨rfl, rfl, rfl, hnil⟩ | ⟨g, rfl, hb, hnc, hlt⟩
  · have : d = 0 := by omega
    subst this
    have : xs = [] := List.eq_nil_of_length_eq_zero hl
    subst this
    exact .inl ⟨.inl rfl, rfl⟩
  · have hl2 : (ints (xs.drop d)).length = n - d := by rw [ints_len, List.length_drop, hl]
    by_cases hcd : c = d
    · rw [if_pos hcd]
      have : n - d = 0 := by omega
      rw [this] at hl2 ⊢
      rw [List.eq_nil_of_length_eq_zero hl2]
      exact .inr ⟨g, 0, c - d, rfl, hlt, fun k u hu => by simp at hu⟩
    · rw [if_neg hcd]
      refine .inr ⟨g, d, c - d, by rw [hl2]; simp [addr_add], hlt, fun k u hu => ?_⟩
      have hk := (List.getElem?_eq_some_iff.1 hu).1
      rw [h.cellAt (d + k) (by omega)]
      simp only [ints, List.map_drop, List.getElem?_drop] at hu
      exact hu

set_option maxRecDepth 100000 in
set_option maxHeartbeats 2000000 in
theorem rstep_any (dn : Nat) (rules : List (List Int)) (stops : List Bool) (q : List Int) (v2 v3 v : Value) (w : World) (ht : TagIn w w.heap.size v2 v3 ⟨dn, rules, stops⟩) (hq : Elems w w.heap.size v (ints q)) (hf : fitsT ⟨dn, rules, stops⟩ q = true) (hs : ¬ ((q.length : Int) < dn)) :
    Calls Try.prog 19 #[.agg #[.int .i64 dn, v2, v3], v] w (RSRan w (stepT ⟨dn, rules, stops⟩ q)) := by
  obtain ⟨i0, hi, hz0, hz1, hz2⟩ := info_parts Try.infoI
  obtain ⟨hv, hql, _⟩ := fitsT_parts hf
  obtain ⟨d1, d2, r1, r2, _, _⟩ := validT_parts hv
  simp only at d1 d2 r1 r2
  obtain ⟨A2, c2, rfl⟩ := ht.rules.form
  obtain ⟨b2, o2, rfl, hb2⟩ := ht.rules.addr r1
  obtain ⟨A, c, rfl⟩ := hq.form
  rw [ints_len] at hq ⊢
  obtain ⟨b, off, rfl, hb, hc⟩ := hq.at_ (by omega)
  obtain ⟨j, r, bb, hj, hjr, hr, -⟩ := head_get hf hs
  simp only at hjr hr
  obtain ⟨Ar, dr, hcr, hEr⟩ := ht.rules.row hr
  have hrl := (rule_get hv hr).1
  have HW : Hid (stepT ⟨dn, rules, stops⟩ q = (q ++ r).drop dn) := hid_ (by simpa using stepT_eq (t := ⟨dn, rules, stops⟩) hj hr)
  have i1 : w.cell? ⟨b, off, none⟩ = some (.int .i64 (j : Int)) := by simpa using hc 0 _ (ints_at hj)
  have i2 := keepa (.cells #[.int .i64 dn, .slice (some ⟨b2, o2, none⟩) rules.length c2, v3] 25) i1
  have i3 := keepa (.cells #[.int .i64 dn, .slice (some ⟨b2, o2, none⟩) rules.length c2, v3] 25) hcr
  have p0 : (w.alloc (.cells #[.int .i64 dn, .slice (some ⟨b2, o2, none⟩) rules.length c2, v3] 25)).cell? ⟨w.heap.size, 0, none⟩ = some (.int .i64 dn) := (Blk.new w _ _).cell 0
  have p1 : (w.alloc (.cells #[.int .i64 dn, .slice (some ⟨b2, o2, none⟩) rules.length c2, v3] 25)).cell? ⟨w.heap.size, 1, none⟩ = some (.slice (some ⟨b2, o2, none⟩) rules.length c2) := (Blk.new w _ _).cell 1
  have HQ := hid_ hq
  have HE := hid_ hEr
  have HRL := hid_ hrl
  have t1 : 0 ≤ (j : Int) := by omega
  have t2 : (j : Int) < rules.length := by omega
  have t3 : (0 : Int) < q.length := by omega
  have t4 : 0 ≤ (dn : Int) := by omega
  obtain ⟨n, hn⟩ : ∃ n, n = (q ++ r).length := ⟨_, rfl⟩
  have t5 : (dn : Int) ≤ (n : Int) := by rw [hn]; simp; omega
  have HN := hid_ hn
  have HB2 : Hid (Below w.heap.size w (w.alloc (.cells #[.int .i64 dn, .slice (some ⟨b2, o2, none⟩) rules.length c2, v3] 25))) := hid_ (below1 w _)
  generalize hWW : w.alloc (.cells #[.int .i64 dn, .slice (some ⟨b2, o2, none⟩) rules.length c2, v3] 25) = WW at p0 p1 i2 i3 HB2
  have HWW := hid_ hWW
  clear ht hq hf hv hs hc hj hr hEr hrl hcr i1 hn hWW
  go_enter Try.func19, Try.ntmps19
  go_wp2_with fail
  rw [HWW.out]
  have tc1 := HB2.out.size
  have HQW := hid_ (HQ.out.to HB2.out)
  have HEW := hid_ (HE.out.to HB2.out)
  have h63a : 0 + (ints q).length ≤ maxLen := by rw [ints_len]; unfold maxLen; omega
  have hbya : (0 + (ints q).length) * 8 ≤ 140737488355328 := by rw [ints_len]; omega
  have h63b : 0 + (ints q).length + (ints r).length ≤ maxLen := by rw [ints_len, ints_len]; have := HRL.out; unfold maxLen; omega
  have hbyb : (0 + (ints q).length + (ints r).length) * 8 ≤ 140737488355328 := by rw [ints_len, ints_len]; have := HRL.out; omega
  have HOE : Hid ((WW.alloc (.cells #[] 3)).drew.ownsRow WW.heap.size 3 1 (.slice (some ⟨WW.heap.size, 0, none⟩) 0 0) 0 []) := hid_ (own_empty WW 3)
  have HBA : Hid (Below WW.heap.size WW (WW.alloc (.cells #[] 3)).drew) := hid_ (below1 WW _).drew
  have HQA : Hid (Elems (WW.alloc (.cells #[] 3)).drew (WW.alloc (.cells #[] 3)).drew.heap.size (.slice (some ⟨b, off, none⟩) q.length c) (ints q)) := hid_ (HQW.out.to HBA.out)
  have HSA : Hid (WW.heap.size ≤ (WW.alloc (.cells #[] 3)).drew.heap.size) := hid_ (by show WW.heap.size ≤ (WW.alloc _).heap.size; simp)
  have t3' : 0 < q.length := by omega
  go_region_held3 (fun w' => w'.cell? ⟨w.heap.size, 0, none⟩ = some (.int .i64 dn) ∧ w'.cell? ⟨w.heap.size, 1, none⟩ = some (.slice (some ⟨b2, o2, none⟩) rules.length c2) ∧ w'.cell? ⟨b, off, none⟩ = some (.int .i64 (j : Int)) ∧ w'.cell? ⟨b2, o2 + j, none⟩ = some (.slice Ar r.length dr))
    (first | assumption | exact ⟨p0, p1, i2, i3⟩ | exact ⟨keepa _ p0, keepa _ p1, keepa _ i2, keepa _ i3⟩ | exact ⟨keepc HW1.out p0, keepc HW1.out p1, keepc HW1.out i2, keepc HW1.out i3⟩ | exact ⟨keepc HW2.out p0, keepc HW2.out p1, keepc HW2.out i2, keepc HW2.out i3⟩)
    (first
      | ((refine step_append_e (by rfl) _ _ 26 (by rfl) 3 i0 (.int .i64 0) 8 Try.underlying26 hi hz0 hz1 hz2 rfl (by rfl) (by rfl) HOE.out HQA.out ints_one h63a hbya HSA.out ?_; intro v1 w1 hown1 hg1 hat1; have HW1 : Hid (Below WW.heap.size WW w1) := hid_ (HBA.out.grown hg1 HSA.out (own_lt HOE.out)); have HO1 := hid_ hown1; clear hown1 hg1 hat1))
      | ((refine step_append_e (by rfl) _ _ 26 (by rfl) 3 i0 (.int .i64 0) 8 Try.underlying26 hi hz0 hz1 hz2 rfl (by rfl) (by rfl) HO1.out (HEW.out.to HW1.out) ints_one h63b hbyb HW1.out.size ?_; intro v2 w2 hown2 hg2 hat2; have HW2 : Hid (Below WW.heap.size WW w2) := hid_ (HW1.out.grown hg2 HW1.out.size (own_lt HO1.out)); have HO2 : Hid (w2.ownsRow WW.heap.size 3 1 v2 n (ints (q ++ r))) := hid_ (by have h := hown2; rw [HN.out]; simpa [ints, Nat.add_assoc] using h); obtain ⟨A9, c9, rfl⟩ := own_form HO2.out; obtain ⟨g9, cur9, rfl, k91, k92, k93, k94, -, -⟩ := own_cells HO2.out (by omega); clear k91 k92 k94; have u1 : (n : Int) ≤ (c9 : Int) := (by omega); have u2 : (dn : Int) ≤ (c9 : Int) := (by omega); clear hown2 hg2 hat2 k93)))
  go_wp2_with fail
  all_goals
    go_ret2
    have hw2 := bnext HB2.out HW2.out
    have hn := HN.out
    have hE := own_drop (d := dn) HO2.out (by omega)
    rw [HW.out]
    have hl : ((q ++ r).drop dn).length = n - dn := by rw [List.length_drop, hn]
    first
      | exact rs_big (by rw [hl]; omega) hw2
      | (have hcd : c9 = dn := by assumption
         rw [if_pos hcd, show c9 - dn = 0 by omega] at hE
         exact rs_ok (by rw [hl]; omega) hE hw2)
      | (have hcd : ¬ c9 = dn := by assumption
         rw [if_neg hcd] at hE
         exact rs_ok (by rw [hl]; omega) (by simpa [addr_add] using hE) hw2)

/-- What the specification's Run leaves. -/
def RRan (w : World) (o : Option (List Int × Nat)) (e : Ending) (w' : World) : Prop :=
  ∃ v, e = .returned (.tuple #[v, .int .i64 (tresOf o).k, .bool (decide ((tresOf o).err = 0))]) ∧ Elems w' w'.heap.size v (ints (tresOf o).q) ∧ Below w.heap.size w w'

set_option maxRecDepth 100000 in
set_option maxHeartbeats 2000000 in
theorem rrun_any (dn N : Nat) (rules : List (List Int)) (stops : List Bool) (q : List Int) (v2 v3 v : Value) (w : World) (ht : TagIn w w.heap.size v2 v3 ⟨dn, rules, stops⟩) (hq : Elems w w.heap.size v (ints q)) (hf : fitsT ⟨dn, rules, stops⟩ q = true) (hN : N ≤ 1000000) :
    Calls Try.prog 22 #[.agg #[.int .i64 dn, v2, v3], v, .int .i64 N] w (RRan w (runT ⟨dn, rules, stops⟩ N q)) := by
  obtain ⟨i0, hi, hz0, hz1, hz2⟩ := info_parts Try.infoI
  have HT := hid_ ht
  obtain ⟨A, c, rfl⟩ := hq.form
  rw [ints_len] at hq ⊢
  have HQ := hid_ hq
  have HF := hid_ hf
  have hql := (fitsT_parts hf).2.1
  clear ht hq hf
  have HOE : Hid (((w.alloc (.cells #[.int .i64 dn, v2, v3] 25)).alloc (.cells #[] 3)).ownsRow (w.alloc (.cells #[.int .i64 dn, v2, v3] 25)).heap.size 3 1 (.slice (some ⟨w.heap.size + 1, 0, none⟩) 0 0) 0 []) := hid_ (by have := own_empty (w.alloc (.cells #[.int .i64 dn, v2, v3] 25)) 3; simpa using this)
  have h63 : 0 + (ints q).length ≤ maxLen := by rw [ints_len]; unfold maxLen; omega
  have hby : (0 + (ints q).length) * 8 ≤ 140737488355328 := by rw [ints_len]; omega
  have p0 : (w.alloc (.cells #[.int .i64 dn, v2, v3] 25)).cell? ⟨w.heap.size, 0, none⟩ = some (.int .i64 dn) := (Blk.new w _ _).cell 0
  have p1 : (w.alloc (.cells #[.int .i64 dn, v2, v3] 25)).cell? ⟨w.heap.size, 1, none⟩ = some v2 := (Blk.new w _ _).cell 1
  have p2 : (w.alloc (.cells #[.int .i64 dn, v2, v3] 25)).cell? ⟨w.heap.size, 2, none⟩ = some v3 := (Blk.new w _ _).cell 2
  have P0 := hid_ p0
  have P1 := hid_ p1
  have P2 := hid_ p2
  have HQA := hid_ (HQ.out.to (below2 w (.cells #[.int .i64 dn, v2, v3] 25) (.cells #[] 3)))
  clear p0 p1 p2
  go_enter Try.func22, Try.ntmps22
  go_wp2_with (at_builtin; refine wpList_append_e rfl _ _ 26 rfl 3 i0 (.int .i64 0) 8 Try.underlying26 hi hz0 hz1 hz2 rfl rfl rfl HOE.out HQA.out ints_one h63 hby ?hbs ?_)
  case hbs => simp
  intro v1 W hown hg hat
  have HW : Hid (Below (w.alloc (.cells #[.int .i64 dn, v2, v3] 25)).heap.size (w.alloc (.cells #[.int .i64 dn, v2, v3] 25)) W) := hid_ ((below1 _ _).grown hg (by simp) (own_lt HOE.out))
  have HE : Hid (Elems W W.heap.size v1 (ints q)) := hid_ (by have := own_any hown; simpa using this)
  have p0 := keepc HW.out P0.out
  have p1 := keepc HW.out P1.out
  have p2 := keepc HW.out P2.out
  have hw1 : Below w.heap.size w W := bnext (below1 w _) HW.out
  have hz : w.heap.size < W.heap.size := by have := HW.out.size; simp at this; omega
  obtain ⟨A1, c1, rfl⟩ := HE.out.form
  rw [ints_len] at HE
  clear hown hg hat HW P0 P1 P2 HOE HQA
  simp only [ints_len]
  go_wp2_with fail
  go_loopw [1, 9] (fun s1 s wr => ∃ (d : Nat) (l : List Int) (A : Option Addr) (c : Nat), s = .int .i64 ((d : Nat) : Int) ∧ s1 = .slice A l.length c ∧ d ≤ N ∧ Hid (Elems wr wr.heap.size (.slice A l.length c) (ints l)) ∧ Hid (fitsT ⟨dn, rules, stops⟩ l = true) ∧ Hid (tbump d (runT ⟨dn, rules, stops⟩ (N - d) l) = runT ⟨dn, rules, stops⟩ N q) ∧ Below W.heap.size W wr)
    (fun _ s _ => N - (intOf s).toNat)
  case atStart => exact ⟨0, q, A1, c1, rfl, rfl, Nat.zero_le _, HE, HF, hid_ (by rw [tbump_zero]; rfl), Below.refl _ _⟩
  case round =>
    obtain ⟨d, l, A, c, rfl, rfl, hd, HEl, HFl, HB, hbr⟩ := hrel
    have hwr := bnext hw1 hbr
    replace p0 := keepc hbr p0
    replace p1 := keepc hbr p1
    replace p2 := keepc hbr p2
    have zr : w.heap.size < wr.heap.size := by have := hbr.size; omega
    have hll := (fitsT_parts HFl.out).2.1
    by_cases hlt : d < N
    · cases hs : stoppedT ⟨dn, rules, stops⟩ l
      · have hsh : ¬ ((l.length : Int) < dn) := fun h => by
          rw [stoppedT_short (t := ⟨dn, rules, stops⟩) h] at hs
          cases hs
        have HSS := hid_ hs
        have HSH := hid_ hsh
        clear hs hsh
        go_wp2_with fail
        refine (rstopped_any ⟨dn, rules, stops⟩ l v2 v3 _ wr (HT.out.to hwr) HEl.out HFl.out).mono ?_
        rw [HSS.out]
        rintro e ws ⟨rfl, hbs⟩
        replace p0 := keepc hbs p0
        replace p1 := keepc hbs p1
        replace p2 := keepc hbs p2
        have hws := bnext hwr hbs
        go_wp2_with fail
        refine (rstep_any dn rules stops l v2 v3 _ ws (HT.out.to hws) (HEl.out.to hbs) HFl.out (by have := HSH.out; omega)).mono ?_
        rintro e wt ⟨v9, rfl, hE9, hb9⟩
        have HE9 := hid_ hE9
        clear hE9
        generalize hST : stepT ⟨dn, rules, stops⟩ l = L at HE9
        have HST := hid_ hST
        clear hST
        by_cases hbig : L.length ≤ 100000
        · rw [decide_eq_true hbig]
          rw [if_pos hbig] at HE9
          obtain ⟨A9, c9, rfl⟩ := HE9.out.form
          rw [ints_len] at HE9 ⊢
          go_wp2_with fail
          go_roundw
          case rel =>
            refine ⟨d + 1, L, A9, c9, by go_num, rfl, by omega, HE9, hid_ ?_, hid_ ?_, bnext (bnext hbr hbs) hb9⟩
            · rw [← HST.out]
              exact stepT_fits HFl.out HSS.out (by rw [HST.out]; omega)
            · rw [← HB.out, show N - d = (N - (d + 1)) + 1 by omega, runT_on HSS.out (by rw [HST.out]; omega), HST.out]
          case measure => simp [intOf]; omega
        · rw [decide_eq_false hbig]
          clear HE9
          go_wp2_with fail
          go_ret3
          rw [show runT ⟨dn, rules, stops⟩ N q = none by
            rw [← HB.out, show N - d = (N - d - 1) + 1 by omega, runT_big HSS.out (by rw [HST.out]; omega)]]
          exact ⟨_, rfl, Elems.nil _ _, bnext hws hb9⟩
      · have HSS := hid_ hs
        clear hs
        go_wp2_with fail
        refine (rstopped_any ⟨dn, rules, stops⟩ l v2 v3 _ wr (HT.out.to hwr) HEl.out HFl.out).mono ?_
        rw [HSS.out]
        rintro e ws ⟨rfl, hbs⟩
        go_wp2_with fail
        go_ret3
        rw [show runT ⟨dn, rules, stops⟩ N q = some (l, d) by rw [← HB.out, runT_stop HSS.out]]
        exact ⟨_, rfl, HEl.out.to hbs, bnext hwr hbs⟩
    · go_wp2_with fail
      go_ret3
      have hz : N - d = 0 := by omega
      have hdN : d = N := by omega
      rw [show runT ⟨dn, rules, stops⟩ N q = some (l, N) by rw [← HB.out, hz, runT_end, hdN]]
      exact ⟨_, rfl, HEl.out, hwr⟩
end Go.Proofs.Ytpnjffdjoacejaa

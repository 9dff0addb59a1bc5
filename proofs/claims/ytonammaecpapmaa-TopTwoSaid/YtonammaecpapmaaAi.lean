/- length; the writer's write. -/
import Derived.Test.YtonammaecpapmaaAh
namespace Go.Proofs.Ytonammaecpapmaa.Pp
open Go.RowKit

def lenI (i : InstS) : Nat := if i.op = 0 then primeN i.reg.toNat + 4 else if i.op = 1 then 3 * primeN i.reg.toNat + 4 else 1
def wrI (pts : List Int) (len : Nat) (i : InstS) : List InstS := if i.op = 0 then mulL len (primeN i.reg.toNat) (pts.getD i.next.toNat 0) else if i.op = 1 then divL len (primeN i.reg.toNat) (pts.getD i.next.toNat 0) (pts.getD i.zero.toNat 0) else [⟨2, 0, 0, 0⟩]
/-- An instruction of a machine with at most six registers and n instructions. -/
def okI (n : Nat) (i : InstS) : Prop := (i.op = 2) ∨ ((i.op = 0 ∨ i.op = 1) ∧ 0 ≤ i.reg ∧ i.reg < 6 ∧ 0 ≤ i.next ∧ i.next < n ∧ 0 ≤ i.zero ∧ i.zero < n)
set_option maxRecDepth 100000 in
set_option maxHeartbeats 4000000 in
theorem length_any (i : InstS) (n : Nat) (w : World) (hi : okI n i) : Calls Try.prog 14 #[.agg #[.int .i64 i.op, .int .i64 i.reg, .int .i64 i.next, .int .i64 i.zero]] w fun e w' => e = .returned (.int .i64 (lenI i : Int)) ∧ Below w.heap.size w w' := by
  obtain ⟨op, reg, next, zero⟩ := i
  have hbW := below1 w (.cells #[.int .i64 op, .int .i64 reg, .int .i64 next, .int .i64 zero] 48)
  have HB := hid_ (Blk.new w 48 #[.int .i64 op, .int .i64 reg, .int .i64 next, .int .i64 zero])
  rcases hi with h | ⟨h, h0, h6, _⟩
  · simp only at h
    subst h
    have HN : Hid (lenI ⟨2, reg, next, zero⟩ = 1) := hid_ (by simp [lenI])
    go_enter Try.func14, Try.ntmps14
    go_upto_region 1 with fail
    generalize w.alloc (.cells #[.int .i64 2, .int .i64 reg, .int .i64 next, .int .i64 zero] 48) = W at *
    have b0 := HB.out.cell 0
    simp at b0
    go_wp2_with fail
    go_ret
    exact ⟨by rw [HN.out]; rfl, hbW⟩
  · simp only at h h0 h6
    obtain ⟨R, rfl⟩ := Int.eq_ofNat_of_zero_le h0
    have hR : R < 6 := by omega
    obtain ⟨p, hp⟩ : ∃ p, p = primeN R := ⟨_, rfl⟩
    have hp2 : 2 ≤ p ∧ p ≤ 13 := by rw [hp]; exact primeN_le hR
    have KPR : Hid (∀ Y, Calls Try.prog 16 #[.int .i64 (R : Int)] Y fun e w' => e = .returned (.int .i64 (p : Int)) ∧ Y = w') := hid_ (fun Y => by rw [hp]; exact (prime_any R hR Y).mono (fun e w' h => ⟨h.1, h.2.symm⟩))
    have m1 : IntKind.i64.wrap ((p : Int) + 4) = (p : Int) + 4 := IntWalk.i64_in _ (by omega)
    have m2 : IntKind.i64.wrap (3 * (p : Int)) = 3 * (p : Int) := IntWalk.i64_in _ (by omega)
    have m3 : IntKind.i64.wrap (3 * (p : Int) + 4) = 3 * (p : Int) + 4 := IntWalk.i64_in _ (by omega)
    rcases h with rfl | rfl
    · have HN : Hid ((lenI ⟨0, (R : Int), next, zero⟩ : Int) = (p : Int) + 4) := hid_ (by simp [lenI, hp])
      clear hp
      go_enter Try.func14, Try.ntmps14
      go_upto_region 1 with fail
      generalize w.alloc (.cells #[.int .i64 0, .int .i64 (R : Int), .int .i64 next, .int .i64 zero] 48) = W at *
      have b0 := HB.out.cell 0
      have b1 := HB.out.cell 1
      simp at b0 b1
      go_wp2_with (go_at_call 16; (with_reducible refine (KPR.out _).mono ?_); rintro e _ ⟨rfl, rfl⟩)
      go_ret
      exact ⟨by rw [HN.out]; rfl, hbW⟩
    · have HN : Hid ((lenI ⟨1, (R : Int), next, zero⟩ : Int) = 3 * (p : Int) + 4) := hid_ (by simp [lenI, hp])
      clear hp
      go_enter Try.func14, Try.ntmps14
      go_upto_region 1 with fail
      generalize w.alloc (.cells #[.int .i64 1, .int .i64 (R : Int), .int .i64 next, .int .i64 zero] 48) = W at *
      have b0 := HB.out.cell 0
      have b1 := HB.out.cell 1
      simp at b0 b1
      go_wp2_with (go_at_call 16; (with_reducible refine (KPR.out _).mono ?_); rintro e _ ⟨rfl, rfl⟩)
      go_ret
      exact ⟨by rw [HN.out]; rfl, hbW⟩

theorem wat_cells {g B gp n c : Nat} {cv : Value} {pts : List Int} {code : List InstS} {w : World} {a b : Nat} {x y : Int} (h : WAt g B (.slice (some ⟨gp, 0, none⟩) n c) cv pts code w) (ha : pts[a]? = some x) (hb : pts[b]? = some y) :
    w.cell? ⟨g, 0, none⟩ = some (.slice (some ⟨gp, 0, none⟩) n c) ∧ w.cell? ⟨gp, a, none⟩ = some (.int .i64 x) ∧ w.cell? ⟨gp, b, none⟩ = some (.int .i64 y) := by
  have hn : n = pts.length := by
    obtain ⟨A', c', e⟩ := own_form h.pts
    simp only [Value.slice.injEq] at e
    exact e.2.1
  subst hn
  have k0 := h.box.cell 0
  simp at k0
  obtain ⟨b', o', e, _, hc⟩ := (own_elems h.pts).at_ (by have := (List.getElem?_eq_some_iff.1 ha).1; omega)
  simp only [Option.some.injEq, Addr.mk.injEq, and_true] at e
  obtain ⟨rfl, rfl⟩ := e
  have i1 := hc a _ (ints_at ha)
  have i2 := hc b _ (ints_at hb)
  rw [Nat.zero_add] at i1 i2
  exact ⟨k0, i1, i2⟩

set_option maxRecDepth 100000 in
set_option maxHeartbeats 8000000 in
theorem write_inc (R NX ZR : Nat) (g B : Nat) (pv cv : Value) (pts : List Int) (code : List InstS) (w : World) (h : WAt g B pv cv pts code w) (hR : R < 6) (h1 : NX < pts.length) (h2 : ZR < pts.length) (hlp : pts.length ≤ 100000) (hl : code.length ≤ 9000) :
    Calls Try.prog 15 #[.pointer (some ⟨g, 0, none⟩), .agg #[.int .i64 0, .int .i64 (R : Int), .int .i64 (NX : Int), .int .i64 (ZR : Int)]] w (EmRan g B pv cv pts (code ++ wrI pts code.length ⟨0, (R : Int), (NX : Int), (ZR : Int)⟩) w) := by
  obtain ⟨p, hp⟩ : ∃ p, p = primeN R := ⟨_, rfl⟩
  have hp2 : 2 ≤ p ∧ p ≤ 13 := by rw [hp]; exact primeN_le hR
  obtain ⟨nx, hnx⟩ : ∃ x, pts[NX]? = some x := ⟨_, List.getElem?_eq_getElem h1⟩
  obtain ⟨zr, hzr⟩ : ∃ x, pts[ZR]? = some x := ⟨_, List.getElem?_eq_getElem h2⟩
  have hw1 := below1 w (.cells #[.int .i64 0, .int .i64 (R : Int), .int .i64 (NX : Int), .int .i64 (ZR : Int)] 48)
  have HW := hid_ (h.to hw1)
  have HB := hid_ (Blk.new w 48 #[.int .i64 0, .int .i64 (R : Int), .int .i64 (NX : Int), .int .i64 (ZR : Int)])
  have HKw := hid_ (Kw.of (g := g) (c := cv) hw1)
  obtain ⟨A, c, hv9⟩ := own_form h.pts
  subst hv9
  obtain ⟨gp, hgp, hgB⟩ := own_addr h.pts (by omega)
  subst hgp
  have hEl := own_elems HW.out.pts
  have HEQ : Hid (code ++ mulL code.length p nx = code ++ wrI pts code.length ⟨0, (R : Int), (NX : Int), (ZR : Int)⟩) := hid_ (by
    have e1 : pts.getD NX 0 = nx := by rw [List.getD_eq_getElem?_getD, hnx]; rfl
    have e2 : pts.getD ZR 0 = zr := by rw [List.getD_eq_getElem?_getD, hzr]; rfl
    rw [wrI, if_pos rfl]; simp only [Int.toNat_natCast]; rw [e1, hp])
  have KPR : Hid (∀ Y, Calls Try.prog 16 #[.int .i64 (R : Int)] Y fun e w' => e = .returned (.int .i64 (p : Int)) ∧ Y = w') := hid_ (fun Y => by rw [hp]; exact (prime_any R hR Y).mono (fun e w' h => ⟨h.1, h.2.symm⟩))
  have KCA : Hid (∀ Y cv, WAt g B (.slice (some ⟨gp, 0, none⟩) pts.length c) cv pts code Y → Calls Try.prog 33 #[.pointer (some ⟨g, 0, none⟩), .int .i64 (p : Int), .int .i64 nx] Y (EmRan g B (.slice (some ⟨gp, 0, none⟩) pts.length c) cv pts (code ++ wrI pts code.length ⟨0, (R : Int), (NX : Int), (ZR : Int)⟩) Y)) := hid_ (fun Y cv h => by rw [← HEQ.out]; exact multiply_any p nx g B _ cv pts code Y h (by omega))
  go_enter Try.func15, Try.ntmps15
  go_upto_region 1 with fail
  generalize w.alloc (.cells #[.int .i64 0, .int .i64 (R : Int), .int .i64 (NX : Int), .int .i64 (ZR : Int)] 48) = W at *
  obtain ⟨bb, oo, hbo, _, hc⟩ := hEl.at_ (by omega)
  simp only [Option.some.injEq, Addr.mk.injEq, and_true] at hbo
  obtain ⟨rfl, rfl⟩ := hbo
  have i1 := hc NX _ (ints_at hnx)
  have i2 := hc ZR _ (ints_at hzr)
  rw [Nat.zero_add] at i1 i2
  have t0 : 0 ≤ (NX : Int) := by omega
  have t1 : 0 ≤ (ZR : Int) := by omega
  have b0 := HB.out.cell 0
  have b1 := HB.out.cell 1
  have b2 := HB.out.cell 2
  have b3 := HB.out.cell 3
  have k0 := HW.out.box.cell 0
  simp at b0 b1 b2 b3 k0
  have HNX := hid_ hnx
  have HNG : Hid (w.heap.size ≠ g) := hid_ (by have := h.lt; have := h.le; omega)
  have HNC : Hid (cv.ownBlock ≠ some w.heap.size) := hid_ (fun e => by have := (h.code.lt _ e).2; omega)
  have HZR := hid_ hzr
  have HWD : Hid (WAt g B (.slice (some ⟨gp, 0, none⟩) pts.length c) cv pts code W.drew) := hid_ (HW.out.to (Below.refl _ _).drew)
  clear h hEl hc hnx hzr hp hw1
  go_upto_region 4 with fail
  go_region_held3 (fun w' => w'.cell? ⟨w.heap.size, 1, none⟩ = some (.int .i64 (R : Int)) ∧ w'.cell? ⟨w.heap.size, 2, none⟩ = some (.int .i64 (NX : Int)) ∧ w'.cell? ⟨w.heap.size, 3, none⟩ = some (.int .i64 (ZR : Int)) ∧ w'.cell? ⟨g, 0, none⟩ = some (.slice (some ⟨gp, 0, none⟩) pts.length c) ∧ w'.cell? ⟨gp, NX, none⟩ = some (.int .i64 nx) ∧ w'.cell? ⟨gp, ZR, none⟩ = some (.int .i64 zr))
    (first
      | (with_reducible assumption)
      | (with_reducible exact HS.out)
      | exact ⟨b1, b2, b3, k0, i1, i2⟩)
    (first
      | (go_at_call 16; (with_reducible refine (KPR.out _).mono ?_); rintro e _ ⟨rfl, rfl⟩)
      | (go_at_call 33; (with_reducible refine (KCA.out _ _ HWD.out).mono ?_); rintro e x1 ⟨rfl, cv1, hw1, hk1⟩; have hbi := hk1.blk (b := w.heap.size) (t := 48) (cs := #[.int .i64 0, .int .i64 (R : Int), .int .i64 (NX : Int), .int .i64 (ZR : Int)]) HB.out HNG.out HNC.out; have y1 := hbi.cell 1; have y2 := hbi.cell 2; have y3 := hbi.cell 3; simp at y1 y2 y3; obtain ⟨y4, y5, y6⟩ := wat_cells hw1 HNX.out HZR.out; have HS := hid_ (And.intro y1 (And.intro y2 (And.intro y3 (And.intro y4 (And.intro y5 y6))))); clear hbi y1 y2 y3 y4 y5 y6; have HX := hid_ (And.intro hw1 hk1); clear hw1 hk1))
  all_goals
    go_wp2_with fail
    refine bodyPost_ret (v := .tuple #[]) (by simp [results, Try.results15, go_sem]) rfl ?_
    exact ⟨rfl, cv1, HX.out.1, HKw.out.trans ((Kw.refl g cv _).drew.trans HX.out.2)⟩

set_option maxRecDepth 100000 in
set_option maxHeartbeats 4000000 in
theorem write_halt (reg next zero : Int) (g B : Nat) (pv cv : Value) (pts : List Int) (code : List InstS) (w : World) (h : WAt g B pv cv pts code w) (hl : code.length ≤ 9000) :
    Calls Try.prog 15 #[.pointer (some ⟨g, 0, none⟩), .agg #[.int .i64 2, .int .i64 reg, .int .i64 next, .int .i64 zero]] w (EmRan g B pv cv pts (code ++ wrI pts code.length ⟨2, reg, next, zero⟩) w) := by
  have hw1 := below1 w (.cells #[.int .i64 2, .int .i64 reg, .int .i64 next, .int .i64 zero] 48)
  have HW := hid_ (h.to hw1)
  have HB := hid_ (Blk.new w 48 #[.int .i64 2, .int .i64 reg, .int .i64 next, .int .i64 zero])
  have HKw := hid_ (Kw.of (g := g) (c := cv) hw1)
  have HEQ : Hid (code ++ [(⟨2, 0, 0, 0⟩ : InstS)] = code ++ wrI pts code.length ⟨2, reg, next, zero⟩) := hid_ (by rw [wrI, if_neg (show ¬ (2 : Int) = 0 by decide), if_neg (show ¬ (2 : Int) = 1 by decide)])
  clear h hw1
  go_enter Try.func15, Try.ntmps15
  go_upto_region 1 with fail
  generalize w.alloc (.cells #[.int .i64 2, .int .i64 reg, .int .i64 next, .int .i64 zero] 48) = W at *
  have b0 := HB.out.cell 0
  simp at b0
  go_wp2_with (go_at_call 35; (with_reducible refine (emit_new ⟨2, 0, 0, 0⟩ g B pv _ pts code W HW.out (by omega)).mono ?_); rintro e x1 ⟨rfl, cv1, hw1, hk1⟩; rw [HEQ.out] at hw1; have HX := hid_ (And.intro hw1 hk1); clear hw1 hk1)
  refine bodyPost_ret (v := .tuple #[]) (by simp [results, Try.results15, go_sem]) rfl ?_
  exact ⟨rfl, cv1, HX.out.1, HKw.out.trans HX.out.2⟩
end Go.Proofs.Ytonammaecpapmaa.Pp

/- The writer's write, at a Dec. -/
import Derived.Test.YtonammaecpapmaaAi
namespace Go.Proofs.Ytonammaecpapmaa.Pp
open Go.RowKit


set_option maxRecDepth 100000 in
set_option maxHeartbeats 8000000 in
theorem write_dec (R NX ZR : Nat) (g B : Nat) (pv cv : Value) (pts : List Int) (code : List InstS) (w : World) (h : WAt g B pv cv pts code w) (hR : R < 6) (h1 : NX < pts.length) (h2 : ZR < pts.length) (hlp : pts.length ≤ 100000) (hl : code.length ≤ 9000) :
    Calls Try.prog 15 #[.pointer (some ⟨g, 0, none⟩), .agg #[.int .i64 1, .int .i64 (R : Int), .int .i64 (NX : Int), .int .i64 (ZR : Int)]] w (EmRan g B pv cv pts (code ++ wrI pts code.length ⟨1, (R : Int), (NX : Int), (ZR : Int)⟩) w) := by
  obtain ⟨p, hp⟩ : ∃ p, p = primeN R := ⟨_, rfl⟩
  have hp2 : 2 ≤ p ∧ p ≤ 13 := by rw [hp]; exact primeN_le hR
  obtain ⟨nx, hnx⟩ : ∃ x, pts[NX]? = some x := ⟨_, List.getElem?_eq_getElem h1⟩
  obtain ⟨zr, hzr⟩ : ∃ x, pts[ZR]? = some x := ⟨_, List.getElem?_eq_getElem h2⟩
  have hw1 := below1 w (.cells #[.int .i64 1, .int .i64 (R : Int), .int .i64 (NX : Int), .int .i64 (ZR : Int)] 48)
  have HW := hid_ (h.to hw1)
  have HB := hid_ (Blk.new w 48 #[.int .i64 1, .int .i64 (R : Int), .int .i64 (NX : Int), .int .i64 (ZR : Int)])
  have HKw := hid_ (Kw.of (g := g) (c := cv) hw1)
  obtain ⟨A, c, hv9⟩ := own_form h.pts
  subst hv9
  obtain ⟨gp, hgp, hgB⟩ := own_addr h.pts (by omega)
  subst hgp
  have hEl := own_elems HW.out.pts
  have HEQ : Hid (code ++ divL code.length p nx zr = code ++ wrI pts code.length ⟨1, (R : Int), (NX : Int), (ZR : Int)⟩) := hid_ (by
    have e1 : pts.getD NX 0 = nx := by rw [List.getD_eq_getElem?_getD, hnx]; rfl
    have e2 : pts.getD ZR 0 = zr := by rw [List.getD_eq_getElem?_getD, hzr]; rfl
    rw [wrI, if_neg (show ¬ (1 : Int) = 0 by decide), if_pos rfl]; simp only [Int.toNat_natCast]; rw [e1, e2, hp])
  have KPR : Hid (∀ Y, Calls Try.prog 16 #[.int .i64 (R : Int)] Y fun e w' => e = .returned (.int .i64 (p : Int)) ∧ Y = w') := hid_ (fun Y => by rw [hp]; exact (prime_any R hR Y).mono (fun e w' h => ⟨h.1, h.2.symm⟩))
  have KCA : Hid (∀ Y cv, WAt g B (.slice (some ⟨gp, 0, none⟩) pts.length c) cv pts code Y → Calls Try.prog 34 #[.pointer (some ⟨g, 0, none⟩), .int .i64 (p : Int), .int .i64 nx, .int .i64 zr] Y (EmRan g B (.slice (some ⟨gp, 0, none⟩) pts.length c) cv pts (code ++ wrI pts code.length ⟨1, (R : Int), (NX : Int), (ZR : Int)⟩) Y)) := hid_ (fun Y cv h => by rw [← HEQ.out]; exact divide_any p nx zr g B _ cv pts code Y h (by omega) (by omega))
  go_enter Try.func15, Try.ntmps15
  go_upto_region 1 with fail
  generalize w.alloc (.cells #[.int .i64 1, .int .i64 (R : Int), .int .i64 (NX : Int), .int .i64 (ZR : Int)] 48) = W at *
  obtain ⟨bb, oo, hbo, _, hc⟩ := hEl.at_ (by omega)
  simp only [Option.some.injEq, Addr.mk.injEq, and_true] at hbo
  obtain ⟨rfl, rfl⟩ := hbo
  have i1 := hc NX _ (ints_at hnx)
  have i2 := hc ZR _ (ints_at hzr)
  rw [Nat.zero_add] at i1 i2
  have t0 : 0 ≤ (NX : Int) := by omega
  have t1 : 0 ≤ (ZR : Int) := by omega
  have b0 := HB.out.cell 0
  have b1 := HB.out.cell 1
  have b2 := HB.out.cell 2
  have b3 := HB.out.cell 3
  have k0 := HW.out.box.cell 0
  simp at b0 b1 b2 b3 k0
  have HNX := hid_ hnx
  have HNG : Hid (w.heap.size ≠ g) := hid_ (by have := h.lt; have := h.le; omega)
  have HNC : Hid (cv.ownBlock ≠ some w.heap.size) := hid_ (fun e => by have := (h.code.lt _ e).2; omega)
  have HZR := hid_ hzr
  have HWD : Hid (WAt g B (.slice (some ⟨gp, 0, none⟩) pts.length c) cv pts code W.drew) := hid_ (HW.out.to (Below.refl _ _).drew)
  clear h hEl hc hnx hzr hp hw1
  go_upto_region 6 with fail
  go_region_held3 (fun w' => w'.cell? ⟨w.heap.size, 1, none⟩ = some (.int .i64 (R : Int)) ∧ w'.cell? ⟨w.heap.size, 2, none⟩ = some (.int .i64 (NX : Int)) ∧ w'.cell? ⟨w.heap.size, 3, none⟩ = some (.int .i64 (ZR : Int)) ∧ w'.cell? ⟨g, 0, none⟩ = some (.slice (some ⟨gp, 0, none⟩) pts.length c) ∧ w'.cell? ⟨gp, NX, none⟩ = some (.int .i64 nx) ∧ w'.cell? ⟨gp, ZR, none⟩ = some (.int .i64 zr))
    (first
      | (with_reducible assumption)
      | (with_reducible exact HS.out)
      | exact ⟨b1, b2, b3, k0, i1, i2⟩)
    (first
      | (go_at_call 16; (with_reducible refine (KPR.out _).mono ?_); rintro e _ ⟨rfl, rfl⟩)
      | (go_at_call 34; (with_reducible refine (KCA.out _ _ HWD.out).mono ?_); rintro e x1 ⟨rfl, cv1, hw1, hk1⟩; have hbi := hk1.blk (b := w.heap.size) (t := 48) (cs := #[.int .i64 1, .int .i64 (R : Int), .int .i64 (NX : Int), .int .i64 (ZR : Int)]) HB.out HNG.out HNC.out; have y1 := hbi.cell 1; have y2 := hbi.cell 2; have y3 := hbi.cell 3; simp at y1 y2 y3; obtain ⟨y4, y5, y6⟩ := wat_cells hw1 HNX.out HZR.out; have HS := hid_ (And.intro y1 (And.intro y2 (And.intro y3 (And.intro y4 (And.intro y5 y6))))); clear hbi y1 y2 y3 y4 y5 y6; have HX := hid_ (And.intro hw1 hk1); clear hw1 hk1))
  all_goals
    go_wp2_with fail
    refine bodyPost_ret (v := .tuple #[]) (by simp [results, Try.results15, go_sem]) rfl ?_
    exact ⟨rfl, cv1, HX.out.1, HKw.out.trans ((Kw.refl g cv _).drew.trans HX.out.2)⟩
theorem write_any (i : InstS) (g B : Nat) (pv cv : Value) (pts : List Int) (code : List InstS) (w : World) (h : WAt g B pv cv pts code w) (hi : okI pts.length i) (hlp : pts.length ≤ 100000) (hl : code.length ≤ 9000) :
    Calls Try.prog 15 #[.pointer (some ⟨g, 0, none⟩), .agg #[.int .i64 i.op, .int .i64 i.reg, .int .i64 i.next, .int .i64 i.zero]] w (EmRan g B pv cv pts (code ++ wrI pts code.length i) w) := by
  obtain ⟨op, reg, next, zero⟩ := i
  rcases hi with h0 | ⟨h0, h1, h2, h3, h4, h5, h6⟩
  · simp only at h0
    subst h0
    exact write_halt reg next zero g B pv cv pts code w h hl
  · simp only at h0 h1 h2 h3 h4 h5 h6
    obtain ⟨R, rfl⟩ := Int.eq_ofNat_of_zero_le h1
    obtain ⟨NX, rfl⟩ := Int.eq_ofNat_of_zero_le h3
    obtain ⟨ZR, rfl⟩ := Int.eq_ofNat_of_zero_le h5
    rcases h0 with rfl | rfl
    · exact write_inc R NX ZR g B pv cv pts code w h (by omega) (by omega) (by omega) hlp hl
    · exact write_dec R NX ZR g B pv cv pts code w h (by omega) (by omega) (by omega) hlp hl
end Go.Proofs.Ytonammaecpapmaa.Pp

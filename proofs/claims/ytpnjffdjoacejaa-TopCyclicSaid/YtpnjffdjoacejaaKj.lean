/- Contracts: stopped, Run of package tag. -/
import Derived.Test.YtpnjffdjoacejaaKi
namespace Go.Proofs.Ytpnjffdjoacejaa
open Go.RowKit

theorem QAt.dN {w : World} {B go : Nat} {l : List Int} (h : QAt w B go l) (n : Nat) : QAt (w.drewN n) B go l := h
theorem QAt.to {w w' : World} {B go : Nat} {l : List Int} (h : QAt w B go l) (hb : Below w.heap.size w w') : QAt w' B go l := by
  obtain ⟨v, n, f, items, hbx, hown, r⟩ := h
  exact ⟨v, n, f, items, hbx.to hb, own_below hown hb, r⟩
theorem QAt.go_le {w : World} {B go : Nat} {l : List Int} (h : QAt w B go l) : B ≤ go ∧ go < w.heap.size := by
  obtain ⟨v, n, f, items, hbx, hown, h2f, _, hB, hne⟩ := h
  exact ⟨hB, hbx.lt⟩

set_option maxRecDepth 100000 in
set_option maxHeartbeats 1000000 in
theorem stopped_any (t : TagS) (l : List Int) (v2 v3 : Value) (B go : Nat) (w : World) (ht : TagIn w w.heap.size v2 v3 t) (hq : QAt w B go l) (hf : fitsT t l = true) :
    Calls Try.prog 47 #[.agg #[.int .i64 t.del, v2, v3], .pointer (some ⟨go, 0, none⟩)] w fun e w' => e = .returned (.bool (stoppedT t l)) ∧ Below w.heap.size w w' := by
  obtain ⟨hv, hlen, _⟩ := fitsT_parts hf
  have hl : l.length ≤ 2000000 := by omega
  obtain ⟨A3, c3, rfl⟩ := ht.stops.form
  have HS := hid_ ht.stops
  rw [bools_len] at HS ⊢
  have HQ : Hid (∀ o n, QAt ((w.alloc o).drewN n) B go l) := hid_ (fun o n => (hq.to (below1 w o)).dN n)
  by_cases hs : (l.length : Int) < t.del
  · rw [stoppedT_short hs]
    have hd : decide ((l.length : Int) < t.del) = true := decide_eq_true hs
    clear ht hq hf hv hlen
    go_enter Try.func47, Try.ntmps47
    go_wp2_with fail
    go_quiet ((go_at_call 52; exact Calls.quiet_of (qlen_any l B go _ (HQ.out _ _) hl)))
    go_wp2_with fail
    go_ret
    exact ⟨rfl, below_drewN (below1 w _) _⟩
  · obtain ⟨j, r, b, hj, hjr, hr, hb⟩ := head_get hf hs
    rw [stoppedT_eq hj hs hb]
    have hd : decide ((l.length : Int) < t.del) = false := decide_eq_false hs
    have hjs : j < t.stops.length := (List.getElem?_eq_some_iff.1 hb).1
    obtain ⟨b3, o3, rfl, hb3, hc3⟩ := HS.out.at_ (by omega)
    have i3 := hc3 j _ (bools_at hb)
    have HJ := hid_ hj
    have t1 : 0 ≤ (j : Int) := by omega
    have t2 : (j : Int) < t.stops.length := by omega
    clear ht hq hf hv hlen hj hr hb hc3
    go_enter Try.func47, Try.ntmps47
    go_wp2_with fail
    go_quiet ((first
      | (go_at_call 52; exact Calls.quiet_of (qlen_any l B go _ (HQ.out _ _) hl))
      | (go_at_call 50; exact Calls.quiet_of (qfront_any l (j : Int) B go _ (HQ.out _ _) hl HJ.out))))
    go_wp2_with fail
    go_ret
    exact ⟨rfl, below_drewN (below1 w _) _⟩
end Go.Proofs.Ytpnjffdjoacejaa

/- Plain mathematics: what Parse returns, of the program and of the specification. -/
import Derived.Test.YtkbaiegfloajlaaDoorZa
import Derived.Test.YtkbaiegfloajlaaDoorYd
namespace Go.Proofs.YtkbaiegfloajlaaDoor.Tp
open Go.RowKit Go.Lib

theorem textTo_jn (rows : List (List RuleS)) : ∀ k, k ≤ rows.length → textTo rows k = jn ((rows.take k).map rowText)
  | 0, _ => rfl
  | k + 1, hk => by
    have ih := textTo_jn rows k (by omega)
    obtain ⟨r, hr⟩ : ∃ r, rows[k]? = some r := ⟨_, List.getElem?_eq_getElem (by omega)⟩
    have hsn : ∀ (L : List (List UInt8)) (a : List UInt8), L ≠ [] → jn (L ++ [a]) = jn L ++ 95 :: a := fun L a => by
      induction L with
      | nil => intro h; exact absurd rfl h
      | cons b l ihl =>
        intro _
        cases l with
        | nil => rfl
        | cons c l' =>
          have h2 := ihl (by simp)
          rw [List.cons_append, jn_cons (a := b) (L := c :: l' ++ [a]) (by simp), h2, jn_cons (a := b) (L := c :: l') (by simp)]
          simp
    have hg : rows.getD k [] = r := by rw [List.getD_eq_getElem?_getD, hr]; rfl
    rw [textTo, ih, hg, List.take_add_one, hr, List.map_append]
    cases k with
    | zero => simp [sepText, jn]
    | succ k =>
      have hne : (rows.take (k + 1)).map rowText ≠ [] := by
        intro h
        have := congrArg List.length h
        rw [List.length_map, List.length_take, List.length_nil] at this
        omega
      show _ = jn (_ ++ [rowText r])
      rw [hsn _ _ hne]
      simp [sepText]
theorem textM_jn (m : MachS) : textM m = jn (m.rules.map rowText) := by
  rw [textM, textTo_jn _ _ (Nat.le_refl _), List.take_length]
theorem valid_rules {m : MachS} (hv : validM m = true) : ∀ row ∈ m.rules, ∀ r ∈ row, 0 ≤ r.w ∧ r.w < 4 ∧ (r.m = -1 ∨ r.m = 1) ∧ -1 ≤ r.n ∧ r.n < 6 := by
  intro row h1 r h2
  obtain ⟨v1, v2, v3, v4, v5, v6⟩ := validM_parts hv
  have hb := (List.all_eq_true.1 v6) _ h1
  simp only [rowB, Bool.and_eq_true, decide_eq_true_eq] at hb
  have hr := (List.all_eq_true.1 hb.2) _ h2
  obtain ⟨g1, g2, g3, g4, g5⟩ := ruleB_yes.1 hr
  exact ⟨g1, by omega, g5, g3, by omega⟩
theorem valid_rows {m : MachS} (hv : validM m = true) : ∀ row ∈ m.rules, (row.length : Int) = m.symbols := by
  intro row h1
  obtain ⟨v1, v2, v3, v4, v5, v6⟩ := validM_parts hv
  have hb := (List.all_eq_true.1 v6) _ h1
  simp only [rowB, Bool.and_eq_true, decide_eq_true_eq] at hb
  exact hb.1
/-- What Parse builds of the parts of a text. -/
def machP (ps : List (List UInt8)) : MachS := ⟨ps.length, ((ps.map chunksL).headD []).length, ps.map chunksL⟩
def goodP (ps : List (List UInt8)) : Bool := ps.all fun p => decide (p.length % 3 = 0)
def parseC (s : List UInt8) : MachS × Int := if 78 < s.length then (noM, 3) else if goodP (spl s) = true ∧ validM (machP (spl s)) = true then (machP (spl s), 0) else (noM, 3)
theorem machP_valid {m : MachS} (hv : validM m = true) : machP (m.rules.map rowText) = m := by
  have hr := valid_rules hv
  have e : (m.rules.map rowText).map chunksL = m.rules := by
    rw [List.map_map]
    conv => rhs; rw [← List.map_id m.rules]
    exact List.map_congr_left fun row h => chunks_row row (hr row h)
  obtain ⟨v1, v2, v3, v4, v5, v6⟩ := validM_parts hv
  unfold machP
  rw [e]
  obtain ⟨S, X, rules⟩ := m
  simp only at e v1 v2 v3 v4 v5 ⊢
  simp only [MachS.mk.injEq, and_true]
  refine ⟨by rw [List.length_map]; omega, ?_⟩
  cases rules with
  | nil => simp at v5; omega
  | cons r l => exact valid_rows hv r (by simp)
theorem rowText_no {row : List RuleS} (h : ∀ r ∈ row, 0 ≤ r.w ∧ r.w < 4 ∧ (r.m = -1 ∨ r.m = 1) ∧ -1 ≤ r.n ∧ r.n < 6) : ∀ x ∈ rowText row, x ≠ (95 : UInt8) := by
  intro x hx
  rw [rowText, List.mem_flatMap] at hx
  obtain ⟨r, hr, hx⟩ := hx
  obtain ⟨h1, h2, h3, h4, h5⟩ := h r hr
  intro he
  subst he
  simp only [ruleText, List.mem_cons, List.not_mem_nil, or_false] at hx
  rcases hx with hx | hx | hx
  · have := congrArg UInt8.toNat hx
    rw [ofNat_to (by omega)] at this
    simp at this
    omega
  · split at hx <;> simp at hx
  · split at hx
    · simp at hx
    · have := congrArg UInt8.toNat hx
      rw [ofNat_to (by omega)] at this
      simp at this
      omega
theorem spl_text {m : MachS} (hv : validM m = true) : spl (textM m) = m.rules.map rowText := by
  rw [textM_jn]
  obtain ⟨v1, v2, v3, v4, v5, v6⟩ := validM_parts hv
  refine spl_jn _ (fun h => ?_) (fun p hp => ?_)
  · have := congrArg List.length h
    rw [List.length_map] at this
    simp at this
    rw [this] at v5
    simp at v5
    omega
  · obtain ⟨row, h1, rfl⟩ := List.mem_map.1 hp
    exact rowText_no (valid_rules hv row h1)
theorem parse_text {m : MachS} (hv : validM m = true) : parseC (textM m) = (m, 0) := by
  obtain ⟨v1, v2, v3, v4, v5, v6⟩ := validM_parts hv
  have hl : (textM m).length ≤ 78 := by
    have := textTo_len (rows := m.rules) (n := 4) (fun r hr => by have := valid_rows hv r hr; omega) m.rules.length
    rw [textM]
    have h6 : m.rules.length ≤ 6 := by omega
    have h13 : m.rules.length * (1 + 3 * 4) ≤ 6 * 13 := Nat.mul_le_mul h6 (by decide)
    omega
  have hg : goodP (m.rules.map rowText) = true := by
    rw [goodP, List.all_eq_true]
    intro p hp
    obtain ⟨row, h1, rfl⟩ := List.mem_map.1 hp
    rw [rowText_len, decide_eq_true_eq]
    omega
  rw [parseC, if_neg (by omega), spl_text hv, machP_valid hv, if_pos ⟨hg, hv⟩]
theorem text_parse {s : List UInt8} {m : MachS} (h : parseC s = (m, 0)) : validM m = true ∧ textM m = s := by
  unfold parseC at h
  split at h
  · simp at h
  · split at h
    · next h2 =>
      obtain ⟨hg, hv⟩ := h2
      simp only [Prod.mk.injEq, and_true] at h
      subst h
      refine ⟨hv, ?_⟩
      rw [textM_jn]
      have e : (machP (spl s)).rules.map rowText = spl s := by
        show ((spl s).map chunksL).map rowText = _
        rw [List.map_map]
        conv => rhs; rw [← List.map_id (spl s)]
        refine List.map_congr_left fun p hp => ?_
        have h3 := (List.all_eq_true.1 hg) p hp
        rw [decide_eq_true_eq] at h3
        exact row_chunks (p.length / 3) p (by omega) (valid_rules hv (chunksL p) (List.mem_map_of_mem hp))
      rw [e, jn_spl]
    · simp at h
/-- A rule of three bytes, as the specification reads it. -/
def ruleQ (x y z : UInt8) : RuleS := ⟨(x.toNat : Int) - 48, if y.toNat = 76 then -1 else 1, if z.toNat = 90 then -1 else (z.toNat : Int) - 65⟩
def rb (rows : List (List RuleS)) (row : List RuleS) : List UInt8 → List (List RuleS) × List RuleS
  | x :: y :: z :: l => if x = 95 then (match l with
    | [] => (rows ++ [row], [])
    | u :: l' => rb (rows ++ [row]) [ruleQ y z u] l') else rb rows (row ++ [ruleQ x y z]) l
  | _ => (rows, row)
theorem rb_cons {rows : List (List RuleS)} {row : List RuleS} {x y z : UInt8} {l : List UInt8} (h : x ≠ 95) : rb rows row (x :: y :: z :: l) = rb rows (row ++ [ruleQ x y z]) l := by
  rw [rb.eq_def]
  simp only
  rw [if_neg h]
theorem rb_sep1 {rows : List (List RuleS)} {row : List RuleS} {y z : UInt8} : rb rows row [95, y, z] = (rows ++ [row], []) := by
  rw [rb.eq_def]
  simp only
  rw [if_pos trivial]
theorem rb_sep {rows : List (List RuleS)} {row : List RuleS} {y z u : UInt8} {l : List UInt8} : rb rows row (95 :: y :: z :: u :: l) = rb (rows ++ [row]) [ruleQ y z u] l := by
  rw [rb.eq_def]
  simp only
  rw [if_pos trivial]
theorem rb_end {rows : List (List RuleS)} {row : List RuleS} {l : List UInt8} (h : l.length < 3) : rb rows row l = (rows, row) := by
  match l, h with
  | [], _ => rfl
  | [_], _ => rfl
  | [_, _], _ => rfl
  | _ :: _ :: _ :: _, h => simp at h; omega
def rbM (s : List UInt8) : MachS :=
  let q := if s.length ≤ 200 then rb [] [] s else ([], [])
  ⟨(q.1.length : Int) + 1, q.2.length, q.1 ++ [q.2]⟩
def rparseO (s : List UInt8) : Option MachS := if validM (rbM s) = true ∧ textM (rbM s) = s then some (rbM s) else none
theorem ruleQ_valid {r : RuleS} (h : 0 ≤ r.w ∧ r.w < 4 ∧ (r.m = -1 ∨ r.m = 1) ∧ -1 ≤ r.n ∧ r.n < 6) : ∃ x y z, ruleText r = [x, y, z] ∧ ruleQ x y z = r ∧ x ≠ 95 := by
  obtain ⟨h1, h2, h3, h4, h5⟩ := h
  obtain ⟨w, m, n⟩ := r
  simp only at h1 h2 h3 h4 h5
  obtain ⟨W, rfl⟩ := Int.eq_ofNat_of_zero_le h1
  refine ⟨_, _, _, rfl, ?_, fun e => ?_⟩
  · have e1 : ((UInt8.ofNat (48 + W)).toNat : Int) - 48 = W := by rw [ofNat_to (by omega)]; omega
    unfold ruleQ
    simp only [Int.toNat_natCast, e1, RuleS.mk.injEq, true_and]
    constructor
    · rcases h3 with rfl | rfl <;> simp
    · by_cases hn : n = -1
      · subst hn; simp
      · obtain ⟨N, rfl⟩ := Int.eq_ofNat_of_zero_le (show 0 ≤ n by omega)
        rw [if_neg hn, Int.toNat_natCast, ofNat_to (by omega), if_neg (by omega)]
        omega
  · have := congrArg UInt8.toNat e
    simp only [Int.toNat_natCast] at this
    rw [ofNat_to (by omega)] at this
    simp at this
    omega
theorem rb_row (rest : List UInt8) : ∀ (rs : List RuleS) (rows : List (List RuleS)) (row : List RuleS), (∀ r ∈ rs, 0 ≤ r.w ∧ r.w < 4 ∧ (r.m = -1 ∨ r.m = 1) ∧ -1 ≤ r.n ∧ r.n < 6) → rb rows row (rowText rs ++ rest) = rb rows (row ++ rs) rest
  | [], rows, row, _ => by simp [rowText]
  | r :: rs, rows, row, h => by
    obtain ⟨x, y, z, h1, h2, h3⟩ := ruleQ_valid (h r (by simp))
    have ih := rb_row rest rs rows (row ++ [r]) (fun r hr => h r (by simp [hr]))
    rw [rowText, List.flatMap_cons, h1]
    show rb rows row (x :: y :: z :: (rowText rs ++ rest)) = _
    rw [rb_cons h3, h2, ih, List.append_assoc]
    rfl
theorem rb_rows : ∀ (L : List (List RuleS)) (r : List RuleS) (rows : List (List RuleS)) (row : List RuleS), (∀ row ∈ r :: L, ∀ r ∈ row, 0 ≤ r.w ∧ r.w < 4 ∧ (r.m = -1 ∨ r.m = 1) ∧ -1 ≤ r.n ∧ r.n < 6) → (∀ row ∈ L, row ≠ []) →
    (let q := rb rows row (jn ((r :: L).map rowText)); q.1 ++ [q.2]) = rows ++ (row ++ r) :: L
  | [], r, rows, row, h, _ => by
    have := rb_row [] r rows row (h r (by simp))
    rw [List.append_nil] at this
    show (let q := rb rows row (rowText r); q.1 ++ [q.2]) = _
    rw [this]
    rfl
  | r2 :: L, r, rows, row, h, hne => by
    rw [List.map_cons, jn_cons (by simp), rb_row _ r rows row (h r (by simp))]
    cases hr2 : r2 with
    | nil => exact absurd hr2 (hne r2 (by simp))
    | cons a rs =>
      subst hr2
      obtain ⟨x, y, z, h1, h2, h3⟩ := ruleQ_valid (h (a :: rs) (by simp) a (by simp))
      have ih := rb_rows L rs (rows ++ [row ++ r]) [a] (fun row' hr => by
        rcases List.mem_cons.1 hr with e | e
        · subst e; exact fun b hb => h (a :: row') (by simp) b (by simp [hb])
        · exact h row' (by simp [e])) (fun row' hr => hne row' (by simp [hr]))
      have hj : ∃ T, jn (((a :: rs) :: L).map rowText) = x :: y :: z :: T ∧ jn ((rs :: L).map rowText) = T := by
        refine ⟨jn ((rs :: L).map rowText), ?_, rfl⟩
        rw [List.map_cons, List.map_cons, rowText, List.flatMap_cons, h1]
        cases L with
        | nil => rfl
        | cons b l =>
          rw [jn_cons (by simp), jn_cons (by simp)]
          rfl
      obtain ⟨T, e1, e2⟩ := hj
      rw [e1]
      rw [e2] at ih
      rw [rb_sep, h2]
      simp only [List.singleton_append] at ih
      rw [ih]
      simp
theorem rbM_text {m : MachS} (hv : validM m = true) : rbM (textM m) = m := by
  obtain ⟨v1, v2, v3, v4, v5, v6⟩ := validM_parts hv
  have hl : (textM m).length ≤ 200 := by
    have := textTo_len (rows := m.rules) (n := 4) (fun r hr => by have := valid_rows hv r hr; omega) m.rules.length
    rw [textM]
    have h6 : m.rules.length ≤ 6 := by omega
    have h13 : m.rules.length * (1 + 3 * 4) ≤ 6 * 13 := Nat.mul_le_mul h6 (by decide)
    omega
  obtain ⟨S, X, rules⟩ := m
  cases rules with
  | nil => simp at v5; simp at v1; omega
  | cons r L =>
    have h := rb_rows L r [] [] (valid_rules hv) (fun row hr e => by
      have := valid_rows hv row (by simp [hr])
      rw [e] at this
      simp at this v3
      omega)
    rw [← textM_jn ⟨S, X, r :: L⟩] at h
    simp only [List.nil_append] at h
    unfold rbM
    rw [if_pos hl]
    obtain ⟨Q, hq⟩ : ∃ Q, Q = rb [] [] (textM ⟨S, X, r :: L⟩) := ⟨_, rfl⟩
    rw [← hq] at h ⊢
    obtain ⟨Q1, Q2⟩ := Q
    simp only at h ⊢
    rw [h]
    have hlen := congrArg List.length h
    rw [List.length_append] at hlen
    have hmem : Q2 ∈ r :: L := by rw [← h]; simp
    have hx := valid_rows hv Q2 hmem
    simp only [MachS.mk.injEq, and_true]
    simp at v5 hlen hx
    constructor
    · omega
    · exact hx
theorem parse_is (s : List UInt8) : parseC s = match rparseO s with
    | some m => (m, 0)
    | none => (noM, 3) := by
  cases hr : rparseO s with
  | some m =>
    unfold rparseO at hr
    split at hr
    · next h =>
      simp only [Option.some.injEq] at hr
      subst hr
      have := parse_text h.1
      rw [h.2] at this
      exact this
    · simp at hr
  | none =>
    by_cases h3 : parseC s = (noM, 3)
    · exact h3
    · exfalso
      have h0 : parseC s = (machP (spl s), 0) := by
        unfold parseC at h3 ⊢
        split
        · next h => rw [if_pos h] at h3; exact absurd rfl h3
        · next h =>
          rw [if_neg h] at h3
          split
          · rfl
          · next h2 => rw [if_neg h2] at h3; exact absurd rfl h3
      obtain ⟨hv, ht⟩ := text_parse h0
      have := rbM_text hv
      rw [ht] at this
      rw [rparseO, this, if_pos ⟨hv, ht⟩] at hr
      simp at hr
end Go.Proofs.YtkbaiegfloajlaaDoor.Tp

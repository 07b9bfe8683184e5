/- Right names, as the package tells them; and rows of sorts: over plain lists. -/
import Derived.Test.YtgohkmdepjmpaaaDoorCGNode
namespace Go.Proofs.YtgohkmdepjmpaaaDoor.nt
open Go.RowKit wd lx

/-- a right name by its bytes -/
def nameC (s : List UInt8) : Bool :=
  match s with
  | [] => false
  | c :: r => decide ((c :: r).length ≤ 32) && !isDg c && (c :: r).all isLD && !isW (c :: r)
theorem rem_split (r : List UInt8) : r.drop (r.takeWhile no10).length = dropRem r := by
  have h := dropRem_take r
  conv => lhs; arg 2; rw [h]
  exact List.drop_left
theorem isDg_num (c : UInt8) : isDg c = (decide (48 ≤ c.toNat) && decide (c.toNat ≤ 57)) := by
  have hc := c.toNat_lt
  unfold isDg cls clsN
  generalize c.toNat = n at hc ⊢
  rw [Bool.eq_iff_iff]
  simp only [decide_eq_true_eq, Bool.and_eq_true]
  split
  · omega
  · split
    · omega
    · split
      · omega
      · split <;> omega
theorem isLD_num (c : UInt8) : isLD c = (decide (97 ≤ c.toNat ∧ c.toNat ≤ 122 ∨ 65 ≤ c.toNat ∧ c.toNat ≤ 90 ∨ c.toNat = 95) || isDg c) := by
  have hc := c.toNat_lt
  unfold isLD isL isDg cls clsN
  generalize c.toNat = n at hc ⊢
  rw [Bool.eq_iff_iff]
  simp only [decide_eq_true_eq, Bool.or_eq_true]
  split
  · omega
  · split
    · omega
    · split
      · omega
      · split <;> omega
theorem lies_short {s : List UInt8} {e : Nat} {t : Tok} {ts : List Tok} (h : Lies s e (t :: ts)) : t.text.length + e ≤ s.length := by
  unfold Lies at h
  obtain ⟨h1, h2, _⟩ := h
  omega
theorem named_first {s : List UInt8} (h : ∀ p t u, lexA s = (0, p, [t, u]) → ¬ (t.kind = 1 ∧ t.text = s)) : named s = false := by
  obtain ⟨⟨er, p, ts⟩, hr⟩ : ∃ r, r = lexA s := ⟨_, rfl⟩
  by_cases h0 : er = 0
  · subst h0
    by_cases h2 : ts.length = 2
    · match ts, h2 with
      | [t, u], _ =>
        rw [named_two hr.symm]
        have := h p t u hr.symm
        simpa using this
    · exact named_bad hr.symm (Or.inr h2)
  · exact named_bad hr.symm (Or.inl h0)
/-- what stands behind a blank or a comment is shorter than the whole -/
theorem named_later {s : List UInt8} {e : Nat} (hl : s.length ≤ 16384) (h : lexW s 0 = lexW (s.drop e) e) (he : e ≤ s.length) (h0 : 0 < e) : named s = false := by
  refine named_first fun p t u hlx hb => ?_
  rw [lexA_in hl, h] at hlx
  have := lies_short (lex_lies s _ e _ p (Nat.le_refl _) he hlx).1
  rw [hb.2] at this
  omega
theorem takeWhile_all {α : Type} {p : α → Bool} : ∀ {l : List α}, l.all p = true → l.takeWhile p = l
  | [], _ => rfl
  | a :: l, h => by
    rw [List.all_cons, Bool.and_eq_true] at h
    rw [List.takeWhile_cons, h.1, if_pos rfl, takeWhile_all h.2]
theorem takeWhile_same {α : Type} {p : α → Bool} : ∀ {l : List α}, l.takeWhile p = l → l.all p = true
  | [], _ => rfl
  | a :: l, h => by
    rw [List.takeWhile_cons] at h
    cases hp : p a
    · rw [hp] at h; simp at h
    · rw [hp, if_pos rfl] at h
      injection h with _ h
      rw [List.all_cons, hp, takeWhile_same h]; rfl
theorem named_eq (s : List UInt8) : named s = nameC s := by
  by_cases hl : s.length ≤ 16384
  · cases s with
    | nil =>
      have : lexA [] = (0, 0, [⟨0, 0, 0, []⟩]) := by rw [lexA_in (by simp), lex_nil]
      rw [named_bad this (Or.inr (by simp))]
      rfl
    | cons c r =>
      by_cases h1 : cls c = 1
      · have hL : isLD c = true := by unfold isLD isL; rw [h1]; rfl
        have hD : isDg c = false := by unfold isDg; rw [h1]; rfl
        have ho : oneF (c :: r) = (if 32 < ((c :: r).takeWhile isLD).length then 3 else 0, if isW ((c :: r).takeWhile isLD) = true then 3 else 1, 0, (c :: r).takeWhile isLD) := by
          unfold oneF; simp only [if_pos h1]
        have h3 : cls c ≠ 3 := by rw [h1]; decide
        have h4 : cls c ≠ 4 := by rw [h1]; decide
        by_cases h5 : 32 < ((c :: r).takeWhile isLD).length
        · have hb : (oneF (c :: r)).1 ≠ 0 := by rw [ho, if_pos h5]; simp
          have hx := lex_bad h3 h4 r 0 hb
          have hN : named (c :: r) = false := by
            refine named_bad (e := (oneF (c :: r)).1) (p := 0) (ts := []) ?_ (Or.inl hb)
            rw [lexA_in hl, hx]
          rw [hN]
          unfold nameC
          simp only
          by_cases ha : (c :: r).all isLD = true
          · rw [takeWhile_all ha] at h5
            rw [decide_eq_false (by omega)]; rfl
          · rw [Bool.not_eq_true] at ha
            rw [ha]; simp
        · have hb : (oneF (c :: r)).1 = 0 := by rw [ho, if_neg h5]
          have hx := lex_tok h3 h4 r 0 hb
          by_cases ha : (c :: r).all isLD = true
          · have ht := takeWhile_all ha
            rw [ht] at ho h5
            rw [ho] at hx
            simp only [List.length_cons, Nat.add_sub_cancel] at hx
            rw [List.drop_length, lex_nil] at hx
            have hx2 : lexA (c :: r) = (0, 0, [⟨if isW (c :: r) = true then 3 else 1, 0, 0, c :: r⟩, ⟨0, 0 + (r.length + 1), 0, []⟩]) := by
              rw [lexA_in hl, hx]; rfl
            rw [named_two hx2]
            unfold nameC
            simp only
            rw [ha, hD, decide_eq_true (show (c :: r).length ≤ 32 by omega)]
            cases isW (c :: r) <;> simp
          · have hN : named (c :: r) = false := by
              refine named_first fun p t u hlx hq => ?_
              rw [lexA_in hl, hx] at hlx
              unfold consR at hlx
              split at hlx
              · simp only [Prod.mk.injEq, List.cons.injEq] at hlx
                obtain ⟨_, _, h7, _⟩ := hlx
                have h8 := hq.2
                rw [← h7] at h8
                simp only [ho] at h8
                exact ha (takeWhile_same h8)
              · rename_i hne
                rw [hlx] at hne
                exact hne rfl
            rw [hN]
            rw [Bool.not_eq_true] at ha
            unfold nameC; simp only; rw [ha]; simp
      · have hC : nameC (c :: r) = false := by
          unfold nameC
          simp only
          by_cases h2 : cls c = 2
          · have hD : isDg c = true := by unfold isDg; rw [h2]; rfl
            rw [hD]; simp
          · have hL : isLD c = false := by unfold isLD isL isDg; rw [decide_eq_false h1, decide_eq_false h2]; rfl
            rw [List.all_cons, hL]; simp
        rw [hC]
        by_cases h3 : cls c = 3
        · exact named_later (e := 1) hl (by rw [lex_blank h3]; rfl) (by simp) (by omega)
        · by_cases h4 : cls c = 4
          · have hle := (List.takeWhile_sublist no10 (l := r)).length_le
            refine named_later (e := 1 + (r.takeWhile no10).length) hl ?_ (by rw [List.length_cons]; omega) (by omega)
            rw [lex_rem h4, show 1 + (r.takeWhile no10).length = (r.takeWhile no10).length + 1 by omega, List.drop_succ_cons, rem_split]
          · refine named_first fun p t u hlx hq => ?_
            by_cases hb : (oneF (c :: r)).1 = 0
            · rw [lexA_in hl, lex_tok h3 h4 r 0 hb] at hlx
              unfold consR at hlx
              split at hlx
              · simp only [Prod.mk.injEq, List.cons.injEq] at hlx
                obtain ⟨_, _, h7, _⟩ := hlx
                have h8 := hq.1
                rw [← h7] at h8
                simp only at h8
                unfold oneF at h8
                simp only [if_neg h1] at h8
                split at h8
                · simp at h8
                · split at h8 <;> simp at h8
              · rename_i hne
                rw [hlx] at hne
                exact hne rfl
            · rw [lexA_in hl, lex_bad h3 h4 r 0 hb] at hlx
              simp only [Prod.mk.injEq] at hlx
              exact hb hlx.1
  · have h1 : named s = false := named_bad (lexA_out (by omega)) (Or.inl (by decide))
    rw [h1]
    unfold nameC
    cases s with
    | nil => rfl
    | cons c r =>
      simp only
      rw [decide_eq_false (by omega)]; rfl
/-! ### rows of sorts -/
def areP : List NT → List (NT → Bool) → Bool
  | [], [] => true
  | v :: r, p :: q => p v && areP r q
  | _, _ => false
theorem areP_len : ∀ {l : List NT} {ps : List (NT → Bool)}, l.length ≠ ps.length → areP l ps = false
  | [], [], h => absurd rfl h
  | [], _ :: _, _ => rfl
  | _ :: _, [], _ => rfl
  | v :: r, p :: q, h => by
    rw [areP, areP_len (l := r) (ps := q) (by simpa using h), Bool.and_false]
theorem areP_append : ∀ {a b : List NT} {p q : List (NT → Bool)}, a.length = p.length → areP (a ++ b) (p ++ q) = (areP a p && areP b q)
  | [], b, [], q, _ => by simp [areP]
  | v :: r, b, x :: p, q, h => by
    rw [List.cons_append, List.cons_append, areP, areP, areP_append (by simpa using h), Bool.and_assoc]
  | [], b, _ :: _, q, h => by simp at h
  | _ :: _, b, [], q, h => by simp at h
end Go.Proofs.YtgohkmdepjmpaaaDoor.nt

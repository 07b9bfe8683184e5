/- What is spelled is cut into the same tokens; between tokens stand blanks alone: over plain lists. -/
import Derived.Test.YtjppfnofceejhaaDoorLexMath
namespace Go.Proofs.YtjppfnofceejhaaDoor.lx
open Go.RowKit wd

theorem cls_sp : cls 32 = 3 := by decide
theorem isLD_sp : isLD 32 = false := by decide
theorem isDg_sp : isDg 32 = false := by decide
/-! ### what a token is by itself -/
theorem tw_pre {α : Type} (p : α → Bool) (l : List α) : l.take (l.takeWhile p).length = l.takeWhile p := by
  induction l with
  | nil => rfl
  | cons c r ih => rw [List.takeWhile_cons]; split <;> simp [ih]
theorem tw_all {α : Type} (p : α → Bool) (l : List α) : (l.takeWhile p).all p = true := by
  induction l with
  | nil => rfl
  | cons c r ih => rw [List.takeWhile_cons]; split <;> simp_all
theorem tw_stop {α : Type} (p : α → Bool) (t r : List α) (h : t.all p = true) (hr : r = [] ∨ ∃ c r', r = c :: r' ∧ p c = false) : (t ++ r).takeWhile p = t := by
  induction t with
  | nil =>
    rcases hr with rfl | ⟨c, r', rfl, hc⟩
    · rfl
    · rw [List.nil_append, List.takeWhile_cons, hc]; rfl
  | cons a t ih =>
    simp only [List.all_cons, Bool.and_eq_true] at h
    rw [List.cons_append, List.takeWhile_cons, h.1, if_pos rfl, ih h.2]
/-- behind a token: the end, or a blank -/
def Stop (r : List UInt8) : Prop := r = [] ∨ ∃ r', r = 32 :: r'
/-- a token's text stands at the beginning of what it was read from, is not empty, and begins with neither a blank nor a remark; with a blank or the end behind it, it is read again -/
theorem one_tok {l : List UInt8} {k n : Int} {t : List UInt8} (h : oneF l = (0, k, n, t)) :
    l.take t.length = t ∧ t.length ≤ l.length ∧ (∃ c r, t = c :: r ∧ cls c ≠ 3 ∧ cls c ≠ 4) ∧ ∀ r, Stop r → oneF (t ++ r) = (0, k, n, t) := by
  cases l with
  | nil => simp [oneF] at h
  | cons c r =>
    unfold oneF at h
    by_cases h1 : cls c = 1
    · simp only [if_pos h1, Prod.mk.injEq] at h
      obtain ⟨he, hk, hn, ht⟩ := h
      have hl : isLD c = true := by unfold isLD isL; simp [h1]
      have hc : t = c :: r.takeWhile isLD := by rw [← ht, List.takeWhile_cons, hl, if_pos rfl]
      have hall : t.all isLD = true := by rw [← ht]; exact tw_all _ _
      refine ⟨by rw [← ht]; exact tw_pre _ _, by rw [← ht]; exact (List.takeWhile_sublist _).length_le, ⟨c, _, hc, by rw [h1]; decide, by rw [h1]; decide⟩, fun r' hr' => ?_⟩
      have htw : (t ++ r').takeWhile isLD = t := tw_stop isLD t r' hall (by
        rcases hr' with rfl | ⟨q, rfl⟩
        · exact Or.inl rfl
        · exact Or.inr ⟨32, q, rfl, isLD_sp⟩)
      have e : t ++ r' = c :: (r.takeWhile isLD ++ r') := by rw [hc]; rfl
      rw [ht] at he hk
      rw [e] at htw
      rw [e]
      unfold oneF
      simp only [if_pos h1, htw, he, hk, ← hn]
    · by_cases h2 : cls c = 2
      · simp only [if_neg h1, if_pos h2, Prod.mk.injEq] at h
        obtain ⟨he, hk, hn, ht⟩ := h
        have hl : isDg c = true := by unfold isDg; simp [h2]
        have hc : t = c :: r.takeWhile isDg := by rw [← ht, List.takeWhile_cons, hl, if_pos rfl]
        have hall : t.all isDg = true := by rw [← ht]; exact tw_all _ _
        refine ⟨by rw [← ht]; exact tw_pre _ _, by rw [← ht]; exact (List.takeWhile_sublist _).length_le, ⟨c, _, hc, by rw [h2]; decide, by rw [h2]; decide⟩, fun r' hr' => ?_⟩
        have htw : (t ++ r').takeWhile isDg = t := tw_stop isDg t r' hall (by
          rcases hr' with rfl | ⟨q, rfl⟩
          · exact Or.inl rfl
          · exact Or.inr ⟨32, q, rfl, isDg_sp⟩)
        have e : t ++ r' = c :: (r.takeWhile isDg ++ r') := by rw [hc]; rfl
        rw [ht] at he hn
        rw [e] at htw
        rw [e]
        unfold oneF
        simp only [if_neg h1, if_pos h2, htw, he, hn, ← hk]
      · simp only [if_neg h1, if_neg h2] at h
        by_cases h3 : markF ((c :: r).take 2) = []
        · rw [if_pos h3] at h; simp at h
        · rw [if_neg h3] at h
          simp only [Prod.mk.injEq] at h
          obtain ⟨_, hk, hn, ht⟩ := h
          obtain ⟨m1, m2, m3⟩ := mark_pre h3
          rw [ht] at m1 m2 m3
          obtain ⟨a, q, ha, hcl⟩ := mark_head t m1
          have hlen := mark_two_len t m1
          have hpre : (c :: r).take t.length = t := by
            rw [List.take_take] at m3
            rw [show min t.length 2 = t.length by omega] at m3
            exact m3
          have hle : t.length ≤ (c :: r).length := by rw [List.length_take] at m2; omega
          refine ⟨hpre, hle, ⟨a, q, ha, by rw [hcl]; decide, by rw [hcl]; decide⟩, fun r' hr' => ?_⟩
          have hm : markF ((t ++ r').take 2) = t := by
            rcases hr' with rfl | ⟨q', rfl⟩
            · rw [List.append_nil, List.take_of_length_le (by omega)]; exact mark_self t m1
            · have : (t ++ 32 :: q').take 2 = (t ++ [32]).take 2 := by
                rcases (show t.length = 1 ∨ t.length = 2 by omega) with h | h
                · obtain ⟨x, rfl⟩ := List.length_eq_one_iff.1 h; rfl
                · match t, h with | [x, y], _ => rfl
              rw [this]; exact mark_sp t m1
          have e : t ++ r' = a :: (q ++ r') := by rw [ha]; rfl
          rw [e] at hm
          rw [e]
          unfold oneF
          have hne : t ≠ [] := by rw [ha]; simp
          simp only [hcl, hm, if_neg hne, ← hk, ← hn]
          rfl
/-! ### what is spelled -/
/-- the texts behind the first one -/
def tailS (l : List Tok) : List UInt8 := l.flatMap fun t => if t.kind = 0 then [] else 32 :: t.text
def spellL (l : List Tok) : List UInt8 := (tailS l).drop 1
/-- a token but for its place -/
def same3 (a b : Tok) : Prop := a.kind = b.kind ∧ a.n = b.n ∧ a.text = b.text
def Alike : List Tok → List Tok → Prop
  | [], [] => True
  | a :: l, b :: m => same3 a b ∧ Alike l m
  | _, _ => False
/-- a list of tokens that could have been read: each by itself is one; the end alone is last -/
def Toks : List Tok → Prop
  | [] => False
  | [t] => t.kind = 0 ∧ t.n = 0 ∧ t.text = []
  | t :: u :: ts => oneF t.text = (0, t.kind, t.n, t.text) ∧ t.kind ≠ 0 ∧ Toks (u :: ts)
theorem one_kind {l : List UInt8} {k n : Int} {t : List UInt8} (h : oneF l = (0, k, n, t)) : k = 1 ∨ k = 2 ∨ k = 3 ∨ k = 4 := by
  cases l with
  | nil => simp [oneF] at h
  | cons c r =>
    unfold oneF at h
    simp only at h
    split at h
    · simp only [Prod.mk.injEq] at h
      obtain ⟨_, hk, _⟩ := h
      split at hk <;> omega
    · split at h
      · simp only [Prod.mk.injEq] at h; omega
      · split at h
        · simp at h
        · simp only [Prod.mk.injEq] at h; omega
theorem consR_ok {t : Tok} {r : Int × Nat × List Tok} {ts : List Tok} {q : Nat} (h : consR t r = (0, q, ts)) : ∃ us, r = (0, r.2.1, us) ∧ ts = t :: us ∧ q = 0 := by
  unfold consR at h
  split at h
  · rename_i h0
    simp only [Prod.mk.injEq] at h
    refine ⟨r.2.2, ?_, h.2.2.symm, h.2.1.symm⟩
    rw [← h0]
  · rename_i h0
    exact absurd (by rw [h]) h0
/-- one token out of a text -/
theorem lex_one {l : List UInt8} {k n : Int} {t : List UInt8} (h : oneF l = (0, k, n, t)) (p : Nat) : lexW l p = consR ⟨k, p, n, t⟩ (lexW (l.drop t.length) (p + t.length)) := by
  obtain ⟨h1, h2, ⟨c, r, rfl, h3, h4⟩, _⟩ := one_tok h
  cases l with
  | nil => simp at h2
  | cons d l =>
    have : d = c := by simp at h1; exact h1.1
    subst this
    rw [lex_tok h3 h4 l p (by rw [h]), h]
    simp
theorem tail_stop : ∀ {ts : List Tok}, Toks ts → Stop (tailS ts)
  | [], h => h.elim
  | [t], h => Or.inl (by unfold tailS; simp [h.1])
  | t :: u :: ts, h => Or.inr ⟨_, by unfold tailS; rw [List.flatMap_cons, if_neg h.2.1]; rfl⟩
theorem lex_spell_tail : ∀ (ts : List Tok) (p : Nat), Toks ts → ∃ us, lexW (tailS ts) p = (0, 0, us) ∧ Alike ts us
  | [], _, h => h.elim
  | [t], p, h => by
    refine ⟨[⟨0, p, 0, []⟩], ?_, ⟨h.1, h.2.1, h.2.2⟩, trivial⟩
    unfold tailS
    simp only [List.flatMap_cons, List.flatMap_nil, h.1, if_true, List.nil_append]
    exact lex_nil p
  | t :: u :: ts, p, h => by
    obtain ⟨h1, h2, h3⟩ := h
    obtain ⟨us, h4, h5⟩ := lex_spell_tail (u :: ts) (p + 1 + t.text.length) h3
    refine ⟨⟨t.kind, p + 1, t.n, t.text⟩ :: us, ?_, ⟨rfl, rfl, rfl⟩, h5⟩
    have e : tailS (t :: u :: ts) = 32 :: (t.text ++ tailS (u :: ts)) := by unfold tailS; rw [List.flatMap_cons, if_neg h2]; rfl
    rw [e, lex_blank cls_sp, lex_one ((one_tok h1).2.2.2 _ (tail_stop h3)), List.drop_left, h4]
    rfl
theorem lex_spell (ts : List Tok) (p : Nat) (h : Toks ts) : ∃ us, lexW (spellL ts) p = (0, 0, us) ∧ Alike ts us := by
  cases ts with
  | nil => exact h.elim
  | cons t ts =>
    cases ts with
    | nil =>
      refine ⟨[⟨0, p, 0, []⟩], ?_, ⟨h.1, h.2.1, h.2.2⟩, trivial⟩
      have : spellL [t] = [] := by unfold spellL tailS; simp [h.1]
      rw [this]; exact lex_nil p
    | cons u ts =>
      obtain ⟨h1, h2, h3⟩ := h
      obtain ⟨us, h4, h5⟩ := lex_spell_tail (u :: ts) (p + t.text.length) h3
      refine ⟨⟨t.kind, p, t.n, t.text⟩ :: us, ?_, ⟨rfl, rfl, rfl⟩, h5⟩
      have e : spellL (t :: u :: ts) = t.text ++ tailS (u :: ts) := by unfold spellL tailS; rw [List.flatMap_cons, if_neg h2]; rfl
      rw [e, lex_one ((one_tok h1).2.2.2 _ (tail_stop h3)), List.drop_left, h4]
      rfl
/-! ### between tokens -/
theorem dropRem_take (r : List UInt8) : r = r.takeWhile no10 ++ dropRem r := by unfold dropRem; exact (List.takeWhile_append_dropWhile).symm
theorem dropRem_head (r : List UInt8) : dropRem r = [] ∨ ∃ q, dropRem r = 10 :: q := by
  unfold dropRem
  induction r with
  | nil => left; rfl
  | cons c r ih =>
    rw [List.dropWhile_cons]
    split
    · exact ih
    · rename_i h
      right
      have : c = 10 := by unfold no10 at h; simpa using h
      exact ⟨r, by rw [this]⟩
theorem dropRem_app (b g : List UInt8) (hb : b.all no10 = true) (hg : g = [] ∨ ∃ q, g = 10 :: q) : dropRem (b ++ g) = g ∧ (b ++ g).takeWhile no10 = b := by
  constructor
  · unfold dropRem
    induction b with
    | nil =>
      rcases hg with rfl | ⟨q, rfl⟩
      · rfl
      · rfl
    | cons c b ih =>
      simp only [List.all_cons, Bool.and_eq_true] at hb
      rw [List.cons_append, List.dropWhile_cons, if_pos hb.1]
      exact ih hb.2
  · refine tw_stop no10 b g hb ?_
    rcases hg with rfl | ⟨q, rfl⟩
    · exact Or.inl rfl
    · exact Or.inr ⟨10, q, rfl, by decide⟩
/-- blanks alone -/
def Gap (g : List UInt8) : Prop := ∀ p, lexW g p = (0, 0, [⟨0, p + g.length, 0, []⟩])
theorem gap_split : ∀ (N : Nat) (l : List UInt8) (p : Nat) (ts : List Tok) (q : Nat), l.length ≤ N → lexW l p = (0, q, ts) → ∃ t us g r, ts = t :: us ∧ l = g ++ r ∧ t.at_ = p + g.length ∧ Gap g ∧
    ((r = [] ∧ us = [] ∧ t.kind = 0 ∧ t.n = 0 ∧ t.text = []) ∨ (oneF r = (0, t.kind, t.n, t.text) ∧ ∃ q', lexW (r.drop t.text.length) (t.at_ + t.text.length) = (0, q', us)))
  | N, [], p, ts, q, _, h => by
    rw [lex_nil] at h
    simp only [Prod.mk.injEq] at h
    obtain ⟨_, _, rfl⟩ := h
    exact ⟨_, _, [], [], rfl, rfl, rfl, fun p => lex_nil p, Or.inl ⟨rfl, rfl, rfl, rfl, rfl⟩⟩
  | 0, c :: l, p, ts, q, hN, h => by simp at hN
  | N + 1, c :: l, p, ts, q, hN, h => by
    by_cases h3 : cls c = 3
    · rw [lex_blank h3] at h
      obtain ⟨t, us, g, r, rfl, h1, h2, h4, h5⟩ := gap_split N l (p + 1) ts q (by simpa using hN) h
      refine ⟨t, us, c :: g, r, rfl, by rw [h1]; rfl, by rw [h2, List.length_cons]; omega, fun p => ?_, h5⟩
      rw [lex_blank h3, h4 (p + 1), List.length_cons, show p + 1 + g.length = p + (g.length + 1) by omega]
    · by_cases h4 : cls c = 4
      · rw [lex_rem h4] at h
        have hlen := dropRem_len l
        obtain ⟨t, us, g, r, rfl, h1, h2, h6, h5⟩ := gap_split N (dropRem l) _ ts q (by simp at hN; omega) h
        have hl := dropRem_take l
        have hg : g = [] ∨ ∃ q, g = 10 :: q := by
          cases g with
          | nil => exact Or.inl rfl
          | cons a g =>
            right
            rcases dropRem_head l with e | ⟨q, e⟩
            · rw [e] at h1; simp at h1
            · rw [e] at h1
              have : a = 10 := by simp at h1; exact h1.1.symm
              exact ⟨g, by rw [this]⟩
        obtain ⟨e1, e2⟩ := dropRem_app (l.takeWhile no10) g (tw_all _ _) hg
        refine ⟨t, us, c :: (l.takeWhile no10 ++ g), r, rfl, ?_, by rw [h2, List.length_cons, List.length_append]; omega, fun p => ?_, h5⟩
        · rw [List.cons_append, List.append_assoc, ← h1, ← hl]
        · rw [lex_rem h4, e1, e2, h6, List.length_cons, List.length_append]
          rw [show p + 1 + (List.takeWhile no10 l).length + g.length = p + ((List.takeWhile no10 l).length + g.length + 1) by omega]
      · by_cases h0 : (oneF (c :: l)).1 = 0
        · have hone : oneF (c :: l) = (0, (oneF (c :: l)).2.1, (oneF (c :: l)).2.2.1, (oneF (c :: l)).2.2.2) := by rw [← h0]
          rw [lex_one hone] at h
          obtain ⟨us, h5, rfl, _⟩ := consR_ok h
          exact ⟨_, us, [], c :: l, rfl, rfl, rfl, fun p => lex_nil p, Or.inr ⟨hone, _, h5⟩⟩
        · rw [lex_bad h3 h4 l p h0] at h
          simp only [Prod.mk.injEq] at h
          exact absurd h.1 h0
/-- tokens rise, each is as it is written, between two of them stand blanks: from a place on -/
def Lies (s : List UInt8) : Nat → List Tok → Prop
  | _, [] => True
  | e, t :: ts => e ≤ t.at_ ∧ t.at_ + t.text.length ≤ s.length ∧ (s.drop t.at_).take t.text.length = t.text ∧ Gap ((s.drop e).take (t.at_ - e)) ∧ Lies s (t.at_ + t.text.length) ts
theorem lex_lies (s : List UInt8) : ∀ (N : Nat) (e : Nat) (ts : List Tok) (q : Nat), s.length - e ≤ N → e ≤ s.length → lexW (s.drop e) e = (0, q, ts) → Lies s e ts ∧ Toks ts := by
  intro N
  induction N with
  | zero =>
    intro e ts q hN he h
    have : s.drop e = [] := List.drop_eq_nil_of_le (by omega)
    rw [this, lex_nil] at h
    simp only [Prod.mk.injEq] at h
    obtain ⟨_, _, rfl⟩ := h
    refine ⟨⟨Nat.le_refl _, by simpa using he, by simp, ?_, trivial⟩, rfl, rfl, rfl⟩
    rw [Nat.sub_self, List.take_zero]; exact fun p => lex_nil p
  | succ N ih =>
    intro e ts q hN he h
    obtain ⟨t, us, g, r, rfl, h1, h2, h3, h4⟩ := gap_split _ _ _ _ _ (Nat.le_refl _) h
    have hg : (s.drop e).take (t.at_ - e) = g := by rw [h1, h2, show e + g.length - e = g.length by omega]; exact List.take_left
    have hr : s.drop t.at_ = r := by rw [h2, ← List.drop_drop, h1]; exact List.drop_left
    have hlen : e + g.length + r.length = s.length := by
      have := congrArg List.length h1
      rw [List.length_drop, List.length_append] at this
      omega
    rcases h4 with ⟨rfl, rfl, k0, n0, t0⟩ | ⟨h5, q', h6⟩
    · refine ⟨⟨by omega, by rw [t0]; simp at hlen ⊢; omega, by rw [t0]; rfl, by rw [hg]; exact h3, trivial⟩, k0, n0, t0⟩
    · obtain ⟨o1, o2, ⟨c, x, ht, _⟩, o4⟩ := one_tok h5
      have hpos : 1 ≤ t.text.length := by rw [ht]; simp
      rw [← hr, List.drop_drop] at h6
      obtain ⟨h7, h8⟩ := ih _ us q' (by omega) (by omega) h6
      refine ⟨⟨by omega, by omega, by rw [hr]; exact o1, by rw [hg]; exact h3, h7⟩, ?_⟩
      cases us with
      | nil => exact h8.elim
      | cons u us =>
        refine ⟨?_, ?_, h8⟩
        · have := o4 [] (Or.inl rfl)
          rwa [List.append_nil] at this
        · rcases one_kind h5 with h | h | h | h <;> omega
end Go.Proofs.YtjppfnofceejhaaDoor.lx

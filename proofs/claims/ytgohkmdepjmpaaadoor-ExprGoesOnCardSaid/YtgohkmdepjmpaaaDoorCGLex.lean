import Derived.Test.YtgohkmdepjmpaaaDoorCGWord
import Derived.Test.YtgohkmdepjmpaaaDoorCGWhole
import Derived.KernelRfl
import Derived.Test.YtgohkmdepjmpaaaDoorCGVal
import Derived.BigQuiet
/- A source cut into tokens, over plain lists of bytes: the document's way. -/
namespace Go.Proofs.YtgohkmdepjmpaaaDoor.lx
open Go.RowKit wd

/-- the class of a byte: 1 a letter, 2 a digit, 3 a blank, 4 the beginning of a remark, 0 others -/
def clsN (n : Nat) : Int :=
  if n = 95 ∨ 97 ≤ n ∧ n ≤ 122 ∨ 65 ≤ n ∧ n ≤ 90 then 1 else if 48 ≤ n ∧ n ≤ 57 then 2 else if n = 32 ∨ n = 9 ∨ n = 10 ∨ n = 13 then 3 else if n = 35 then 4 else 0
def cls (c : UInt8) : Int := clsN c.toNat
def isL (c : UInt8) : Bool := decide (cls c = 1)
def isDg (c : UInt8) : Bool := decide (cls c = 2)
def isLD (c : UInt8) : Bool := isL c || isDg c
def no10 (c : UInt8) : Bool := !(c == 10)
/-- a token: kind, where it begins, number, text -/
structure Tok where
  kind : Int
  at_ : Nat
  n : Int
  text : List UInt8
/-- the token that stands at the beginning of a text that is neither empty nor begins with a blank or a remark: (an error's number, kind, number, text) -/
def oneF (l : List UInt8) : Int × Int × Int × List UInt8 :=
  match l with
  | [] => (1, 0, 0, [])
  | c :: r =>
    if cls c = 1 then
      (if 32 < ((c :: r).takeWhile isLD).length then 3 else 0, if isW ((c :: r).takeWhile isLD) = true then 3 else 1, 0, (c :: r).takeWhile isLD)
    else if cls c = 2 then
      ((whole.readS ((c :: r).takeWhile isDg)).2, 2, (whole.readS ((c :: r).takeWhile isDg)).1, (c :: r).takeWhile isDg)
    else if markF ((c :: r).take 2) = [] then (1, 0, 0, [])
    else (0, 4, 0, markF ((c :: r).take 2))
/-- what cutting comes to: an error, its place, the tokens -/
def Res : Type := Int × Nat × List Tok
def consR (t : Tok) (r : Int × Nat × List Tok) : Int × Nat × List Tok := if r.1 = 0 then (0, 0, t :: r.2.2) else r
def dropRem (l : List UInt8) : List UInt8 := l.dropWhile no10
theorem dropRem_len (l : List UInt8) : (dropRem l).length ≤ l.length := by
  unfold dropRem
  induction l with
  | nil => simp
  | cons c r ih => rw [List.dropWhile_cons]; split <;> simp; omega
/-- all tokens, from a place on -/
def lexW (l : List UInt8) (p : Nat) : Int × Nat × List Tok :=
  match l with
  | [] => (0, 0, [⟨0, p, 0, []⟩])
  | c :: r =>
    if cls c = 3 then lexW r (p + 1)
    else if cls c = 4 then lexW (dropRem r) (p + 1 + (r.takeWhile no10).length)
    else if (oneF (c :: r)).1 ≠ 0 then ((oneF (c :: r)).1, p, [])
    else consR ⟨(oneF (c :: r)).2.1, p, (oneF (c :: r)).2.2.1, (oneF (c :: r)).2.2.2⟩ (lexW (r.drop ((oneF (c :: r)).2.2.2.length - 1)) (p + (oneF (c :: r)).2.2.2.length))
termination_by l.length
decreasing_by
  · simp
  · have := dropRem_len r; simp; omega
  · simp; omega
theorem lex_nil (p : Nat) : lexW [] p = (0, 0, [⟨0, p, 0, []⟩]) := by rw [lexW]
theorem lex_blank {c : UInt8} (h : cls c = 3) (r : List UInt8) (p : Nat) : lexW (c :: r) p = lexW r (p + 1) := by rw [lexW, if_pos h]
theorem lex_rem {c : UInt8} (h : cls c = 4) (r : List UInt8) (p : Nat) : lexW (c :: r) p = lexW (dropRem r) (p + 1 + (r.takeWhile no10).length) := by
  rw [lexW, if_neg (by rw [h]; decide), if_pos h]
theorem lex_bad {c : UInt8} (h3 : cls c ≠ 3) (h4 : cls c ≠ 4) (r : List UInt8) (p : Nat) (h : (oneF (c :: r)).1 ≠ 0) : lexW (c :: r) p = ((oneF (c :: r)).1, p, []) := by
  rw [lexW, if_neg h3, if_neg h4, if_pos h]
theorem lex_tok {c : UInt8} (h3 : cls c ≠ 3) (h4 : cls c ≠ 4) (r : List UInt8) (p : Nat) (h : (oneF (c :: r)).1 = 0) :
    lexW (c :: r) p = consR ⟨(oneF (c :: r)).2.1, p, (oneF (c :: r)).2.2.1, (oneF (c :: r)).2.2.2⟩ (lexW (r.drop ((oneF (c :: r)).2.2.2.length - 1)) (p + (oneF (c :: r)).2.2.2.length)) := by
  rw [lexW, if_neg h3, if_neg h4, if_neg (by simp [h])]
/-! ### marks -/
theorem mark_in (s : List UInt8) : ∀ (l : List (List UInt8)) (b : List UInt8), l.foldl (stepM s) b = b ∨ (l.foldl (stepM s) b ∈ l ∧ (l.foldl (stepM s) b).length ≤ s.length ∧ s.take (l.foldl (stepM s) b).length = l.foldl (stepM s) b)
  | [], b => Or.inl rfl
  | m :: l, b => by
    rw [List.foldl_cons]
    rcases mark_in s l (stepM s b m) with h | ⟨h1, h2, h3⟩
    · rw [h]
      unfold stepM
      split
      · rename_i hc
        exact Or.inr ⟨by simp, hc.1, hc.2.1⟩
      · exact Or.inl rfl
    · exact Or.inr ⟨by simp [h1], h2, h3⟩
theorem mark_pre {s : List UInt8} (h : markF s ≠ []) : markF s ∈ marks24 ∧ (markF s).length ≤ s.length ∧ s.take (markF s).length = markF s := by
  rcases mark_in s marks24 [] with e | e
  · exact absurd e h
  · exact e
theorem mark_self : ∀ m ∈ marks24, markF m = m := by decide +kernel
theorem mark_sp : ∀ m ∈ marks24, markF ((m ++ [32]).take 2) = m := by decide +kernel
theorem mark_head : ∀ m ∈ marks24, ∃ c r, m = c :: r ∧ cls c = 0 := by
  intro m hm
  have : ∀ m ∈ marks24, (match m with | [] => false | c :: _ => decide (cls c = 0)) = true := by decide +kernel
  have h := this m hm
  cases m with
  | nil => simp at h
  | cons c r => exact ⟨c, r, rfl, by simpa using h⟩
theorem mark_two_len : ∀ m ∈ marks24, 1 ≤ m.length ∧ m.length ≤ 2 := by decide +kernel
end Go.Proofs.YtgohkmdepjmpaaaDoor.lx

/- What is spelled is cut into the same tokens; between tokens stand blanks alone: over plain lists. -/
namespace Go.Proofs.YtgohkmdepjmpaaaDoor.lx
open Go.RowKit wd

theorem cls_sp : cls 32 = 3 := by decide
theorem isLD_sp : isLD 32 = false := by decide
theorem isDg_sp : isDg 32 = false := by decide
/-! ### what a token is by itself -/
theorem tw_pre {α : Type} (p : α → Bool) (l : List α) : l.take (l.takeWhile p).length = l.takeWhile p := by
  induction l with
  | nil => rfl
  | cons c r ih => rw [List.takeWhile_cons]; split <;> simp [ih]
theorem tw_all {α : Type} (p : α → Bool) (l : List α) : (l.takeWhile p).all p = true := by
  induction l with
  | nil => rfl
  | cons c r ih => rw [List.takeWhile_cons]; split <;> simp_all
theorem tw_stop {α : Type} (p : α → Bool) (t r : List α) (h : t.all p = true) (hr : r = [] ∨ ∃ c r', r = c :: r' ∧ p c = false) : (t ++ r).takeWhile p = t := by
  induction t with
  | nil =>
    rcases hr with rfl | ⟨c, r', rfl, hc⟩
    · rfl
    · rw [List.nil_append, List.takeWhile_cons, hc]; rfl
  | cons a t ih =>
    simp only [List.all_cons, Bool.and_eq_true] at h
    rw [List.cons_append, List.takeWhile_cons, h.1, if_pos rfl, ih h.2]
/-- behind a token: the end, or a blank -/
def Stop (r : List UInt8) : Prop := r = [] ∨ ∃ r', r = 32 :: r'
/-- a token's text stands at the beginning of what it was read from, is not empty, and begins with neither a blank nor a remark; with a blank or the end behind it, it is read again -/
theorem one_tok {l : List UInt8} {k n : Int} {t : List UInt8} (h : oneF l = (0, k, n, t)) :
    l.take t.length = t ∧ t.length ≤ l.length ∧ (∃ c r, t = c :: r ∧ cls c ≠ 3 ∧ cls c ≠ 4) ∧ ∀ r, Stop r → oneF (t ++ r) = (0, k, n, t) := by
  cases l with
  | nil => simp [oneF] at h
  | cons c r =>
    unfold oneF at h
    by_cases h1 : cls c = 1
    · simp only [if_pos h1, Prod.mk.injEq] at h
      obtain ⟨he, hk, hn, ht⟩ := h
      have hl : isLD c = true := by unfold isLD isL; simp [h1]
      have hc : t = c :: r.takeWhile isLD := by rw [← ht, List.takeWhile_cons, hl, if_pos rfl]
      have hall : t.all isLD = true := by rw [← ht]; exact tw_all _ _
      refine ⟨by rw [← ht]; exact tw_pre _ _, by rw [← ht]; exact (List.takeWhile_sublist _).length_le, ⟨c, _, hc, by rw [h1]; decide, by rw [h1]; decide⟩, fun r' hr' => ?_⟩
      have htw : (t ++ r').takeWhile isLD = t := tw_stop isLD t r' hall (by
        rcases hr' with rfl | ⟨q, rfl⟩
        · exact Or.inl rfl
        · exact Or.inr ⟨32, q, rfl, isLD_sp⟩)
      have e : t ++ r' = c :: (r.takeWhile isLD ++ r') := by rw [hc]; rfl
      rw [ht] at he hk
      rw [e] at htw
      rw [e]
      unfold oneF
      simp only [if_pos h1, htw, he, hk, ← hn]
    · by_cases h2 : cls c = 2
      · simp only [if_neg h1, if_pos h2, Prod.mk.injEq] at h
        obtain ⟨he, hk, hn, ht⟩ := h
        have hl : isDg c = true := by unfold isDg; simp [h2]
        have hc : t = c :: r.takeWhile isDg := by rw [← ht, List.takeWhile_cons, hl, if_pos rfl]
        have hall : t.all isDg = true := by rw [← ht]; exact tw_all _ _
        refine ⟨by rw [← ht]; exact tw_pre _ _, by rw [← ht]; exact (List.takeWhile_sublist _).length_le, ⟨c, _, hc, by rw [h2]; decide, by rw [h2]; decide⟩, fun r' hr' => ?_⟩
        have htw : (t ++ r').takeWhile isDg = t := tw_stop isDg t r' hall (by
          rcases hr' with rfl | ⟨q, rfl⟩
          · exact Or.inl rfl
          · exact Or.inr ⟨32, q, rfl, isDg_sp⟩)
        have e : t ++ r' = c :: (r.takeWhile isDg ++ r') := by rw [hc]; rfl
        rw [ht] at he hn
        rw [e] at htw
        rw [e]
        unfold oneF
        simp only [if_neg h1, if_pos h2, htw, he, hn, ← hk]
      · simp only [if_neg h1, if_neg h2] at h
        by_cases h3 : markF ((c :: r).take 2) = []
        · rw [if_pos h3] at h; simp at h
        · rw [if_neg h3] at h
          simp only [Prod.mk.injEq] at h
          obtain ⟨_, hk, hn, ht⟩ := h
          obtain ⟨m1, m2, m3⟩ := mark_pre h3
          rw [ht] at m1 m2 m3
          obtain ⟨a, q, ha, hcl⟩ := mark_head t m1
          have hlen := mark_two_len t m1
          have hpre : (c :: r).take t.length = t := by
            rw [List.take_take] at m3
            rw [show min t.length 2 = t.length by omega] at m3
            exact m3
          have hle : t.length ≤ (c :: r).length := by rw [List.length_take] at m2; omega
          refine ⟨hpre, hle, ⟨a, q, ha, by rw [hcl]; decide, by rw [hcl]; decide⟩, fun r' hr' => ?_⟩
          have hm : markF ((t ++ r').take 2) = t := by
            rcases hr' with rfl | ⟨q', rfl⟩
            · rw [List.append_nil, List.take_of_length_le (by omega)]; exact mark_self t m1
            · have : (t ++ 32 :: q').take 2 = (t ++ [32]).take 2 := by
                rcases (show t.length = 1 ∨ t.length = 2 by omega) with h | h
                · obtain ⟨x, rfl⟩ := List.length_eq_one_iff.1 h; rfl
                · match t, h with | [x, y], _ => rfl
              rw [this]; exact mark_sp t m1
          have e : t ++ r' = a :: (q ++ r') := by rw [ha]; rfl
          rw [e] at hm
          rw [e]
          unfold oneF
          have hne : t ≠ [] := by rw [ha]; simp
          simp only [hcl, hm, if_neg hne, ← hk, ← hn]
          rfl
/-! ### what is spelled -/
/-- the texts behind the first one -/
def tailS (l : List Tok) : List UInt8 := l.flatMap fun t => if t.kind = 0 then [] else 32 :: t.text
def spellL (l : List Tok) : List UInt8 := (tailS l).drop 1
/-- a token but for its place -/
def same3 (a b : Tok) : Prop := a.kind = b.kind ∧ a.n = b.n ∧ a.text = b.text
def Alike : List Tok → List Tok → Prop
  | [], [] => True
  | a :: l, b :: m => same3 a b ∧ Alike l m
  | _, _ => False
/-- a list of tokens that could have been read: each by itself is one; the end alone is last -/
def Toks : List Tok → Prop
  | [] => False
  | [t] => t.kind = 0 ∧ t.n = 0 ∧ t.text = []
  | t :: u :: ts => oneF t.text = (0, t.kind, t.n, t.text) ∧ t.kind ≠ 0 ∧ Toks (u :: ts)
theorem one_kind {l : List UInt8} {k n : Int} {t : List UInt8} (h : oneF l = (0, k, n, t)) : k = 1 ∨ k = 2 ∨ k = 3 ∨ k = 4 := by
  cases l with
  | nil => simp [oneF] at h
  | cons c r =>
    unfold oneF at h
    simp only at h
    split at h
    · simp only [Prod.mk.injEq] at h
      obtain ⟨_, hk, _⟩ := h
      split at hk <;> omega
    · split at h
      · simp only [Prod.mk.injEq] at h; omega
      · split at h
        · simp at h
        · simp only [Prod.mk.injEq] at h; omega
theorem consR_ok {t : Tok} {r : Int × Nat × List Tok} {ts : List Tok} {q : Nat} (h : consR t r = (0, q, ts)) : ∃ us, r = (0, r.2.1, us) ∧ ts = t :: us ∧ q = 0 := by
  unfold consR at h
  split at h
  · rename_i h0
    simp only [Prod.mk.injEq] at h
    refine ⟨r.2.2, ?_, h.2.2.symm, h.2.1.symm⟩
    rw [← h0]
  · rename_i h0
    exact absurd (by rw [h]) h0
/-- one token out of a text -/
theorem lex_one {l : List UInt8} {k n : Int} {t : List UInt8} (h : oneF l = (0, k, n, t)) (p : Nat) : lexW l p = consR ⟨k, p, n, t⟩ (lexW (l.drop t.length) (p + t.length)) := by
  obtain ⟨h1, h2, ⟨c, r, rfl, h3, h4⟩, _⟩ := one_tok h
  cases l with
  | nil => simp at h2
  | cons d l =>
    have : d = c := by simp at h1; exact h1.1
    subst this
    rw [lex_tok h3 h4 l p (by rw [h]), h]
    simp
theorem tail_stop : ∀ {ts : List Tok}, Toks ts → Stop (tailS ts)
  | [], h => h.elim
  | [t], h => Or.inl (by unfold tailS; simp [h.1])
  | t :: u :: ts, h => Or.inr ⟨_, by unfold tailS; rw [List.flatMap_cons, if_neg h.2.1]; rfl⟩
theorem lex_spell_tail : ∀ (ts : List Tok) (p : Nat), Toks ts → ∃ us, lexW (tailS ts) p = (0, 0, us) ∧ Alike ts us
  | [], _, h => h.elim
  | [t], p, h => by
    refine ⟨[⟨0, p, 0, []⟩], ?_, ⟨h.1, h.2.1, h.2.2⟩, trivial⟩
    unfold tailS
    simp only [List.flatMap_cons, List.flatMap_nil, h.1, if_true, List.nil_append]
    exact lex_nil p
  | t :: u :: ts, p, h => by
    obtain ⟨h1, h2, h3⟩ := h
    obtain ⟨us, h4, h5⟩ := lex_spell_tail (u :: ts) (p + 1 + t.text.length) h3
    refine ⟨⟨t.kind, p + 1, t.n, t.text⟩ :: us, ?_, ⟨rfl, rfl, rfl⟩, h5⟩
    have e : tailS (t :: u :: ts) = 32 :: (t.text ++ tailS (u :: ts)) := by unfold tailS; rw [List.flatMap_cons, if_neg h2]; rfl
    rw [e, lex_blank cls_sp, lex_one ((one_tok h1).2.2.2 _ (tail_stop h3)), List.drop_left, h4]
    rfl
theorem lex_spell (ts : List Tok) (p : Nat) (h : Toks ts) : ∃ us, lexW (spellL ts) p = (0, 0, us) ∧ Alike ts us := by
  cases ts with
  | nil => exact h.elim
  | cons t ts =>
    cases ts with
    | nil =>
      refine ⟨[⟨0, p, 0, []⟩], ?_, ⟨h.1, h.2.1, h.2.2⟩, trivial⟩
      have : spellL [t] = [] := by unfold spellL tailS; simp [h.1]
      rw [this]; exact lex_nil p
    | cons u ts =>
      obtain ⟨h1, h2, h3⟩ := h
      obtain ⟨us, h4, h5⟩ := lex_spell_tail (u :: ts) (p + t.text.length) h3
      refine ⟨⟨t.kind, p, t.n, t.text⟩ :: us, ?_, ⟨rfl, rfl, rfl⟩, h5⟩
      have e : spellL (t :: u :: ts) = t.text ++ tailS (u :: ts) := by unfold spellL tailS; rw [List.flatMap_cons, if_neg h2]; rfl
      rw [e, lex_one ((one_tok h1).2.2.2 _ (tail_stop h3)), List.drop_left, h4]
      rfl
/-! ### between tokens -/
theorem dropRem_take (r : List UInt8) : r = r.takeWhile no10 ++ dropRem r := by unfold dropRem; exact (List.takeWhile_append_dropWhile).symm
theorem dropRem_head (r : List UInt8) : dropRem r = [] ∨ ∃ q, dropRem r = 10 :: q := by
  unfold dropRem
  induction r with
  | nil => left; rfl
  | cons c r ih =>
    rw [List.dropWhile_cons]
    split
    · exact ih
    · rename_i h
      right
      have : c = 10 := by unfold no10 at h; simpa using h
      exact ⟨r, by rw [this]⟩
theorem dropRem_app (b g : List UInt8) (hb : b.all no10 = true) (hg : g = [] ∨ ∃ q, g = 10 :: q) : dropRem (b ++ g) = g ∧ (b ++ g).takeWhile no10 = b := by
  constructor
  · unfold dropRem
    induction b with
    | nil =>
      rcases hg with rfl | ⟨q, rfl⟩
      · rfl
      · rfl
    | cons c b ih =>
      simp only [List.all_cons, Bool.and_eq_true] at hb
      rw [List.cons_append, List.dropWhile_cons, if_pos hb.1]
      exact ih hb.2
  · refine tw_stop no10 b g hb ?_
    rcases hg with rfl | ⟨q, rfl⟩
    · exact Or.inl rfl
    · exact Or.inr ⟨10, q, rfl, by decide⟩
/-- blanks alone -/
def Gap (g : List UInt8) : Prop := ∀ p, lexW g p = (0, 0, [⟨0, p + g.length, 0, []⟩])
theorem gap_split : ∀ (N : Nat) (l : List UInt8) (p : Nat) (ts : List Tok) (q : Nat), l.length ≤ N → lexW l p = (0, q, ts) → ∃ t us g r, ts = t :: us ∧ l = g ++ r ∧ t.at_ = p + g.length ∧ Gap g ∧
    ((r = [] ∧ us = [] ∧ t.kind = 0 ∧ t.n = 0 ∧ t.text = []) ∨ (oneF r = (0, t.kind, t.n, t.text) ∧ ∃ q', lexW (r.drop t.text.length) (t.at_ + t.text.length) = (0, q', us)))
  | N, [], p, ts, q, _, h => by
    rw [lex_nil] at h
    simp only [Prod.mk.injEq] at h
    obtain ⟨_, _, rfl⟩ := h
    exact ⟨_, _, [], [], rfl, rfl, rfl, fun p => lex_nil p, Or.inl ⟨rfl, rfl, rfl, rfl, rfl⟩⟩
  | 0, c :: l, p, ts, q, hN, h => by simp at hN
  | N + 1, c :: l, p, ts, q, hN, h => by
    by_cases h3 : cls c = 3
    · rw [lex_blank h3] at h
      obtain ⟨t, us, g, r, rfl, h1, h2, h4, h5⟩ := gap_split N l (p + 1) ts q (by simpa using hN) h
      refine ⟨t, us, c :: g, r, rfl, by rw [h1]; rfl, by rw [h2, List.length_cons]; omega, fun p => ?_, h5⟩
      rw [lex_blank h3, h4 (p + 1), List.length_cons, show p + 1 + g.length = p + (g.length + 1) by omega]
    · by_cases h4 : cls c = 4
      · rw [lex_rem h4] at h
        have hlen := dropRem_len l
        obtain ⟨t, us, g, r, rfl, h1, h2, h6, h5⟩ := gap_split N (dropRem l) _ ts q (by simp at hN; omega) h
        have hl := dropRem_take l
        have hg : g = [] ∨ ∃ q, g = 10 :: q := by
          cases g with
          | nil => exact Or.inl rfl
          | cons a g =>
            right
            rcases dropRem_head l with e | ⟨q, e⟩
            · rw [e] at h1; simp at h1
            · rw [e] at h1
              have : a = 10 := by simp at h1; exact h1.1.symm
              exact ⟨g, by rw [this]⟩
        obtain ⟨e1, e2⟩ := dropRem_app (l.takeWhile no10) g (tw_all _ _) hg
        refine ⟨t, us, c :: (l.takeWhile no10 ++ g), r, rfl, ?_, by rw [h2, List.length_cons, List.length_append]; omega, fun p => ?_, h5⟩
        · rw [List.cons_append, List.append_assoc, ← h1, ← hl]
        · rw [lex_rem h4, e1, e2, h6, List.length_cons, List.length_append]
          rw [show p + 1 + (List.takeWhile no10 l).length + g.length = p + ((List.takeWhile no10 l).length + g.length + 1) by omega]
      · by_cases h0 : (oneF (c :: l)).1 = 0
        · have hone : oneF (c :: l) = (0, (oneF (c :: l)).2.1, (oneF (c :: l)).2.2.1, (oneF (c :: l)).2.2.2) := by rw [← h0]
          rw [lex_one hone] at h
          obtain ⟨us, h5, rfl, _⟩ := consR_ok h
          exact ⟨_, us, [], c :: l, rfl, rfl, rfl, fun p => lex_nil p, Or.inr ⟨hone, _, h5⟩⟩
        · rw [lex_bad h3 h4 l p h0] at h
          simp only [Prod.mk.injEq] at h
          exact absurd h.1 h0
/-- tokens rise, each is as it is written, between two of them stand blanks: from a place on -/
def Lies (s : List UInt8) : Nat → List Tok → Prop
  | _, [] => True
  | e, t :: ts => e ≤ t.at_ ∧ t.at_ + t.text.length ≤ s.length ∧ (s.drop t.at_).take t.text.length = t.text ∧ Gap ((s.drop e).take (t.at_ - e)) ∧ Lies s (t.at_ + t.text.length) ts
theorem lex_lies (s : List UInt8) : ∀ (N : Nat) (e : Nat) (ts : List Tok) (q : Nat), s.length - e ≤ N → e ≤ s.length → lexW (s.drop e) e = (0, q, ts) → Lies s e ts ∧ Toks ts := by
  intro N
  induction N with
  | zero =>
    intro e ts q hN he h
    have : s.drop e = [] := List.drop_eq_nil_of_le (by omega)
    rw [this, lex_nil] at h
    simp only [Prod.mk.injEq] at h
    obtain ⟨_, _, rfl⟩ := h
    refine ⟨⟨Nat.le_refl _, by simpa using he, by simp, ?_, trivial⟩, rfl, rfl, rfl⟩
    rw [Nat.sub_self, List.take_zero]; exact fun p => lex_nil p
  | succ N ih =>
    intro e ts q hN he h
    obtain ⟨t, us, g, r, rfl, h1, h2, h3, h4⟩ := gap_split _ _ _ _ _ (Nat.le_refl _) h
    have hg : (s.drop e).take (t.at_ - e) = g := by rw [h1, h2, show e + g.length - e = g.length by omega]; exact List.take_left
    have hr : s.drop t.at_ = r := by rw [h2, ← List.drop_drop, h1]; exact List.drop_left
    have hlen : e + g.length + r.length = s.length := by
      have := congrArg List.length h1
      rw [List.length_drop, List.length_append] at this
      omega
    rcases h4 with ⟨rfl, rfl, k0, n0, t0⟩ | ⟨h5, q', h6⟩
    · refine ⟨⟨by omega, by rw [t0]; simp at hlen ⊢; omega, by rw [t0]; rfl, by rw [hg]; exact h3, trivial⟩, k0, n0, t0⟩
    · obtain ⟨o1, o2, ⟨c, x, ht, _⟩, o4⟩ := one_tok h5
      have hpos : 1 ≤ t.text.length := by rw [ht]; simp
      rw [← hr, List.drop_drop] at h6
      obtain ⟨h7, h8⟩ := ih _ us q' (by omega) (by omega) h6
      refine ⟨⟨by omega, by omega, by rw [hr]; exact o1, by rw [hg]; exact h3, h7⟩, ?_⟩
      cases us with
      | nil => exact h8.elim
      | cons u us =>
        refine ⟨?_, ?_, h8⟩
        · have := o4 [] (Or.inl rfl)
          rwa [List.append_nil] at this
        · rcases one_kind h5 with h | h | h | h <;> omega
end Go.Proofs.YtgohkmdepjmpaaaDoor.lx

/- Cutting, counted down: closed texts are cut by reckoning; where an error lies; the whole with its length. -/
namespace Go.Proofs.YtgohkmdepjmpaaaDoor.lx
open Go.RowKit wd

def lexN : Nat → List UInt8 → Nat → Int × Nat × List Tok
  | 0, _, p => (0, 0, [⟨0, p, 0, []⟩])
  | N + 1, l, p =>
    match l with
    | [] => (0, 0, [⟨0, p, 0, []⟩])
    | c :: r =>
      if cls c = 3 then lexN N r (p + 1)
      else if cls c = 4 then lexN N (dropRem r) (p + 1 + (r.takeWhile no10).length)
      else if (oneF (c :: r)).1 ≠ 0 then ((oneF (c :: r)).1, p, [])
      else consR ⟨(oneF (c :: r)).2.1, p, (oneF (c :: r)).2.2.1, (oneF (c :: r)).2.2.2⟩ (lexN N (r.drop ((oneF (c :: r)).2.2.2.length - 1)) (p + (oneF (c :: r)).2.2.2.length))
theorem lexN_eq : ∀ (N : Nat) (l : List UInt8) (p : Nat), l.length ≤ N → lexN N l p = lexW l p
  | 0, [], p, _ => by rw [lex_nil]; rfl
  | 0, c :: l, p, h => by simp at h
  | N + 1, [], p, _ => by rw [lex_nil]; rfl
  | N + 1, c :: l, p, h => by
    have hl : l.length ≤ N := by simpa using h
    have hd := dropRem_len l
    unfold lexN
    simp only
    by_cases h3 : cls c = 3
    · rw [lex_blank h3, if_pos h3]; exact lexN_eq N l _ hl
    · by_cases h4 : cls c = 4
      · rw [lex_rem h4, if_neg h3, if_pos h4]; exact lexN_eq N _ _ (by omega)
      · by_cases hb : (oneF (c :: l)).1 = 0
        · rw [lex_tok h3 h4 l p hb, if_neg h3, if_neg h4, if_neg (by simp [hb])]
          congr 1
          exact lexN_eq N _ _ (by rw [List.length_drop]; omega)
        · rw [lex_bad h3 h4 l p hb, if_neg h3, if_neg h4, if_pos hb]
/-- an error lies in the text -/
theorem lex_place : ∀ (N : Nat) (l : List UInt8) (p : Nat), l.length ≤ N → (lexW l p).2.1 ≤ p + l.length
  | N, [], p, _ => by rw [lex_nil]; exact Nat.zero_le _
  | 0, c :: l, p, h => by simp at h
  | N + 1, c :: l, p, h => by
    have hl : l.length ≤ N := by simpa using h
    have hd := dropRem_len l
    have ht := congrArg List.length (dropRem_take l)
    rw [List.length_append] at ht
    by_cases h3 : cls c = 3
    · rw [lex_blank h3]
      have := lex_place N l (p + 1) hl
      rw [List.length_cons]; omega
    · by_cases h4 : cls c = 4
      · rw [lex_rem h4]
        have := lex_place N (dropRem l) (p + 1 + (l.takeWhile no10).length) (by omega)
        rw [List.length_cons]; omega
      · by_cases hb : (oneF (c :: l)).1 = 0
        · have hh : oneF (c :: l) = (0, (oneF (c :: l)).2.1, (oneF (c :: l)).2.2.1, (oneF (c :: l)).2.2.2) := by rw [← hb]
          obtain ⟨o1, o2, ⟨x, y, o3, _⟩, _⟩ := one_tok hh
          rw [lex_tok h3 h4 l p hb]
          unfold consR
          split
          · exact Nat.zero_le _
          · have h5 : 1 ≤ (oneF (c :: l)).2.2.2.length := by rw [o3]; simp
            have := lex_place N (l.drop ((oneF (c :: l)).2.2.2.length - 1)) (p + (oneF (c :: l)).2.2.2.length) (by rw [List.length_drop]; omega)
            rw [List.length_drop] at this
            rw [List.length_cons] at o2 ⊢
            omega
        · rw [lex_bad h3 h4 l p hb]; show p ≤ _; omega
/-- there are at most as many tokens as bytes, and one more -/
theorem lex_count : ∀ (N : Nat) (l : List UInt8) (p : Nat), l.length ≤ N → (lexW l p).2.2.length ≤ l.length + 1
  | N, [], p, _ => by rw [lex_nil]; exact Nat.le_refl _
  | 0, c :: l, p, h => by simp at h
  | N + 1, c :: l, p, h => by
    have hl : l.length ≤ N := by simpa using h
    have hd := dropRem_len l
    by_cases h3 : cls c = 3
    · rw [lex_blank h3]
      have := lex_count N l (p + 1) hl
      rw [List.length_cons]; omega
    · by_cases h4 : cls c = 4
      · rw [lex_rem h4]
        have := lex_count N (dropRem l) (p + 1 + (l.takeWhile no10).length) (by omega)
        rw [List.length_cons]; omega
      · by_cases hb : (oneF (c :: l)).1 = 0
        · rw [lex_tok h3 h4 l p hb]
          have := lex_count N (l.drop ((oneF (c :: l)).2.2.2.length - 1)) (p + (oneF (c :: l)).2.2.2.length) (by rw [List.length_drop]; omega)
          rw [List.length_drop] at this
          unfold consR
          split
          · show (_ :: _ : List Tok).length ≤ _
            rw [List.length_cons, List.length_cons]; omega
          · rw [List.length_cons]; omega
        · rw [lex_bad h3 h4 l p hb]; simp
/-- an error has no tokens -/
theorem lex_none : ∀ (N : Nat) (l : List UInt8) (p : Nat), l.length ≤ N → (lexW l p).1 ≠ 0 → (lexW l p).2.2 = []
  | N, [], p, _, h => by rw [lex_nil] at h; exact absurd rfl h
  | 0, c :: l, p, h, _ => by simp at h
  | N + 1, c :: l, p, h, h0 => by
    have hl : l.length ≤ N := by simpa using h
    have hd := dropRem_len l
    by_cases h3 : cls c = 3
    · rw [lex_blank h3] at h0 ⊢; exact lex_none N l _ hl h0
    · by_cases h4 : cls c = 4
      · rw [lex_rem h4] at h0 ⊢; exact lex_none N _ _ (by omega) h0
      · by_cases hb : (oneF (c :: l)).1 = 0
        · rw [lex_tok h3 h4 l p hb] at h0 ⊢
          unfold consR at h0 ⊢
          split at h0
          · exact absurd rfl h0
          · rename_i hne
            rw [if_neg hne]
            exact lex_none N _ _ (by rw [List.length_drop]; omega) hne
        · rw [lex_bad h3 h4 l p hb]
theorem lex_blanks : ∀ (n p : Nat), lexW (List.replicate n 32) p = (0, 0, [⟨0, p + n, 0, []⟩])
  | 0, p => by rw [List.replicate_zero, lex_nil]; rfl
  | n + 1, p => by rw [List.replicate_succ, lex_blank cls_sp, lex_blanks n (p + 1), show p + 1 + n = p + (n + 1) by omega]
/-- the whole: a text that is too long is refused -/
def lexA (l : List UInt8) : Int × Nat × List Tok := if 16384 < l.length then (3, 16384, []) else lexW l 0
theorem lexA_in {l : List UInt8} (h : l.length ≤ 16384) : lexA l = lexW l 0 := if_neg (by omega)
theorem lexA_out {l : List UInt8} (h : 16384 < l.length) : lexA l = (3, 16384, []) := if_pos h
def exS : List UInt8 := [120, 49, 32, 61, 32, 48, 55, 59, 32, 35, 32, 101, 110, 100]
def exT : List Tok := [⟨1, 0, 0, [120, 49]⟩, ⟨4, 3, 0, [61]⟩, ⟨2, 5, 7, [48, 55]⟩, ⟨4, 7, 0, [59]⟩, ⟨0, 14, 0, []⟩]
theorem ex_lex : lexA exS = (0, 0, exT) := by
  rw [lexA_in (by decide), ← lexN_eq 14 exS 0 (by decide)]
  kernel_rfl
theorem ex_spell : spellL exT = [120, 49, 32, 61, 32, 48, 55, 32, 59] := by kernel_rfl
end Go.Proofs.YtgohkmdepjmpaaaDoor.lx

/- The document's own tokens: classes, one token. -/
namespace Go.Proofs.YtgohkmdepjmpaaaDoor.lx
open Go.RowKit mem vt wd

theorem class_any (n : Nat) (w : World) (hn : n < 256) : Calls Tryd.prog 17 #[.int .u8 n] w fun e w' => e = .returned (.int .i64 (clsN n)) ∧ w = w' := by
  obtain ⟨K, hK⟩ : ∃ K, K = clsN n := ⟨_, rfl⟩
  have HK := Lib.hid hK
  rw [← hK]
  clear hK
  go_enter Tryd.func17, Tryd.ntmps17
  go_wp2_with (fail)
  all_goals go_ret
  all_goals refine ⟨congrArg (fun x => Ending.returned (Value.int IntKind.i64 x)) ?_, rfl⟩
  all_goals have hk := HK.out
  all_goals unfold clsN at hk
  all_goals try simp only [beq_iff_eq, beq_eq_false_iff_ne] at *
  all_goals (split at hk <;> first | omega | (split at hk <;> first | omega | (split at hk <;> first | omega | (split at hk <;> omega))))
/-! ### a run of bytes of some classes -/
theorem tw_in (L : List UInt8) (p : UInt8 → Bool) (k : Nat) (hk : k < (L.takeWhile p).length) : ∃ h : k < L.length, p L[k] = true := by
  have h1 := tw_pre p L
  have hlt : k < L.length := by
    have := (List.takeWhile_sublist p (l := L)).length_le
    omega
  refine ⟨hlt, ?_⟩
  have h2 := tw_all p L
  rw [List.all_eq_true] at h2
  have h3 : (L.takeWhile p)[k] = L[k] := by
    have : (L.take (L.takeWhile p).length)[k]? = (L.takeWhile p)[k]? := by rw [h1]
    rw [List.getElem?_take, if_pos hk, List.getElem?_eq_getElem hk, List.getElem?_eq_getElem hlt] at this
    exact (Option.some.inj this).symm
  rw [← h3]
  exact h2 _ (List.getElem_mem hk)
theorem tw_end (L : List UInt8) (p : UInt8 → Bool) (h : (L.takeWhile p).length < L.length) : p (L[(L.takeWhile p).length]) = false := by
  induction L with
  | nil => simp at h
  | cons c r ih =>
    by_cases hc : p c = true
    · have e : (c :: r).takeWhile p = c :: r.takeWhile p := by rw [List.takeWhile_cons, if_pos hc]
      have h2 : (r.takeWhile p).length < r.length := by rw [e] at h; simpa using h
      have := ih h2
      simp only [e, List.length_cons, List.getElem_cons_succ]
      exact this
    · have e : (c :: r).takeWhile p = [] := by rw [List.takeWhile_cons, if_neg hc]
      simp only [e, List.length_nil, List.getElem_cons_zero]
      simpa using hc
/-- the run's end, as a place of the whole text -/
def runE (s : ByteArray) (p : UInt8 → Bool) (at_ : Nat) : Nat := at_ + ((s.data.toList.drop at_).takeWhile p).length
theorem run_le (s : ByteArray) (p : UInt8 → Bool) (at_ : Nat) (h : at_ ≤ s.size) : runE s p at_ ≤ s.size ∧ at_ ≤ runE s p at_ := by
  unfold runE
  have := (List.takeWhile_sublist p (l := s.data.toList.drop at_)).length_le
  rw [List.length_drop] at this
  have e : s.data.toList.length = s.size := by simp
  omega
theorem run_inside (s : ByteArray) (p : UInt8 → Bool) (at_ e : Nat) (h1 : at_ ≤ e) (h2 : e < runE s p at_) : ∃ h : e < s.size, p s[e] = true := by
  unfold runE at h2
  obtain ⟨hk, hp⟩ := tw_in (s.data.toList.drop at_) p (e - at_) (by omega)
  have he : e < s.size := by rw [List.length_drop] at hk; have e : s.data.toList.length = s.size := by simp
                             omega
  refine ⟨he, ?_⟩
  rw [List.getElem_drop] at hp
  simp only [show at_ + (e - at_) = e by omega] at hp
  exact hp
theorem run_end (s : ByteArray) (p : UInt8 → Bool) (at_ : Nat) (h : runE s p at_ < s.size) : p (s[runE s p at_]) = false := by
  have hl : ((s.data.toList.drop at_).takeWhile p).length < (s.data.toList.drop at_).length := by
    unfold runE at h
    rw [List.length_drop]
    have e : s.data.toList.length = s.size := by simp
    omega
  have := tw_end (s.data.toList.drop at_) p hl
  rw [List.getElem_drop] at this
  exact this
theorem run_text (s : ByteArray) (p : UInt8 → Bool) (at_ : Nat) : s.extract at_ (runE s p at_) = ⟨((s.data.toList.drop at_).takeWhile p).toArray⟩ := by
  apply ByteArray.ext
  apply Array.ext'
  rw [Lib.extract_data]
  unfold runE
  rw [show at_ + ((s.data.toList.drop at_).takeWhile p).length - at_ = ((s.data.toList.drop at_).takeWhile p).length by omega, tw_pre]
end Go.Proofs.YtgohkmdepjmpaaaDoor.lx

/- The document's own token at a place. -/
namespace Go.Proofs.YtgohkmdepjmpaaaDoor.lx
open Go.RowKit mem vt wd

def tokA (k : Int) (p : Nat) (n : Int) (t : List UInt8) : Value := .agg #[.int .i64 k, .int .i64 p, .int .i64 n, .string ⟨t.toArray⟩]
def oneRes (p : Nat) (r : Int × Int × Int × List UInt8) : Value := .tuple #[tokA r.2.1 p r.2.2.1 r.2.2.2, .int .i64 r.1]
theorem drop_cons (s : ByteArray) (p : Nat) (h : p < s.size) : s.data.toList.drop p = s[p] :: s.data.toList.drop (p + 1) := by
  rw [List.drop_eq_getElem_cons (by simpa using h)]; rfl
theorem cut_text (s : ByteArray) (p : UInt8 → Bool) (a e : Nat) (h : e = runE s p a) (hle : a ≤ e) (hs : e ≤ s.size) (w : World) :
    (Instr.slice 9 (.string s) (some (.int .i64 a)) (some (.int .i64 e)) none).run Tryd.prog w = .ok (.string ⟨((s.data.toList.drop a).takeWhile p).toArray⟩) w := by
  have x := run_slice_string (P := Tryd.prog) w 9 s .i64 .i64 (a : Int) (e : Int) Tryd.underlying9 (by omega) (by omega) (by omega)
  rw [Int.toNat_natCast, Int.toNat_natCast, h, run_text, ← h] at x
  exact x
theorem one_letter {c : UInt8} (h : cls c = 1) (r : List UInt8) : oneF (c :: r) = (if 32 < ((c :: r).takeWhile isLD).length then 3 else 0, if isW ((c :: r).takeWhile isLD) = true then 3 else 1, 0, (c :: r).takeWhile isLD) := by
  unfold oneF; simp only [if_pos h]
theorem one_ret {tm : Array Value} {w2 : World} {R : Nat} {a b c d : Value} {e : Int} (h4 : tm.getD 4 undef = .pointer (some ⟨R, 0, none⟩)) (h5 : tm.getD 5 undef = .int .i64 e) (hb : Box w2 R 44 #[a, b, c, d]) :
    (results Tryd.f18 tm).run Tryd.prog w2 = .ok (.tuple #[.agg #[a, b, c, d], .int .i64 e]) w2 := by
  have x0 := hb.cell 0
  have x1 := hb.cell 1
  have x2 := hb.cell 2
  have x3 := hb.cell 3
  simp only [List.getElem?_toArray, List.getElem?_cons_zero, List.getElem?_cons_succ] at x0 x1 x2 x3
  have h4' : tm[4]?.getD undef = .pointer (some ⟨R, 0, none⟩) := by simpa using h4
  have h5' : tm[5]?.getD undef = .int .i64 e := by simpa using h5
  simp [results, Tryd.results18, go_sem, h4', h5', x0, x1, x2, x3]
theorem box_four {w : World} {g : Nat} {t : TypeId} {x y z u : Value} (h : Box w g t #[x, y, z, u]) (a b c d : Value) : Box ((((w.setCell ⟨g, 0, none⟩ a).setCell ⟨g, 1, none⟩ b).setCell ⟨g, 2, none⟩ c).setCell ⟨g, 3, none⟩ d) g t #[a, b, c, d] := (((h.set 0 a).set 1 b).set 2 c).set 3 d
theorem below_four {B g : Nat} {w0 w : World} (h : Below B w0 w) (hg : B ≤ g) (a b c d : Value) : Below B w0 ((((w.setCell ⟨g, 0, none⟩ a).setCell ⟨g, 1, none⟩ b).setCell ⟨g, 2, none⟩ c).setCell ⟨g, 3, none⟩ d) := (((h.setCell hg a).setCell hg b).setCell hg c).setCell hg d
set_option maxHeartbeats 400000 in
theorem one_name (s : ByteArray) (p : Nat) (w : World) (hs : s.size ≤ 1048576) (hp : p < s.size) (hc : clsN s[p].toNat = 1) :
    Calls Tryd.prog 18 #[.string s, .int .i64 p] w fun e w' => e = .returned (oneRes p (oneF (s.data.toList.drop p))) ∧ Below w.heap.size w w' := by
  obtain ⟨E, hE⟩ : ∃ E, E = runE s isLD p := ⟨_, rfl⟩
  obtain ⟨hE1, hE2⟩ := run_le s isLD p (by omega)
  rw [← hE] at hE1 hE2
  have HE := Lib.hid hE
  clear hE
  have hcl : ∀ w, Hid (Calls Tryd.prog 17 #[.int .u8 s[p].toNat] w fun e w' => e = .returned (.int .i64 1) ∧ w = w') := fun w => Lib.hid (by
    have h := class_any s[p].toNat w (by have := s[p].toNat_lt; omega)
    rw [hc] at h; exact h)
  have HC : Hid (cls s[p] = 1) := Lib.hid hc
  clear hc
  go_enter Tryd.func18, Tryd.ntmps18
  go_wp2_with (first | (go_at_call 17; refine (hcl _).out.mono ?_; rintro e w1 ⟨rfl, rfl⟩))
  obtain ⟨W, hW⟩ : ∃ W, W = w.alloc (.cells #[.int .i64 0, .int .i64 0, .int .i64 0, .string ⟨#[]⟩] 44) := ⟨_, rfl⟩
  have HB : Hid (Below w.heap.size w W) := Lib.hid (by rw [hW]; exact (Below.refl _ _).alloc (Nat.le_refl _) _)
  have HT : Hid (W.heap[w.heap.size]? = some (.cells #[.int .i64 0, .int .i64 0, .int .i64 0, .string ⟨#[]⟩] 44 (0, 0))) := Lib.hid (by rw [hW]; exact heap_alloc_new _ _)
  rw [← hW]
  clear hW
  go_loop [7] (fun i => ∃ e : Nat, i = .int .i64 e ∧ p ≤ e ∧ e ≤ E) (fun i => s.size - (intOf i).toNat)
  case atStart => exact ⟨p, rfl, by omega, by omega⟩
  case round =>
    obtain ⟨e, rfl, he1, he2⟩ := hrel
    by_cases hlt : e < E
    · obtain ⟨hes, hld⟩ := run_inside s isLD p e he1 (by rw [← HE.out]; exact hlt)
      have hK : clsN s[e].toNat = 1 ∨ clsN s[e].toNat = 2 := by unfold isLD isL isDg cls at hld; simpa using hld
      obtain ⟨K, hKK⟩ : ∃ K, K = clsN s[e].toNat := ⟨_, rfl⟩
      have hcl2 : ∀ w, Hid (Calls Tryd.prog 17 #[.int .u8 s[e].toNat] w fun e w' => e = .returned (.int .i64 K) ∧ w = w') := fun w => Lib.hid (by
        have h := class_any s[e].toNat w (by have := s[e].toNat_lt; omega)
        rw [← hKK] at h; exact h)
      rw [← hKK] at hK
      clear hKK hld
      rcases hK with rfl | rfl
      · go_wp2_with (first | (go_at_call 17; refine (hcl2 _).out.mono ?_; rintro e w1 ⟨rfl, rfl⟩))
        go_round
        case rel => exact ⟨e + 1, by go_num, by omega, by omega⟩
        case measure => simp [intOf]; omega
      · go_wp2_with (first | (go_at_call 17; refine (hcl2 _).out.mono ?_; rintro e w1 ⟨rfl, rfl⟩))
        go_round
        case rel => exact ⟨e + 1, by go_num, by omega, by omega⟩
        case measure => simp [intOf]; omega
    · obtain rfl : e = E := by omega
      clear hlt he2
      have hct := cut_text s isLD p e HE.out hE2 hE1
      obtain ⟨t, ht⟩ : ∃ t, t = (s.data.toList.drop p).takeWhile isLD := ⟨_, rfl⟩
      rw [← ht] at hct
      by_cases hlt : e < s.size
      · have hno := run_end s isLD p (by rw [← HE.out]; exact hlt)
        simp only [← HE.out] at hno
        have hK : ¬ clsN s[e].toNat = 1 ∧ ¬ clsN s[e].toNat = 2 := by unfold isLD isL isDg cls at hno; simpa using hno
        obtain ⟨K, hKK⟩ : ∃ K, K = clsN s[e].toNat := ⟨_, rfl⟩
        have hcl2 : ∀ w, Hid (Calls Tryd.prog 17 #[.int .u8 s[e].toNat] w fun e w' => e = .returned (.int .i64 K) ∧ w = w') := fun w => Lib.hid (by
          have h := class_any s[e].toNat w (by have := s[e].toNat_lt; omega)
          rw [← hKK] at h; exact h)
        rw [← hKK] at hK
        have k1 : (K == 1) = false := by rw [beq_eq_false_iff_ne]; exact hK.1
        have k2 : (K == 2) = false := by rw [beq_eq_false_iff_ne]; exact hK.2
        clear hKK hK hno
        go_wp2_with (first | (go_at_call 17; refine (hcl2 _).out.mono ?_; rintro e w1 ⟨rfl, rfl⟩))
        rw [← ht]
        have htl : t.length ≤ 1048576 := by
          have := (List.takeWhile_sublist isLD (l := s.data.toList.drop p)).length_le
          rw [← ht, List.length_drop] at this
          have e : s.data.toList.length = s.size := by simp
          omega
        have HRT : Hid (oneF (s.data.toList.drop p) = (if 32 < t.length then 3 else 0, if isW t = true then 3 else 1, 0, t)) := Lib.hid (by
          rw [ht, drop_cons s p hp]; exact one_letter HC.out _)
        clear ht hct HC
        have HI := Lib.hid (ris_any t (W.alloc (.cells #[.int .i64 1, .int .i64 p, .int .i64 0, .string ⟨t.toArray⟩] 44)))
        obtain ⟨W1, hW1⟩ : ∃ W1, W1 = W.alloc (.cells #[.int .i64 1, .int .i64 p, .int .i64 0, .string ⟨t.toArray⟩] 44) := ⟨_, rfl⟩
        have BX : Box W1 W.heap.size 44 #[.int .i64 1, .int .i64 p, .int .i64 0, .string ⟨t.toArray⟩] := by rw [hW1]; exact Box.new _ _ _ _ rfl
        have BR : Box W1 w.heap.size 44 #[.int .i64 0, .int .i64 0, .int .i64 0, .string ⟨#[]⟩] := by rw [hW1]; exact Box.alloc HT.out _
        have HB1 : Hid (Below w.heap.size w W1) := Lib.hid (by rw [hW1]; exact HB.out.alloc HB.out.size _)
        have hne : w.heap.size < W.heap.size := Box.lt HT.out
        rw [← hW1] at HI ⊢
        clear hW1 HT HB
        refine HI.out.mono ?_
        rintro e1 w1 ⟨rfl, hb1⟩
        replace BX := BX.on hb1
        replace BR := BR.on hb1
        have HB2 := Lib.hid (HB1.out.trans (hb1.mono HB1.out.size))
        clear hb1 HB1 HI
        obtain ⟨H, hH⟩ : ∃ H, H = W.heap.size := ⟨_, rfl⟩
        rw [← hH] at BX hne ⊢
        clear hH
        obtain ⟨R, hR⟩ : ∃ R, R = w.heap.size := ⟨_, rfl⟩
        rw [← hR] at BR hne HB2
        have HR := Lib.hid hR
        rw [← hR]
        clear hR
        have x0 := BX.cell 0
        have x1 := BX.cell 1
        have x2 := BX.cell 2
        have x3 := BX.cell 3
        have xf := BX.frozen 0
        have y0 := BR.cell 0
        have y1 := BR.cell 1
        have y2 := BR.cell 2
        have y3 := BR.cell 3
        have f0 := BR.frozen 0
        have f1 := BR.frozen 1
        have f2 := BR.frozen 2
        have f3 := BR.frozen 3
        have HBR := Lib.hid BR
        clear BX BR
        simp only [List.getElem?_toArray, List.getElem?_cons_zero, List.getElem?_cons_succ] at x0 x1 x2 x3 y0 y1 y2 y3
        have hne2 : ¬ H = R := by omega
        have hne3 : ¬ R = H := by omega
        by_cases hlong : 32 < t.length
        · rw [if_pos hlong] at HRT
          have hlong2 : 32 < (t.length : Int) := by omega
          cases hw : isW t
          · rw [hw] at HRT
            go_wp2_with (fail)
            try simp only [Exit.inBlock, Exit.then]
            refine bodyPost_ret (one_ret rfl rfl (box_four HBR.out _ _ _ _)) rfl ?_
            exact ⟨by rw [HRT.out]; rfl, by rw [← HR.out]; exact below_four HB2.out (Nat.le_refl _) _ _ _ _⟩
          · rw [hw] at HRT
            go_wp2_with (fail)
            try simp only [Exit.inBlock, Exit.then]
            refine bodyPost_ret (one_ret rfl rfl (box_four (HBR.out.far (by exact hne3) _) _ _ _ _)) rfl ?_
            exact ⟨by rw [HRT.out]; rfl, by rw [← HR.out]; exact below_four (HB2.out.setCell (by dsimp only; omega) _) (Nat.le_refl _) _ _ _ _⟩
        · rw [if_neg hlong] at HRT
          have hlong2 : ¬ 32 < (t.length : Int) := by omega
          cases hw : isW t
          · rw [hw] at HRT
            go_wp2_with (fail)
            try simp only [Exit.inBlock, Exit.then]
            refine bodyPost_ret (one_ret rfl rfl (box_four HBR.out _ _ _ _)) rfl ?_
            exact ⟨by rw [HRT.out]; rfl, by rw [← HR.out]; exact below_four HB2.out (Nat.le_refl _) _ _ _ _⟩
          · rw [hw] at HRT
            go_wp2_with (fail)
            try simp only [Exit.inBlock, Exit.then]
            refine bodyPost_ret (one_ret rfl rfl (box_four (HBR.out.far (by exact hne3) _) _ _ _ _)) rfl ?_
            exact ⟨by rw [HRT.out]; rfl, by rw [← HR.out]; exact below_four (HB2.out.setCell (by dsimp only; omega) _) (Nat.le_refl _) _ _ _ _⟩
      · obtain rfl : e = s.size := by omega
        go_wp2_with (fail)
        rw [← ht]
        have htl : t.length ≤ 1048576 := by
          have := (List.takeWhile_sublist isLD (l := s.data.toList.drop p)).length_le
          rw [← ht, List.length_drop] at this
          have e : s.data.toList.length = s.size := by simp
          omega
        have HRT : Hid (oneF (s.data.toList.drop p) = (if 32 < t.length then 3 else 0, if isW t = true then 3 else 1, 0, t)) := Lib.hid (by
          rw [ht, drop_cons s p hp]; exact one_letter HC.out _)
        clear ht hct HC
        have HI := Lib.hid (ris_any t (W.alloc (.cells #[.int .i64 1, .int .i64 p, .int .i64 0, .string ⟨t.toArray⟩] 44)))
        obtain ⟨W1, hW1⟩ : ∃ W1, W1 = W.alloc (.cells #[.int .i64 1, .int .i64 p, .int .i64 0, .string ⟨t.toArray⟩] 44) := ⟨_, rfl⟩
        have BX : Box W1 W.heap.size 44 #[.int .i64 1, .int .i64 p, .int .i64 0, .string ⟨t.toArray⟩] := by rw [hW1]; exact Box.new _ _ _ _ rfl
        have BR : Box W1 w.heap.size 44 #[.int .i64 0, .int .i64 0, .int .i64 0, .string ⟨#[]⟩] := by rw [hW1]; exact Box.alloc HT.out _
        have HB1 : Hid (Below w.heap.size w W1) := Lib.hid (by rw [hW1]; exact HB.out.alloc HB.out.size _)
        have hne : w.heap.size < W.heap.size := Box.lt HT.out
        rw [← hW1] at HI ⊢
        clear hW1 HT HB
        refine HI.out.mono ?_
        rintro e1 w1 ⟨rfl, hb1⟩
        replace BX := BX.on hb1
        replace BR := BR.on hb1
        have HB2 := Lib.hid (HB1.out.trans (hb1.mono HB1.out.size))
        clear hb1 HB1 HI
        obtain ⟨H, hH⟩ : ∃ H, H = W.heap.size := ⟨_, rfl⟩
        rw [← hH] at BX hne ⊢
        clear hH
        obtain ⟨R, hR⟩ : ∃ R, R = w.heap.size := ⟨_, rfl⟩
        rw [← hR] at BR hne HB2
        have HR := Lib.hid hR
        rw [← hR]
        clear hR
        have x0 := BX.cell 0
        have x1 := BX.cell 1
        have x2 := BX.cell 2
        have x3 := BX.cell 3
        have xf := BX.frozen 0
        have y0 := BR.cell 0
        have y1 := BR.cell 1
        have y2 := BR.cell 2
        have y3 := BR.cell 3
        have f0 := BR.frozen 0
        have f1 := BR.frozen 1
        have f2 := BR.frozen 2
        have f3 := BR.frozen 3
        have HBR := Lib.hid BR
        clear BX BR
        simp only [List.getElem?_toArray, List.getElem?_cons_zero, List.getElem?_cons_succ] at x0 x1 x2 x3 y0 y1 y2 y3
        have hne2 : ¬ H = R := by omega
        have hne3 : ¬ R = H := by omega
        by_cases hlong : 32 < t.length
        · rw [if_pos hlong] at HRT
          have hlong2 : 32 < (t.length : Int) := by omega
          cases hw : isW t
          · rw [hw] at HRT
            go_wp2_with (fail)
            try simp only [Exit.inBlock, Exit.then]
            refine bodyPost_ret (one_ret rfl rfl (box_four HBR.out _ _ _ _)) rfl ?_
            exact ⟨by rw [HRT.out]; rfl, by rw [← HR.out]; exact below_four HB2.out (Nat.le_refl _) _ _ _ _⟩
          · rw [hw] at HRT
            go_wp2_with (fail)
            try simp only [Exit.inBlock, Exit.then]
            refine bodyPost_ret (one_ret rfl rfl (box_four (HBR.out.far (by exact hne3) _) _ _ _ _)) rfl ?_
            exact ⟨by rw [HRT.out]; rfl, by rw [← HR.out]; exact below_four (HB2.out.setCell (by dsimp only; omega) _) (Nat.le_refl _) _ _ _ _⟩
        · rw [if_neg hlong] at HRT
          have hlong2 : ¬ 32 < (t.length : Int) := by omega
          cases hw : isW t
          · rw [hw] at HRT
            go_wp2_with (fail)
            try simp only [Exit.inBlock, Exit.then]
            refine bodyPost_ret (one_ret rfl rfl (box_four HBR.out _ _ _ _)) rfl ?_
            exact ⟨by rw [HRT.out]; rfl, by rw [← HR.out]; exact below_four HB2.out (Nat.le_refl _) _ _ _ _⟩
          · rw [hw] at HRT
            go_wp2_with (fail)
            try simp only [Exit.inBlock, Exit.then]
            refine bodyPost_ret (one_ret rfl rfl (box_four (HBR.out.far (by exact hne3) _) _ _ _ _)) rfl ?_
            exact ⟨by rw [HRT.out]; rfl, by rw [← HR.out]; exact below_four (HB2.out.setCell (by dsimp only; omega) _) (Nat.le_refl _) _ _ _ _⟩
theorem one_digit {c : UInt8} (h : cls c = 2) (r : List UInt8) : oneF (c :: r) = ((whole.readS ((c :: r).takeWhile isDg)).2, 2, (whole.readS ((c :: r).takeWhile isDg)).1, (c :: r).takeWhile isDg) := by
  unfold oneF; simp only [if_neg (show ¬ cls c = 1 by rw [h]; decide), if_pos h]
theorem one_mark {c : UInt8} (h1 : ¬ cls c = 1) (h2 : ¬ cls c = 2) (r : List UInt8) : oneF (c :: r) = if markF ((c :: r).take 2) = [] then (1, 0, 0, []) else (0, 4, 0, markF ((c :: r).take 2)) := by
  unfold oneF; simp only [if_neg h1, if_neg h2]
set_option maxHeartbeats 400000 in
theorem one_num (s : ByteArray) (p : Nat) (w : World) (hs : s.size ≤ 1048576) (hp : p < s.size) (hc : clsN s[p].toNat = 2) :
    Calls Tryd.prog 18 #[.string s, .int .i64 p] w fun e w' => e = .returned (oneRes p (oneF (s.data.toList.drop p))) ∧ Below w.heap.size w w' := by
  obtain ⟨E, hE⟩ : ∃ E, E = runE s isDg p := ⟨_, rfl⟩
  obtain ⟨hE1, hE2⟩ := run_le s isDg p (by omega)
  rw [← hE] at hE1 hE2
  have HE := Lib.hid hE
  clear hE
  have hcl : ∀ w, Hid (Calls Tryd.prog 17 #[.int .u8 s[p].toNat] w fun e w' => e = .returned (.int .i64 2) ∧ w = w') := fun w => Lib.hid (by
    have h := class_any s[p].toNat w (by have := s[p].toNat_lt; omega)
    rw [hc] at h; exact h)
  have HC : Hid (cls s[p] = 2) := Lib.hid hc
  clear hc
  go_enter Tryd.func18, Tryd.ntmps18
  go_wp2_with (first | (go_at_call 17; refine (hcl _).out.mono ?_; rintro e w1 ⟨rfl, rfl⟩))
  obtain ⟨W, hW⟩ : ∃ W, W = w.alloc (.cells #[.int .i64 0, .int .i64 0, .int .i64 0, .string ⟨#[]⟩] 44) := ⟨_, rfl⟩
  have HB : Hid (Below w.heap.size w W) := Lib.hid (by rw [hW]; exact (Below.refl _ _).alloc (Nat.le_refl _) _)
  have HT : Hid (Box W w.heap.size 44 #[.int .i64 0, .int .i64 0, .int .i64 0, .string ⟨#[]⟩]) := Lib.hid (by rw [hW]; exact heap_alloc_new _ _)
  rw [← hW]
  clear hW
  go_loop [7] (fun i => ∃ e : Nat, i = .int .i64 e ∧ p ≤ e ∧ e ≤ E) (fun i => s.size - (intOf i).toNat)
  case atStart => exact ⟨p, rfl, by omega, by omega⟩
  case round =>
    obtain ⟨e, rfl, he1, he2⟩ := hrel
    by_cases hlt : e < E
    · obtain ⟨hes, hld⟩ := run_inside s isDg p e he1 (by rw [← HE.out]; exact hlt)
      have hK : clsN s[e].toNat = 2 := by unfold isDg cls at hld; simpa using hld
      have hcl2 : ∀ w, Hid (Calls Tryd.prog 17 #[.int .u8 s[e].toNat] w fun e w' => e = .returned (.int .i64 2) ∧ w = w') := fun w => Lib.hid (by
        have h := class_any s[e].toNat w (by have := s[e].toNat_lt; omega)
        rw [hK] at h; exact h)
      clear hK hld
      go_wp2_with (first | (go_at_call 17; refine (hcl2 _).out.mono ?_; rintro e w1 ⟨rfl, rfl⟩))
      go_round
      case rel => exact ⟨e + 1, by go_num, by omega, by omega⟩
      case measure => simp [intOf]; omega
    · obtain rfl : e = E := by omega
      clear hlt he2
      have hct := cut_text s isDg p e HE.out hE2 hE1
      obtain ⟨t, ht⟩ : ∃ t, t = (s.data.toList.drop p).takeWhile isDg := ⟨_, rfl⟩
      have HRT : Hid (oneF (s.data.toList.drop p) = ((whole.readS t).2, 2, (whole.readS t).1, t)) := Lib.hid (by
        rw [ht, drop_cons s p hp]; exact one_digit HC.out _)
      rw [← ht] at hct
      have htl : t.length ≤ 1048576 := by
        have := (List.takeWhile_sublist isDg (l := s.data.toList.drop p)).length_le
        rw [← ht, List.length_drop] at this
        have e : s.data.toList.length = s.size := by simp
        omega
      clear ht HC
      have HRD : ∀ w, Hid (Calls Tryd.prog 31 #[.string ⟨t.toArray⟩] w fun e w' => e = whole.ret2 (whole.readS t) ∧ ∃ n, w' = w.drewN n) := fun w => Lib.hid (whole.rread_any ⟨t.toArray⟩ w (by show t.length ≤ _; unfold maxLen; omega))
      obtain ⟨⟨rn, re⟩, hrr⟩ : ∃ r, r = whole.readS t := ⟨_, rfl⟩
      rw [← hrr] at HRT HRD
      simp only at HRT
      clear hrr
      have hR0 := HT.out
      have f0 := hR0.frozen 0
      have f1 := hR0.frozen 1
      have f2 := hR0.frozen 2
      have f3 := hR0.frozen 3
      have y0 := hR0.cell 0
      have y1 := hR0.cell 1
      have y2 := hR0.cell 2
      have y3 := hR0.cell 3
      clear hR0
      simp only [List.getElem?_toArray, List.getElem?_cons_zero, List.getElem?_cons_succ] at y0 y1 y2 y3
      by_cases hlt : e < s.size
      · have hno := run_end s isDg p (by rw [← HE.out]; exact hlt)
        simp only [← HE.out] at hno
        have hK : ¬ clsN s[e].toNat = 2 := by unfold isDg cls at hno; simpa using hno
        obtain ⟨K, hKK⟩ : ∃ K, K = clsN s[e].toNat := ⟨_, rfl⟩
        have hcl2 : ∀ w, Hid (Calls Tryd.prog 17 #[.int .u8 s[e].toNat] w fun e w' => e = .returned (.int .i64 K) ∧ w = w') := fun w => Lib.hid (by
          have h := class_any s[e].toNat w (by have := s[e].toNat_lt; omega)
          rw [← hKK] at h; exact h)
        rw [← hKK] at hK
        have k2 : (K == 2) = false := by rw [beq_eq_false_iff_ne]; exact hK
        clear hKK hK hno
        go_wp2_with (first | (go_at_call 17; refine (hcl2 _).out.mono ?_; rintro e w1 ⟨rfl, rfl⟩) | (go_at_call 31; refine (HRD _).out.mono ?_; rintro e w1 ⟨rfl, q, rfl⟩; unfold whole.ret2))
        try simp only [Exit.inBlock, Exit.then]
        refine bodyPost_ret (one_ret rfl rfl (box_four (show Box (W.drewN q) _ _ _ from HT.out) _ _ _ _)) rfl ?_
        exact ⟨by rw [HRT.out]; rfl, below_four (below_drewN HB.out _) (Nat.le_refl _) _ _ _ _⟩
      · obtain rfl : e = s.size := by omega
        go_wp2_with (first | (go_at_call 31; refine (HRD _).out.mono ?_; rintro e w1 ⟨rfl, q, rfl⟩; unfold whole.ret2))
        try simp only [Exit.inBlock, Exit.then]
        refine bodyPost_ret (one_ret rfl rfl (box_four (show Box (W.drewN q) _ _ _ from HT.out) _ _ _ _)) rfl ?_
        exact ⟨by rw [HRT.out]; rfl, below_four (below_drewN HB.out _) (Nat.le_refl _) _ _ _ _⟩
theorem cut_two (s : ByteArray) (p e : Nat) (hp : p < s.size) (he : e = min (p + 2) s.size) : s.extract p e = ⟨((s.data.toList.drop p).take 2).toArray⟩ := by
  apply ByteArray.ext
  apply Array.ext'
  rw [Lib.extract_data, he]
  have e : s.data.toList.length = s.size := by simp
  rw [List.take_eq_take_iff, List.length_drop]
  omega
set_option maxHeartbeats 400000 in
theorem one_other (s : ByteArray) (p : Nat) (w : World) (hs : s.size ≤ 1048576) (hp : p < s.size) (hc1 : ¬ clsN s[p].toNat = 1) (hc2 : ¬ clsN s[p].toNat = 2) :
    Calls Tryd.prog 18 #[.string s, .int .i64 p] w fun e w' => e = .returned (oneRes p (oneF (s.data.toList.drop p))) ∧ Below w.heap.size w w' := by
  obtain ⟨K, hKK⟩ : ∃ K, K = clsN s[p].toNat := ⟨_, rfl⟩
  have hcl : ∀ w, Hid (Calls Tryd.prog 17 #[.int .u8 s[p].toNat] w fun e w' => e = .returned (.int .i64 K) ∧ w = w') := fun w => Lib.hid (by
    have h := class_any s[p].toNat w (by have := s[p].toNat_lt; omega)
    rw [← hKK] at h; exact h)
  have HRT := Lib.hid (one_mark (c := s[p]) hc1 hc2 (s.data.toList.drop (p + 1)))
  rw [← drop_cons s p hp] at HRT
  rw [← hKK] at hc1 hc2
  have k1 : (K == 1) = false := by rw [beq_eq_false_iff_ne]; exact hc1
  have k2 : (K == 2) = false := by rw [beq_eq_false_iff_ne]; exact hc2
  clear hKK hc1 hc2
  obtain ⟨W, hW⟩ : ∃ W, W = w.alloc (.cells #[.int .i64 0, .int .i64 0, .int .i64 0, .string ⟨#[]⟩] 44) := ⟨_, rfl⟩
  have HB : Hid (Below w.heap.size w W) := Lib.hid (by rw [hW]; exact (Below.refl _ _).alloc (Nat.le_refl _) _)
  have HT : Hid (Box W w.heap.size 44 #[.int .i64 0, .int .i64 0, .int .i64 0, .string ⟨#[]⟩]) := Lib.hid (by rw [hW]; exact heap_alloc_new _ _)
  have HM := Lib.hid (rmark_any ((s.data.toList.drop p).take 2) W (by rw [List.length_take]; omega))
  have HW := Lib.hid hW
  clear hW
  obtain ⟨m, hm⟩ : ∃ m, m = markF ((s.data.toList.drop p).take 2) := ⟨_, rfl⟩
  rw [← hm] at HM HRT
  clear hm
  have tail : ∀ w1, Below W.heap.size W w1 → Box w1 w.heap.size 44 #[.int .i64 0, .int .i64 0, .int .i64 0, .string ⟨#[]⟩] ∧ Below w.heap.size w w1 := fun w1 hb => ⟨HT.out.on hb, HB.out.trans (hb.mono HB.out.size)⟩
  have TL := Lib.hid tail
  clear tail HT HB
  by_cases h2 : p + 2 ≤ s.size
  · have h2' : (p : Int) + 2 ≤ (s.size : Int) := by omega
    go_enter Tryd.func18, Tryd.ntmps18
    go_wp2_with (first | (go_at_call 17; refine (hcl _).out.mono ?_; rintro e w1 ⟨rfl, rfl⟩))
    rw [cut_two s p (p + 2) hp (by omega), ← HW.out]
    refine HM.out.mono ?_
    rintro e1 w1 ⟨rfl, hb⟩
    obtain ⟨BR, HB2⟩ := TL.out w1 hb
    replace HB2 := Lib.hid HB2
    have HBR := Lib.hid BR
    have f0 := BR.frozen 0
    have f1 := BR.frozen 1
    have f2 := BR.frozen 2
    have f3 := BR.frozen 3
    have y0 := BR.cell 0
    have y1 := BR.cell 1
    have y2 := BR.cell 2
    have y3 := BR.cell 3
    clear BR hb TL HM
    simp only [List.getElem?_toArray, List.getElem?_cons_zero, List.getElem?_cons_succ] at y0 y1 y2 y3
    obtain ⟨R, hR⟩ : ∃ R, R = w.heap.size := ⟨_, rfl⟩
    rw [← hR] at HBR HB2 f0 f1 f2 f3 y0 y1 y2 y3
    have HR := Lib.hid hR
    rw [← hR]
    clear hR
    cases m with
    | nil =>
      rw [if_pos rfl] at HRT
      go_wp2_with (fail)
      try simp only [Exit.inBlock, Exit.then]
      refine bodyPost_ret (one_ret rfl rfl (box_four HBR.out _ _ _ _)) rfl ?_
      exact ⟨by rw [HRT.out]; rfl, by rw [← HR.out]; exact below_four HB2.out (Nat.le_refl _) _ _ _ _⟩
    | cons a m =>
      rw [if_neg (by simp)] at HRT
      have hne : (a :: m == []) = false := rfl
      go_wp2_with (fail)
      try simp only [Exit.inBlock, Exit.then]
      refine bodyPost_ret (one_ret rfl rfl (box_four HBR.out _ _ _ _)) rfl ?_
      exact ⟨by rw [HRT.out]; rfl, by rw [← HR.out]; exact below_four HB2.out (Nat.le_refl _) _ _ _ _⟩
  · have h2' : ¬ (p : Int) + 2 ≤ (s.size : Int) := by omega
    go_enter Tryd.func18, Tryd.ntmps18
    go_wp2_with (first | (go_at_call 17; refine (hcl _).out.mono ?_; rintro e w1 ⟨rfl, rfl⟩))
    rw [cut_two s p s.size hp (by omega), ← HW.out]
    refine HM.out.mono ?_
    rintro e1 w1 ⟨rfl, hb⟩
    obtain ⟨BR, HB2⟩ := TL.out w1 hb
    replace HB2 := Lib.hid HB2
    have HBR := Lib.hid BR
    have f0 := BR.frozen 0
    have f1 := BR.frozen 1
    have f2 := BR.frozen 2
    have f3 := BR.frozen 3
    have y0 := BR.cell 0
    have y1 := BR.cell 1
    have y2 := BR.cell 2
    have y3 := BR.cell 3
    clear BR hb TL HM
    simp only [List.getElem?_toArray, List.getElem?_cons_zero, List.getElem?_cons_succ] at y0 y1 y2 y3
    obtain ⟨R, hR⟩ : ∃ R, R = w.heap.size := ⟨_, rfl⟩
    rw [← hR] at HBR HB2 f0 f1 f2 f3 y0 y1 y2 y3
    have HR := Lib.hid hR
    rw [← hR]
    clear hR
    cases m with
    | nil =>
      rw [if_pos rfl] at HRT
      go_wp2_with (fail)
      try simp only [Exit.inBlock, Exit.then]
      refine bodyPost_ret (one_ret rfl rfl (box_four HBR.out _ _ _ _)) rfl ?_
      exact ⟨by rw [HRT.out]; rfl, by rw [← HR.out]; exact below_four HB2.out (Nat.le_refl _) _ _ _ _⟩
    | cons a m =>
      rw [if_neg (by simp)] at HRT
      have hne : (a :: m == []) = false := rfl
      go_wp2_with (fail)
      try simp only [Exit.inBlock, Exit.then]
      refine bodyPost_ret (one_ret rfl rfl (box_four HBR.out _ _ _ _)) rfl ?_
      exact ⟨by rw [HRT.out]; rfl, by rw [← HR.out]; exact below_four HB2.out (Nat.le_refl _) _ _ _ _⟩
end Go.Proofs.YtgohkmdepjmpaaaDoor.lx

/- The document's own list of tokens. -/
namespace Go.Proofs.YtgohkmdepjmpaaaDoor.lx
open Go.RowKit mem vt wd

def tokV (t : Tok) : List Value := [.int .i64 t.kind, .int .i64 t.at_, .int .i64 t.n, .string ⟨t.text.toArray⟩]
def toksV (l : List Tok) : List Value := l.flatMap tokV
theorem toksV_append (a b : List Tok) : toksV (a ++ b) = toksV a ++ toksV b := by unfold toksV; rw [List.flatMap_append]
theorem toksV_one (t : Tok) : toksV [t] = tokV t := by unfold toksV; simp
theorem toksV_len (l : List Tok) : (toksV l).length = l.length * 4 := by
  induction l with
  | nil => rfl
  | cons t l ih => rw [show toksV (t :: l) = tokV t ++ toksV l from rfl, List.length_append, ih, List.length_cons]; show 4 + _ = _; omega
theorem toksV_at : ∀ (l : List Tok) (k j : Nat) (h : k < l.length), j < 4 → (toksV l)[k * 4 + j]? = (tokV l[k])[j]?
  | t :: l, 0, j, _, hj => by
    rw [show toksV (t :: l) = tokV t ++ toksV l from rfl, List.getElem?_append_left (by show _ < 4; omega)]
    simp
  | t :: l, k + 1, j, h, hj => by
    rw [show toksV (t :: l) = tokV t ++ toksV l from rfl, List.getElem?_append_right (by show 4 ≤ _; omega), show (k + 1) * 4 + j - (tokV t).length = k * 4 + j by show _ - 4 = _; omega]
    exact toksV_at l k j (by simpa using h) hj
theorem infoTok : (Tryd.prog.info? 44).map (fun i => (i.zero, i.size, i.bytes)) = some (some (.agg #[.int .i64 0, .int .i64 0, .int .i64 0, .string ⟨#[]⟩]), 4, 40) := by kernel_rfl
theorem tok_one (t : Tok) : ∀ u ∈ tokV t, u.oneCell' = true := by
  intro u hu; simp [tokV] at hu; rcases hu with rfl | rfl | rfl | rfl <;> rfl
theorem tok_new (w : World) (t : Tok) (ty : TypeId) : ∀ j u, (tokV t)[j]? = some u → (w.alloc (.cells (tokV t).toArray ty)).cell? ((⟨w.heap.size, 0, none⟩ : Addr).add j) = some u := by
  intro j u hj
  have h := (Box.new w ty (tokV t).toArray w.heap.size rfl).cell j
  have e : (⟨w.heap.size, 0, none⟩ : Addr).add j = ⟨w.heap.size, j, none⟩ := by unfold Addr.add; simp; omega
  rw [e, h]
  simpa using hj
abbrev TokT : TypeId := 44
/-- the append of one token, met in a walk -/
theorem wpList_tok {w wr : World} {ops : Array Oper} {rest : List Oper} {o : Oper} {a : Act} {Q : Exit → Act → World → Prop} (hgd : o.guard = none) (s x : Operand)
    (ho : o.op = .call { callee := .builtin .append, args := #[s, x], argTypes := #[23, 23] }) (B n : Nat) (acc : List Tok) (t : Tok) (v : Value) (H : Nat)
    (hs : a.eval s = v) (hx : a.eval x = .slice (some ⟨H, 0, none⟩) 1 1) (hg : Got B TokT 4 n (toksV acc) v w wr) (hl : n ≤ 1099511627776) (hB : B ≤ wr.heap.size) (hH : H = wr.heap.size)
    (h : ∀ v' w', Got B TokT 4 (n + 1) (toksV (acc ++ [t])) v' w w' → (wr.alloc (.cells (tokV t).toArray TokT)).grownBy w' v.ownBlock → wpList Tryd.prog ops Q rest (a.put o.dst v') w') :
    wpList Tryd.prog ops Q (o :: rest) a (wr.alloc (.cells (tokV t).toArray TokT)) := by
  obtain ⟨i0, hi, hz0, hz1, hz2⟩ := info_parts infoTok
  subst hH
  refine wpList_append_mine hgd s x 23 ho B TokT i0 (.agg #[.int .i64 0, .int .i64 0, .int .i64 0, .string ⟨#[]⟩]) 4 40 Tryd.underlying23 hi hz0 hz1 hz2 rfl (by decide) v n (toksV acc) hs (hg.1.alloc _) ⟨wr.heap.size, 0, none⟩ 1 1 (tokV t) hx rfl (tok_new wr t TokT) (tok_one t) (by unfold maxLen; omega) (by omega) (by simp; omega) ?_
  intro v' w' h1 h2 h3
  refine h v' w' ?_ h2
  rw [toksV_append, toksV_one]
  exact hg.app hB h1 h2
theorem one_any (s : ByteArray) (p : Nat) (w : World) (hs : s.size ≤ 1048576) (hp : p < s.size) :
    Calls Tryd.prog 18 #[.string s, .int .i64 p] w fun e w' => e = .returned (oneRes p (oneF (s.data.toList.drop p))) ∧ Below w.heap.size w w' := by
  by_cases h1 : clsN s[p].toNat = 1
  · exact one_name s p w hs hp h1
  · by_cases h2 : clsN s[p].toNat = 2
    · exact one_num s p w hs hp h2
    · exact one_other s p w hs hp h1 h2
/-! ### the whole -/
def glue (acc : List Tok) (r : Int × Nat × List Tok) : Int × Nat × List Tok := if r.1 = 0 then (0, 0, acc ++ r.2.2) else r
def AllRel (s : ByteArray) (w : World) (tot : Int × Nat × List Tok) (o i : Value) (wr : World) : Prop :=
  ∃ (a n : Nat) (acc : List Tok), i = .int .i64 a ∧ a ≤ s.size ∧ n ≤ a ∧ Hid (n = acc.length) ∧ Hid (Got w.heap.size TokT 4 n (toksV acc) o w wr) ∧ Hid (glue acc (lexW (s.data.toList.drop a) a) = tot)
theorem glue_nil (r : Int × Nat × List Tok) (h : r.1 = 0 → r.2.1 = 0) : glue [] r = r := by
  unfold glue
  split
  · rename_i h0
    rw [List.nil_append]
    obtain ⟨x, y, z⟩ := r
    have h1 := h h0
    simp only at h0 h1
    rw [h0, h1]
  · rfl
theorem consR_zero (t : Tok) (r : Int × Nat × List Tok) : (consR t r).1 = 0 → (consR t r).2.1 = 0 := by
  unfold consR
  split
  · intro _; rfl
  · rename_i h; intro h0; exact absurd h0 h
theorem lex_zero : ∀ (N : Nat) (l : List UInt8) (p : Nat), l.length ≤ N → (lexW l p).1 = 0 → (lexW l p).2.1 = 0
  | N, [], p, _, _ => by rw [lex_nil]
  | 0, c :: l, p, h, _ => by simp at h
  | N + 1, c :: l, p, h, h0 => by
    by_cases h3 : cls c = 3
    · rw [lex_blank h3] at h0 ⊢; exact lex_zero N l _ (by simpa using h) h0
    · by_cases h4 : cls c = 4
      · rw [lex_rem h4] at h0 ⊢
        have := dropRem_len l
        exact lex_zero N _ _ (by simp at h; omega) h0
      · by_cases hb : (oneF (c :: l)).1 = 0
        · rw [lex_tok h3 h4 l p hb] at h0 ⊢; exact consR_zero _ _ h0
        · rw [lex_bad h3 h4 l p hb] at h0; exact absurd h0 hb
theorem tw_self (l : List UInt8) : l.takeWhile no10 = l.takeWhile no10 := rfl
theorem drop_rem (s : ByteArray) (a : Nat) (h : a < s.size) (h4 : cls s[a] = 4) : dropRem (s.data.toList.drop (a + 1)) = s.data.toList.drop (runE s no10 a) ∧ a + 1 + ((s.data.toList.drop (a + 1)).takeWhile no10).length = runE s no10 a := by
  have hn : no10 s[a] = true := by
    unfold no10
    rw [Bool.not_eq_true', beq_eq_false_iff_ne]
    intro e
    rw [e] at h4
    revert h4; decide
  have e : (s.data.toList.drop a).takeWhile no10 = s[a] :: (s.data.toList.drop (a + 1)).takeWhile no10 := by
    rw [drop_cons s a h, List.takeWhile_cons, if_pos hn]
  have e2 : runE s no10 a = a + 1 + ((s.data.toList.drop (a + 1)).takeWhile no10).length := by unfold runE; rw [e, List.length_cons]; omega
  refine ⟨?_, e2.symm⟩
  have hd : s.data.toList.drop (a + 1 + ((s.data.toList.drop (a + 1)).takeWhile no10).length) = (s.data.toList.drop (a + 1)).drop ((s.data.toList.drop (a + 1)).takeWhile no10).length := (List.drop_drop).symm
  rw [e2, hd]
  obtain ⟨D, hD⟩ : ∃ D, D = s.data.toList.drop (a + 1) := ⟨_, rfl⟩
  rw [← hD]
  have hl := dropRem_take D
  have : ∀ (A B : List UInt8), (A ++ B).drop A.length = B := fun A B => List.drop_left
  conv => rhs; arg 2; rw [hl]
  exact (this _ _).symm
theorem oneF_len {l : List UInt8} (h : (oneF l).1 = 0) : 1 ≤ (oneF l).2.2.2.length ∧ (oneF l).2.2.2.length ≤ l.length := by
  obtain ⟨e, k, n, t⟩ : ∃ r : Int × Int × Int × List UInt8, r = oneF l := ⟨_, rfl⟩
  have hh : oneF l = (0, (oneF l).2.1, (oneF l).2.2.1, (oneF l).2.2.2) := by rw [← h]
  obtain ⟨_, h2, ⟨c, r, ht, _⟩, _⟩ := one_tok hh
  exact ⟨by rw [ht]; simp, h2⟩
theorem glue_cons (acc : List Tok) (t : Tok) (r : Int × Nat × List Tok) : glue acc (consR t r) = glue (acc ++ [t]) r := by
  unfold glue consR
  by_cases h : r.1 = 0
  · simp [h]
  · simp [h]
/-- a token's place in the loop -/
theorem glue_step {s : ByteArray} {a : Nat} {acc : List Tok} {tot : Int × Nat × List Tok} (ha : a < s.size) (_ : cls s[a] ≠ 3) (_ : cls s[a] ≠ 4) (hE : glue acc (lexW (s.data.toList.drop a) a) = tot) {k n : Int} {t : List UInt8} (h : oneF (s.data.toList.drop a) = (0, k, n, t)) :
    glue (acc ++ [⟨k, a, n, t⟩]) (lexW (s.data.toList.drop (a + t.length)) (a + t.length)) = tot := by
  rw [← hE, lex_one h, glue_cons, List.drop_drop]
theorem glue_bad {s : ByteArray} {a : Nat} {acc : List Tok} {tot : Int × Nat × List Tok} (ha : a < s.size) (h3 : cls s[a] ≠ 3) (h4 : cls s[a] ≠ 4) (hE : glue acc (lexW (s.data.toList.drop a) a) = tot) {e k n : Int} {t : List UInt8} (h : oneF (s.data.toList.drop a) = (e, k, n, t)) (he : e ≠ 0) :
    tot = (e, a, []) := by
  rw [← hE]
  rw [drop_cons s a ha] at h ⊢
  rw [lex_bad h3 h4 _ _ (by rw [h]; exact he), h]
  unfold glue
  rw [if_neg he]
set_option maxHeartbeats 1000000 in
theorem rlall_any (s : ByteArray) (w : World) (hs : s.size ≤ 16384) :
    Calls Tryd.prog 7 #[.string s] w fun e w' => ∃ v, e = .returned (.tuple #[v, .int .i64 (lexW s.data.toList 0).2.1, .int .i64 (lexW s.data.toList 0).1]) ∧ Got w.heap.size TokT 4 (lexW s.data.toList 0).2.2.length (toksV (lexW s.data.toList 0).2.2) v w w' := by
  obtain ⟨tot, htot⟩ : ∃ tot, tot = lexW s.data.toList 0 := ⟨_, rfl⟩
  rw [← htot]
  have HT : Hid (glue [] (lexW (s.data.toList.drop 0) 0) = tot) := Lib.hid (by
    rw [htot, List.drop_zero]; exact glue_nil _ (lex_zero _ _ _ (Nat.le_refl _)))
  have HG0 : Hid (Got w.heap.size TokT 4 0 (toksV []) (.slice none 0 0) w w) := Lib.hid (Got.nil_ _ _ _ _)
  clear htot
  go_enter Tryd.func7, Tryd.ntmps7
  go_wp2_with (fail)
  go_loopw [5, 6] (fun o i wr => AllRel s w tot o i wr) (fun _ i _ => s.size - (intOf i).toNat)
  case atStart => unfold AllRel; exact ⟨0, 0, [], rfl, by omega, by omega, Lib.hid rfl, HG0, HT⟩
  case round =>
    unfold AllRel at hrel
    obtain ⟨a, n, acc, rfl, ha, hn, HN, HG, HE⟩ := hrel
    obtain ⟨A1, c1, rfl⟩ := own_form HG.out.1
    have hBr : w.heap.size ≤ wr.heap.size := HG.out.2.size
    by_cases hlt : a < s.size
    · obtain ⟨K, hKK⟩ : ∃ K, K = clsN s[a].toNat := ⟨_, rfl⟩
      have hcl : ∀ w, Hid (Calls Tryd.prog 17 #[.int .u8 s[a].toNat] w fun e w' => e = .returned (.int .i64 K) ∧ w = w') := fun w => Lib.hid (by
        have h := class_any s[a].toNat w (by have := s[a].toNat_lt; omega)
        rw [← hKK] at h; exact h)
      by_cases h3 : K = 3
      · subst h3
        have HN2 : Hid (glue acc (lexW (s.data.toList.drop (a + 1)) (a + 1)) = tot) := Lib.hid (by
          rw [← HE.out, drop_cons s a hlt, lex_blank (show cls s[a] = 3 from hKK.symm)])
        clear hKK
        go_wp2_with (first | (go_at_call 17; refine (hcl _).out.mono ?_; rintro e w1 ⟨rfl, rfl⟩))
        go_roundw
        case rel => unfold AllRel; exact ⟨a + 1, n, acc, by go_num, by omega, by omega, HN, HG, HN2⟩
        case measure => simp [intOf]; omega
      · have k3 : (K == 3) = false := by rw [beq_eq_false_iff_ne]; exact h3
        by_cases h4 : K = 4
        · subst h4
          obtain ⟨E, hE⟩ : ∃ E, E = runE s no10 a := ⟨_, rfl⟩
          obtain ⟨hE1, hE2⟩ := run_le s no10 a (by omega)
          obtain ⟨d1, d2⟩ := drop_rem s a hlt hKK.symm
          have HN2 : Hid (glue acc (lexW (s.data.toList.drop E) E) = tot) := Lib.hid (by
            rw [← HE.out, drop_cons s a hlt, lex_rem (show cls s[a] = 4 from hKK.symm), d1, d2, hE])
          rw [← hE] at hE1 hE2
          have hlt2 : a < E := by rw [hE, ← d2]; omega
          have HR := Lib.hid hE
          clear hKK d1 d2 hE
          go_wp2_with (first | (go_at_call 17; refine (hcl _).out.mono ?_; rintro e w1 ⟨rfl, rfl⟩))
          go_loop [6] (fun i => ∃ e : Nat, i = .int .i64 e ∧ a ≤ e ∧ e ≤ E) (fun i => s.size - (intOf i).toNat)
          case atStart => exact ⟨a, rfl, by omega, by omega⟩
          case round =>
            obtain ⟨e, rfl, he1, he2⟩ := hrel
            by_cases hle : e < E
            · obtain ⟨hes, hld⟩ := run_inside s no10 a e he1 (by rw [← HR.out]; exact hle)
              have hK : ((s[e].toNat : Int) == 10) = false := by
                unfold no10 at hld
                rw [Bool.not_eq_true', beq_eq_false_iff_ne] at hld
                rw [beq_eq_false_iff_ne]
                intro h
                apply hld
                apply UInt8.toNat_inj.1
                show _ = 10
                omega
              clear hld
              go_wp2_with (fail)
              go_round
              case rel => exact ⟨e + 1, by go_num, by omega, by omega⟩
              case measure => simp [intOf]; omega
            · obtain rfl : e = E := by omega
              by_cases hes : e < s.size
              · have hno := run_end s no10 a (by rw [← HR.out]; exact hes)
                simp only [← HR.out] at hno
                have hK : ((s[e].toNat : Int) == 10) = true := by
                  unfold no10 at hno
                  have : s[e] = 10 := by simpa using hno
                  rw [this]; rfl
                clear hno
                go_wp2_with (fail)
                go_roundw
                case rel => unfold AllRel; exact ⟨e, n, acc, rfl, by omega, by omega, HN, HG, HN2⟩
                case measure => simp [intOf]; omega
              · obtain rfl : e = s.size := by omega
                go_wp2_with (fail)
                go_roundw
                case rel => unfold AllRel; exact ⟨s.size, n, acc, rfl, by omega, by omega, HN, HG, HN2⟩
                case measure => simp [intOf]; omega
        · have k4 : (K == 4) = false := by rw [beq_eq_false_iff_ne]; exact h4
          have HO := Lib.hid (one_any s a wr (by omega) hlt)
          obtain ⟨⟨er, k, m, t⟩, hr⟩ : ∃ r, r = oneF (s.data.toList.drop a) := ⟨_, rfl⟩
          have HBAD : Hid (er ≠ 0 → tot = (er, a, [])) := Lib.hid (fun he => glue_bad hlt (by rw [show cls s[a] = K from hKK.symm]; exact h3) (by rw [show cls s[a] = K from hKK.symm]; exact h4) HE.out hr.symm he)
          have HOK : Hid (er = 0 → glue (acc ++ [⟨k, a, m, t⟩]) (lexW (s.data.toList.drop (a + t.length)) (a + t.length)) = tot) := Lib.hid (fun he => glue_step hlt (by rw [show cls s[a] = K from hKK.symm]; exact h3) (by rw [show cls s[a] = K from hKK.symm]; exact h4) HE.out (he ▸ hr.symm))
          have HL : Hid (er = 0 → 1 ≤ t.length ∧ a + t.length ≤ s.size) := Lib.hid (fun he => by
            have := oneF_len (l := s.data.toList.drop a) (by rw [← hr]; exact he)
            rw [← hr, List.length_drop] at this
            have e : s.data.toList.length = s.size := by simp
            rw [e] at this
            simp only at this
            omega)
          rw [← hr] at HO
          clear hr hKK
          unfold oneRes tokA at HO
          simp only at HO
          go_wp2_with (first | (go_at_call 17; refine (hcl _).out.mono ?_; rintro e w1 ⟨rfl, rfl⟩))
          refine HO.out.mono ?_
          rintro e1 w1 ⟨rfl, hb⟩
          have HG2 : Hid (Got w.heap.size TokT 4 n (toksV acc) (.slice A1 n c1) w w1) := Lib.hid ⟨own_below HG.out.1 hb, HG.out.2.trans (hb.mono hBr)⟩
          have hB1 : w.heap.size ≤ w1.heap.size := HG2.out.2.size
          clear hb HO HG hcl
          by_cases he : er = 0
          · subst he
            have HOK2 := Lib.hid (HOK.out rfl)
            obtain ⟨hl1, hl2⟩ := HL.out rfl
            clear HBAD HL HOK
            obtain ⟨w2, hw2⟩ : ∃ w2, w2 = w1.alloc (.cells #[.int .i64 k, .int .i64 a, .int .i64 m, .string ⟨t.toArray⟩] TokT) := ⟨_, rfl⟩
            have HW2 := Lib.hid hw2
            have HG3 : Hid (Got w.heap.size TokT 4 n (toksV acc) (.slice A1 n c1) w w2) := Lib.hid (by rw [hw2]; exact ⟨HG2.out.1.alloc _, HG2.out.2.alloc hB1 _⟩)
            have HX : Hid (Box w2 w1.heap.size TokT #[.int .i64 k, .int .i64 a, .int .i64 m, .string ⟨t.toArray⟩] ∧ some w1.heap.size ≠ (Value.slice A1 n c1).ownBlock) := Lib.hid (by
              rw [hw2]
              exact ⟨Box.new _ _ _ _ rfl, fun e => by have := (HG2.out.1.lt _ e.symm).2; omega⟩)
            have hB2 : w.heap.size ≤ w2.heap.size := HG3.out.2.size
            have hz := HX.out.1.cell 0
            have hz1 := HX.out.1.cell 1
            have hz2 := HX.out.1.cell 2
            have hz3 := HX.out.1.cell 3
            simp only [List.getElem?_toArray, List.getElem?_cons_zero, List.getElem?_cons_succ] at hz hz1 hz2 hz3
            have HSZ : Hid (w1.heap.size + 1 = w2.heap.size) := Lib.hid (by rw [hw2]; simp)
            clear hw2 HG2
            go_wp2_with (first | (at_builtin; (change wpList _ _ _ _ _ ((w1.alloc (.cells #[.int .i64 k, .int .i64 a, .int .i64 m, .string ⟨t.toArray⟩] TokT)).alloc (.cells (tokV ⟨k, a, m, t⟩).toArray TokT)); rw [← HW2.out]); refine wpList_tok rfl (.tmp 49) (.tmp 51) rfl w.heap.size n acc ⟨k, a, m, t⟩ (.slice A1 n c1) (w1.heap.size + 1) rfl rfl HG3.out (by omega) hB2 HSZ.out ?_; intro v' w' hq hgr; have hx3 := ((HX.out.1.alloc _).grown hgr HX.out.2).cell 3; have HQ := Lib.hid hq; clear hq hgr hz hz1 hz2 hz3; simp only [List.getElem?_toArray, List.getElem?_cons_zero, List.getElem?_cons_succ] at hx3))
            go_roundw
            case rel => unfold AllRel; exact ⟨a + t.length, n + 1, acc ++ [⟨k, a, m, t⟩], by go_num, by omega, by omega, Lib.hid (by rw [List.length_append, ← HN.out]; rfl), HQ, HOK2⟩
            case measure => simp [intOf]; omega
          · have e0 : (er == 0) = false := by rw [beq_eq_false_iff_ne]; exact he
            have HB2 := Lib.hid (HBAD.out he)
            clear HBAD HOK HL
            go_wp2_with (fail)
            go_ret3
            exact ⟨_, by rw [HB2.out]; rfl, by rw [HB2.out]; exact ⟨World.ownsRow_nil _ _ _ _, HG2.out.2.alloc hB1 _⟩⟩
    · obtain rfl : a = s.size := by omega
      have HF : Hid (tot = (0, 0, acc ++ [⟨0, s.size, 0, []⟩])) := Lib.hid (by
        rw [← HE.out, List.drop_eq_nil_of_le (by simp), lex_nil]; rfl)
      clear HE HT HG0
      go_wp2_with (at_builtin; refine wpList_tok rfl (.tmp 58) (.tmp 62) rfl w.heap.size n acc ⟨0, s.size, 0, []⟩ (.slice A1 n c1) wr.heap.size rfl rfl HG.out (by omega) hBr rfl ?_; intro v' w' hq _)
      go_ret3
      exact ⟨v', by rw [HF.out]; rfl, by rw [HF.out]; simp only [List.length_append, List.length_cons, List.length_nil, ← HN.out]; exact hq⟩
end Go.Proofs.YtgohkmdepjmpaaaDoor.lx

/- The document's Same: two rows of the same tokens are the same. -/
namespace Go.Proofs.YtgohkmdepjmpaaaDoor.lx
open Go.RowKit mem vt wd

/-- a slice that reads as these tokens, all below block B -/
def TokS (B : Nat) (w : World) (l : List Tok) (v : Value) : Prop := Sees B 4 w v l.length (toksV l)
theorem TokS.below {B : Nat} {w w' : World} {l : List Tok} {v : Value} (h : TokS B w l v) (hb : Below B w w') : TokS B w' l v := Sees.below h hb
theorem TokS.more {B B' : Nat} {w : World} {l : List Tok} {v : Value} (h : TokS B w l v) (hB : B ≤ B') : TokS B' w l v := Sees.more h hB
theorem TokS.of_got {B : Nat} {w w' : World} {l : List Tok} {v : Value} (h : Got B TokT 4 l.length (toksV l) v w w') : TokS w'.heap.size w' l v := h.sees
theorem TokS.form {B : Nat} {w : World} {l : List Tok} {v : Value} (h : TokS B w l v) : ∃ A c, v = .slice A l.length c := by
  obtain ⟨_, A, c, hv, _⟩ := h; exact ⟨A, c, hv⟩
/-- where the tokens lie -/
theorem TokS.cells {B : Nat} {w : World} {l : List Tok} {A : Option Addr} {n c : Nat} (h : TokS B w l (.slice A n c)) (h0 : 0 < l.length) : ∃ b off, A = some ⟨b, off, none⟩ ∧ b < B ∧ ∀ k (hk : k < l.length),
    w.cell? ⟨b, off + k * 4, none⟩ = some (.int .i64 l[k].kind) ∧ w.cell? ⟨b, off + k * 4 + 1, none⟩ = some (.int .i64 l[k].at_) ∧ w.cell? ⟨b, off + k * 4 + 2, none⟩ = some (.int .i64 l[k].n) ∧ w.cell? ⟨b, off + k * 4 + 3, none⟩ = some (.string ⟨l[k].text.toArray⟩) := by
  obtain ⟨_, A', c', hv, hc⟩ := h
  injection hv with hA hn hcc
  subst hA
  obtain ⟨b, off, hA, hb, hcc⟩ := hc h0
  refine ⟨b, off, hA, hb, fun k hk => ⟨?_, ?_, ?_, ?_⟩⟩
  · exact hcc (k * 4) _ ((toksV_at l k 0 hk (by omega)).trans rfl)
  · have := hcc (k * 4 + 1) _ ((toksV_at l k 1 hk (by omega)).trans rfl); rw [← Nat.add_assoc] at this; exact this
  · have := hcc (k * 4 + 2) _ ((toksV_at l k 2 hk (by omega)).trans rfl); rw [← Nat.add_assoc] at this; exact this
  · have := hcc (k * 4 + 3) _ ((toksV_at l k 3 hk (by omega)).trans rfl); rw [← Nat.add_assoc] at this; exact this
end Go.Proofs.YtgohkmdepjmpaaaDoor.lx

/- What a text begins with, as the package cuts it: blanks, and one token; over plain lists. -/
import Derived.Test.YtjppfnofceejhaaDoorLexSame
import Derived.Lib.Join
namespace Go.Proofs.YtjppfnofceejhaaDoor.lx
open Go.RowKit mem vt wd

/-- how many bytes of blanks a text begins with -/
def blankF (l : List UInt8) : Nat :=
  match l with
  | [] => 0
  | c :: r => if cls c = 3 then 1 + blankF r else if cls c = 4 then 1 + (r.takeWhile no10).length + blankF (dropRem r) else 0
termination_by l.length
decreasing_by
  · simp
  · have := dropRem_len r; simp; omega
theorem blank_nil : blankF [] = 0 := by rw [blankF]
theorem blank_sp {c : UInt8} (h : cls c = 3) (r : List UInt8) : blankF (c :: r) = 1 + blankF r := by rw [blankF, if_pos h]
theorem blank_rem {c : UInt8} (h : cls c = 4) (r : List UInt8) : blankF (c :: r) = 1 + (r.takeWhile no10).length + blankF (dropRem r) := by rw [blankF, if_neg (by rw [h]; decide), if_pos h]
theorem blank_no {c : UInt8} (h3 : cls c ≠ 3) (h4 : cls c ≠ 4) (r : List UInt8) : blankF (c :: r) = 0 := by rw [blankF, if_neg h3, if_neg h4]
/-- does something else than a blank stand here, or nothing -/
def Head (l : List UInt8) : Prop := ∀ c r, l = c :: r → cls c ≠ 3 ∧ cls c ≠ 4
theorem dropRem_split (r : List UInt8) : r.drop (r.takeWhile no10).length = dropRem r := by
  have h := dropRem_take r
  conv => lhs; arg 2; rw [h]
  exact List.drop_left
theorem blank_all : ∀ (N : Nat) (l : List UInt8) (p : Nat), l.length ≤ N → blankF l ≤ l.length ∧ Head (l.drop (blankF l)) ∧ lexW l p = lexW (l.drop (blankF l)) (p + blankF l)
  | N, [], p, _ => by rw [blank_nil]; exact ⟨Nat.le_refl _, fun c r h => by simp at h, rfl⟩
  | 0, c :: l, p, h => by simp at h
  | N + 1, c :: l, p, h => by
    have hl : l.length ≤ N := by simpa using h
    have hd := dropRem_len l
    have ht := congrArg List.length (dropRem_take l)
    rw [List.length_append] at ht
    by_cases h3 : cls c = 3
    · obtain ⟨i1, i2, i3⟩ := blank_all N l (p + 1) hl
      rw [blank_sp h3, lex_blank h3, show 1 + blankF l = blankF l + 1 by omega, List.drop_succ_cons]
      refine ⟨by rw [List.length_cons]; omega, i2, ?_⟩
      rw [i3, show p + 1 + blankF l = p + (blankF l + 1) by omega]
    · by_cases h4 : cls c = 4
      · obtain ⟨i1, i2, i3⟩ := blank_all N (dropRem l) (p + 1 + (l.takeWhile no10).length) (by omega)
        have e : (c :: l).drop (1 + (l.takeWhile no10).length + blankF (dropRem l)) = (dropRem l).drop (blankF (dropRem l)) := by
          rw [show 1 + (l.takeWhile no10).length + blankF (dropRem l) = ((l.takeWhile no10).length + blankF (dropRem l)) + 1 by omega, List.drop_succ_cons, ← List.drop_drop, dropRem_split]
        rw [blank_rem h4, lex_rem h4, e]
        refine ⟨by rw [List.length_cons]; omega, i2, ?_⟩
        rw [i3]
        congr 1
        omega
      · rw [blank_no h3 h4]
        exact ⟨Nat.zero_le _, fun c' r' hc => by rw [List.drop_zero] at hc; injection hc with h1 _; subst h1; exact ⟨h3, h4⟩, by rw [List.drop_zero, Nat.add_zero]⟩
theorem blank_le (l : List UInt8) : blankF l ≤ l.length := (blank_all _ l 0 (Nat.le_refl _)).1
theorem blank_head (l : List UInt8) : Head (l.drop (blankF l)) := (blank_all _ l 0 (Nat.le_refl _)).2.1
theorem blank_lex (l : List UInt8) (p : Nat) : lexW l p = lexW (l.drop (blankF l)) (p + blankF l) := (blank_all _ l p (Nat.le_refl _)).2.2
/-! ### the mark at the head of a text is that of its first two bytes -/
theorem step_two {s b m : List UInt8} (hm : m.length ≤ 2) : stepM (s.take 2) b m = stepM s b m := by
  unfold stepM
  have h1 : (s.take 2).take m.length = s.take m.length := by rw [List.take_take, show min m.length 2 = m.length by omega]
  rw [h1, List.length_take]
  have : m.length ≤ min 2 s.length ↔ m.length ≤ s.length := by omega
  simp only [this]
theorem fold_two (s : List UInt8) : ∀ (l : List (List UInt8)) (b : List UInt8), (∀ m ∈ l, m.length ≤ 2) → l.foldl (stepM (s.take 2)) b = l.foldl (stepM s) b
  | [], _, _ => rfl
  | m :: l, b, h => by
    rw [List.foldl_cons, List.foldl_cons, step_two (h m (by simp))]
    exact fold_two s l _ (fun m' hm' => h m' (by simp [hm']))
theorem mark_two (s : List UInt8) : markF (s.take 2) = markF s := by
  unfold markF
  exact fold_two s marks24 [] (fun m hm => (mark_two_len m hm).2)
/-! ### what the package tells of the first token: nothing beside an error -/
def numR (t : List UInt8) : Int × Int × Int × List UInt8 := if (whole.readS t).2 = 0 then (0, 2, (whole.readS t).1, t) else ((whole.readS t).2, 0, 0, [])
def nameR (t : List UInt8) : Int × Int × Int × List UInt8 := if 32 < t.length then (3, 0, 0, []) else (0, if isW t = true then 3 else 1, 0, t)
def markR (t : List UInt8) : Int × Int × Int × List UInt8 := if t = [] then (1, 0, 0, []) else (0, 4, 0, t)
def headF (l : List UInt8) : Int × Int × Int × List UInt8 :=
  match l with
  | [] => (1, 0, 0, [])
  | c :: r => if cls c = 2 then numR ((c :: r).takeWhile isDg) else if cls c = 1 then nameR ((c :: r).takeWhile isLD) else markR (markF (c :: r))
theorem head_dg {c : UInt8} (h : cls c = 2) (r : List UInt8) : headF (c :: r) = numR ((c :: r).takeWhile isDg) := by unfold headF; simp only [if_pos h]
theorem head_ld {c : UInt8} (h : cls c = 1) (r : List UInt8) : headF (c :: r) = nameR ((c :: r).takeWhile isLD) := by unfold headF; simp only [if_neg (show ¬ cls c = 2 by rw [h]; decide), if_pos h]
theorem head_mark {c : UInt8} (h2 : cls c ≠ 2) (h1 : cls c ≠ 1) (r : List UInt8) : headF (c :: r) = markR (markF (c :: r)) := by unfold headF; simp only [if_neg h2, if_neg h1]
theorem head_one (l : List UInt8) : (headF l).1 = (oneF l).1 ∧ ((oneF l).1 = 0 → headF l = oneF l) := by
  cases l with
  | nil => exact ⟨rfl, fun h => by exact absurd h (by decide)⟩
  | cons c r =>
    by_cases h2 : cls c = 2
    · rw [head_dg h2, one_digit h2]
      unfold numR
      obtain ⟨⟨a, b⟩, hab⟩ : ∃ x, x = whole.readS ((c :: r).takeWhile isDg) := ⟨_, rfl⟩
      rw [← hab]
      by_cases h : b = 0
      · subst h; simp
      · simp [h]
    · by_cases h1 : cls c = 1
      · rw [head_ld h1, one_letter h1]
        unfold nameR
        by_cases h : 32 < ((c :: r).takeWhile isLD).length
        · simp [h]
        · simp [h]
      · rw [head_mark h2 h1, one_mark h1 h2, mark_two]
        unfold markR
        by_cases h : markF (c :: r) = []
        · simp [h]
        · simp [h]
theorem head_len {l : List UInt8} (h : (headF l).1 = 0) : 1 ≤ (headF l).2.2.2.length ∧ (headF l).2.2.2.length ≤ l.length := by
  have h1 := head_one l
  rw [h1.1] at h
  rw [h1.2 h]
  exact oneF_len h
/-- a token more -/
theorem head_step {l : List UInt8} {a : Nat} {acc : List Tok} {tot : Int × Nat × List Tok} (hE : glue acc (lexW l a) = tot) {k n : Int} {t : List UInt8} (h : headF l = (0, k, n, t)) :
    glue (acc ++ [⟨k, a, n, t⟩]) (lexW ((l.drop t.length).drop (blankF (l.drop t.length))) (a + t.length + blankF (l.drop t.length))) = tot := by
  have h1 := head_one l
  have h0 : (oneF l).1 = 0 := by rw [← h1.1, h]
  rw [h1.2 h0] at h
  rw [← blank_lex, ← hE, lex_one h, glue_cons]
theorem head_bad {l : List UInt8} {a : Nat} {acc : List Tok} {tot : Int × Nat × List Tok} (hne : l ≠ []) (hh : Head l) (hE : glue acc (lexW l a) = tot) (h : (headF l).1 ≠ 0) :
    tot = ((headF l).1, a, []) := by
  rw [(head_one l).1] at h ⊢
  obtain ⟨c, r, rfl⟩ := List.exists_cons_of_ne_nil hne
  obtain ⟨h3, h4⟩ := hh c r rfl
  rw [← hE, lex_bad h3 h4 _ _ h]
  unfold glue
  rw [if_neg h]
/-! ### spelling -/
def textsOf (l : List Tok) : List (List UInt8) := l.flatMap fun t => if t.kind = 0 then [] else [t.text]
theorem tail_join (l : List Tok) : tailS l = Lib.joinTail [32] (textsOf l) := by
  induction l with
  | nil => rfl
  | cons t l ih =>
    show (if t.kind = 0 then [] else 32 :: t.text) ++ tailS l = Lib.joinTail [32] ((if t.kind = 0 then [] else [t.text]) ++ textsOf l)
    rw [ih]
    split
    · rfl
    · rfl
theorem spell_join (l : List Tok) : spellL l = Lib.join (textsOf l) [32] := by
  unfold spellL
  rw [tail_join]
  cases textsOf l with
  | nil => rfl
  | cons x r => rw [Lib.join_cons]; rfl
theorem join_len (l : List Tok) : (Lib.join (textsOf l) [32]).length ≤ (tailS l).length := by
  rw [← spell_join]; unfold spellL; rw [List.length_drop]; omega
theorem texts_len (l : List Tok) : (textsOf l).length ≤ l.length := by
  induction l with
  | nil => exact Nat.le_refl _
  | cons t l ih =>
    show ((if t.kind = 0 then [] else [t.text]) ++ textsOf l).length ≤ _
    rw [List.length_append, List.length_cons]
    split <;> simp <;> omega
theorem texts_take (l : List Tok) (k : Nat) (h : k < l.length) : textsOf (l.take (k + 1)) = textsOf (l.take k) ++ (if l[k].kind = 0 then [] else [l[k].text]) := by
  rw [List.take_succ_eq_append_getElem h]
  unfold textsOf
  rw [List.flatMap_append]
  simp
end Go.Proofs.YtjppfnofceejhaaDoor.lx

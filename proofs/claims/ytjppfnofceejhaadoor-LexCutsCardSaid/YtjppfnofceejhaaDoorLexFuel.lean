/- Cutting, counted down: closed texts are cut by reckoning; where an error lies; the whole with its length. -/
import Derived.Test.YtjppfnofceejhaaDoorLexBack
import Derived.KernelRfl
namespace Go.Proofs.YtjppfnofceejhaaDoor.lx
open Go.RowKit wd

def lexN : Nat → List UInt8 → Nat → Int × Nat × List Tok
  | 0, _, p => (0, 0, [⟨0, p, 0, []⟩])
  | N + 1, l, p =>
    match l with
    | [] => (0, 0, [⟨0, p, 0, []⟩])
    | c :: r =>
      if cls c = 3 then lexN N r (p + 1)
      else if cls c = 4 then lexN N (dropRem r) (p + 1 + (r.takeWhile no10).length)
      else if (oneF (c :: r)).1 ≠ 0 then ((oneF (c :: r)).1, p, [])
      else consR ⟨(oneF (c :: r)).2.1, p, (oneF (c :: r)).2.2.1, (oneF (c :: r)).2.2.2⟩ (lexN N (r.drop ((oneF (c :: r)).2.2.2.length - 1)) (p + (oneF (c :: r)).2.2.2.length))
theorem lexN_eq : ∀ (N : Nat) (l : List UInt8) (p : Nat), l.length ≤ N → lexN N l p = lexW l p
  | 0, [], p, _ => by rw [lex_nil]; rfl
  | 0, c :: l, p, h => by simp at h
  | N + 1, [], p, _ => by rw [lex_nil]; rfl
  | N + 1, c :: l, p, h => by
    have hl : l.length ≤ N := by simpa using h
    have hd := dropRem_len l
    unfold lexN
    simp only
    by_cases h3 : cls c = 3
    · rw [lex_blank h3, if_pos h3]; exact lexN_eq N l _ hl
    · by_cases h4 : cls c = 4
      · rw [lex_rem h4, if_neg h3, if_pos h4]; exact lexN_eq N _ _ (by omega)
      · by_cases hb : (oneF (c :: l)).1 = 0
        · rw [lex_tok h3 h4 l p hb, if_neg h3, if_neg h4, if_neg (by simp [hb])]
          congr 1
          exact lexN_eq N _ _ (by rw [List.length_drop]; omega)
        · rw [lex_bad h3 h4 l p hb, if_neg h3, if_neg h4, if_pos hb]
/-- an error lies in the text -/
theorem lex_place : ∀ (N : Nat) (l : List UInt8) (p : Nat), l.length ≤ N → (lexW l p).2.1 ≤ p + l.length
  | N, [], p, _ => by rw [lex_nil]; exact Nat.zero_le _
  | 0, c :: l, p, h => by simp at h
  | N + 1, c :: l, p, h => by
    have hl : l.length ≤ N := by simpa using h
    have hd := dropRem_len l
    have ht := congrArg List.length (dropRem_take l)
    rw [List.length_append] at ht
    by_cases h3 : cls c = 3
    · rw [lex_blank h3]
      have := lex_place N l (p + 1) hl
      rw [List.length_cons]; omega
    · by_cases h4 : cls c = 4
      · rw [lex_rem h4]
        have := lex_place N (dropRem l) (p + 1 + (l.takeWhile no10).length) (by omega)
        rw [List.length_cons]; omega
      · by_cases hb : (oneF (c :: l)).1 = 0
        · have hh : oneF (c :: l) = (0, (oneF (c :: l)).2.1, (oneF (c :: l)).2.2.1, (oneF (c :: l)).2.2.2) := by rw [← hb]
          obtain ⟨o1, o2, ⟨x, y, o3, _⟩, _⟩ := one_tok hh
          rw [lex_tok h3 h4 l p hb]
          unfold consR
          split
          · exact Nat.zero_le _
          · have h5 : 1 ≤ (oneF (c :: l)).2.2.2.length := by rw [o3]; simp
            have := lex_place N (l.drop ((oneF (c :: l)).2.2.2.length - 1)) (p + (oneF (c :: l)).2.2.2.length) (by rw [List.length_drop]; omega)
            rw [List.length_drop] at this
            rw [List.length_cons] at o2 ⊢
            omega
        · rw [lex_bad h3 h4 l p hb]; show p ≤ _; omega
/-- there are at most as many tokens as bytes, and one more -/
theorem lex_count : ∀ (N : Nat) (l : List UInt8) (p : Nat), l.length ≤ N → (lexW l p).2.2.length ≤ l.length + 1
  | N, [], p, _ => by rw [lex_nil]; exact Nat.le_refl _
  | 0, c :: l, p, h => by simp at h
  | N + 1, c :: l, p, h => by
    have hl : l.length ≤ N := by simpa using h
    have hd := dropRem_len l
    by_cases h3 : cls c = 3
    · rw [lex_blank h3]
      have := lex_count N l (p + 1) hl
      rw [List.length_cons]; omega
    · by_cases h4 : cls c = 4
      · rw [lex_rem h4]
        have := lex_count N (dropRem l) (p + 1 + (l.takeWhile no10).length) (by omega)
        rw [List.length_cons]; omega
      · by_cases hb : (oneF (c :: l)).1 = 0
        · rw [lex_tok h3 h4 l p hb]
          have := lex_count N (l.drop ((oneF (c :: l)).2.2.2.length - 1)) (p + (oneF (c :: l)).2.2.2.length) (by rw [List.length_drop]; omega)
          rw [List.length_drop] at this
          unfold consR
          split
          · show (_ :: _ : List Tok).length ≤ _
            rw [List.length_cons, List.length_cons]; omega
          · rw [List.length_cons]; omega
        · rw [lex_bad h3 h4 l p hb]; simp
/-- an error has no tokens -/
theorem lex_none : ∀ (N : Nat) (l : List UInt8) (p : Nat), l.length ≤ N → (lexW l p).1 ≠ 0 → (lexW l p).2.2 = []
  | N, [], p, _, h => by rw [lex_nil] at h; exact absurd rfl h
  | 0, c :: l, p, h, _ => by simp at h
  | N + 1, c :: l, p, h, h0 => by
    have hl : l.length ≤ N := by simpa using h
    have hd := dropRem_len l
    by_cases h3 : cls c = 3
    · rw [lex_blank h3] at h0 ⊢; exact lex_none N l _ hl h0
    · by_cases h4 : cls c = 4
      · rw [lex_rem h4] at h0 ⊢; exact lex_none N _ _ (by omega) h0
      · by_cases hb : (oneF (c :: l)).1 = 0
        · rw [lex_tok h3 h4 l p hb] at h0 ⊢
          unfold consR at h0 ⊢
          split at h0
          · exact absurd rfl h0
          · rename_i hne
            rw [if_neg hne]
            exact lex_none N _ _ (by rw [List.length_drop]; omega) hne
        · rw [lex_bad h3 h4 l p hb]
theorem lex_blanks : ∀ (n p : Nat), lexW (List.replicate n 32) p = (0, 0, [⟨0, p + n, 0, []⟩])
  | 0, p => by rw [List.replicate_zero, lex_nil]; rfl
  | n + 1, p => by rw [List.replicate_succ, lex_blank cls_sp, lex_blanks n (p + 1), show p + 1 + n = p + (n + 1) by omega]
/-- the whole: a text that is too long is refused -/
def lexA (l : List UInt8) : Int × Nat × List Tok := if 16384 < l.length then (3, 16384, []) else lexW l 0
theorem lexA_in {l : List UInt8} (h : l.length ≤ 16384) : lexA l = lexW l 0 := if_neg (by omega)
theorem lexA_out {l : List UInt8} (h : 16384 < l.length) : lexA l = (3, 16384, []) := if_pos h
def exS : List UInt8 := [120, 49, 32, 61, 32, 48, 55, 59, 32, 35, 32, 101, 110, 100]
def exT : List Tok := [⟨1, 0, 0, [120, 49]⟩, ⟨4, 3, 0, [61]⟩, ⟨2, 5, 7, [48, 55]⟩, ⟨4, 7, 0, [59]⟩, ⟨0, 14, 0, []⟩]
theorem ex_lex : lexA exS = (0, 0, exT) := by
  rw [lexA_in (by decide), ← lexN_eq 14 exS 0 (by decide)]
  kernel_rfl
theorem ex_spell : spellL exT = [120, 49, 32, 61, 32, 48, 55, 32, 59] := by kernel_rfl
end Go.Proofs.YtjppfnofceejhaaDoor.lx

/- A source cut into tokens, over plain lists of bytes: the document's way. -/
import Derived.Test.YtjppfnofceejhaaDoorWordMath
import Derived.Test.YtjppfnofceejhaaDoorWholeRead
namespace Go.Proofs.YtjppfnofceejhaaDoor.lx
open Go.RowKit wd

/-- the class of a byte: 1 a letter, 2 a digit, 3 a blank, 4 the beginning of a remark, 0 others -/
def clsN (n : Nat) : Int :=
  if n = 95 ∨ 97 ≤ n ∧ n ≤ 122 ∨ 65 ≤ n ∧ n ≤ 90 then 1 else if 48 ≤ n ∧ n ≤ 57 then 2 else if n = 32 ∨ n = 9 ∨ n = 10 ∨ n = 13 then 3 else if n = 35 then 4 else 0
def cls (c : UInt8) : Int := clsN c.toNat
def isL (c : UInt8) : Bool := decide (cls c = 1)
def isDg (c : UInt8) : Bool := decide (cls c = 2)
def isLD (c : UInt8) : Bool := isL c || isDg c
def no10 (c : UInt8) : Bool := !(c == 10)
/-- a token: kind, where it begins, number, text -/
structure Tok where
  kind : Int
  at_ : Nat
  n : Int
  text : List UInt8
/-- the token that stands at the beginning of a text that is neither empty nor begins with a blank or a remark: (an error's number, kind, number, text) -/
def oneF (l : List UInt8) : Int × Int × Int × List UInt8 :=
  match l with
  | [] => (1, 0, 0, [])
  | c :: r =>
    if cls c = 1 then
      (if 32 < ((c :: r).takeWhile isLD).length then 3 else 0, if isW ((c :: r).takeWhile isLD) = true then 3 else 1, 0, (c :: r).takeWhile isLD)
    else if cls c = 2 then
      ((whole.readS ((c :: r).takeWhile isDg)).2, 2, (whole.readS ((c :: r).takeWhile isDg)).1, (c :: r).takeWhile isDg)
    else if markF ((c :: r).take 2) = [] then (1, 0, 0, [])
    else (0, 4, 0, markF ((c :: r).take 2))
/-- what cutting comes to: an error, its place, the tokens -/
def Res : Type := Int × Nat × List Tok
def consR (t : Tok) (r : Int × Nat × List Tok) : Int × Nat × List Tok := if r.1 = 0 then (0, 0, t :: r.2.2) else r
def dropRem (l : List UInt8) : List UInt8 := l.dropWhile no10
theorem dropRem_len (l : List UInt8) : (dropRem l).length ≤ l.length := by
  unfold dropRem
  induction l with
  | nil => simp
  | cons c r ih => rw [List.dropWhile_cons]; split <;> simp; omega
/-- all tokens, from a place on -/
def lexW (l : List UInt8) (p : Nat) : Int × Nat × List Tok :=
  match l with
  | [] => (0, 0, [⟨0, p, 0, []⟩])
  | c :: r =>
    if cls c = 3 then lexW r (p + 1)
    else if cls c = 4 then lexW (dropRem r) (p + 1 + (r.takeWhile no10).length)
    else if (oneF (c :: r)).1 ≠ 0 then ((oneF (c :: r)).1, p, [])
    else consR ⟨(oneF (c :: r)).2.1, p, (oneF (c :: r)).2.2.1, (oneF (c :: r)).2.2.2⟩ (lexW (r.drop ((oneF (c :: r)).2.2.2.length - 1)) (p + (oneF (c :: r)).2.2.2.length))
termination_by l.length
decreasing_by
  · simp
  · have := dropRem_len r; simp; omega
  · simp; omega
theorem lex_nil (p : Nat) : lexW [] p = (0, 0, [⟨0, p, 0, []⟩]) := by rw [lexW]
theorem lex_blank {c : UInt8} (h : cls c = 3) (r : List UInt8) (p : Nat) : lexW (c :: r) p = lexW r (p + 1) := by rw [lexW, if_pos h]
theorem lex_rem {c : UInt8} (h : cls c = 4) (r : List UInt8) (p : Nat) : lexW (c :: r) p = lexW (dropRem r) (p + 1 + (r.takeWhile no10).length) := by
  rw [lexW, if_neg (by rw [h]; decide), if_pos h]
theorem lex_bad {c : UInt8} (h3 : cls c ≠ 3) (h4 : cls c ≠ 4) (r : List UInt8) (p : Nat) (h : (oneF (c :: r)).1 ≠ 0) : lexW (c :: r) p = ((oneF (c :: r)).1, p, []) := by
  rw [lexW, if_neg h3, if_neg h4, if_pos h]
theorem lex_tok {c : UInt8} (h3 : cls c ≠ 3) (h4 : cls c ≠ 4) (r : List UInt8) (p : Nat) (h : (oneF (c :: r)).1 = 0) :
    lexW (c :: r) p = consR ⟨(oneF (c :: r)).2.1, p, (oneF (c :: r)).2.2.1, (oneF (c :: r)).2.2.2⟩ (lexW (r.drop ((oneF (c :: r)).2.2.2.length - 1)) (p + (oneF (c :: r)).2.2.2.length)) := by
  rw [lexW, if_neg h3, if_neg h4, if_neg (by simp [h])]
/-! ### marks -/
theorem mark_in (s : List UInt8) : ∀ (l : List (List UInt8)) (b : List UInt8), l.foldl (stepM s) b = b ∨ (l.foldl (stepM s) b ∈ l ∧ (l.foldl (stepM s) b).length ≤ s.length ∧ s.take (l.foldl (stepM s) b).length = l.foldl (stepM s) b)
  | [], b => Or.inl rfl
  | m :: l, b => by
    rw [List.foldl_cons]
    rcases mark_in s l (stepM s b m) with h | ⟨h1, h2, h3⟩
    · rw [h]
      unfold stepM
      split
      · rename_i hc
        exact Or.inr ⟨by simp, hc.1, hc.2.1⟩
      · exact Or.inl rfl
    · exact Or.inr ⟨by simp [h1], h2, h3⟩
theorem mark_pre {s : List UInt8} (h : markF s ≠ []) : markF s ∈ marks24 ∧ (markF s).length ≤ s.length ∧ s.take (markF s).length = markF s := by
  rcases mark_in s marks24 [] with e | e
  · exact absurd e h
  · exact e
theorem mark_self : ∀ m ∈ marks24, markF m = m := by decide +kernel
theorem mark_sp : ∀ m ∈ marks24, markF ((m ++ [32]).take 2) = m := by decide +kernel
theorem mark_head : ∀ m ∈ marks24, ∃ c r, m = c :: r ∧ cls c = 0 := by
  intro m hm
  have : ∀ m ∈ marks24, (match m with | [] => false | c :: _ => decide (cls c = 0)) = true := by decide +kernel
  have h := this m hm
  cases m with
  | nil => simp at h
  | cons c r => exact ⟨c, r, rfl, by simpa using h⟩
theorem mark_two_len : ∀ m ∈ marks24, 1 ≤ m.length ∧ m.length ≤ 2 := by decide +kernel
end Go.Proofs.YtjppfnofceejhaaDoor.lx

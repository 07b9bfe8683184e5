/- Lines of a text, and the line and column of a place in it: plain functions on lists of bytes. -/
namespace Go.Proofs.Ytoljheenijblmaa.pl

/-- one byte on: line and column -/
def stepA (p : Int × Int) (c : UInt8) : Int × Int := if c.toNat = 10 then (p.1 + 1, 1) else (p.1, p.2 + 1)
/-- line and column behind so many bytes -/
def atS (l : List UInt8) : Int × Int := l.foldl stepA (1, 1)
theorem atS_snoc (l : List UInt8) (c : UInt8) : atS (l ++ [c]) = stepA (atS l) c := by unfold atS; rw [List.foldl_append]; rfl
theorem foldA_bd : ∀ (l : List UInt8) (p : Int × Int), 1 ≤ p.1 → 1 ≤ p.2 → 1 ≤ (l.foldl stepA p).1 ∧ (l.foldl stepA p).1 ≤ p.1 + l.length ∧ 1 ≤ (l.foldl stepA p).2 ∧ (l.foldl stepA p).2 ≤ p.2 + l.length
  | [], p, h1, h2 => by simp; omega
  | c :: r, p, h1, h2 => by
    rw [List.foldl_cons, List.length_cons]
    by_cases h : c.toNat = 10
    · have e : stepA p c = (p.1 + 1, 1) := by unfold stepA; rw [if_pos h]
      rw [e]
      have := foldA_bd r (p.1 + 1, 1) (by simp; omega) (by simp)
      simp only at this
      omega
    · have e : stepA p c = (p.1, p.2 + 1) := by unfold stepA; rw [if_neg h]
      rw [e]
      have := foldA_bd r (p.1, p.2 + 1) h1 (by simp; omega)
      simp only at this
      omega
theorem atS_bd (l : List UInt8) : 1 ≤ (atS l).1 ∧ (atS l).1 ≤ 1 + l.length ∧ 1 ≤ (atS l).2 ∧ (atS l).2 ≤ 1 + l.length := foldA_bd l (1, 1) (by decide) (by decide)

/-- the lines of a text -/
def linesS : List UInt8 → List (List UInt8)
  | [] => [[]]
  | c :: r => if c.toNat = 10 then [] :: linesS r else
    match linesS r with
    | [] => [[c]]
    | h :: t => (c :: h) :: t
theorem linesS_ne (l : List UInt8) : linesS l ≠ [] := by
  cases l with
  | nil => simp [linesS]
  | cons c r =>
    unfold linesS
    split
    · simp
    · split <;> simp
/-- one byte more: a new line, or the last line one byte longer -/
def growS (ls : List (List UInt8)) (c : UInt8) : List (List UInt8) := if c.toNat = 10 then ls ++ [[]] else ls.dropLast ++ [ls.getLast?.getD [] ++ [c]]
theorem growS_cons (a : List UInt8) (ls : List (List UInt8)) (c : UInt8) (h : ls ≠ []) : growS (a :: ls) c = a :: growS ls c := by
  unfold growS
  split
  · rfl
  · obtain ⟨b, t, rfl⟩ := List.exists_cons_of_ne_nil h
    simp [List.getLast?_cons_cons]
theorem linesS_snoc : ∀ (l : List UInt8) (c : UInt8), linesS (l ++ [c]) = growS (linesS l) c
  | [], c => by
    by_cases h : c.toNat = 10
    · simp [linesS, growS, h]
    · simp [linesS, growS, h]
  | d :: r, c => by
    rw [List.cons_append]
    by_cases h : d.toNat = 10
    · rw [linesS, if_pos h, linesS_snoc r c, linesS, if_pos h, growS_cons _ _ _ (linesS_ne r)]
    · rw [linesS, if_neg h, linesS_snoc r c, linesS, if_neg h]
      obtain ⟨a, t, ht⟩ := List.exists_cons_of_ne_nil (linesS_ne r)
      rw [ht]
      simp only
      by_cases h2 : c.toNat = 10
      · simp [growS, h2]
      · cases t with
        | nil => simp [growS, h2]
        | cons b u =>
          rw [growS_cons a (b :: u) c (by simp), growS_cons (d :: a) (b :: u) c (by simp)]
theorem linesS_len (l : List UInt8) : 1 ≤ (linesS l).length ∧ (linesS l).length ≤ l.length + 1 := by
  induction l with
  | nil => simp [linesS]
  | cons c r ih =>
    unfold linesS
    split
    · simp; omega
    · cases h : linesS r with
      | nil => simp
      | cons a t => rw [h] at ih; simp at ih ⊢; omega
end Go.Proofs.Ytoljheenijblmaa.pl

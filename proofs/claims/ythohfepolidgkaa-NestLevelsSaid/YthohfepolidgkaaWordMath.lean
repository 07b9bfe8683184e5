/- The words, signs and marks as plain lists. -/
import Derived.Test.YthohfepolidgkaaProg
namespace Go.Proofs.Ythohfepolidgkaa.wd

def words20 : List (List UInt8) := [[114, 101, 99], [105, 115, 111], [102, 117, 110], [109, 101, 114, 103, 101], [109, 97, 105, 110], [118, 97, 114], [105, 102], [101, 108, 115, 101], [119, 104, 105, 108, 101], [114, 101, 116, 117, 114, 110], [102, 111, 114, 107], [106, 111, 105, 110], [112, 114, 105, 110, 116], [110, 101, 119], [98, 121], [105, 110, 116], [98, 111, 111, 108], [114, 101, 118], [116, 114, 117, 101], [102, 97, 108, 115, 101]]
def signs14 : List (List UInt8) := [[43], [45], [42], [47], [37], [61, 61], [33, 61], [60], [60, 61], [62], [62, 61], [38, 38], [124, 124], [33]]
def marks10 : List (List UInt8) := [[40], [41], [123], [125], [91], [93], [44], [59], [46], [61]]
def marks24 : List (List UInt8) := marks10 ++ signs14
/-- is it a word -/
def isW (s : List UInt8) : Bool := words20.contains s
/-- a sign's spelling -/
def spellF (k : Int) : List UInt8 := if k < 1 ∨ 14 < k then [] else signs14.getD (k - 1).toNat []
/-- how tightly a sign binds -/
def bindF (k : Int) : Int := if 1 ≤ k ∧ k ≤ 2 then 4 else if 3 ≤ k ∧ k ≤ 5 then 5 else if 6 ≤ k ∧ k ≤ 11 then 3 else if k = 12 then 2 else if k = 13 then 1 else 0
def stepM (s best m : List UInt8) : List UInt8 := if m.length ≤ s.length ∧ s.take m.length = m ∧ best.length < m.length then m else best
/-- the longest mark with which a text begins -/
def markF (s : List UInt8) : List UInt8 := marks24.foldl (stepM s) []
def strV (l : List (List UInt8)) : List Value := l.map fun s => .string ⟨s.toArray⟩
theorem strV_len (l : List (List UInt8)) : (strV l).length = l.length := by unfold strV; simp
theorem strV_at (l : List (List UInt8)) (k : Nat) (h : k < l.length) : (strV l)[k]? = some (.string ⟨l[k].toArray⟩) := by
  unfold strV; simp [List.getElem?_eq_getElem h]
theorem str_inj {a b : List UInt8} (h : (⟨a.toArray⟩ : ByteArray) = ⟨b.toArray⟩) : a = b := by
  injection h with h
  have := congrArg Array.toList h
  simpa using this
theorem foldl_take {α β : Type} (f : β → α → β) (b : β) (l : List α) (k : Nat) (h : k < l.length) : (l.take (k + 1)).foldl f b = f ((l.take k).foldl f b) l[k] := by
  rw [List.take_succ_eq_append_getElem h, List.foldl_append]; rfl
theorem contains_take (l : List (List UInt8)) (s : List UInt8) (k : Nat) (h : k < l.length) (h0 : (l.take k).contains s = false) (h1 : l[k] ≠ s) : (l.take (k + 1)).contains s = false := by
  rw [List.take_succ_eq_append_getElem h]
  simp only [List.contains_eq_any_beq, List.any_append, Bool.or_eq_false_iff] at h0 ⊢
  refine ⟨h0, ?_⟩
  simp
  exact fun e => h1 e.symm
theorem contains_at (l : List (List UInt8)) (s : List UInt8) (k : Nat) (h : k < l.length) (h1 : l[k] = s) : l.contains s = true := by
  rw [List.contains_iff_mem, ← h1]; exact List.getElem_mem h
/-! ### a mark has one or two bytes -/
theorem mark_nil : markF [] = [] := by decide +kernel
theorem fold_two (a b : UInt8) (r : List UInt8) : ∀ (l : List (List UInt8)) (best : List UInt8), (∀ m ∈ l, m.length ≤ 2) → l.foldl (stepM (a :: b :: r)) best = l.foldl (stepM [a, b]) best
  | [], best, _ => rfl
  | m :: l, best, h => by
    have hm := h m (by simp)
    have e : stepM (a :: b :: r) best m = stepM [a, b] best m := by
      unfold stepM
      have e1 : m.length ≤ (a :: b :: r).length ↔ m.length ≤ [a, b].length := by simp only [List.length_cons, List.length_nil]; omega
      have e2 : (a :: b :: r).take m.length = [a, b].take m.length := by
        rcases (show m.length = 0 ∨ m.length = 1 ∨ m.length = 2 by omega) with h | h | h <;> rw [h] <;> rfl
      simp only [e1, e2]
    rw [List.foldl_cons, List.foldl_cons, e]
    exact fold_two a b r l _ fun u hu => h u (by simp [hu])
theorem mark_two (a b : UInt8) (r : List UInt8) : markF (a :: b :: r) = markF [a, b] := fold_two a b r marks24 [] (by decide)
/-! ### given functions, signs of texts -/
def nLen : List UInt8 := [108, 101, 110]
def nFill : List UInt8 := [102, 105, 108, 108]
def nInput : List UInt8 := [105, 110, 112, 117, 116]
def nInputs : List UInt8 := [105, 110, 112, 117, 116, 115]
/-- how many arguments, or -1 -/
def givF (s : List UInt8) : Int := if s = nLen ∨ s = nInput then 1 else if s = nFill then 2 else if s = nInputs then 0 else -1
def givN (s : List UInt8) : Int := if 0 ≤ givF s then givF s else 0
def givB (s : List UInt8) : Bool := decide (0 ≤ givF s)
/-- the sign of a text, or 0 -/
def signF (s : List UInt8) : Int := if s ∈ signs14 then (signs14.idxOf s : Int) + 1 else 0
def isS (s : List UInt8) : Bool := decide (s ∈ signs14)
theorem spell_out {k : Int} (h : k < 1 ∨ 14 < k) : spellF k = [] := if_pos h
theorem spell_in {k : Int} (h1 : 1 ≤ k) (h2 : k ≤ 14) : spellF k ∈ signs14 ∧ signF (spellF k) = k ∧ spellF k ≠ [] := by
  obtain ⟨n, rfl⟩ : ∃ n : Nat, k = (n : Int) + 1 := ⟨(k - 1).toNat, by omega⟩
  have hn : n < 14 := by omega
  exact (by decide +kernel : ∀ n : Fin 14, spellF ((n.val : Int) + 1) ∈ signs14 ∧ signF (spellF ((n.val : Int) + 1)) = (n.val : Int) + 1 ∧ spellF ((n.val : Int) + 1) ≠ []) ⟨n, hn⟩
theorem sign_in {s : List UInt8} (h : s ∈ signs14) : 1 ≤ signF s ∧ signF s ≤ 14 ∧ spellF (signF s) = s ∧ s ≠ [] :=
  (by decide +kernel : ∀ s ∈ signs14, 1 ≤ signF s ∧ signF s ≤ 14 ∧ spellF (signF s) = s ∧ s ≠ []) s h
theorem sign_out {s : List UInt8} (h : s ∉ signs14) : signF s = 0 ∧ isS s = false := ⟨if_neg h, decide_eq_false h⟩
theorem spell_not {s : List UInt8} (h : s ∉ signs14) (_ : True) (k : Int) (h1 : 1 ≤ k) (h2 : k ≤ 14) : spellF k ≠ s := fun e => h (e ▸ (spell_in h1 h2).1)
theorem words_in : ∀ s ∈ words20, isW s = true := by decide +kernel
theorem spell_len (k : Int) : (spellF k).length ≤ 2 := by
  by_cases h : k < 1 ∨ 14 < k
  · rw [spell_out h]; simp
  · exact (by decide +kernel : ∀ s ∈ signs14, s.length ≤ 2) _ (spell_in (by omega) (by omega)).1
end Go.Proofs.Ythohfepolidgkaa.wd

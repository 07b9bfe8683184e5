/- A value's copy in new memory. -/
import Derived.Test.YthohfepolidgkaaValMake
namespace Go.Proofs.Ythohfepolidgkaa.vt
open Go.RowKit mem

theorem own_below {w w1 : World} {base : Nat} {e : TypeId} {size n : Nat} {v : Value} {xs : List Value} (h : w.ownsRow base e size v n xs) (hb : Below w.heap.size w w1) : w1.ownsRow base e size v n xs := by
  refine ⟨h.1, ?_⟩
  rcases h.2 with h' | ⟨g, cap, cur, hv, hg, hh, r⟩
  · exact .inl h'
  · exact .inr ⟨g, cap, cur, hv, hg, (hb.block g (Array.getElem?_eq_some_iff.1 hh).1).trans hh, r⟩
theorem set3 (xs : List Value) (a b c a' b' c' : Value) (rest : List Value) (n : Nat) (h : xs.length = n) :
    (((xs ++ (a :: b :: c :: rest)).set n a').set (n + 1) b').set (n + 2) c' = xs ++ (a' :: b' :: c' :: rest) := by
  subst h
  apply List.ext_getElem?
  intro i
  simp only [List.getElem?_set, List.getElem?_append, List.length_set, List.length_append, List.length_cons]
  by_cases h1 : i < xs.length
  · rw [if_neg (by omega), if_neg (by omega), if_neg (by omega)]
    simp [h1]
  · obtain ⟨d, rfl⟩ : ∃ d, i = xs.length + d := ⟨i - xs.length, by omega⟩
    match d with
    | 0 => simp
    | 1 => simp
    | 2 => simp
    | d + 3 => simp [show ¬ xs.length + (d + 3) < xs.length by omega, show xs.length + (d + 3) - xs.length = d + 3 by omega]
end Go.Proofs.Ythohfepolidgkaa.vt

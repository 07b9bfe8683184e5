/- A value's copy in new memory. -/
import Derived.Test.YtnjcapenkoemlaaValMake
namespace Go.Proofs.Ytnjcapenkoemlaa.vt
open Go.RowKit mem

theorem own_below {w w1 : World} {base : Nat} {e : TypeId} {size n : Nat} {v : Value} {xs : List Value} (h : w.ownsRow base e size v n xs) (hb : Below w.heap.size w w1) : w1.ownsRow base e size v n xs := by
  refine ⟨h.1, ?_⟩
  rcases h.2 with h' | ⟨g, cap, cur, hv, hg, hh, r⟩
  · exact .inl h'
  · exact .inr ⟨g, cap, cur, hv, hg, (hb.block g (Array.getElem?_eq_some_iff.1 hh).1).trans hh, r⟩
theorem set3 (xs : List Value) (a b c a' b' c' : Value) (rest : List Value) (n : Nat) (h : xs.length = n) :
    (((xs ++ (a :: b :: c :: rest)).set n a').set (n + 1) b').set (n + 2) c' = xs ++ (a' :: b' :: c' :: rest) := by
  subst h
  apply List.ext_getElem?
  intro i
  simp only [List.getElem?_set, List.getElem?_append, List.length_set, List.length_append, List.length_cons]
  by_cases h1 : i < xs.length
  · rw [if_neg (by omega), if_neg (by omega), if_neg (by omega)]
    simp [h1]
  · obtain ⟨d, rfl⟩ : ∃ d, i = xs.length + d := ⟨i - xs.length, by omega⟩
    match d with
    | 0 => simp
    | 1 => simp
    | 2 => simp
    | d + 3 => simp [show ¬ xs.length + (d + 3) < xs.length by omega, show xs.length + (d + 3) - xs.length = d + 3 by omega]
theorem clone_step {G : Nat → Prop} {H g k N cap L : Nat} {wr w1 : World} {l : List VT} {vs1 rest : List Value} {s0 s1 : Value} (hk : k < l.length) (hG : ∀ b, G b → b < H + 2)
    (h1 : Vals (fun b => H + 2 ≤ b ∧ b ≠ g) wr (l.take k) vs1) (h2 : Vals G wr (l.drop (k + 1)) rest) (i1 : I64 l[k].kind) (i2 : I64 l[k].num)
    (ho : wr.ownsRow (H + 2) 24 3 (.slice (some ⟨g, 0, none⟩) N cap) N (vs1 ++ (.int .i64 l[k].kind :: .int .i64 l[k].num :: s0 :: rest)))
    (hb : Below wr.heap.size wr w1) (hL : wr.heap.size ≤ L) (hO : Own L (fun b => L ≤ b) w1 l[k].kids s1) :
    ∃ vs, Vals (fun b => H + 2 ≤ b ∧ b ≠ g) (((w1.setCell ⟨g, k * 3, none⟩ (.int .i64 l[k].kind)).setCell ⟨g, k * 3 + 1, none⟩ (.int .i64 l[k].num)).setCell ⟨g, k * 3 + 2, none⟩ s1) (l.take (k + 1)) vs ∧
      Vals G (((w1.setCell ⟨g, k * 3, none⟩ (.int .i64 l[k].kind)).setCell ⟨g, k * 3 + 1, none⟩ (.int .i64 l[k].num)).setCell ⟨g, k * 3 + 2, none⟩ s1) (l.drop (k + 1)) rest ∧
      (((w1.setCell ⟨g, k * 3, none⟩ (.int .i64 l[k].kind)).setCell ⟨g, k * 3 + 1, none⟩ (.int .i64 l[k].num)).setCell ⟨g, k * 3 + 2, none⟩ s1).ownsRow (H + 2) 24 3 (.slice (some ⟨g, 0, none⟩) N cap) N (vs ++ rest) := by
  obtain ⟨hge, hlt⟩ := ho.lt g rfl
  have hlen : vs1.length = k * 3 := by rw [h1.len, List.length_take]; omega
  have o1 := own_below ho hb
  have o2 := (((o1.stored (k * 3) (.int .i64 l[k].kind)).1.stored (k * 3 + 1) (.int .i64 l[k].num)).1.stored (k * 3 + 2) s1).1
  rw [set3 _ _ _ _ _ _ _ _ _ hlen] at o2
  have hkid : Kids (fun b => H + 2 ≤ b ∧ b ≠ g) w1 l[k].kids s1 := hO.kids (fun b hb => ⟨by omega, by omega⟩) (fun b hb => ⟨by omega, by omega⟩)
  refine ⟨vs1 ++ (.int .i64 l[k].kind :: .int .i64 l[k].num :: s1 :: []), ?_, ?_, by simpa using o2⟩
  · rw [List.take_succ_eq_append_getElem hk]
    refine Vals.append ((((h1.below hb).set fun c hc _ => hc.2).set fun c hc _ => hc.2).set fun c hc _ => hc.2) ?_
    rw [Vals]
    exact ⟨s1, [], rfl, i1, i2, ((hkid.set fun c hc _ => hc.2).set fun c hc _ => hc.2).set fun c hc _ => hc.2, by rw [Vals]⟩
  · exact (((h2.below hb).set fun c hc _ => by have := hG c hc; omega).set fun c hc _ => by have := hG c hc; omega).set fun c hc _ => by have := hG c hc; omega
def CloneRel (G : Nat → Prop) (H g N cap : Nat) (l : List VT) (W : World) (i : Value) (wr : World) : Prop :=
  ∃ (k : Nat) (vs1 vs2 : List Value), k ≤ N ∧ i = .int .i64 k ∧ Vals (fun b => H + 2 ≤ b ∧ b ≠ g) wr (l.take k) vs1 ∧ Vals G wr (l.drop k) vs2 ∧ wr.ownsRow (H + 2) 24 3 (.slice (some ⟨g, 0, none⟩) N cap) N (vs1 ++ vs2) ∧ Below (H + 2) W wr
def ClonePost (t : VT) (w : World) (e : Ending) (w' : World) : Prop := ∃ s, e = .returned (.agg #[.int .i64 t.kind, .int .i64 t.num, s]) ∧ Below w.heap.size w w' ∧ Own w.heap.size (fun b => w.heap.size ≤ b) w' t.kids s
end Go.Proofs.Ytnjcapenkoemlaa.vt

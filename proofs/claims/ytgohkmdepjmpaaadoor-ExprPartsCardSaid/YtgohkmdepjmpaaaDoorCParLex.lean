/- The tokens of a source, as what is read: names are right, numbers are none below 0. -/
import Derived.Test.YtgohkmdepjmpaaaDoorCParPre
import Derived.Test.YtgohkmdepjmpaaaDoorCGLex
namespace Go.Proofs.YtgohkmdepjmpaaaDoor.pm
open Go.RowKit wd lx nt ne mem

def toTk (t : Tok) : Tk := ⟨t.kind, t.at_, t.n, t.text⟩
theorem toks_tks (ts : List Tok) : toksV ts = tksV (ts.map toTk) := by
  induction ts with
  | nil => rfl
  | cons t ts ih => rw [List.map_cons, tksV_cons, ← ih]; rfl
theorem tks_of {B : Nat} {w : World} {ts : List Tok} {v : Value} (h : TokS B w ts v) : TksS B w (ts.map toTk) v := by
  unfold TksS
  rw [← toks_tks, List.length_map]
  exact h
theorem toks_mem : ∀ {ts : List Tok}, Toks ts → ∀ t ∈ ts, t.kind = 0 ∨ oneF t.text = (0, t.kind, t.n, t.text)
  | [], h, _, _ => h.elim
  | [t], h, u, hu => by
    have : u = t := by simpa using hu
    rw [this]; exact Or.inl h.1
  | t :: v :: ts, h, u, hu => by
    rcases List.mem_cons.1 hu with rfl | hu
    · exact Or.inr h.1
    · exact toks_mem h.2.2 u hu
theorem named_of {n : Int} {s : List UInt8} (h : oneF s = (0, 1, n, s)) (hl : s.length ≤ 16384) : named s = true := by
  have e : lexA s = (0, 0, [⟨1, 0, n, s⟩, ⟨0, 0 + s.length, 0, []⟩]) := by
    rw [lexA_in hl, lex_one h, List.drop_eq_nil_of_le (Nat.le_refl _), lex_nil]
    rfl
  unfold named
  rw [e]
  simp
theorem readS_pos (l : List UInt8) : 0 ≤ (whole.readS l).1 := by
  unfold whole.readS
  by_cases hd : whole.digB l = true
  · rw [if_pos hd]
    have hall : l.all whole.isD = true := by
      unfold whole.digB at hd
      simp only [Bool.and_eq_true] at hd
      exact hd.2
    have := (whole.runD_bd l hall).1
    split
    · exact Int.le_refl _
    · exact this
  · rw [if_neg hd]; exact Int.le_refl _
theorem num_of {n : Int} {s t : List UInt8} (h : oneF s = (0, 2, n, t)) : 0 ≤ n := by
  cases s with
  | nil => simp [oneF] at h
  | cons c r =>
    by_cases h1 : cls c = 1
    · rw [one_letter h1] at h
      injection h with _ h
      injection h with h _
      split at h <;> cases h
    · by_cases h2 : cls c = 2
      · rw [one_digit h2] at h
        injection h with _ h
        injection h with _ h
        injection h with h _
        rw [← h]; exact readS_pos _
      · rw [one_mark h1 h2] at h
        split at h
        · injection h with h _; cases h
        · injection h with _ h
          injection h with h _; cases h
theorem good_of {ts : List Tok} (h : Toks ts) (hl : ∀ t ∈ ts, t.text.length ≤ 16384) : Good (ts.map toTk) := by
  intro i
  by_cases h0 : 0 ≤ i ∧ i.toNat < ts.length
  · have e : tokAt (ts.map toTk) i = toTk ts[i.toNat] := by
      unfold tokAt
      rw [if_pos h0.1, List.getD_eq_getElem?_getD, List.getElem?_map, List.getElem?_eq_getElem h0.2]
      rfl
    rw [e]
    obtain ⟨t, ht⟩ : ∃ t, t = ts[i.toNat] := ⟨_, rfl⟩
    have hm : t ∈ ts := by rw [ht]; exact List.getElem_mem h0.2
    rw [← ht]
    refine ⟨fun hk => ?_, fun hk => ?_⟩
    · have hk : t.kind = 1 := hk
      rcases toks_mem h t hm with h1 | h1
      · rw [h1] at hk; cases hk
      · rw [hk] at h1
        exact named_of h1 (hl t hm)
    · have hk : t.kind = 2 := hk
      rcases toks_mem h t hm with h1 | h1
      · rw [h1] at hk; cases hk
      · rw [hk] at h1
        exact num_of h1
  · have e : tokAt (ts.map toTk) i = ⟨0, 0, 0, []⟩ := by
      unfold tokAt
      by_cases h1 : 0 ≤ i
      · rw [if_pos h1, List.getD_eq_getElem?_getD, List.getElem?_eq_none (by rw [List.length_map]; omega)]
        rfl
      · rw [if_neg h1]
    rw [e]
    exact ⟨fun h => absurd h (by decide), fun h => absurd h (by decide)⟩
theorem lies_len {s : List UInt8} : ∀ {ts : List Tok} {e : Nat}, Lies s e ts → ∀ t ∈ ts, t.text.length ≤ s.length
  | [], _, _, t, ht => by cases ht
  | u :: ts, e, h, t, ht => by
    rcases List.mem_cons.1 ht with rfl | ht
    · have := h.2.1; omega
    · exact lies_len h.2.2.2.2 t ht
/-- the tokens of a source of at most 16384 bytes -/
theorem lex_good {s : List UInt8} {q : Nat} {ts : List Tok} (hs : s.length ≤ 16384) (h : lexW s 0 = (0, q, ts)) : Good (ts.map toTk) ∧ Toks ts ∧ (∀ t ∈ ts, t.text.length ≤ s.length) := by
  obtain ⟨h1, h2⟩ := lex_lies s s.length 0 ts q (by omega) (by omega) (by rw [List.drop_zero]; exact h)
  have h3 := lies_len h1
  exact ⟨good_of h2 (fun t ht => by have := h3 t ht; omega), h2, h3⟩
end Go.Proofs.YtgohkmdepjmpaaaDoor.pm

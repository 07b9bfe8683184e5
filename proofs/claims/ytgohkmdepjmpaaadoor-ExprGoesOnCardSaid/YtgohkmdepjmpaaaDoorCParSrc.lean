/- A source's tokens, as they lie behind the document's own lexer. -/
import Derived.Test.YtgohkmdepjmpaaaDoorCParEnd
import Derived.Test.YtgohkmdepjmpaaaDoorCParTold
import Derived.Test.YtgohkmdepjmpaaaDoorCGLex
namespace Go.Proofs.YtgohkmdepjmpaaaDoor.pm
open Go.RowKit wd lx nt ne mem
open vt (I64 own_form)

theorem readS_in (l : List UInt8) : 0 ≤ (whole.readS l).1 ∧ (whole.readS l).1 ≤ 9223372036854775807 := by
  refine ⟨readS_pos l, ?_⟩
  unfold whole.readS
  by_cases hd : whole.digB l = true
  · rw [if_pos hd]
    split
    · decide
    · rename_i h
      have : ¬ 9223372036854775808 ≤ (whole.runD l).1 := fun e => h (Or.inr e)
      show (whole.runD l).1 ≤ _
      omega
  · rw [if_neg hd]; decide
theorem one_n {s t : List UInt8} {e k n : Int} (h : oneF s = (e, k, n, t)) : 0 ≤ n ∧ n ≤ 9223372036854775807 := by
  cases s with
  | nil => simp [oneF] at h; omega
  | cons c r =>
    unfold oneF at h
    simp only at h
    split at h
    · injection h with _ h; injection h with _ h; injection h with h _; omega
    · split at h
      · injection h with _ h; injection h with _ h; injection h with h _
        rw [← h]; exact readS_in _
      · split at h
        · injection h with _ h; injection h with _ h; injection h with h _; omega
        · injection h with _ h; injection h with _ h; injection h with h _; omega
theorem toks_n : ∀ {ts : List Tok}, Toks ts → ∀ t ∈ ts, 0 ≤ t.n ∧ t.n ≤ 9223372036854775807
  | [], _, _, ht => by cases ht
  | [u], h, t, ht => by
    unfold Toks at h
    have : t = u := by simpa using ht
    subst this
    rw [h.2.1]; decide
  | u :: v :: ts, h, t, ht => by
    unfold Toks at h
    rcases List.mem_cons.1 ht with rfl | ht
    · exact one_n h.1
    · exact toks_n h.2.2 t ht
theorem lies_at {s : List UInt8} : ∀ {ts : List Tok} {e : Nat}, Lies s e ts → ∀ t ∈ ts, t.at_ + t.text.length ≤ s.length
  | [], _, _, _, ht => by cases ht
  | u :: ts, _, h, t, ht => by
    rcases List.mem_cons.1 ht with rfl | ht
    · exact h.2.1
    · exact lies_at h.2.2.2.2 t ht
theorem fair_of {ts : List Tok} (h : ∀ t ∈ ts, (0 ≤ t.n ∧ t.n ≤ 9223372036854775807) ∧ t.at_ + t.text.length ≤ 1048576) : ∀ i, I64 (tokAt (ts.map toTk) i).at_ ∧ I64 (tokAt (ts.map toTk) i).n ∧ (tokAt (ts.map toTk) i).text.length ≤ 281474976710656 := by
  intro i
  by_cases h0 : 0 ≤ i ∧ i.toNat < ts.length
  · have e : tokAt (ts.map toTk) i = toTk ts[i.toNat] := by
      unfold tokAt
      rw [if_pos h0.1, List.getD_eq_getElem?_getD, List.getElem?_map, List.getElem?_eq_getElem h0.2]
      rfl
    rw [e]
    obtain ⟨q1, q2⟩ := h _ (List.getElem_mem h0.2)
    refine ⟨?_, ?_, ?_⟩
    · show I64 ((ts[i.toNat].at_ : Nat) : Int); unfold I64; omega
    · show I64 ts[i.toNat].n; unfold I64; omega
    · show ts[i.toNat].text.length ≤ _; omega
  · have e : tokAt (ts.map toTk) i = ⟨0, 0, 0, []⟩ := by
      unfold tokAt
      by_cases h1 : 0 ≤ i
      · rw [if_pos h1, List.getD_eq_getElem?_getD, List.getElem?_eq_none (by rw [List.length_map]; omega)]
        rfl
      · rw [if_neg h1]
    rw [e]
    exact ⟨by show I64 0; unfold I64; omega, by show I64 0; unfold I64; omega, by show 0 ≤ 281474976710656; omega⟩
/-- what a law knows of a source that is cut into tokens -/
structure Cut (s : List UInt8) (ts : List Tok) : Prop where
  good : Good (ts.map toTk)
  toks : Toks ts
  fair : ∀ i, I64 (tokAt (ts.map toTk) i).at_ ∧ I64 (tokAt (ts.map toTk) i).n ∧ (tokAt (ts.map toTk) i).text.length ≤ 281474976710656
  len : ts.length ≤ s.length + 1
  raw : ∀ t ∈ ts, (0 ≤ t.n ∧ t.n ≤ 9223372036854775807) ∧ t.at_ + t.text.length ≤ 1048576
theorem cut_of {s : List UInt8} {q : Nat} {ts : List Tok} (hs : s.length ≤ 16384) (h : lexW s 0 = (0, q, ts)) : Cut s ts := by
  obtain ⟨h1, h2⟩ := lex_lies s s.length 0 ts q (by omega) (by omega) (by rw [List.drop_zero]; exact h)
  have h3 := lies_len h1
  have h4 := lies_at h1
  refine ⟨good_of h2 (fun t ht => by have := h3 t ht; omega), h2, fair_of (fun t ht => ⟨toks_n h2 t ht, by have := h4 t ht; omega⟩), ?_, fun t ht => ⟨toks_n h2 t ht, by have := h4 t ht; omega⟩⟩
  have := lex_count s.length s 0 (Nat.le_refl _)
  rw [h] at this
  exact this
theorem src_got {s : List UInt8} {ts : List Tok} {v : Value} {w w' : World} (hc : Cut s ts) (hs : s.length ≤ 16384) (h : Got w.heap.size TokT 4 ts.length (toksV ts) v w w') : Src (ts.map toTk) v w' :=
  ⟨tks_of (TokS.of_got h), by rw [List.length_map]; have := hc.len; omega, hc.fair⟩
end Go.Proofs.YtgohkmdepjmpaaaDoor.pm

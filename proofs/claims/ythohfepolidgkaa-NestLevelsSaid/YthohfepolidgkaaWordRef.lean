/- The document's own words, spellings, bindings and marks. -/
import Derived.Test.YthohfepolidgkaaWordMath
import Derived.Test.YthohfepolidgkaaValOwn
import Derived.LoopTactic
import Derived.Outline
import Derived.BigQuiet
import Derived.Lib.Strings
import Derived.Test.YthohfepolidgkaaValClone
namespace Go.Proofs.Ythohfepolidgkaa.wd
open Go.RowKit mem vt

/-- a row of texts, new -/
def Texts (w : World) (b : Nat) (l : List (List UInt8)) : Prop := w.heap[b]? = some (.cells (strV l).toArray 9 (0, 0))
theorem Texts.cell {w : World} {b : Nat} {l : List (List UInt8)} (h : Texts w b l) (k : Nat) (hk : k < l.length) : w.cell? ⟨b, k, none⟩ = some (.string ⟨l[k].toArray⟩) := by
  unfold World.cell?
  rw [h]
  have := strV_at l k hk
  simpa using this
def IsRel (s : List UInt8) (W : World) (i : Value) (wr : World) : Prop := ∃ k : Nat, i = .int .i64 k ∧ k ≤ 20 ∧ Hid ((words20.take k).contains s = false) ∧ wr = W
/-! ### spellings -/
/-! ### the marks -/
theorem infoStr : (Try.prog.info? 9).map (fun i => (i.zero, i.size, i.bytes)) = some (some (.string ⟨#[]⟩), 1, 16) := by kernel_rfl
def MarkRel (w : World) (l i : Value) (wr : World) : Prop :=
  ∃ k : Nat, i = .int .i64 ((k : Int) + 1) ∧ k ≤ 14 ∧ Hid (wr.ownsRow w.heap.size 9 1 l (10 + k) (strV (marks10 ++ signs14.take k))) ∧ Hid (Below w.heap.size w wr)
def BestRel (s : List UInt8) (W : World) (b i : Value) (wr : World) : Prop :=
  ∃ k : Nat, i = .int .i64 k ∧ k ≤ 24 ∧ b = .string ⟨((marks24.take k).foldl (stepM s) []).toArray⟩ ∧ ∃ q, wr = W.drewN q
theorem ext_take (s : List UInt8) (m : Nat) : (⟨s.toArray⟩ : ByteArray).extract 0 m = ⟨(s.take m).toArray⟩ := by
  apply ByteArray.ext
  apply Array.ext'
  rw [Lib.extract_data]
  simp
theorem slice_pre (s : List UInt8) (m : Nat) (h : m ≤ s.length) (w : World) :
    (Instr.slice 9 (.string ⟨s.toArray⟩) none (some (.int .i64 m)) none).run Try.prog w = .ok (.string ⟨(s.take m).toArray⟩) w := by
  rw [run_slice_string_to_if w 9 _ .i64 (m : Int) Try.underlying9, if_pos ⟨by omega, by show (m : Int) ≤ (s.length : Int); omega⟩, Int.toNat_natCast, ext_take]
theorem mark_at (k : Nat) (h : k < 24) : marks24[k]? = some (marks24.getD k []) := by
  have : k < marks24.length := h
  rw [List.getD_eq_getElem?_getD, List.getElem?_eq_getElem this]; rfl
theorem mark_len : ∀ k, (marks24.getD k []).length ≤ 2 := by
  intro k
  by_cases h : k < 24
  · exact (by decide +kernel : ∀ j : Fin 24, (marks24.getD j.val []).length ≤ 2) ⟨k, h⟩
  · rw [List.getD_eq_getElem?_getD, List.getElem?_eq_none (by show 24 ≤ k; omega)]; simp
theorem fold_len (s : List UInt8) (l : List (List UInt8)) (b : List UInt8) (hb : b.length ≤ 2) (hl : ∀ m ∈ l, m.length ≤ 2) : (l.foldl (stepM s) b).length ≤ 2 := by
  induction l generalizing b with
  | nil => exact hb
  | cons m l ih =>
    rw [List.foldl_cons]
    refine ih _ ?_ fun x hx => hl x (by simp [hx])
    unfold stepM
    split
    · exact hl m (by simp)
    · exact hb
theorem own_addr {w : World} {base size n : Nat} {e : TypeId} {v : Value} {xs : List Value} (h : w.ownsRow base e size v n xs) (hn : 0 < n) : ∃ g c, v = .slice (some ⟨g, 0, none⟩) n c := by
  rcases h.2 with ⟨_, h0⟩ | ⟨g, c, cur, hv, _⟩
  · omega
  · exact ⟨g, c, hv⟩
theorem spell_at (k : Nat) (h : k < 14) : ∃ hk : k < signs14.length, signs14[k] = spellF ((k : Int) + 1) := by
  refine ⟨h, ?_⟩
  unfold spellF
  rw [if_neg (by omega), show ((k : Int) + 1 - 1).toNat = k by omega, List.getD_eq_getElem?_getD, List.getElem?_eq_getElem (show k < signs14.length from h)]; rfl
theorem marks_step (k : Nat) (h : k < 14) : strV (marks10 ++ signs14.take k) ++ [.string ⟨(spellF ((k : Int) + 1)).toArray⟩] = strV (marks10 ++ signs14.take (k + 1)) := by
  obtain ⟨hk, e⟩ := spell_at k h
  rw [List.take_succ_eq_append_getElem hk, e]
  unfold strV
  simp
theorem step_yes {s b m : List UInt8} (h1 : m.length ≤ s.length) (h2 : s.take m.length = m) (h3 : b.length < m.length) : stepM s b m = m := if_pos ⟨h1, h2, h3⟩
theorem step_no {s b m : List UInt8} (h : ¬ (m.length ≤ s.length ∧ s.take m.length = m ∧ b.length < m.length)) : stepM s b m = b := if_neg h
end Go.Proofs.Ythohfepolidgkaa.wd

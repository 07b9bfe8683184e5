/- A quicker check that a region's operations may be walked in the text's order: of whatever program. -/
import Derived.Test.YtgohkmdepjmpaaaDoorProg
import Derived.BigQuiet
namespace Go.Proofs.YtgohkmdepjmpaaaDoor.mem
open Go.RowKit

/-- whether an operation is apart from each behind it that does not wait for it -/
def fastRow (ops : Array Oper) (oi : Oper) (k : Nat) : List Oper → Bool
  | [] => true
  | oj :: r => (oj.after.any (fun e => Region.binds .any e && e.on == k) || oi.apart ops oj) && fastRow ops oi k r
def fastLex (ops : Array Oper) : Nat → List Oper → Bool
  | _, [] => true
  | k, oi :: r => oi.after.all (fun e => !Region.binds .any e || decide (e.on < k)) && fastRow ops oi k r && fastLex ops (k + 1) r
theorem fastRow_spec {ops : Array Oper} {oi : Oper} {k : Nat} : ∀ {l : List Oper}, fastRow ops oi k l = true → ∀ (j : Nat) (o : Oper), l[j]? = some o → (o.after.any (fun e => Region.binds .any e && e.on == k) || oi.apart ops o) = true
  | [], _, j, o, h => by simp at h
  | x :: l, h, 0, o, ho => by
    simp only [fastRow, Bool.and_eq_true] at h
    simp at ho; subst ho; exact h.1
  | x :: l, h, j + 1, o, ho => by
    simp only [fastRow, Bool.and_eq_true] at h
    exact fastRow_spec h.2 j o (by simpa using ho)
theorem fast_from {ops : Array Oper} : ∀ (l : List Oper) (k : Nat) (listed : Array Bool), k + l.length = ops.size → (∀ j, l[j]? = ops[k + j]?) → listed.size = ops.size → (∀ j, j < ops.size → listed.getD j true = decide (j < k)) →
    fastLex ops k l = true → Region.lexFrom .any ops l.length k listed = true
  | [], k, listed, hk, _, hs, hl, _ => by
    simp only [List.length_nil, Region.lexFrom]
    simp only [List.length_nil, Nat.add_zero] at hk
    unfold Region.ready
    rw [List.isEmpty_iff, List.filter_eq_nil_iff]
    intro i hi
    have hi2 := List.mem_range.1 hi
    rw [hl i hi2, decide_eq_true (by omega)]
    simp
  | oi :: l, k, listed, hk, hg, hs, hl, hf => by
    simp only [fastLex, Bool.and_eq_true] at hf
    obtain ⟨⟨h1, h2⟩, h3⟩ := hf
    have h0 : ops[k]? = some oi := by have := (hg 0).symm; simpa using this
    simp only [List.length_cons] at hk
    have hkn : k < ops.size := by omega
    have hd : ∀ j, j < ops.size → listed.getD j false = decide (j < k) := fun j hj => by
      have := hl j hj
      rw [Array.getD_eq_getD_getElem?] at this ⊢
      rw [Array.getElem?_eq_getElem (by omega : j < listed.size)] at this ⊢
      exact this
    simp only [List.length_cons, Region.lexFrom, Bool.and_eq_true]
    refine ⟨⟨?_, ?_⟩, ?_⟩
    · rw [List.contains_iff_mem]
      unfold Region.ready
      rw [List.mem_filter]
      refine ⟨List.mem_range.2 hkn, ?_⟩
      rw [hl k hkn, decide_eq_false (by omega), h0]
      simp only [Bool.not_false, Bool.true_and, Option.map_some, Option.getD_some]
      rw [Array.all_eq_true'] at h1 ⊢
      intro e he
      have := h1 e he
      simp only [Bool.or_eq_true, Bool.not_eq_true', decide_eq_true_eq] at this ⊢
      rcases this with h | h
      · exact Or.inl h
      · right; rw [hd e.on (by omega)]; exact decide_eq_true h
    · unfold Region.free
      simp only [h0, List.all_eq_true, List.mem_range, Bool.or_eq_true, beq_iff_eq]
      intro j hj
      by_cases hjk : j = k
      · exact Or.inl (Or.inl hjk)
      · by_cases hlt : j < k
        · exact Or.inl (Or.inr (by rw [hl j hj]; exact decide_eq_true hlt))
        · right
          obtain ⟨m, rfl⟩ : ∃ m, j = k + (m + 1) := ⟨j - k - 1, by omega⟩
          have hm := hg (m + 1)
          rw [List.getElem?_cons_succ] at hm
          rw [Array.getElem?_eq_getElem hj] at hm ⊢
          have := fastRow_spec h2 m _ hm
          simpa only [Bool.or_eq_true] using this
    · refine fast_from l (k + 1) _ (by omega) (fun j => ?_) (by rw [Array.size_setIfInBounds]; exact hs) (fun j hj => ?_) h3
      · have := hg (j + 1)
        rw [List.getElem?_cons_succ] at this
        rw [this, show k + (j + 1) = k + 1 + j by omega]
      · rw [Array.getD_eq_getD_getElem?, Array.getElem?_setIfInBounds]
        by_cases hjk : k = j
        · subst hjk
          rw [if_pos rfl, if_pos (by omega)]
          simp
        · rw [if_neg hjk, ← Array.getD_eq_getD_getElem?, hl j hj]
          by_cases hlt : j < k
          · rw [decide_eq_true hlt, decide_eq_true (by omega)]
          · rw [decide_eq_false hlt, decide_eq_false (by omega)]
theorem lexB_fast {l : List Oper} (h : (Region.noSelect l.toArray && fastLex l.toArray 0 l) = true) : Region.lexB .any l.toArray = true := by
  simp only [Bool.and_eq_true] at h
  unfold Region.lexB
  rw [h.1, Bool.true_and]
  have := fast_from l 0 (Array.replicate l.toArray.size false) (by simp) (fun j => by simp) (by simp) (fun j hj => by simp at hj; simp [hj]) h.2
  simpa using this
end Go.Proofs.YtgohkmdepjmpaaaDoor.mem

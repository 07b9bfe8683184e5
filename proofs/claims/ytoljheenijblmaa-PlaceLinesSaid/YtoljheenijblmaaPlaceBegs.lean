/- Where the lines of a text begin and end: plain functions on lists of bytes. -/
import Derived.Test.YtoljheenijblmaaPlaceMath
namespace Go.Proofs.Ytoljheenijblmaa.pl

/-- where the lines begin that begin within the first k bytes, or just behind them -/
def begT (l : List UInt8) : Nat → List Nat
  | 0 => [0]
  | k + 1 => if (l.getD k 0).toNat = 10 then begT l k ++ [k + 1] else begT l k
/-- where the i-th line of the first k bytes ends -/
def endT (l : List UInt8) (k i : Nat) : Nat := if i + 1 < (begT l k).length then (begT l k).getD (i + 1) 0 - 1 else k
/-- the i-th line of the first k bytes -/
def segT (l : List UInt8) (k i : Nat) : List UInt8 := (l.take (endT l k i)).drop ((begT l k).getD i 0)
/-- where the last line of the first k bytes begins -/
def lastT (l : List UInt8) (k : Nat) : Nat := (begT l k).getD ((begT l k).length - 1) 0

theorem getD_l {α : Type} {a b : List α} {i : Nat} {d : α} (h : i < a.length) : (a ++ b).getD i d = a.getD i d := by
  rw [List.getD_eq_getElem?_getD, List.getD_eq_getElem?_getD, List.getElem?_append_left h]
theorem getD_r {α : Type} {a b : List α} {i : Nat} {d : α} (h : a.length ≤ i) : (a ++ b).getD i d = b.getD (i - a.length) d := by
  rw [List.getD_eq_getElem?_getD, List.getD_eq_getElem?_getD, List.getElem?_append_right h]
theorem begT_succ (l : List UInt8) (k : Nat) : begT l (k + 1) = if (l.getD k 0).toNat = 10 then begT l k ++ [k + 1] else begT l k := rfl
theorem begT_pos (l : List UInt8) : ∀ k, 1 ≤ (begT l k).length
  | 0 => by simp [begT]
  | k + 1 => by
    have := begT_pos l k
    rw [begT_succ]; split <;> simp <;> omega
theorem begT_len (l : List UInt8) : ∀ k, (begT l k).length ≤ k + 1
  | 0 => by simp [begT]
  | k + 1 => by
    have := begT_len l k
    rw [begT_succ]; split <;> simp <;> omega
theorem begT_zero (l : List UInt8) : ∀ k, (begT l k).getD 0 0 = 0
  | 0 => by simp [begT]
  | k + 1 => by
    have := begT_zero l k
    have hp := begT_pos l k
    rw [begT_succ]; split
    · rw [getD_l (by omega)]; exact this
    · exact this
/-- each begin is at most k -/
theorem begT_le (l : List UInt8) : ∀ k i, (begT l k).getD i 0 ≤ k
  | 0, i => by
    unfold begT
    cases i <;> simp
  | k + 1, i => by
    have := begT_le l k i
    rw [begT_succ]; split
    · by_cases h : i < (begT l k).length
      · rw [getD_l h]; omega
      · rw [getD_r (by omega)]
        cases hj : i - (begT l k).length <;> simp
    · omega
/-- those of fewer bytes stay -/
theorem begT_stay (l : List UInt8) (k : Nat) : ∀ j i, i < (begT l k).length → (begT l (k + j)).getD i 0 = (begT l k).getD i 0 ∧ (begT l k).length ≤ (begT l (k + j)).length
  | 0, i, h => ⟨rfl, Nat.le_refl _⟩
  | j + 1, i, h => by
    obtain ⟨h1, h2⟩ := begT_stay l k j i h
    rw [← Nat.add_assoc, begT_succ]
    by_cases hc : (l.getD (k + j) 0).toNat = 10
    · rw [if_pos hc, getD_l (by omega), List.length_append]
      exact ⟨h1, by omega⟩
    · rw [if_neg hc]
      exact ⟨h1, h2⟩
/-- those that come later are greater -/
theorem begT_more (l : List UInt8) (k : Nat) : ∀ j i, (begT l k).length ≤ i → i < (begT l (k + j)).length → k < (begT l (k + j)).getD i 0
  | 0, i, h, h2 => absurd h2 (by show ¬ i < (begT l k).length; omega)
  | j + 1, i, h, h2 => by
    rw [← Nat.add_assoc, begT_succ] at h2 ⊢
    by_cases hc : (l.getD (k + j) 0).toNat = 10
    · rw [if_pos hc] at h2 ⊢
      by_cases hi : i < (begT l (k + j)).length
      · rw [getD_l hi]
        exact begT_more l k j i h hi
      · rw [List.length_append] at h2
        simp at h2
        rw [getD_r (by omega), show i - (begT l (k + j)).length = 0 by omega]
        simp; omega
    · rw [if_neg hc] at h2 ⊢
      exact begT_more l k j i h h2
/-- rising -/
theorem begT_rise (l : List UInt8) : ∀ k i, i + 1 < (begT l k).length → (begT l k).getD i 0 < (begT l k).getD (i + 1) 0
  | 0, i, h => by simp [begT] at h
  | k + 1, i, h => by
    rw [begT_succ] at h ⊢
    by_cases hc : (l.getD k 0).toNat = 10
    · rw [if_pos hc] at h ⊢
      by_cases hi : i + 1 < (begT l k).length
      · rw [getD_l hi, getD_l (by omega)]
        exact begT_rise l k i hi
      · rw [List.length_append] at h
        simp at h
        rw [getD_l (by omega), getD_r (by omega), show i + 1 - (begT l k).length = 0 by omega]
        have := begT_le l k i
        show _ < k + 1
        omega
    · rw [if_neg hc] at h ⊢
      exact begT_rise l k i h
/-- ahead of each begin but the first there is a line feed -/
theorem begT_feed (l : List UInt8) : ∀ k i, i + 1 < (begT l k).length → (l.getD ((begT l k).getD (i + 1) 0 - 1) 0).toNat = 10
  | 0, i, h => by simp [begT] at h
  | k + 1, i, h => by
    rw [begT_succ] at h ⊢
    by_cases hc : (l.getD k 0).toNat = 10
    · rw [if_pos hc] at h ⊢
      by_cases hi : i + 1 < (begT l k).length
      · rw [getD_l hi]
        exact begT_feed l k i hi
      · rw [List.length_append] at h
        simp at h
        rw [getD_r (by omega), show i + 1 - (begT l k).length = 0 by omega]
        simpa using hc
    · rw [if_neg hc] at h ⊢
      exact begT_feed l k i h
theorem lastT_le (l : List UInt8) (k : Nat) : lastT l k ≤ k := begT_le l k _
theorem lastT_succ (l : List UInt8) (k : Nat) : lastT l (k + 1) = if (l.getD k 0).toNat = 10 then k + 1 else lastT l k := by
  unfold lastT
  by_cases hc : (l.getD k 0).toNat = 10
  · rw [if_pos hc]
    rw [begT_succ, if_pos hc, getD_r (by simp), List.length_append]
    simp
  · rw [if_neg hc]
    rw [begT_succ, if_neg hc]
theorem take_more (l : List UInt8) (k : Nat) (h : k < l.length) : l.take (k + 1) = l.take k ++ [l.getD k 0] := by
  rw [List.take_succ_eq_append_getElem h]
  simp [List.getD_eq_getElem?_getD, List.getElem?_eq_getElem h]
/-- line and column, told by the begins -/
theorem atS_begT (l : List UInt8) : ∀ k, k ≤ l.length → atS (l.take k) = (((begT l k).length : Int), ((k - lastT l k : Nat) : Int) + 1)
  | 0, _ => by simp [atS, begT, lastT]
  | k + 1, h => by
    have ih := atS_begT l k (by omega)
    rw [take_more l k (by omega), atS_snoc, ih, lastT_succ]
    have hl := lastT_le l k
    unfold stepA
    by_cases hc : (l.getD k 0).toNat = 10
    · rw [if_pos hc, if_pos hc, begT_succ, if_pos hc]
      simp
    · rw [if_neg hc, if_neg hc, begT_succ, if_neg hc]
      simp only [Prod.mk.injEq, true_and]
      omega
theorem endT_le (l : List UInt8) (k i : Nat) : endT l k i ≤ k := by
  unfold endT
  split
  · have := begT_le l k (i + 1); omega
  · omega
theorem beg_end (l : List UInt8) (k i : Nat) : (begT l k).getD i 0 ≤ endT l k i := by
  unfold endT
  split
  · rename_i h; have := begT_rise l k i h; omega
  · exact begT_le l k i
theorem segT_len (l : List UInt8) (k i : Nat) (h : k ≤ l.length) : (segT l k i).length = endT l k i - (begT l k).getD i 0 := by
  have := endT_le l k i
  unfold segT; simp; omega
/-- the lines of the first k bytes are those between the begins and the ends -/
theorem lines_segT (l : List UInt8) : ∀ k, k ≤ l.length → (linesS (l.take k)).length = (begT l k).length ∧ ∀ i, i < (begT l k).length → (linesS (l.take k)).getD i [] = segT l k i
  | 0, _ => by
    refine ⟨by simp [linesS, begT], fun i hi => ?_⟩
    simp [begT] at hi
    subst hi
    simp [linesS, segT, begT, endT]
  | k + 1, h => by
    obtain ⟨h1, h2⟩ := lines_segT l k (by omega)
    have hp := begT_pos l k
    rw [take_more l k (by omega), linesS_snoc]
    generalize hL : linesS (l.take k) = L at h1 h2
    by_cases hc : (l.getD k 0).toNat = 10
    · have hb : begT l (k + 1) = begT l k ++ [k + 1] := by rw [begT_succ, if_pos hc]
      have hg : growS L (l.getD k 0) = L ++ [[]] := by unfold growS; rw [if_pos hc]
      rw [hg]
      refine ⟨by rw [hb]; simp [h1], fun i hi => ?_⟩
      rw [hb] at hi
      simp at hi
      by_cases hi2 : i < (begT l k).length
      · have he : endT l (k + 1) i = endT l k i := by
          unfold endT
          rw [hb, List.length_append]
          by_cases h3 : i + 1 < (begT l k).length
          · rw [if_pos (by omega), if_pos h3, getD_l h3]
          · rw [if_pos (by simp; omega), if_neg h3, getD_r (by omega), show i + 1 - (begT l k).length = 0 by omega]
            simp
        rw [getD_l (by omega), h2 i hi2]
        unfold segT
        rw [he, hb, getD_l hi2]
      · obtain rfl : i = (begT l k).length := by omega
        rw [getD_r (by omega), h1, Nat.sub_self]
        unfold segT endT
        rw [hb, List.length_append, if_neg (by simp), getD_r (by omega), Nat.sub_self]
        simp
    · have hb : begT l (k + 1) = begT l k := by rw [begT_succ, if_neg hc]
      have hg : growS L (l.getD k 0) = L.dropLast ++ [L.getLast?.getD [] ++ [l.getD k 0]] := by unfold growS; rw [if_neg hc]
      rw [hg]
      refine ⟨by rw [hb]; simp; omega, fun i hi => ?_⟩
      rw [hb] at hi
      by_cases hi2 : i + 1 < (begT l k).length
      · have he : endT l (k + 1) i = endT l k i := by
          unfold endT
          rw [hb, if_pos hi2, if_pos hi2]
        rw [getD_l (by simp; omega)]
        have : L.dropLast.getD i [] = L.getD i [] := by
          rw [List.getD_eq_getElem?_getD, List.getD_eq_getElem?_getD, List.getElem?_dropLast, if_pos (by omega)]
        rw [this, h2 i hi]
        unfold segT
        rw [he, hb]
      · have hi3 : i = (begT l k).length - 1 := by omega
        rw [getD_r (by simp; omega), show i - L.dropLast.length = 0 by simp; omega]
        have hlast : L.getLast?.getD [] = L.getD i [] := by
          rw [List.getLast?_eq_getElem?, List.getD_eq_getElem?_getD, h1, hi3]
        simp only [List.getD_cons_zero]
        rw [hlast, h2 i hi]
        have he : endT l (k + 1) i = k + 1 := by unfold endT; rw [hb, if_neg hi2]
        have he2 : endT l k i = k := by unfold endT; rw [if_neg hi2]
        have := begT_le l k i
        unfold segT
        rw [he, he2, hb, take_more l k (by omega), List.drop_append_of_le_length (by rw [List.length_take, Nat.min_eq_left (by omega)]; exact this)]
/-- what stands ahead of a line's end, line by line -/
theorem upto_more (l : List UInt8) (k i : Nat) (hk : k ≤ l.length) (h : i + 1 < (begT l k).length) :
    l.take (endT l k i) ++ [10] ++ segT l k (i + 1) = l.take (endT l k (i + 1)) := by
  have hf := begT_feed l k i h
  have hr := begT_rise l k i h
  have hb := begT_le l k (i + 1)
  have he := beg_end l k (i + 1)
  have hel := endT_le l k (i + 1)
  have e1 : endT l k i = (begT l k).getD (i + 1) 0 - 1 := by unfold endT; rw [if_pos h]
  obtain ⟨x, hx⟩ : ∃ x, (begT l k).getD (i + 1) 0 = x + 1 := ⟨(begT l k).getD (i + 1) 0 - 1, by omega⟩
  rw [hx] at e1 he hf hb
  simp only [Nat.add_sub_cancel] at e1 hf
  have hten : l.getD x 0 = 10 := by
    apply UInt8.toNat_inj.1
    rw [hf]; rfl
  unfold segT
  rw [hx, e1, ← hten, ← take_more l x (by omega)]
  have : l.take (x + 1) = (l.take (endT l k (i + 1))).take (x + 1) := by rw [List.take_take, Nat.min_eq_left he]
  rw [this, List.take_append_drop]
theorem upto_first (l : List UInt8) (k : Nat) : segT l k 0 = l.take (endT l k 0) := by
  unfold segT
  rw [begT_zero, List.drop_zero]
theorem upto_last (l : List UInt8) (k : Nat) : endT l k ((begT l k).length - 1) = k := by
  have := begT_pos l k
  unfold endT; rw [if_neg (by omega)]
/-- the begin and the end of the line of a place -/
theorem place_in (l : List UInt8) (n : Nat) (h : n ≤ l.length) : (begT l l.length).getD ((begT l n).length - 1) 0 = lastT l n ∧ (begT l n).length ≤ (begT l l.length).length ∧ n ≤ endT l l.length ((begT l n).length - 1) := by
  have hp := begT_pos l n
  obtain ⟨j, hj⟩ : ∃ j, l.length = n + j := ⟨l.length - n, by omega⟩
  obtain ⟨h1, h2⟩ := begT_stay l n j ((begT l n).length - 1) (by omega)
  rw [← hj] at h1 h2
  refine ⟨h1, h2, ?_⟩
  unfold endT
  split
  · rename_i h3
    have := begT_more l n j ((begT l n).length - 1 + 1) (by omega) (by rw [← hj]; exact h3)
    rw [← hj] at this
    omega
  · exact h
/-- and back: the place of a line and a column has that line -/
theorem place_back (l : List UInt8) (i n : Nat) (hi : i < (begT l l.length).length) (h1 : (begT l l.length).getD i 0 ≤ n) (h2 : n ≤ endT l l.length i) : (begT l n).length = i + 1 ∧ lastT l n = (begT l l.length).getD i 0 := by
  have hn : n ≤ l.length := Nat.le_trans h2 (endT_le l _ i)
  have hp := begT_pos l n
  obtain ⟨j, hj⟩ : ∃ j, l.length = n + j := ⟨l.length - n, by omega⟩
  have hlen : (begT l n).length = i + 1 := by
    apply Nat.le_antisymm
    · refine Nat.le_of_not_lt fun hc => ?_
      obtain ⟨h3, h4⟩ := begT_stay l n j (i + 1) (by omega)
      rw [← hj] at h3 h4
      have h5 := begT_le l n (i + 1)
      have h6 := begT_rise l l.length i (by omega)
      unfold endT at h2
      rw [if_pos (by omega)] at h2
      omega
    · refine Nat.le_of_not_lt fun hc => ?_
      have := begT_more l n j i (by omega) (by rw [← hj]; exact hi)
      rw [← hj] at this
      omega
  refine ⟨hlen, ?_⟩
  have := (place_in l n hn).1
  rw [hlen] at this
  simpa using this.symm
end Go.Proofs.Ytoljheenijblmaa.pl

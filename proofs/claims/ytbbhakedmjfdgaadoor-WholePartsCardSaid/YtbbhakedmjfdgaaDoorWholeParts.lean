/- WholeParts, walked: it returns true, and of what was there nothing has turned. -/
import Derived.Test.YtbbhakedmjfdgaaDoorWholeWorks
namespace Go.Proofs.YtbbhakedmjfdgaaDoor.whole
open Go.RowKit wm

theorem told_bd (n : Int) : -9223372036854775808 ≤ (told n).1 ∧ (told n).1 ≤ 9223372036854775807 := by
  unfold told
  split
  · rename_i h; unfold fitsB at h; simp only [decide_eq_true_eq] at h; exact h
  · exact ⟨by decide, by decide⟩
theorem doS_bd (s a b : Int) (ha : -9223372036854775808 ≤ a ∧ a ≤ 9223372036854775807) : -9223372036854775808 ≤ (doS s a b).1 ∧ (doS s a b).1 ≤ 9223372036854775807 := by
  unfold doS
  split
  · exact told_bd _
  · split
    · exact told_bd _
    · split
      · exact told_bd _
      · split
        · split
          · exact ⟨by decide, by decide⟩
          · exact told_bd _
        · split
          · split
            · exact ⟨by decide, by decide⟩
            · exact tmod_bd a b ha
          · exact ⟨by decide, by decide⟩
theorem told_ok {n : Int} (h : -9223372036854775808 ≤ n ∧ n ≤ 9223372036854775807) : told n = (n, 0) := by
  unfold told fitsB; rw [if_pos (decide_eq_true h)]
theorem told_no {n : Int} (h : (told n).2 = 0) : told n = (n, 0) := by
  unfold told at *
  split at h
  · rename_i hf; rw [if_pos hf]
  · cases h
/-- a quotient times the divisor, and the rest, are the dividend -/
theorem parts_quo (a b : Int) (ha : -9223372036854775808 ≤ a ∧ a ≤ 9223372036854775807) (h : ((doS 4 a b).2 == 0) = true) :
    doS 5 a b = (a.tmod b, 0) ∧ doS 3 (doS 4 a b).1 b = ((doS 4 a b).1 * b, 0) ∧ doS 1 ((doS 4 a b).1 * b) (a.tmod b) = (a, 0) := by
  by_cases h0 : b = 0
  · subst h0; cases h
  · have e4 : doS 4 a b = told (a.tdiv b) := by
      show (if b = 0 then (0, 1) else told (a.tdiv b)) = _
      rw [if_neg h0]
    rw [e4, beq_iff_eq] at h
    have e4' := told_no h
    rw [e4, e4']
    have hd := Int.mul_tdiv_add_tmod a b
    have h1 : (a.tdiv b * b).natAbs ≤ a.natAbs := by
      rw [Int.natAbs_mul, Int.natAbs_tdiv]; exact Nat.div_mul_le_self _ _
    refine ⟨?_, ?_, ?_⟩
    · show (if b = 0 then (0, 1) else (a.tmod b, 0)) = _
      rw [if_neg h0]
    · show told (a.tdiv b * b) = (a.tdiv b * b, 0)
      have hm := tmod_bd a b ha
      refine told_ok ?_
      rw [Int.mul_comm] at hd
      by_cases hs : a = -9223372036854775808
      · have hr : a.tmod b ≤ 0 := by
          have := Int.tmod_nonneg b (show 0 ≤ -a by omega)
          rw [Int.neg_tmod] at this; omega
        omega
      · omega
    · show told (a.tdiv b * b + a.tmod b) = (a, 0)
      rw [Int.mul_comm] at hd
      rw [hd]; exact told_ok ha
/-- what is added and taken away again is as it was -/
theorem parts_sum (a b : Int) (ha : -9223372036854775808 ≤ a ∧ a ≤ 9223372036854775807) (h : ((doS 1 a b).2 == 0) = true) :
    doS 2 (doS 1 a b).1 b = (a, 0) := by
  have e1 : doS 1 a b = told (a + b) := rfl
  rw [e1, beq_iff_eq] at h
  rw [e1, told_no h]
  show told (a + b - b) = _
  rw [Int.add_sub_cancel]; exact told_ok ha

/-- which of two numbers is the less one, as the six signs have it -/
theorem order (a b : Int) :
    (holdsS 6 a b = false ∧ holdsS 7 a b = true ∧ holdsS 8 a b = true ∧ holdsS 9 a b = true ∧ holdsS 10 a b = false ∧ holdsS 11 a b = false ∧ decide (a < b) = true ∧ (a == b) = false) ∨
    (holdsS 6 a b = true ∧ holdsS 7 a b = false ∧ holdsS 8 a b = false ∧ holdsS 9 a b = true ∧ holdsS 10 a b = false ∧ holdsS 11 a b = true ∧ decide (a < b) = false ∧ (a == b) = true) ∨
    (holdsS 6 a b = false ∧ holdsS 7 a b = true ∧ holdsS 8 a b = false ∧ holdsS 9 a b = false ∧ holdsS 10 a b = true ∧ holdsS 11 a b = true ∧ decide (a < b) = false ∧ (a == b) = false) := by
  have h : a < b ∨ a = b ∨ b < a := by omega
  rcases h with h | h | h
  · left
    have h2 : ¬ a = b := by omega
    have h3 : a ≤ b := by omega
    have h4 : ¬ b < a := by omega
    have h5 : ¬ b ≤ a := by omega
    simp [holdsS, h, h2, h3, h4, h5]
  · right; left
    subst h
    simp [holdsS]
  · right; right
    have h2 : ¬ a = b := by omega
    have h3 : ¬ a ≤ b := by omega
    have h4 : ¬ a < b := by omega
    have h5 : b ≤ a := by omega
    simp [holdsS, h, h2, h3, h4, h5]

set_option maxRecDepth 100000 in
set_option maxHeartbeats 1000000 in
theorem parts_any (B : Nat) (a b : Int) (w : World) (ha : -9223372036854775808 ≤ a ∧ a ≤ 9223372036854775807) (hb : -9223372036854775808 ≤ b ∧ b ≤ 9223372036854775807) (hB : B ≤ w.heap.size) (hL : Laid B w) :
    Calls Tryd.prog 4 #[.int .i64 a, .int .i64 b] w fun e w' => e = .returned (.bool true) ∧ Below B w w' := by
  have c0 := Lib.hid (works_any B w hB hL)
  clear hL hB
  go_enter Tryd.func4, Tryd.ntmps4
  go_wp2_with (fail)
  refine c0.out.mono ?_
  rintro e w1 ⟨rfl, hbel⟩
  go_wp2_with (fail)
  refine (do_any 4 a b _ ha hb).mono ?_
  rintro e w' ⟨rfl, rfl⟩
  go_wp2_with (fail)
  refine (do_any 5 a b _ ha hb).mono ?_
  rintro e w' ⟨rfl, rfl⟩
  go_wp2_with (fail)
  have e0 : ((doS 4 a b).2 == 0) = true := by assumption
  obtain ⟨p1, p2, p3⟩ := parts_quo a b ha e0
  have hq := doS_bd 4 a b ha
  have hp := doS_bd 3 (doS 4 a b).1 b hq
  have hr := tmod_bd a b ha
  have c3 := fun w => do_any 3 (doS 4 a b).1 b w hq hb
  rw [p2] at hp
  have c4 := fun w => do_any 1 ((doS 4 a b).1 * b) (a.tmod b) w hp hr
  simp only [p2] at c3
  simp only [p3] at c4
  have f1 : ((doS 5 a b).2 != 0) = false := by rw [p1]; rfl
  have C3 := Lib.hid c3
  have C4 := Lib.hid c4
  have P1 := Lib.hid (congrArg Prod.fst p1)
  clear c3 c4 p1 p2 p3 hq hp hr
  refine (C3.out _).mono ?_
  rintro e w' ⟨rfl, rfl⟩
  go_wp2_with (fail)
  rw [P1.out]
  refine (C4.out _).mono ?_
  rintro e w' ⟨rfl, rfl⟩
  go_wp2_with (fail)
  all_goals
    refine (do_any 1 a b _ ha hb).mono ?_
    rintro e w' ⟨rfl, rfl⟩
    go_wp2_with (fail)
    have e1 : ((doS 1 a b).2 == 0) = true := by assumption
    have q1 := parts_sum a b ha e1
    have hs := doS_bd 1 a b ha
    have c5 := fun w => do_any 2 (doS 1 a b).1 b w hs hb
    simp only [q1] at c5
    have C5 := Lib.hid c5
    clear c5 q1 hs
    refine (C5.out _).mono ?_
    rintro e w' ⟨rfl, rfl⟩
    go_wp2_with (fail)
  all_goals
    clear ha hb
    rcases order a b with ⟨h6, h7, h8, h9, h10, h11, k1, k2⟩ | ⟨h6, h7, h8, h9, h10, h11, k1, k2⟩ | ⟨h6, h7, h8, h9, h10, h11, k1, k2⟩
  all_goals
    go_wp2_with (go_at_call 10; refine (holds_any _ _ _ _).mono ?_; rintro e w' ⟨rfl, rfl⟩)
    go_ret
    exact ⟨rfl, hbel⟩
end Go.Proofs.YtbbhakedmjfdgaaDoor.whole

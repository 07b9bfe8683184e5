/- What package whole's functions that reckon return, for every input. -/
import Derived.Test.YtbbhakedmjfdgaaDoorProg
import Derived.Test.YtbbhakedmjfdgaaDoorWholeMath
import Derived.WalkKit
import Derived.BigQuiet
import Derived.Deep.QuietTactic
import Derived.Lib.Hide
namespace Go.Proofs.YtbbhakedmjfdgaaDoor.whole
open Go.RowKit wm

/-- what a pair of numbers is, as a call's end -/
abbrev ret2 (p : Int × Int) : Ending := .returned (.tuple #[.int .i64 p.1, .int .i64 p.2])

theorem fit_any (n : Int) (b : Bool) (w : World) :
    Calls Tryd.prog 16 #[.int .i64 n, .bool b] w fun e w' => e = ret2 (if b = true then (n, 0) else (0, 2)) ∧ w = w' := by
  cases b
  · go_enter Tryd.func16, Tryd.ntmps16
    go_wp2
    go_ret2
    exact ⟨rfl, rfl⟩
  · go_enter Tryd.func16, Tryd.ntmps16
    go_wp2
    go_ret2
    exact ⟨rfl, rfl⟩

/-- a number that the caller has wrapped, and whether it fits -/
theorem fit_told (n m : Int) (b : Bool) (w : World) (hb : b = fitsB m) (hn : fitsB m = true → n = m) :
    Calls Tryd.prog 16 #[.int .i64 n, .bool b] w fun e w' => e = ret2 (told m) ∧ w = w' := by
  subst hb
  refine (fit_any n _ w).mono fun e w' ⟨he, hw⟩ => ⟨?_, hw⟩
  rw [he]; unfold told
  by_cases h : fitsB m = true
  · rw [if_pos h, if_pos h, hn h]
  · rw [if_neg h, if_neg h]

theorem neg_fits (b : Int) (hb : -9223372036854775808 ≤ b ∧ b ≤ 9223372036854775807) : (b != -9223372036854775808) = fitsB (-1 * b) := by
  unfold fitsB
  rw [Bool.eq_iff_iff]
  simp only [bne_iff_ne, decide_eq_true_eq]
  omega

theorem timesFits_any (a b : Int) (w : World) (ha : -9223372036854775808 ≤ a ∧ a ≤ 9223372036854775807) (hb : -9223372036854775808 ≤ b ∧ b ≤ 9223372036854775807) :
    Calls Tryd.prog 17 #[.int .i64 a, .int .i64 b] w fun e w' => e = .returned (.bool (fitsB (a * b))) ∧ w = w' := by
  by_cases h0 : a = 0
  · subst h0
    go_enter Tryd.func17, Tryd.ntmps17
    go_wp2
    go_ret
    exact ⟨by rw [Int.zero_mul]; rfl, rfl⟩
  · by_cases h1 : a = -1
    · subst h1
      have H := Lib.hid (neg_fits b hb)
      go_enter Tryd.func17, Tryd.ntmps17
      go_wp2
      go_ret
      exact ⟨by rw [H.out]; rfl, rfl⟩
    · have e0 : (a == 0) = false := by simpa using h0
      have e1 : (a == -1) = false := by simpa using h1
      have H := Lib.hid (times_fits a b ha h0 h1)
      go_enter Tryd.func17, Tryd.ntmps17
      go_wp2
      go_ret
      exact ⟨by rw [H.out]; rfl, rfl⟩

/-- a quotient -/
theorem divide_over (a b : Int) (w : World) (ha : -9223372036854775808 ≤ a ∧ a ≤ 9223372036854775807) (hb : -9223372036854775808 ≤ b ∧ b ≤ 9223372036854775807) :
    Calls Tryd.prog 18 #[.int .i64 4, .int .i64 a, .int .i64 b] w fun e w' => e = ret2 (doS 4 a b) ∧ w = w' := by
  by_cases h0 : b = 0
  · subst h0
    go_enter Tryd.func18, Tryd.ntmps18
    go_wp2
    go_ret2
    exact ⟨rfl, rfl⟩
  · have e0 : (b == 0) = false := by simpa using h0
    have HF := Lib.hid (over_fits a b ha hb h0)
    have HD := Lib.hid (show doS 4 a b = told (a.tdiv b) by unfold doS; simp [h0])
    have wf := wrap64_fit (a.tdiv b)
    by_cases hm : a = -9223372036854775808
    · have e1 : (a != -9223372036854775808) = false := by simp [hm]
      have HG : Hid ((b != -1) = fitsB (a.tdiv b)) := by
        have h := HF.out
        rw [e1, Bool.false_or] at h
        exact h
      clear hm HF
      go_enter Tryd.func18, Tryd.ntmps18
      go_wp2_with (go_at_call 16; refine (fit_told _ (a.tdiv b) _ _ HG.out wf).mono ?_; rintro e w' ⟨rfl, rfl⟩)
      go_ret2
      exact ⟨by rw [HD.out]; rfl, rfl⟩
    · have e1 : (a != -9223372036854775808) = true := by simpa using hm
      have HG : Hid (true = fitsB (a.tdiv b)) := by
        have h := HF.out
        rw [e1, Bool.true_or] at h
        exact h
      clear hm HF
      go_enter Tryd.func18, Tryd.ntmps18
      go_wp2_with (go_at_call 16; refine (fit_told _ (a.tdiv b) _ _ HG.out wf).mono ?_; rintro e w' ⟨rfl, rfl⟩)
      go_ret2
      exact ⟨by rw [HD.out]; rfl, rfl⟩
/-- a rest -/
theorem divide_rest (a b : Int) (w : World) (ha : -9223372036854775808 ≤ a ∧ a ≤ 9223372036854775807) :
    Calls Tryd.prog 18 #[.int .i64 5, .int .i64 a, .int .i64 b] w fun e w' => e = ret2 (doS 5 a b) ∧ w = w' := by
  by_cases h0 : b = 0
  · subst h0
    go_enter Tryd.func18, Tryd.ntmps18
    go_wp2
    go_ret2
    exact ⟨rfl, rfl⟩
  · have e0 : (b == 0) = false := by simpa using h0
    have hr := tmod_bd a b ha
    have HD := Lib.hid (show doS 5 a b = (a.tmod b, 0) by unfold doS; simp [h0])
    go_enter Tryd.func18, Tryd.ntmps18
    go_wp2
    go_ret2
    exact ⟨by rw [HD.out]; rfl, rfl⟩

theorem do_plus (a b : Int) (w : World) (ha : -9223372036854775808 ≤ a ∧ a ≤ 9223372036854775807) (hb : -9223372036854775808 ≤ b ∧ b ≤ 9223372036854775807) :
    Calls Tryd.prog 6 #[.int .i64 1, .int .i64 a, .int .i64 b] w fun e w' => e = ret2 (doS 1 a b) ∧ w = w' := by
  have HF := Lib.hid (plus_fits a b ha hb)
  go_enter Tryd.func6, Tryd.ntmps6
  go_wp2_with (go_at_call 16; refine (fit_told _ (a + b) _ _ HF.out (wrap64_fit _)).mono ?_; rintro e w' ⟨rfl, rfl⟩)
  go_ret2
  exact ⟨rfl, rfl⟩
theorem do_minus (a b : Int) (w : World) (ha : -9223372036854775808 ≤ a ∧ a ≤ 9223372036854775807) (hb : -9223372036854775808 ≤ b ∧ b ≤ 9223372036854775807) :
    Calls Tryd.prog 6 #[.int .i64 2, .int .i64 a, .int .i64 b] w fun e w' => e = ret2 (doS 2 a b) ∧ w = w' := by
  have HF := Lib.hid (minus_fits a b ha hb)
  go_enter Tryd.func6, Tryd.ntmps6
  go_wp2_with (go_at_call 16; refine (fit_told _ (a - b) _ _ HF.out (wrap64_fit _)).mono ?_; rintro e w' ⟨rfl, rfl⟩)
  go_ret2
  exact ⟨rfl, rfl⟩
theorem do_times (a b : Int) (w : World) (ha : -9223372036854775808 ≤ a ∧ a ≤ 9223372036854775807) (hb : -9223372036854775808 ≤ b ∧ b ≤ 9223372036854775807) :
    Calls Tryd.prog 6 #[.int .i64 3, .int .i64 a, .int .i64 b] w fun e w' => e = ret2 (doS 3 a b) ∧ w = w' := by
  go_enter Tryd.func6, Tryd.ntmps6
  go_wp2_with (first | (go_at_call 17; refine (timesFits_any a b _ ha hb).mono ?_; rintro e w' ⟨rfl, rfl⟩) | (go_at_call 16; refine (fit_told _ (a * b) _ _ rfl (wrap64_fit _)).mono ?_; rintro e w' ⟨rfl, rfl⟩))
  go_ret2
  exact ⟨rfl, rfl⟩
theorem do_over (a b : Int) (w : World) (ha : -9223372036854775808 ≤ a ∧ a ≤ 9223372036854775807) (hb : -9223372036854775808 ≤ b ∧ b ≤ 9223372036854775807) :
    Calls Tryd.prog 6 #[.int .i64 4, .int .i64 a, .int .i64 b] w fun e w' => e = ret2 (doS 4 a b) ∧ w = w' := by
  go_enter Tryd.func6, Tryd.ntmps6
  go_wp2_with (go_at_call 18; refine (divide_over a b _ ha hb).mono ?_; rintro e w' ⟨rfl, rfl⟩)
  go_ret2
  exact ⟨rfl, rfl⟩
theorem do_rest (a b : Int) (w : World) (ha : -9223372036854775808 ≤ a ∧ a ≤ 9223372036854775807) :
    Calls Tryd.prog 6 #[.int .i64 5, .int .i64 a, .int .i64 b] w fun e w' => e = ret2 (doS 5 a b) ∧ w = w' := by
  go_enter Tryd.func6, Tryd.ntmps6
  go_wp2_with (go_at_call 18; refine (divide_rest a b _ ha).mono ?_; rintro e w' ⟨rfl, rfl⟩)
  go_ret2
  exact ⟨rfl, rfl⟩
theorem do_else (s a b : Int) (w : World) (h : s < 1 ∨ 5 < s) :
    Calls Tryd.prog 6 #[.int .i64 s, .int .i64 a, .int .i64 b] w fun e w' => e = ret2 (doS s a b) ∧ w = w' := by
  have e1 : (s == 1) = false := by rw [beq_eq_false_iff_ne]; omega
  have e2 : (s == 2) = false := by rw [beq_eq_false_iff_ne]; omega
  have e3 : (s == 3) = false := by rw [beq_eq_false_iff_ne]; omega
  have e4 : (s == 4) = false := by rw [beq_eq_false_iff_ne]; omega
  have e5 : (s == 5) = false := by rw [beq_eq_false_iff_ne]; omega
  have HD : Hid (doS s a b = (0, 3)) := by
    show _ = _
    unfold doS
    rw [if_neg (by omega), if_neg (by omega), if_neg (by omega), if_neg (by omega), if_neg (by omega)]
  clear h
  go_enter Tryd.func6, Tryd.ntmps6
  go_wp2
  go_ret2
  exact ⟨by rw [HD.out]; rfl, rfl⟩
/-- Do, whatever the sign. -/
theorem do_any (s a b : Int) (w : World) (ha : -9223372036854775808 ≤ a ∧ a ≤ 9223372036854775807) (hb : -9223372036854775808 ≤ b ∧ b ≤ 9223372036854775807) :
    Calls Tryd.prog 6 #[.int .i64 s, .int .i64 a, .int .i64 b] w fun e w' => e = ret2 (doS s a b) ∧ w = w' := by
  by_cases h : s < 1 ∨ 5 < s
  · exact do_else s a b w h
  · have : s = 1 ∨ s = 2 ∨ s = 3 ∨ s = 4 ∨ s = 5 := by omega
    rcases this with rfl | rfl | rfl | rfl | rfl
    · exact do_plus a b w ha hb
    · exact do_minus a b w ha hb
    · exact do_times a b w ha hb
    · exact do_over a b w ha hb
    · exact do_rest a b w ha
/-- Neg. -/
theorem neg_any (a : Int) (w : World) (ha : -9223372036854775808 ≤ a ∧ a ≤ 9223372036854775807) :
    Calls Tryd.prog 8 #[.int .i64 a] w fun e w' => e = ret2 (doS 2 0 a) ∧ w = w' := by
  go_enter Tryd.func8, Tryd.ntmps8
  go_wp2_with (go_at_call 6; refine (do_minus 0 a _ (by omega) ha).mono ?_; rintro e w' ⟨rfl, rfl⟩)
  go_ret2
  exact ⟨rfl, rfl⟩
end Go.Proofs.YtbbhakedmjfdgaaDoor.whole

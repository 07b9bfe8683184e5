/- The document's own quotient and rest; its Do, whatever the sign. -/
import Derived.Test.YtbbhakedmjfdgaaDoorWholeRefDo
namespace Go.Proofs.YtbbhakedmjfdgaaDoor.whole
open Go.RowKit wm
theorem rdo_over (a b : Int) (w : World) (ha : -9223372036854775808 ≤ a ∧ a ≤ 9223372036854775807) (hb : -9223372036854775808 ≤ b ∧ b ≤ 9223372036854775807) (h0 : ¬ b = 0) :
    Calls Tryd.prog 7 #[.int .i64 4, .int .i64 a, .int .i64 b] w fun e w' => e = ret2 (doS 4 a b) ∧ ∃ n, w' = w.drewN n := by
  have h1 := abs_bd' a ha
  have h2 := abs_bd' b hb
  have h3 : 1 ≤ absI b := by have := abs_zero b h0; omega
  have h6 : (absI b == 0) = false := by rw [beq_eq_false_iff_ne]; omega
  have h4 := quo_bd a b ha
  by_cases he : ngB a = ngB b
  · have H1 := Lib.hid (over_eq a b h0 he)
    have e1 : (ngB a == ngB b) = true := by simp [he]
    clear he h0
    go_enter Tryd.func7, Tryd.ntmps7
    go_wp2_with (first | (go_at_call 19; refine (big_any _ _ (by omega)).mono ?_; rintro e w' ⟨rfl, rfl⟩))
    go_quiet ((first | (go_at_call 23; exact Calls.quiet_of_same (back_is _ _ _ h4)) | (go_at_call 20; exact Calls.quiet_of_same (told_is _ _ _ h4))))
    go_wp2
    go_ret2
    exact ⟨by rw [← H1.out]; rfl, _, rfl⟩
  · have H1 := Lib.hid (over_ne a b h0 he)
    have e1 : (ngB a == ngB b) = false := by simpa using he
    clear he h0
    go_enter Tryd.func7, Tryd.ntmps7
    go_wp2_with (first | (go_at_call 19; refine (big_any _ _ (by omega)).mono ?_; rintro e w' ⟨rfl, rfl⟩))
    go_quiet ((first | (go_at_call 23; exact Calls.quiet_of_same (back_is _ _ _ h4)) | (go_at_call 20; exact Calls.quiet_of_same (told_is _ _ _ h4))))
    go_wp2
    go_ret2
    exact ⟨by rw [← H1.out]; rfl, _, rfl⟩
theorem rdo_rest (a b : Int) (w : World) (ha : -9223372036854775808 ≤ a ∧ a ≤ 9223372036854775807) (hb : -9223372036854775808 ≤ b ∧ b ≤ 9223372036854775807) (h0 : ¬ b = 0) :
    Calls Tryd.prog 7 #[.int .i64 5, .int .i64 a, .int .i64 b] w fun e w' => e = ret2 (doS 5 a b) ∧ ∃ n, w' = w.drewN n := by
  have h1 := abs_bd' a ha
  have h2 := abs_bd' b hb
  have h3 : 1 ≤ absI b := by have := abs_zero b h0; omega
  have h6 : (absI b == 0) = false := by rw [beq_eq_false_iff_ne]; omega
  have h4 := rest_bd a b hb h0
  cases he : ngB a
  · have H1 := Lib.hid (rest_eq a b ha h0 he)
    clear h0
    go_enter Tryd.func7, Tryd.ntmps7
    go_wp2_with (first | (go_at_call 19; refine (big_any _ _ (by omega)).mono ?_; rintro e w' ⟨rfl, rfl⟩))
    go_quiet ((first | (go_at_call 23; exact Calls.quiet_of_same (back_is _ _ _ h4)) | (go_at_call 20; exact Calls.quiet_of_same (told_is _ _ _ h4))))
    go_wp2
    go_ret2
    exact ⟨by rw [← H1.out]; rfl, _, rfl⟩
  · have H1 := Lib.hid (rest_ne a b ha h0 he)
    clear h0
    go_enter Tryd.func7, Tryd.ntmps7
    go_wp2_with (first | (go_at_call 19; refine (big_any _ _ (by omega)).mono ?_; rintro e w' ⟨rfl, rfl⟩))
    go_quiet ((first | (go_at_call 23; exact Calls.quiet_of_same (back_is _ _ _ h4)) | (go_at_call 20; exact Calls.quiet_of_same (told_is _ _ _ h4))))
    go_wp2
    go_ret2
    exact ⟨by rw [← H1.out]; rfl, _, rfl⟩
/-- The document's Do, whatever the sign. -/
theorem rdo_any (s a b : Int) (w : World) (ha : -9223372036854775808 ≤ a ∧ a ≤ 9223372036854775807) (hb : -9223372036854775808 ≤ b ∧ b ≤ 9223372036854775807) :
    Calls Tryd.prog 7 #[.int .i64 s, .int .i64 a, .int .i64 b] w fun e w' => e = ret2 (doS s a b) ∧ ∃ n, w' = w.drewN n := by
  have m : ∀ {s a b : Int}, Calls Tryd.prog 7 #[.int .i64 s, .int .i64 a, .int .i64 b] w (fun e w' => e = ret2 (doS s a b) ∧ w = w') →
      Calls Tryd.prog 7 #[.int .i64 s, .int .i64 a, .int .i64 b] w (fun e w' => e = ret2 (doS s a b) ∧ ∃ n, w' = w.drewN n) :=
    fun h => h.mono fun _ _ ⟨he, hw⟩ => ⟨he, 0, hw ▸ rfl⟩
  by_cases h : s < 1 ∨ 5 < s
  · exact m (rdo_else s a b w ha hb h)
  · have : s = 1 ∨ s = 2 ∨ s = 3 ∨ s = 4 ∨ s = 5 := by omega
    rcases this with rfl | rfl | rfl | rfl | rfl
    · exact m (rdo_plus a b w ha hb)
    · exact m (rdo_minus a b w ha hb)
    · exact m (rdo_times a b w ha hb)
    · by_cases h0 : b = 0
      · subst h0; exact m (rdo_zero 4 a w (Or.inl rfl) ha)
      · exact rdo_over a b w ha hb h0
    · by_cases h0 : b = 0
      · subst h0; exact m (rdo_zero 5 a w (Or.inr rfl) ha)
      · exact rdo_rest a b w ha hb h0
end Go.Proofs.YtbbhakedmjfdgaaDoor.whole

/- The document's own Do returns the same as package whole's. -/
import Derived.Test.YtbbhakedmjfdgaaDoorWholeRefWalks
namespace Go.Proofs.YtbbhakedmjfdgaaDoor.whole
open Go.RowKit wm
def ngB (n : Int) : Bool := decide (n < 0)
def absI (n : Int) : Int := if n < 0 then -n else n
theorem abs_bd (n : Int) (h : -9223372036854775808 ≤ n ∧ n ≤ 9223372036854775807) : 0 ≤ absI n ∧ absI n ≤ 9223372036854775808 := by
  unfold absI; split <;> omega
theorem abs_bd' (n : Int) (h : -9223372036854775808 ≤ n ∧ n ≤ 9223372036854775807) : 0 ≤ absI n ∧ absI n ≤ 18446744073709551615 := by
  unfold absI; split <;> omega
theorem sg_abs (n : Int) : sg (ngB n) (absI n) = n := by
  unfold sg ngB absI; by_cases h : n < 0 <;> simp [h]
theorem sg_not_abs (n : Int) : sg (!ngB n) (absI n) = -n := by
  unfold sg ngB absI; by_cases h : n < 0 <;> simp [h]
theorem big_any (n : Int) (w : World) (h : -9223372036854775808 ≤ n ∧ n ≤ 9223372036854775807) :
    Calls Tryd.prog 19 #[.int .i64 n] w fun e w' => e = .returned (.tuple #[.bool (ngB n), .int .u64 (absI n)]) ∧ w = w' := by
  unfold ngB absI
  by_cases hn : n < 0
  · rw [if_pos hn, decide_eq_true hn]; exact big_neg n w hn h.1
  · rw [if_neg hn, decide_eq_false hn]; exact big_pos n w (by omega) h.2
theorem back_any (s : Bool) (n : Int) (w : World) (h : 0 ≤ n ∧ n ≤ 18446744073709551615) :
    Calls Tryd.prog 23 #[.bool s, .int .u64 n] w (Fit (sg s n) w) := by
  cases s
  · exact back_pos n w h
  · exact back_neg n w h

theorem rdo_plus (a b : Int) (w : World) (ha : -9223372036854775808 ≤ a ∧ a ≤ 9223372036854775807) (hb : -9223372036854775808 ≤ b ∧ b ≤ 9223372036854775807) :
    Calls Tryd.prog 7 #[.int .i64 1, .int .i64 a, .int .i64 b] w fun e w' => e = ret2 (doS 1 a b) ∧ w = w' := by
  have HV : Hid (told (sg (ngB a) (absI a) + sg (ngB b) (absI b)) = doS 1 a b) := by
    show _ = _
    rw [sg_abs, sg_abs]; rfl
  have h1 := abs_bd' a ha
  have h2 := abs_bd' b hb
  go_enter Tryd.func7, Tryd.ntmps7
  go_wp2_with (first | (go_at_call 19; refine (big_any _ _ (by omega)).mono ?_; rintro e w' ⟨rfl, rfl⟩) | (go_at_call 21; refine (sum_any _ _ _ _ _ h1 h2).mono ?_; rintro e w' ⟨m, rfl, hm, rfl⟩) | (go_at_call 20; refine (told_fit _ _ _ hm.out).mono ?_; rintro e w' ⟨rfl, rfl⟩))
  go_ret2
  exact ⟨by rw [← HV.out]; rfl, rfl⟩
theorem rdo_minus (a b : Int) (w : World) (ha : -9223372036854775808 ≤ a ∧ a ≤ 9223372036854775807) (hb : -9223372036854775808 ≤ b ∧ b ≤ 9223372036854775807) :
    Calls Tryd.prog 7 #[.int .i64 2, .int .i64 a, .int .i64 b] w fun e w' => e = ret2 (doS 2 a b) ∧ w = w' := by
  have HV : Hid (told (sg (ngB a) (absI a) + sg (!ngB b) (absI b)) = doS 2 a b) := by
    show _ = _
    rw [sg_abs, sg_not_abs, ← Int.sub_eq_add_neg]; rfl
  have h1 := abs_bd' a ha
  have h2 := abs_bd' b hb
  go_enter Tryd.func7, Tryd.ntmps7
  go_wp2_with (first | (go_at_call 19; refine (big_any _ _ (by omega)).mono ?_; rintro e w' ⟨rfl, rfl⟩) | (go_at_call 21; refine (sum_any _ _ _ _ _ h1 h2).mono ?_; rintro e w' ⟨m, rfl, hm, rfl⟩) | (go_at_call 20; refine (told_fit _ _ _ hm.out).mono ?_; rintro e w' ⟨rfl, rfl⟩))
  go_ret2
  exact ⟨by rw [← HV.out]; rfl, rfl⟩
theorem rdo_else (s a b : Int) (w : World) (ha : -9223372036854775808 ≤ a ∧ a ≤ 9223372036854775807) (hb : -9223372036854775808 ≤ b ∧ b ≤ 9223372036854775807) (h : s < 1 ∨ 5 < s) :
    Calls Tryd.prog 7 #[.int .i64 s, .int .i64 a, .int .i64 b] w fun e w' => e = ret2 (doS s a b) ∧ w = w' := by
  have e1 : (s == 1) = false := by rw [beq_eq_false_iff_ne]; omega
  have e2 : (s == 2) = false := by rw [beq_eq_false_iff_ne]; omega
  have e3 : (s == 3) = false := by rw [beq_eq_false_iff_ne]; omega
  have e4 : (s != 4) = true := by rw [bne_iff_ne]; omega
  have e5 : (s != 5) = true := by rw [bne_iff_ne]; omega
  have HD : Hid (doS s a b = (0, 3)) := by
    show _ = _
    unfold doS
    rw [if_neg (by omega), if_neg (by omega), if_neg (by omega), if_neg (by omega), if_neg (by omega)]
  clear h
  go_enter Tryd.func7, Tryd.ntmps7
  go_wp2_with (first | (go_at_call 19; refine (big_any _ _ (by omega)).mono ?_; rintro e w' ⟨rfl, rfl⟩))
  go_ret2
  exact ⟨by rw [HD.out]; rfl, rfl⟩
theorem abs_mul (a b : Int) : absI a * absI b = if ngB a = ngB b then a * b else -(a * b) := by
  unfold absI ngB
  by_cases h1 : a < 0 <;> by_cases h2 : b < 0 <;> simp [h1, h2, Int.neg_mul, Int.mul_neg]
theorem abs_mul_nn (a b : Int) : 0 ≤ absI a * absI b := by
  have h1 : 0 ≤ absI a := by unfold absI; split <;> omega
  have h2 : 0 ≤ absI b := by unfold absI; split <;> omega
  exact Int.mul_nonneg h1 h2
theorem mul_hi (a b : Int) (h : 0 < absI a * absI b / 18446744073709551616) : doS 3 a b = (0, 2) := by
  have h2 := abs_mul a b
  show told (a * b) = (0, 2)
  unfold told
  rw [if_neg]
  unfold fitsB
  simp only [decide_eq_true_eq]
  generalize absI a * absI b = p at *
  generalize a * b = q at *
  split at h2 <;> omega
theorem mul_eq (a b : Int) (h : absI a * absI b / 18446744073709551616 ≤ 0) (he : ngB a = ngB b) :
    told (sg false (absI a * absI b % 18446744073709551616)) = doS 3 a b := by
  have h2 := abs_mul a b
  have h3 := abs_mul_nn a b
  rw [if_pos he] at h2
  show told (absI a * absI b % 18446744073709551616) = told (a * b)
  congr 1
  generalize absI a * absI b = p at *
  generalize a * b = q at *
  omega
theorem mul_ne (a b : Int) (h : absI a * absI b / 18446744073709551616 ≤ 0) (he : ¬ ngB a = ngB b) :
    told (sg (!ngB a == ngB b && decide (0 < absI a * absI b % 18446744073709551616)) (absI a * absI b % 18446744073709551616)) = doS 3 a b := by
  have h2 := abs_mul a b
  have h3 := abs_mul_nn a b
  rw [if_neg he] at h2
  have e : (ngB a == ngB b) = false := by simpa using he
  rw [e]
  show told _ = told (a * b)
  congr 1
  generalize absI a * absI b = p at *
  generalize a * b = q at *
  unfold sg
  simp only [Bool.not_false, Bool.true_and, decide_eq_true_eq]
  split <;> omega
theorem rdo_times (a b : Int) (w : World) (ha : -9223372036854775808 ≤ a ∧ a ≤ 9223372036854775807) (hb : -9223372036854775808 ≤ b ∧ b ≤ 9223372036854775807) :
    Calls Tryd.prog 7 #[.int .i64 3, .int .i64 a, .int .i64 b] w fun e w' => e = ret2 (doS 3 a b) ∧ w = w' := by
  have h1 := abs_bd' a ha
  have h2 := abs_bd' b hb
  have H0 := Lib.hid (mul_hi a b)
  have H1 := Lib.hid (mul_eq a b)
  have H2 := Lib.hid (mul_ne a b)
  go_enter Tryd.func7, Tryd.ntmps7
  go_wp2_with (first | (go_at_call 19; refine (big_any _ _ (by omega)).mono ?_; rintro e w' ⟨rfl, rfl⟩) | (go_at_call 22; refine (wide_any _ _ _ h1 h2).mono ?_; rintro e w' ⟨rfl, rfl⟩) | (go_at_call 23; refine (back_any _ _ _ (by omega)).mono ?_; rintro e w' ⟨m, rfl, hm, rfl⟩) | (go_at_call 20; refine (told_fit _ _ _ hm.out).mono ?_; rintro e w' ⟨rfl, rfl⟩))
  · go_ret2
    exact ⟨by rw [H0.out (by assumption)]; rfl, rfl⟩
  · go_ret2
    exact ⟨by rw [← H1.out (by assumption) (by assumption)]; rfl, rfl⟩
  · go_ret2
    exact ⟨by rw [← H2.out (by assumption) (by assumption)]; rfl, rfl⟩
theorem abs_zero (b : Int) (h : ¬ b = 0) : ¬ absI b = 0 := by unfold absI; split <;> omega
theorem quo_abs (a b : Int) : absI a / absI b = if ngB a = ngB b then a.tdiv b else -(a.tdiv b) := by
  have hb : 0 ≤ absI b := by unfold absI; split <;> omega
  have ha : 0 ≤ absI a := by unfold absI; split <;> omega
  rw [← Int.tdiv_eq_ediv_of_nonneg ha]
  unfold absI ngB
  by_cases h1 : a < 0 <;> by_cases h2 : b < 0 <;> simp [h1, h2, Int.neg_tdiv, Int.tdiv_neg]
theorem rest_abs (a b : Int) : absI a % absI b = if ngB a = true then -(a.tmod b) else a.tmod b := by
  have ha : 0 ≤ absI a := by unfold absI; split <;> omega
  rw [← Int.tmod_eq_emod_of_nonneg ha]
  unfold absI ngB
  by_cases h1 : a < 0 <;> by_cases h2 : b < 0 <;> simp [h1, h2, Int.neg_tmod, Int.tmod_neg]
theorem quo_nn (a b : Int) : 0 ≤ absI a / absI b := by
  have hb : 0 ≤ absI b := by unfold absI; split <;> omega
  have ha : 0 ≤ absI a := by unfold absI; split <;> omega
  exact Int.ediv_nonneg ha hb
theorem quo_le (a b : Int) : absI a / absI b ≤ absI a := by
  have ha : 0 ≤ absI a := by unfold absI; split <;> omega
  exact Int.ediv_le_self _ ha
theorem rest_nn (a b : Int) (h : ¬ b = 0) : 0 ≤ absI a % absI b := Int.emod_nonneg _ (abs_zero b h)
theorem rest_le (a b : Int) (h : ¬ b = 0) : absI a % absI b ≤ absI b := by
  have hb : 0 < absI b := by have := abs_zero b h; have : 0 ≤ absI b := by unfold absI; split <;> omega
                             omega
  have := Int.emod_lt_of_pos (absI a) hb
  omega
theorem rdo_zero (s a : Int) (w : World) (hs : s = 4 ∨ s = 5) (ha : -9223372036854775808 ≤ a ∧ a ≤ 9223372036854775807) :
    Calls Tryd.prog 7 #[.int .i64 s, .int .i64 a, .int .i64 0] w fun e w' => e = ret2 (doS s a 0) ∧ w = w' := by
  have h2 : absI 0 = 0 := by rfl
  rcases hs with rfl | rfl
  · go_enter Tryd.func7, Tryd.ntmps7
    go_wp2_with (first | (go_at_call 19; refine (big_any _ _ (by omega)).mono ?_; rintro e w' ⟨rfl, rfl⟩))
    go_ret2
    exact ⟨rfl, rfl⟩
  · go_enter Tryd.func7, Tryd.ntmps7
    go_wp2_with (first | (go_at_call 19; refine (big_any _ _ (by omega)).mono ?_; rintro e w' ⟨rfl, rfl⟩))
    go_ret2
    exact ⟨rfl, rfl⟩
/-- back and told, as one value each -/
def backM : Bool → Int → Int
  | true, n => wrap64 (IntKind.u64.wrap (bits .xor .u64 IntKind.u64.max n + 1))
  | false, n => wrap64 (bits .and .u64 n 9223372036854775807)
theorem backM_fit (s : Bool) (n : Int) (h : 0 ≤ n ∧ n ≤ 18446744073709551615) (hf : fitsB (sg s n) = true) : backM s n = sg s n := by
  cases s
  · rw [show sg false n = n from rfl] at hf ⊢
    rw [backM]; exact keep_back n h hf
  · rw [show sg true n = -n from rfl] at hf ⊢
    rw [backM]; exact flip_back n h hf
theorem back_is (s : Bool) (n : Int) (w : World) (h : 0 ≤ n ∧ n ≤ 18446744073709551615) :
    Calls Tryd.prog 23 #[.bool s, .int .u64 n] w fun e w' => e = .returned (.tuple #[.int .i64 (backM s n), .bool (fitsB (sg s n))]) ∧ w' = w := by
  cases s
  · have H2 := Lib.hid (pos_lt n h)
    go_enter Tryd.func23, Tryd.ntmps23
    go_wp2
    go_ret2
    exact ⟨by rw [backM, show sg false n = n from rfl, ← H2.out]; rfl, rfl⟩
  · have H2 := Lib.hid (neg_le n h)
    go_enter Tryd.func23, Tryd.ntmps23
    go_wp2
    go_ret2
    exact ⟨by rw [backM, show sg true n = -n from rfl, ← H2.out]; rfl, rfl⟩
theorem told_is (s : Bool) (n : Int) (w : World) (h : 0 ≤ n ∧ n ≤ 18446744073709551615) :
    Calls Tryd.prog 20 #[.int .i64 (backM s n), .bool (fitsB (sg s n))] w fun e w' => e = ret2 (told (sg s n)) ∧ w' = w :=
  (told_fit (backM s n) (sg s n) w (backM_fit s n h)).mono fun _ _ ⟨he, hw⟩ => ⟨he, hw.symm⟩
theorem quo_bd (a b : Int) (ha : -9223372036854775808 ≤ a ∧ a ≤ 9223372036854775807) : 0 ≤ absI a / absI b ∧ absI a / absI b ≤ 18446744073709551615 := by
  have h1 := abs_bd a ha
  have h4 := quo_nn a b
  have h5 := quo_le a b
  omega
theorem rest_bd (a b : Int) (hb : -9223372036854775808 ≤ b ∧ b ≤ 9223372036854775807) (h0 : ¬ b = 0) : 0 ≤ absI a % absI b ∧ absI a % absI b ≤ 18446744073709551615 := by
  have h1 := abs_bd b hb
  have h4 := rest_nn a b h0
  have h5 := rest_le a b h0
  omega
theorem over_eq (a b : Int) (h0 : ¬ b = 0) (he : ngB a = ngB b) : told (sg false (absI a / absI b)) = doS 4 a b := by
  have h := quo_abs a b
  rw [if_pos he] at h
  show told (absI a / absI b) = if b = 0 then (0, 1) else told (a.tdiv b)
  rw [if_neg h0, h]
theorem over_ne (a b : Int) (h0 : ¬ b = 0) (he : ¬ ngB a = ngB b) : told (sg (decide (0 < absI a / absI b)) (absI a / absI b)) = doS 4 a b := by
  have h := quo_abs a b
  have h2 := quo_nn a b
  rw [if_neg he] at h
  show told _ = if b = 0 then (0, 1) else told (a.tdiv b)
  rw [if_neg h0]
  congr 1
  unfold sg
  simp only [decide_eq_true_eq]
  split <;> omega
theorem rest_eq (a b : Int) (ha : -9223372036854775808 ≤ a ∧ a ≤ 9223372036854775807) (h0 : ¬ b = 0) (he : ngB a = false) : told (sg false (absI a % absI b)) = doS 5 a b := by
  have h := rest_abs a b
  rw [he, if_neg (by decide)] at h
  show told (absI a % absI b) = if b = 0 then (0, 1) else (a.tmod b, 0)
  rw [if_neg h0, h]
  have := tmod_bd a b ha
  unfold told fitsB
  rw [if_pos (by simpa using this)]
theorem rest_ne (a b : Int) (ha : -9223372036854775808 ≤ a ∧ a ≤ 9223372036854775807) (h0 : ¬ b = 0) (he : ngB a = true) : told (sg (decide (0 < absI a % absI b)) (absI a % absI b)) = doS 5 a b := by
  have h := rest_abs a b
  have h2 := rest_nn a b h0
  rw [he, if_pos rfl] at h
  show told _ = if b = 0 then (0, 1) else (a.tmod b, 0)
  have e : sg (decide (0 < absI a % absI b)) (absI a % absI b) = a.tmod b := by
    unfold sg
    simp only [decide_eq_true_eq]
    split <;> omega
  rw [if_neg h0, e]
  have := tmod_bd a b ha
  unfold told fitsB
  rw [if_pos (by simpa using this)]
end Go.Proofs.YtbbhakedmjfdgaaDoor.whole

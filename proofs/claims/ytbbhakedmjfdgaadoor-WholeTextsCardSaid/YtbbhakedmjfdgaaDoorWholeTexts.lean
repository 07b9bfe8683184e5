/- WholeTexts, walked: it returns true, and of what was there nothing has turned. -/
import Derived.Test.YtbbhakedmjfdgaaDoorWholeWorks
import Derived.Test.YtbbhakedmjfdgaaDoorWholeRefText
namespace Go.Proofs.YtbbhakedmjfdgaaDoor.whole
open Go.RowKit wm

theorem parse_snoc : ∀ (l : List UInt8) (acc u : Nat) (c : UInt8), Lib.parseUint10 acc l = .ok u → Lib.parseUint10 acc (l ++ [c]) = Lib.parseUint10 u [c]
  | [], acc, u, c, h => by cases h; rfl
  | d :: r, acc, u, c, h => by
    rw [Lib.parseUint10] at h
    rw [List.cons_append, Lib.parseUint10]
    by_cases h1 : 48 ≤ d.toNat ∧ d.toNat ≤ 57
    · rw [if_pos h1] at h ⊢
      by_cases h2 : 1844674407370955162 ≤ acc
      · rw [if_pos h2] at h; cases h
      · rw [if_neg h2] at h ⊢
        by_cases h3 : 18446744073709551616 ≤ acc * 10 + (d.toNat - 48)
        · rw [if_pos h3] at h; cases h
        · rw [if_neg h3] at h ⊢
          exact parse_snoc r _ u c h
    · rw [if_neg h1] at h; cases h
theorem dgB_nat (k : Nat) (h : k < 10) : (dgB k).toNat = 48 + k := by
  unfold dgB; simp; omega
theorem parse_one (acc k : Nat) (h : k < 10) (ha : acc ≤ 922337203685477580) : Lib.parseUint10 acc [dgB k] = .ok (acc * 10 + k) := by
  have e := dgB_nat k h
  have p0 : 48 ≤ (dgB k).toNat ∧ (dgB k).toNat ≤ 57 := by omega
  have p1 : ¬ 1844674407370955162 ≤ acc := by omega
  have p2 : ¬ 18446744073709551616 ≤ acc * 10 + ((dgB k).toNat - 48) := by omega
  rw [Lib.parseUint10, if_pos p0, if_neg p1, if_neg p2, Lib.parseUint10, e]
  congr 1; omega
theorem parse_dec (u : Nat) : u ≤ 9223372036854775808 → Lib.parseUint10 0 (Lib.decDigits u) = .ok u := by
  induction u using Nat.strongRecOn with
  | _ u ih =>
    intro hu
    by_cases h : 9 < u
    · rw [dec_big h, parse_snoc _ _ _ _ (ih (u / 10) (by omega) (by omega)), parse_one _ _ (by omega) (by omega)]
      congr 1; omega
    · rw [dec_small h, parse_one _ _ (by omega) (by omega)]
      congr 1; omega
theorem dec_head (u : Nat) : ∃ c r, Lib.decDigits u = c :: r ∧ 48 ≤ c.toNat ∧ c.toNat ≤ 57 := by
  induction u using Nat.strongRecOn with
  | _ u ih =>
    by_cases h : 9 < u
    · obtain ⟨c, r, h1, h2⟩ := ih (u / 10) (by omega)
      exact ⟨c, r ++ [dgB (u % 10)], by rw [dec_big h, h1]; rfl, h2⟩
    · have := dgB_nat u (by omega)
      exact ⟨dgB u, [], dec_small h, by omega, by omega⟩
theorem mag_dec (u : Nat) (hu : u ≤ 9223372036854775808) : Lib.parseMag (Lib.decDigits u) = .ok u := by
  obtain ⟨c, r, h1, _⟩ := dec_head u
  unfold Lib.parseMag
  rw [if_neg (by rw [h1]; simp), parse_dec u hu]
theorem atoi_itoa (n : Int) (hn : -9223372036854775808 ≤ n ∧ n ≤ 9223372036854775807) : Lib.atoiAll (Lib.itoa n) = .ok n := by
  by_cases h0 : 0 ≤ n
  · obtain ⟨u, rfl⟩ := Int.eq_ofNat_of_zero_le h0
    rw [Lib.itoa_nonneg]
    have hm := mag_dec u (by omega)
    obtain ⟨c, r, h1, h2, h3⟩ := dec_head u
    rw [h1] at hm ⊢
    have n45 : ¬ c.toNat = 45 := by omega
    have n43 : ¬ (c.toNat = 43 ∨ c.toNat = 45) := by omega
    unfold Lib.atoiAll
    simp only
    rw [if_neg n43, hm]
    simp only [n45, if_false, not_false_eq_true, true_and, false_and]
    rw [if_neg (by omega)]
  · obtain ⟨u, hu⟩ := Int.eq_ofNat_of_zero_le (show 0 ≤ -n by omega)
    obtain rfl : n = -(u : Int) := by omega
    rw [Lib.itoa_neg u (by omega)]
    have hm := mag_dec u (by omega)
    unfold Lib.atoiAll
    have e45 : (45 : UInt8).toNat = 45 := rfl
    simp only [e45]
    rw [if_pos (Or.inr trivial), hm]
    simp only [not_true, false_and, if_false, true_and, if_true]
    rw [if_neg (by omega)]
theorem signed_itoa (n : Int) (hn : -9223372036854775808 ≤ n ∧ n ≤ 9223372036854775807) : signedS (Lib.itoa n) = (n, 0) := by
  unfold signedS; rw [atoi_itoa n hn]; simp
theorem signed_cases (l : List UInt8) : (∃ v, signedS l = (v, 0) ∧ Lib.itoa v = l ∧ -9223372036854775808 ≤ v ∧ v ≤ 9223372036854775807) ∨ signedS l = (0, 1) := by
  unfold signedS
  split
  · rename_i v hv
    have := Lib.atoiAll_bounds hv
    split
    · rename_i h; exact Or.inl ⟨v, rfl, h, this⟩
    · exact Or.inr rfl
  · exact Or.inr rfl
theorem holds_self (g n : Int) (h : g < 6 ∨ 11 < g) : holdsS g n n = false := by
  unfold holdsS
  rw [if_neg (by omega), if_neg (by omega), if_neg (by omega), if_neg (by omega), if_neg (by omega), if_neg (by omega)]

theorem texts_long (B : Nat) (n : Int) (s : ByteArray) (g : Int) (w : World) (hl : 200 < s.size) (hs : s.size ≤ 281474976710656) (hB : B ≤ w.heap.size) (hL : Laid B w) :
    Calls Tryd.prog 5 #[.int .i64 n, .string s, .int .i64 g] w fun e w' => e = .returned (.bool true) ∧ Below B w w' := by
  have HL := Lib.hid hL
  clear hL
  go_enter Tryd.func5, Tryd.ntmps5
  go_wp2_with (fail)
  refine (works_any B _ hB HL.out).mono ?_
  rintro e w1 ⟨rfl, hb1⟩
  go_wp2_with (fail)
  refine (works_any B _ (by have := hb1.size; omega) (HL.out.on hb1)).mono ?_
  rintro e w2 ⟨rfl, hb2⟩
  go_wp2_with (fail)
  go_ret
  exact ⟨rfl, hb1.trans hb2⟩
set_option maxHeartbeats 1000000 in
theorem texts_short (B : Nat) (n : Int) (s : ByteArray) (g : Int) (w : World) (hn : -9223372036854775808 ≤ n ∧ n ≤ 9223372036854775807) (hl : s.size ≤ 200) (hB : B ≤ w.heap.size) (hL : Laid B w) :
    Calls Tryd.prog 5 #[.int .i64 n, .string s, .int .i64 g] w fun e w' => e = .returned (.bool true) ∧ Below B w w' := by
  have HL := Lib.hid hL
  clear hL
  go_enter Tryd.func5, Tryd.ntmps5
  go_wp2_with (fail)
  refine (works_any B _ hB HL.out).mono ?_
  rintro e w1 ⟨rfl, hb1⟩
  go_wp2_with (fail)
  refine (text_any B n _ hn (by have := hb1.size; omega) (HL.out.on hb1)).mono ?_
  rintro e w2 ⟨rfl, hb2⟩
  go_wp2_with (fail)
  have hi := Lib.itoa_length_le n hn.1 hn.2
  have hb12 := hb1.trans hb2
  refine (signed_any B ⟨(Lib.itoa n).toArray⟩ _ (by show (Lib.itoa n).toArray.size ≤ _; simp; omega) (by have := hb12.size; omega) (HL.out.on hb12)).mono ?_
  rintro e w3 ⟨he, hb3⟩
  rw [show signedS (⟨(Lib.itoa n).toArray⟩ : ByteArray).data.toList = (n, 0) from signed_itoa n hn] at he
  subst he
  have hb13 := hb12.trans hb3
  clear hb1 hb2 hb12 hb3
  go_wp2_with (fail)
  refine (read_any B s _ (by omega) (by have := hb13.size; omega) (HL.out.on hb13)).mono ?_
  rintro e w4 ⟨rfl, hb4⟩
  have hb14 := hb13.trans hb4
  clear hb13 hb4
  go_wp2_with (fail)
  refine (rread_any s _ (by unfold maxLen; omega)).mono ?_
  rintro e w5 ⟨rfl, k5, rfl⟩
  have hb15 := below_drewN hb14 k5
  clear hb14
  go_wp2_with (fail)
  refine (signed_any B s _ (by omega) (by have := hb15.size; omega) (HL.out.on hb15)).mono ?_
  rintro e w6 ⟨he, hb6⟩
  have hb16 := hb15.trans hb6
  clear hb15 hb6
  rcases signed_cases s.data.toList with ⟨v, hv, hi2, hv1⟩ | hv
  · rw [hv] at he
    subst he
    have hit : (Lib.itoa v == s.toList) = true := by rw [hi2, Lib.toList_data]; simp
    clear hv hi2
    go_wp2_with (fail)
    refine (rtext_any n _ hn).mono ?_
    rintro e w7 ⟨rfl, rfl⟩
    go_wp2_with (fail)
    refine (rtext_any v _ hv1).mono ?_
    rintro e w7 ⟨rfl, rfl⟩
    by_cases hg : 6 ≤ g ∧ g ≤ 11
    · go_wp2_with (fail)
      go_ret
      exact ⟨rfl, hb16⟩
    · have hs := holds_self g n (by omega)
      by_cases hg6 : 6 ≤ g
      · go_wp2_with (go_at_call 10; refine (holds_any _ _ _ _).mono ?_; rintro e w' ⟨rfl, rfl⟩)
        go_ret
        exact ⟨rfl, hb16⟩
      · go_wp2_with (go_at_call 10; refine (holds_any _ _ _ _).mono ?_; rintro e w' ⟨rfl, rfl⟩)
        go_ret
        exact ⟨rfl, hb16⟩
  · rw [hv] at he
    subst he
    clear hv
    go_wp2_with (fail)
    refine (rtext_any n _ hn).mono ?_
    rintro e w7 ⟨rfl, rfl⟩
    by_cases hg : 6 ≤ g ∧ g ≤ 11
    · go_wp2_with (fail)
      go_ret
      exact ⟨rfl, hb16⟩
    · have hs := holds_self g n (by omega)
      by_cases hg6 : 6 ≤ g
      · go_wp2_with (go_at_call 10; refine (holds_any _ _ _ _).mono ?_; rintro e w' ⟨rfl, rfl⟩)
        go_ret
        exact ⟨rfl, hb16⟩
      · go_wp2_with (go_at_call 10; refine (holds_any _ _ _ _).mono ?_; rintro e w' ⟨rfl, rfl⟩)
        go_ret
        exact ⟨rfl, hb16⟩
/-- WholeTexts, whatever the input. -/
theorem texts_any (B : Nat) (n : Int) (s : ByteArray) (g : Int) (w : World) (hn : -9223372036854775808 ≤ n ∧ n ≤ 9223372036854775807) (hs : s.size ≤ 281474976710656) (hB : B ≤ w.heap.size) (hL : Laid B w) :
    Calls Tryd.prog 5 #[.int .i64 n, .string s, .int .i64 g] w fun e w' => e = .returned (.bool true) ∧ Below B w w' := by
  by_cases hl : s.size ≤ 200
  · exact texts_short B n s g w hn hl hB hL
  · exact texts_long B n s g w (by omega) hs hB hL
end Go.Proofs.YtbbhakedmjfdgaaDoor.whole

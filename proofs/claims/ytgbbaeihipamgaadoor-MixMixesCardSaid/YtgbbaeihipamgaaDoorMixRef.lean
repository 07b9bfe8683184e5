/- What the document's own answers of layer 3 (mix) return, for every input. -/
import Derived.Test.YtgbbaeihipamgaaDoorProg
import Derived.Test.YtgbbaeihipamgaaDoorMixMath
import Derived.WalkKit
import Derived.LoopTactic
import Derived.Lib.Hide
import Derived.Outline
namespace Go.Proofs.YtgbbaeihipamgaaDoor.mix
open Go.RowKit mx

theorem div_two_pow (x k : Nat) : x / 2 ^ k / 2 = x / 2 ^ (k + 1) := by rw [Nat.div_div_eq_div_mul, Nat.pow_succ]
theorem bit_any (x n : Nat) (w : World) (hx : x ≤ 18446744073709551615) (hn : n ≤ 200) :
    Calls Tryd.prog 14 #[.int .u64 x, .int .i64 n] w fun e w' => e = .returned (.int .u64 (bitS x n)) ∧ w = w' := by
  go_enter Tryd.func14, Tryd.ntmps14
  go_wp2
  go_loop [0, 5] (fun y i => ∃ k m : Nat, k ≤ n ∧ m ≤ 18446744073709551615 ∧ i = .int .i64 k ∧ y = .int .u64 m ∧ Hid (m = x / 2 ^ k)) (fun _ i => n - (intOf i).toNat)
  case atStart => exact ⟨0, x, Nat.zero_le _, hx, rfl, rfl, Lib.hid (by simp)⟩
  case round =>
    obtain ⟨k, m, hk, hm, rfl, rfl, HM⟩ := hrel
    by_cases hlt : k < n
    · go_wp2
      go_round
      case rel => exact ⟨k + 1, m / 2, by omega, by omega, by go_num, by go_num, Lib.hid (by rw [HM.out, div_two_pow])⟩
      case measure => simp [intOf]; omega
    · have hfin : Hid (((bitS x n : Nat) : Int) = (m : Int) % 2) := by
        show _ = _
        have : k = n := by omega
        have h := HM.out
        subst this
        unfold bitS; rw [← h]; omega
      go_wp2
      go_ret
      exact ⟨by rw [hfin.out]; rfl, rfl⟩
theorem bit_at (x : Nat) (j : Int) (w : World) (hx : x ≤ 18446744073709551615) (h0 : 0 ≤ j) (h1 : j ≤ 200) :
    Calls Tryd.prog 14 #[.int .u64 x, .int .i64 j] w fun e w' => e = .returned (.int .u64 (bitS x j.toNat)) ∧ w = w' := by
  obtain ⟨n, rfl⟩ := Int.eq_ofNat_of_zero_le h0
  rw [Int.toNat_natCast]
  exact bit_any x n w hx (by omega)
theorem folded_any (x n : Nat) (w : World) (hx : x ≤ 18446744073709551615) (hn : n ≤ 64) :
    Calls Tryd.prog 12 #[.int .u64 x, .int .i64 n] w fun e w' => e = .returned (.int .u64 (fx n x)) ∧ w = w' := by
  have hf := fx_lt n x (by omega)
  go_enter Tryd.func12, Tryd.ntmps12
  go_wp2
  go_loop [5, 6] (fun o i => ∃ (k m : Nat) (j : Int), k ≤ 64 ∧ m ≤ 18446744073709551615 ∧ i = .int .i64 j ∧ o = .int .u64 m ∧ Hid (j = (k : Int) - 1) ∧ Hid (m = fx n x / 2 ^ k)) (fun _ i => (intOf i + 1).toNat)
  case atStart => exact ⟨64, 0, 63, by omega, by omega, rfl, rfl, Lib.hid rfl, Lib.hid (by rw [Nat.div_eq_of_lt hf])⟩
  case round =>
    obtain ⟨k, m, j, hk, hm, rfl, rfl, HJ, HM⟩ := hrel
    by_cases h0 : k = 0
    · have hj : j < 0 := by have := HJ.out; omega
      have hfin : Hid (fx n x = m) := by
        show _ = _
        have h := HM.out
        rw [h0] at h; simpa using h.symm
      clear h0
      go_wp2
      go_ret
      exact ⟨by rw [hfin.out]; rfl, rfl⟩
    · obtain ⟨t, ht⟩ : ∃ t : Nat, j = (t : Int) := Int.eq_ofNat_of_zero_le (by have := HJ.out; omega)
      subst ht
      have hkt : k = t + 1 := by have := HJ.out; omega
      subst hkt
      have hb1 := bitS_lt x t
      have hb2 := bitS_lt x (t + n)
      have hs := fx_step n x t hx m HM.out
      have hq : fx n x / 2 ^ t ≤ 18446744073709551615 := Nat.le_trans (Nat.div_le_self _ _) (by omega)
      by_cases h64 : t + n < 64
      · rw [if_pos h64] at hs
        have HS := Lib.hid hs
        have hm2 : 2 * m + (bitS x t + bitS x (t + n)) % 2 ≤ 18446744073709551615 := by omega
        clear hs hq
        go_wp2_with (go_at_call 14; refine (bit_at x _ _ hx (by omega) (by omega)).mono ?_; rintro e w' ⟨rfl, rfl⟩)
        go_round
        case rel => exact ⟨t, 2 * m + (bitS x t + bitS x (t + n)) % 2, (t : Int) - 1, by omega, hm2, rfl, by go_num, Lib.hid rfl, HS⟩
        case measure => simp [intOf]
      · rw [if_neg h64] at hs
        have HS := Lib.hid hs
        have hm2 : 2 * m + bitS x t ≤ 18446744073709551615 := by omega
        clear hs hq
        go_wp2_with (go_at_call 14; refine (bit_at x _ _ hx (by omega) (by omega)).mono ?_; rintro e w' ⟨rfl, rfl⟩)
        go_round
        case rel => exact ⟨t, 2 * m + bitS x t, (t : Int) - 1, by omega, hm2, rfl, by go_num, Lib.hid rfl, HS⟩
        case measure => simp [intOf]
theorem mul1_wrap (x : Nat) : IntKind.u64.wrap ((x : Int) * 13787848793156543929) = (mul1 x : Nat) := by
  unfold mul1; simp [IntKind.wrap, IntKind.bits, IntKind.signed]
theorem mul2_wrap (x : Nat) : IntKind.u64.wrap ((x : Int) * 10723151780598845931) = (mul2 x : Nat) := by
  unfold mul2; simp [IntKind.wrap, IntKind.bits, IntKind.signed]
theorem rmix_any (x : Nat) (w : World) (hx : x ≤ 18446744073709551615) :
    Calls Tryd.prog 6 #[.int .u64 x] w fun e w' => e = .returned (.int .u64 (mixS x)) ∧ w = w' := by
  have m1 := mul1_wrap (fx 30 x)
  have m2 := mul2_wrap (fx 27 (mul1 (fx 30 x)))
  have HM := Lib.hid (mixS_eq x)
  go_enter Tryd.func6, Tryd.ntmps6
  go_wp2_with (fail)
  refine (folded_any x 30 _ hx (by omega)).mono ?_
  rintro e w' ⟨rfl, rfl⟩
  go_wp2_with (fail)
  refine (folded_any (mul1 (fx 30 x)) 27 _ (mul1_lt _) (by omega)).mono ?_
  rintro e w' ⟨rfl, rfl⟩
  go_wp2_with (fail)
  refine (folded_any (mul2 (fx 27 (mul1 (fx 30 x)))) 31 _ (mul2_lt _) (by omega)).mono ?_
  rintro e w' ⟨rfl, rfl⟩
  go_wp2
  go_ret
  exact ⟨by rw [HM.out]; rfl, rfl⟩
theorem rnib_any (x n : Nat) (w : World) (hx : x ≤ 18446744073709551615) (hn : n ≤ 15) :
    Calls Tryd.prog 9 #[.int .u64 x, .int .i64 n] w fun e w' => e = .returned (.int .i64 (nibS x n)) ∧ w = w' := by
  go_enter Tryd.func9, Tryd.ntmps9
  go_wp2
  go_loop [0, 5] (fun y i => ∃ k m : Nat, k ≤ n ∧ m ≤ 18446744073709551615 ∧ i = .int .i64 k ∧ y = .int .u64 m ∧ Hid (m = x / 16 ^ k)) (fun _ i => n - (intOf i).toNat)
  case atStart => exact ⟨0, x, Nat.zero_le _, hx, rfl, rfl, Lib.hid (by simp)⟩
  case round =>
    obtain ⟨k, m, hk, hm, rfl, rfl, HM⟩ := hrel
    by_cases hlt : k < n
    · go_wp2
      go_round
      case rel => exact ⟨k + 1, m / 16, by omega, by omega, by go_num, by go_num, Lib.hid (by rw [HM.out, nib_step])⟩
      case measure => simp [intOf]; omega
    · have hfin : Hid (((nibS x n : Nat) : Int) = (m : Int) % 16) := by
        show _ = _
        have : k = n := by omega
        have h := HM.out
        subst this
        unfold nibS; rw [← h]; omega
      go_wp2
      go_ret
      exact ⟨by rw [hfin.out]; rfl, rfl⟩
theorem rnib_out (x : Nat) (l : Int) (w : World) (hl : l < 0 ∨ 15 < l) :
    Calls Tryd.prog 9 #[.int .u64 x, .int .i64 l] w fun e w' => e = .returned (.int .i64 0) ∧ w = w' := by
  rcases hl with hl | hl
  · go_enter Tryd.func9, Tryd.ntmps9
    go_wp2
    go_ret
    exact ⟨rfl, rfl⟩
  · have h0 : ¬ l < 0 := by omega
    go_enter Tryd.func9, Tryd.ntmps9
    go_wp2
    go_ret
    exact ⟨rfl, rfl⟩
/-- The document's Nib, whatever the level. -/
def nibI (x : Nat) (l : Int) : Int := if l < 0 ∨ 15 < l then 0 else nibS x l.toNat
theorem rnib_at (x : Nat) (l : Int) (w : World) (hx : x ≤ 18446744073709551615) :
    Calls Tryd.prog 9 #[.int .u64 x, .int .i64 l] w fun e w' => e = .returned (.int .i64 (nibI x l)) ∧ w = w' := by
  unfold nibI
  by_cases h : l < 0 ∨ 15 < l
  · rw [if_pos h]; exact rnib_out x l w h
  · rw [if_neg h]
    obtain ⟨n, rfl⟩ := Int.eq_ofNat_of_zero_le (show 0 ≤ l by omega)
    rw [Int.toNat_natCast]
    exact rnib_any x n w hx (by omega)
end Go.Proofs.YtgbbaeihipamgaaDoor.mix

/- MixMixes and MixBack, walked: each returns true, and of what was there nothing has turned. -/
import Derived.Test.YtgbbaeihipamgaaDoorMixBack
namespace Go.Proofs.YtgbbaeihipamgaaDoor.mix
open Go.RowKit mx

theorem mixes_any (B : Nat) (n l : Int) (w : World) (hB : B ≤ w.heap.size) (hL : Laid B w) :
    Calls Tryd.prog 3 #[.int .i64 n, .int .i64 l] w fun e w' => e = .returned (.bool true) ∧ Below B w w' := by
  have HL := Lib.hid hL
  clear hL
  have e0 := u64_wrap n
  have hx := u64_le n
  have hm := mixS_le (u64 n)
  go_enter Tryd.func3, Tryd.ntmps3
  go_wp2_with (fail)
  refine (mix_any B (u64 n) _ hx hB HL.out).mono ?_
  rintro e w1 ⟨rfl, b1⟩
  go_wp2_with (fail)
  refine (rmix_any (u64 n) _ hx).mono ?_
  rintro e w' ⟨rfl, rfl⟩
  go_wp2_with (fail)
  refine (key_any B n _ (by have := b1.size; omega) (HL.out.on b1)).mono ?_
  rintro e w2 ⟨rfl, b2⟩
  go_wp2_with (fail)
  refine (rmix_any (u64 n) _ hx).mono ?_
  rintro e w' ⟨rfl, rfl⟩
  go_wp2_with (fail)
  refine (nib_at (u64 n) l _).mono ?_
  rintro e w' ⟨rfl, rfl⟩
  go_wp2_with (fail)
  refine (rnib_at (u64 n) l _ hx).mono ?_
  rintro e w' ⟨rfl, rfl⟩
  go_wp2_with (fail)
  refine (works_any B _ (by have := b1.size; have := b2.size; omega) (HL.out.on (b1.trans b2))).mono ?_
  rintro e w3 ⟨rfl, b3⟩
  go_wp2_with (fail)
  go_ret
  exact ⟨rfl, (b1.trans b2).trans b3⟩

theorem same_mixed (x y : Nat) (hx : x ≤ 18446744073709551615) (hy : y ≤ 18446744073709551615) :
    (((mixS x : Nat) : Int) == ((mixS y : Nat) : Int)) = ((x : Int) == (y : Int)) := by
  rw [Bool.eq_iff_iff]
  simp only [beq_iff_eq, Int.natCast_inj]
  exact mixS_inj x y hx hy
theorem back_any (B : Nat) (a b : Int) (w : World) (hB : B ≤ w.heap.size) (hL : Laid B w) :
    Calls Tryd.prog 4 #[.int .i64 a, .int .i64 b] w fun e w' => e = .returned (.bool true) ∧ Below B w w' := by
  have HL := Lib.hid hL
  clear hL
  have ea := u64_wrap a
  have eb := u64_wrap b
  have hx := u64_le a
  have hy := u64_le b
  have HX := Lib.hid hx
  generalize u64 a = x at *
  generalize u64 b = y at *
  have HF := Lib.hid (unmix_mix x hx)
  have HG := Lib.hid (mix_unmix x hx)
  have HS := Lib.hid (same_mixed x y hx hy)
  go_enter Tryd.func4, Tryd.ntmps4
  go_wp2
  go_loop [7, 8] (fun s i => ∃ (k m : Nat) (j : Int), k ≤ 16 ∧ m ≤ 18446744073709551615 ∧ i = .int .i64 j ∧ s = .int .u64 m ∧ Hid (j = (k : Int) - 1) ∧ Hid (m = x / 16 ^ k)) (fun _ i => (intOf i + 1).toNat)
  case atStart => exact ⟨16, 0, 15, by omega, by omega, rfl, rfl, Lib.hid rfl, Lib.hid (by rw [Nat.div_eq_of_lt]; have := HX.out; omega)⟩
  case round =>
    obtain ⟨k, m, j, hk, hm, rfl, rfl, HJ, HM⟩ := hrel
    by_cases h0 : k = 0
    · have hj : j < 0 := by have := HJ.out; omega
      have hfin : m = x := by
        have h := HM.out
        rw [h0] at h; simpa using h
      subst hfin
      clear h0
      go_wp2_with (fail)
      refine (mix_any B m _ hx hB HL.out).mono ?_
      rintro e w1 ⟨rfl, b1⟩
      go_wp2_with (fail)
      have g1 : B ≤ w1.heap.size := by have := b1.size; omega
      refine (unmix_any B (mixS m) _ (mixS_le m) g1 (HL.out.on b1)).mono ?_
      rw [HF.out]
      rintro e w2 ⟨rfl, b2⟩
      go_wp2_with (fail)
      have b2' := b1.trans b2
      have g2 : B ≤ w2.heap.size := by have := b2'.size; omega
      refine (unmix_any B m _ hx g2 (HL.out.on b2')).mono ?_
      rintro e w3 ⟨rfl, b3⟩
      go_wp2_with (fail)
      have b3' := b2'.trans b3
      have g3 : B ≤ w3.heap.size := by have := b3'.size; omega
      refine (mix_any B (unmixS m) _ (unmixS_le m) g3 (HL.out.on b3')).mono ?_
      rw [HG.out]
      rintro e w4 ⟨rfl, b4⟩
      go_wp2_with (fail)
      have b4' := b3'.trans b4
      have g4 : B ≤ w4.heap.size := by have := b4'.size; omega
      refine (mix_any B m _ hx g4 (HL.out.on b4')).mono ?_
      rintro e w5 ⟨rfl, b5⟩
      go_wp2_with (fail)
      have b5' := b4'.trans b5
      have g5 : B ≤ w5.heap.size := by have := b5'.size; omega
      refine (mix_any B y _ hy g5 (HL.out.on b5')).mono ?_
      rintro e w6 ⟨rfl, b6⟩
      have es := HS.out
      go_wp2_with (fail)
      have b6' := b5'.trans b6
      have g6 : B ≤ w6.heap.size := by have := b6'.size; omega
      refine (works_any B _ g6 (HL.out.on b6')).mono ?_
      rintro e w7 ⟨rfl, b7⟩
      go_wp2_with (fail)
      go_ret
      exact ⟨rfl, b6'.trans b7⟩
    · obtain ⟨t, ht⟩ : ∃ t : Nat, j = (t : Int) := Int.eq_ofNat_of_zero_le (by have := HJ.out; omega)
      subst ht
      have hkt : k = t + 1 := by have := HJ.out; omega
      subst hkt
      have hs := nib_sum x t
      rw [← HM.out] at hs
      have hn := nibS_le x t
      have hq : x / 16 ^ t ≤ 18446744073709551615 := Nat.le_trans (Nat.div_le_self _ _) HX.out
      have HS' := Lib.hid hs
      have hq2 : 16 * m + nibS x t ≤ 18446744073709551615 := by omega
      clear hs hq
      go_wp2_with (go_at_call 8; refine (nib_any x t _ (by omega)).mono ?_; rintro e w' ⟨rfl, rfl⟩)
      go_round
      case rel => exact ⟨t, 16 * m + nibS x t, (t : Int) - 1, by omega, hq2, rfl, by go_num, Lib.hid rfl, HS'⟩
      case measure => simp [intOf]
end Go.Proofs.YtgbbaeihipamgaaDoor.mix

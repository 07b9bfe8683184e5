/- What package mix's Unmix and Key return; the head of each statement of layer 3 holds. -/
import Derived.Test.YtgbbaeihipamgaaDoorMixWalks
namespace Go.Proofs.YtgbbaeihipamgaaDoor.mix
open Go.RowKit mx

theorem un_r0 (m : Nat) (hm : m ≤ 18446744073709551615) : IntKind.u64.wrap (m : Int) = (m : Int) := by
  rw [IntKind.wrap_u64]; omega
theorem un_r1 (m : Nat) : IntKind.u64.wrap ((m : Int) * 3573116690164977347) = ((div2 m : Nat) : Int) := by
  unfold div2; simp [IntKind.wrap, IntKind.bits, IntKind.signed]
theorem un_r2 (m : Nat) : IntKind.u64.wrap ((m : Int) * 10871156337175269513) = ((div1 m : Nat) : Int) := by
  unfold div1; simp [IntKind.wrap, IntKind.bits, IntKind.signed]
theorem unmix_any (B : Nat) (x : Nat) (w : World) (hx : x ≤ 18446744073709551615) (hB : B ≤ w.heap.size) (hL : Laid B w) :
    Calls Tryd.prog 11 #[.int .u64 x] w fun e w' => e = .returned (.int .u64 (unmixS x)) ∧ Below B w w' := by
  have HL := Lib.hid hL
  clear hL
  go_enter Tryd.func11, Tryd.ntmps11
  go_wp2
  go_loopw [0, 5] (fun y i wr => ∃ k m : Nat, k ≤ 3 ∧ m ≤ 18446744073709551615 ∧ i = .int .i64 k ∧ y = .int .u64 m ∧ UAt x k m ∧ Below B w wr) (fun _ i _ => 3 - (intOf i).toNat)
  case atStart => exact ⟨0, x, by omega, hx, rfl, rfl, UAt.z x, Below.refl _ _⟩
  case round =>
    obtain ⟨k, m, hk, hm, rfl, rfl, HM, HB⟩ := hrel
    have hz := HB.size
    by_cases h3 : k = 3
    · have hfin : Hid (m = unmixS x) := by
        show _ = _
        subst h3; exact HM.out
      subst h3
      go_wp2
      go_ret
      exact ⟨by rw [← hfin.out]; rfl, HB⟩
    · have : k = 0 ∨ k = 1 ∨ k = 2 := by omega
      clear h3
      rcases this with rfl | rfl | rfl
      · have c6 := HL.out.c6 HB
        have c7 := HL.out.c7 HB
        have c8 := HL.out.c8 HB
        have e := un_r0 m hm
        go_wp2_with (go_at_call 13; refine (unshift_31 m _ hm).mono ?_; rintro e w' ⟨rfl, rfl⟩)
        go_roundw
        case rel => exact ⟨1, unS 31 m, by omega, unS_le _ _ hm, rfl, rfl, HM.s1, HB.alloc (by omega) _⟩
        case measure => simp [intOf]
      · have c3 := HL.out.c3 HB
        have c4 := HL.out.c4 HB
        have c5 := HL.out.c5 HB
        have e := un_r1 m
        go_wp2_with (go_at_call 13; refine (unshift_27 (div2 m) _ (div2_le m)).mono ?_; rintro e w' ⟨rfl, rfl⟩)
        go_roundw
        case rel => exact ⟨2, unS 27 (div2 m), by omega, unS_le _ _ (div2_le m), rfl, rfl, HM.s2, HB.alloc (by omega) _⟩
        case measure => simp [intOf]
      · have c0 := HL.out.c0 HB
        have c1 := HL.out.c1 HB
        have c2 := HL.out.c2 HB
        have e := un_r2 m
        go_wp2_with (go_at_call 13; refine (unshift_30 (div1 m) _ (div1_le m)).mono ?_; rintro e w' ⟨rfl, rfl⟩)
        go_roundw
        case rel => exact ⟨3, unS 30 (div1 m), by omega, unS_le _ _ (div1_le m), rfl, rfl, HM.s3, HB.alloc (by omega) _⟩
        case measure => simp [intOf]
/-- a number modulo 2^64 -/
def u64 (n : Int) : Nat := (n % 18446744073709551616).toNat
theorem u64_le (n : Int) : u64 n ≤ 18446744073709551615 := by unfold u64; omega
theorem u64_wrap (n : Int) : IntKind.u64.wrap n = (u64 n : Nat) := by rw [IntKind.wrap_u64]; unfold u64; omega
theorem key_any (B : Nat) (n : Int) (w : World) (hB : B ≤ w.heap.size) (hL : Laid B w) :
    Calls Tryd.prog 7 #[.int .i64 n] w fun e w' => e = .returned (.int .u64 (mixS (u64 n))) ∧ Below B w w' := by
  have HL := Lib.hid hL
  clear hL
  have e := u64_wrap n
  go_enter Tryd.func7, Tryd.ntmps7
  go_wp2_with (go_at_call 5; refine (mix_any B (u64 n) _ (u64_le n) hB HL.out).mono ?_; rintro e w' ⟨rfl, hb⟩)
  go_ret
  exact ⟨rfl, hb⟩
theorem works_any (B : Nat) (w : World) (hB : B ≤ w.heap.size) (hL : Laid B w) :
    Calls Tryd.prog 10 #[] w fun e w' => e = .returned (.bool true) ∧ Below B w w' := by
  have m1 : mixS 1 = 6238072747940578789 := by decide +kernel
  have m0 : mixS 0 = 0 := by decide +kernel
  have m2 : unmixS 6238072747940578789 = 1 := by decide +kernel
  have n0 : nibS 6238072747940578789 0 = 5 := by decide +kernel
  have n1 : nibS 6238072747940578789 1 = 14 := by decide +kernel
  have c1 := Lib.hid (mix_any B 1 w (by decide) hB hL)
  have c0 := Lib.hid (fun w => mix_any B 0 w (by decide))
  have c2 := Lib.hid (fun w => unmix_any B 6238072747940578789 w (by decide))
  have c3 := Lib.hid (fun w => nib_any 6238072747940578789 0 w (by decide))
  have c4 := Lib.hid (fun w => nib_any 6238072747940578789 1 w (by decide))
  rw [m1] at c1
  rw [m0] at c0
  rw [m2] at c2
  rw [n0] at c3
  rw [n1] at c4
  clear m1 m0 m2 n0 n1
  have HL := Lib.hid hL
  clear hL
  go_enter Tryd.func10, Tryd.ntmps10
  go_wp2_with (fail)
  refine c1.out.mono ?_
  rintro e w1 ⟨rfl, b1⟩
  go_wp2_with (fail)
  have h1 : B ≤ w1.heap.size := by have := b1.size; omega
  refine (c0.out _ h1 (HL.out.on b1)).mono ?_
  rintro e w2 ⟨rfl, b2⟩
  go_wp2_with (fail)
  refine (c3.out _).mono ?_
  rintro e w' ⟨rfl, rfl⟩
  go_wp2_with (fail)
  refine (c4.out _).mono ?_
  rintro e w' ⟨rfl, rfl⟩
  go_wp2_with (fail)
  have h2 : B ≤ w2.heap.size := by have := b2.size; omega
  refine (c2.out _ h2 (HL.out.on (b1.trans b2))).mono ?_
  rintro e w3 ⟨rfl, b3⟩
  go_wp2_with (fail)
  go_ret
  exact ⟨rfl, (b1.trans b2).trans b3⟩
end Go.Proofs.YtgbbaeihipamgaaDoor.mix

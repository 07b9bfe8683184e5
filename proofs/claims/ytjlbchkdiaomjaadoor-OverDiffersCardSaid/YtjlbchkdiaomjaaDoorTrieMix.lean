/- What package mix's Nib, Mix and Key return, for every input, where its table holds what its initialiser lays: for a program that lies above mix. -/
import Derived.Test.YtjlbchkdiaomjaaDoorProg
import Derived.Test.YtjlbchkdiaomjaaDoorTrieMath
import Derived.WalkKit
import Derived.LoopTactic
import Derived.Lib.Hide
import Derived.Outline
import Derived.Below
namespace Go.Proofs.YtjlbchkdiaomjaaDoor.mix
open Go.RowKit mx

theorem nib_out (x : Nat) (l : Int) (w : World) (hl : l < 0 ∨ 15 < l) :
    Calls Tryd.prog 66 #[.int .u64 x, .int .i64 l] w fun e w' => e = .returned (.int .i64 0) ∧ w = w' := by
  rcases hl with hl | hl
  · go_enter Tryd.func66, Tryd.ntmps66
    go_wp2
    go_ret
    exact ⟨rfl, rfl⟩
  · have h0 : ¬ l < 0 := by omega
    go_enter Tryd.func66, Tryd.ntmps66
    go_wp2
    go_ret
    exact ⟨rfl, rfl⟩
theorem nib_val (x n : Nat) : wrap64 (((x : Int) / 2 ^ (4 * n)).tmod 16) = (nibS x n : Nat) := by
  have e : ((x : Int) / 2 ^ (4 * n)) = ((x / 16 ^ n : Nat) : Int) := by
    rw [show (16 : Nat) = 2 ^ 4 by rfl, ← Nat.pow_mul]; simp
  rw [e, Int.tmod_eq_emod_of_nonneg (Int.natCast_nonneg _)]
  have h : ((x / 16 ^ n : Nat) : Int) % 16 = ((nibS x n : Nat) : Int) := by unfold nibS; omega
  rw [h]
  have := nibS_le x n
  unfold wrap64; omega
theorem nib_any (x n : Nat) (w : World) (hn : n ≤ 15) :
    Calls Tryd.prog 66 #[.int .u64 x, .int .i64 n] w fun e w' => e = .returned (.int .i64 (nibS x n)) ∧ w = w' := by
  have HV := Lib.hid (nib_val x n)
  go_enter Tryd.func66, Tryd.ntmps66
  go_wp2
  go_ret
  exact ⟨by rw [← HV.out]; rfl, rfl⟩
theorem mul1_wrap (x : Nat) : IntKind.u64.wrap ((x : Int) * 13787848793156543929) = (mul1 x : Nat) := by
  unfold mul1; simp [IntKind.wrap, IntKind.bits, IntKind.signed]
theorem mul2_wrap (x : Nat) : IntKind.u64.wrap ((x : Int) * 10723151780598845931) = (mul2 x : Nat) := by
  unfold mul2; simp [IntKind.wrap, IntKind.bits, IntKind.signed]
/-- the table of rounds, cell by cell -/
def tab : List Int := [30, 13787848793156543929, 10871156337175269513, 27, 10723151780598845931, 3573116690164977347, 31, 1, 1]
def Laid (B : Nat) (w : World) : Prop := ∀ w', Below B w w' → ∀ i, i < 9 → w'.cell? ⟨0, i, none⟩ = some (.int .u64 (tab.getD i 0))
theorem Laid.c0 {B : Nat} {w w' : World} (h : Laid B w) (hb : Below B w w') : w'.cell? ⟨0, 0, none⟩ = some (.int .u64 30) := h w' hb 0 (by decide)
theorem Laid.c1 {B : Nat} {w w' : World} (h : Laid B w) (hb : Below B w w') : w'.cell? ⟨0, 1, none⟩ = some (.int .u64 13787848793156543929) := h w' hb 1 (by decide)
theorem Laid.c2 {B : Nat} {w w' : World} (h : Laid B w) (hb : Below B w w') : w'.cell? ⟨0, 2, none⟩ = some (.int .u64 10871156337175269513) := h w' hb 2 (by decide)
theorem Laid.c3 {B : Nat} {w w' : World} (h : Laid B w) (hb : Below B w w') : w'.cell? ⟨0, 3, none⟩ = some (.int .u64 27) := h w' hb 3 (by decide)
theorem Laid.c4 {B : Nat} {w w' : World} (h : Laid B w) (hb : Below B w w') : w'.cell? ⟨0, 4, none⟩ = some (.int .u64 10723151780598845931) := h w' hb 4 (by decide)
theorem Laid.c5 {B : Nat} {w w' : World} (h : Laid B w) (hb : Below B w w') : w'.cell? ⟨0, 5, none⟩ = some (.int .u64 3573116690164977347) := h w' hb 5 (by decide)
theorem Laid.c6 {B : Nat} {w w' : World} (h : Laid B w) (hb : Below B w w') : w'.cell? ⟨0, 6, none⟩ = some (.int .u64 31) := h w' hb 6 (by decide)
theorem Laid.c7 {B : Nat} {w w' : World} (h : Laid B w) (hb : Below B w w') : w'.cell? ⟨0, 7, none⟩ = some (.int .u64 1) := h w' hb 7 (by decide)
theorem Laid.c8 {B : Nat} {w w' : World} (h : Laid B w) (hb : Below B w w') : w'.cell? ⟨0, 8, none⟩ = some (.int .u64 1) := h w' hb 8 (by decide)
theorem Laid.on {B : Nat} {w w1 : World} (h : Laid B w) (hb : Below B w w1) : Laid B w1 := fun w' h' => h w' (hb.trans h')

theorem mix_r0 (m : Nat) (hm : m ≤ 18446744073709551615) : IntKind.u64.wrap (bits .xor .u64 (m : Int) ((m : Int) / 1073741824) * 13787848793156543929) = ((mul1 (fx 30 m) : Nat) : Int) := by
  rw [xor_fx 30 1073741824 m hm (by decide)]; exact mul1_wrap _
theorem mix_r1 (m : Nat) (hm : m ≤ 18446744073709551615) : IntKind.u64.wrap (bits .xor .u64 (m : Int) ((m : Int) / 134217728) * 10723151780598845931) = ((mul2 (fx 27 m) : Nat) : Int) := by
  rw [xor_fx 27 134217728 m hm (by decide)]; exact mul2_wrap _
theorem mix_r2 (m : Nat) (hm : m ≤ 18446744073709551615) : IntKind.u64.wrap (bits .xor .u64 (m : Int) ((m : Int) / 2147483648)) = ((fx 31 m : Nat) : Int) := by
  rw [xor_fx 31 2147483648 m hm (by decide), IntKind.wrap_u64]
  have := fx_le 31 m hm
  omega
theorem mix_any (B : Nat) (x : Nat) (w : World) (hx : x ≤ 18446744073709551615) (hB : B ≤ w.heap.size) (hL : Laid B w) :
    Calls Tryd.prog 76 #[.int .u64 x] w fun e w' => e = .returned (.int .u64 (mixS x)) ∧ Below B w w' := by
  have HL := Lib.hid hL
  clear hL
  have H0 := Lib.hid mix_r0
  have H1 := Lib.hid mix_r1
  have H2 := Lib.hid mix_r2
  go_enter Tryd.func76, Tryd.ntmps76
  go_wp2
  go_loopw [0, 5] (fun y i wr => ∃ k m : Nat, k ≤ 3 ∧ m ≤ 18446744073709551615 ∧ i = .int .i64 k ∧ y = .int .u64 m ∧ MAt x k m ∧ Below B w wr) (fun _ i _ => 3 - (intOf i).toNat)
  case atStart => exact ⟨0, x, by omega, hx, rfl, rfl, MAt.z x, Below.refl _ _⟩
  case round =>
    obtain ⟨k, m, hk, hm, rfl, rfl, HM, HB⟩ := hrel
    have hz := HB.size
    by_cases h3 : k = 3
    · have hfin : Hid (m = mixS x) := by
        show _ = _
        subst h3; exact HM.out
      subst h3
      go_wp2
      go_ret
      exact ⟨by rw [← hfin.out]; rfl, HB⟩
    · have : k = 0 ∨ k = 1 ∨ k = 2 := by omega
      clear h3
      rcases this with rfl | rfl | rfl
      · have c0 := HL.out.c0 HB
        have c1 := HL.out.c1 HB
        have c2 := HL.out.c2 HB
        go_wp2
        go_roundw
        case rel => exact ⟨1, mul1 (fx 30 m), by omega, mul1_lt _, rfl, by rw [H0.out m hm], HM.s1, HB.alloc (by omega) _⟩
        case measure => simp [intOf]
      · have c0 := HL.out.c3 HB
        have c1 := HL.out.c4 HB
        have c2 := HL.out.c5 HB
        go_wp2
        go_roundw
        case rel => exact ⟨2, mul2 (fx 27 m), by omega, mul2_lt _, rfl, by rw [H1.out m hm], HM.s2, HB.alloc (by omega) _⟩
        case measure => simp [intOf]
      · have c0 := HL.out.c6 HB
        have c1 := HL.out.c7 HB
        have c2 := HL.out.c8 HB
        go_wp2
        go_roundw
        case rel => exact ⟨3, fx 31 m, by omega, fx_le _ _ hm, rfl, by rw [H2.out m hm], HM.s3, HB.alloc (by omega) _⟩
        case measure => simp [intOf]
theorem u64_wrap (n : Int) : IntKind.u64.wrap n = (tri.u64 n : Nat) := by rw [IntKind.wrap_u64]; unfold tri.u64; omega
theorem key_any (B : Nat) (n : Int) (w : World) (hB : B ≤ w.heap.size) (hL : Laid B w) :
    Calls Tryd.prog 67 #[.int .i64 n] w fun e w' => e = .returned (.int .u64 (tri.num n)) ∧ Below B w w' := by
  have HL := Lib.hid hL
  clear hL
  have e := u64_wrap n
  go_enter Tryd.func67, Tryd.ntmps67
  go_wp2_with (go_at_call 76; refine (mix_any B (tri.u64 n) _ (tri.u64_le n) hB HL.out).mono ?_; rintro e w' ⟨rfl, hb⟩)
  go_ret
  exact ⟨rfl, hb⟩
end Go.Proofs.YtjlbchkdiaomjaaDoor.mix

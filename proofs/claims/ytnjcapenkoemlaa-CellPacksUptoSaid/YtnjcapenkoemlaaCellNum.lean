/- Numbers folded, and back; how many groups they have. -/
import Derived.Test.YtnjcapenkoemlaaCellMath
import Derived.Test.YtnjcapenkoemlaaValMem
import Derived.Laws.Bits64
import Derived.Test.YtnjcapenkoemlaaShelf
import Derived.Lib.ItoaNum
import Derived.LoopTactic
import Derived.Outline
namespace Go.Proofs.Ytnjcapenkoemlaa.vt.ce
open Go.RowKit mem vt

theorem ones_u64 (a : Int) (h : 0 ≤ a ∧ a ≤ 18446744073709551615) : bits BinOp.xor IntKind.u64 IntKind.u64.max a = 18446744073709551615 - a := by
  obtain ⟨n, rfl⟩ := Int.eq_ofNat_of_zero_le h.1
  have hn : n < 18446744073709551616 := by omega
  have e : bits BinOp.xor IntKind.u64 IntKind.u64.max n = IntKind.u64.wrap ((BitVec.ofInt 64 IntKind.u64.max ^^^ BitVec.ofInt 64 n).toNat : Int) := rfl
  have e1 : BitVec.ofInt 64 IntKind.u64.max = BitVec.allOnes 64 := by decide
  have e2 : (BitVec.ofInt 64 (n : Int)).toNat = n := by rw [BitVec.toNat_ofInt]; omega
  rw [e, e1, BitVec.allOnes_xor, BitVec.toNat_not, e2]
  show (((2 ^ 64 - 1 - n : Nat) : Int)) % 18446744073709551616 = _
  omega
theorem ones_i64 (a : Int) (h : I64 a) : bits BinOp.xor IntKind.i64 (-1) a = -1 - a := by
  unfold I64 at h
  have we : ∀ x : Int, IntKind.i64.wrap x = wrap64 x := fun x => by rw [IntKind.wrap_i64]; unfold wrap64; omega
  have e : bits BinOp.xor IntKind.i64 (-1) a = wrap64 ((BitVec.ofInt 64 (-1) ^^^ BitVec.ofInt 64 a).toNat : Int) := by rw [← we]; rfl
  have e1 : BitVec.ofInt 64 (-1) = BitVec.allOnes 64 := by decide
  rw [e, e1, BitVec.allOnes_xor, BitVec.toNat_not, BitVec.toNat_ofInt]
  unfold wrap64
  omega
theorem folded_any (n : Int) (w : World) (h : I64 n) : Calls Try.prog 32 #[.int .i64 n] w fun e w' => e = .returned (.int .u64 (zig n : Nat)) ∧ w = w' := by
  by_cases h0 : n < 0
  · have HZ : Hid (bits BinOp.xor IntKind.u64 IntKind.u64.max (IntKind.u64.wrap (IntKind.u64.wrap n * 2)) = ((zig n : Nat) : Int)) := Lib.hid (by
      unfold I64 at h
      have e : IntKind.u64.wrap (IntKind.u64.wrap n * 2) = 18446744073709551616 + 2 * n := by
        show (n % 18446744073709551616 * 2) % 18446744073709551616 = _
        omega
      rw [e, ones_u64 _ (by omega)]
      unfold zig; rw [if_neg (by omega)]; omega)
    unfold I64 at h
    go_enter Try.func32, Try.ntmps32
    go_wp2
    go_ret
    exact ⟨congrArg (fun x => Ending.returned (Value.int .u64 x)) HZ.out, rfl⟩
  · have HZ : Hid (n * 2 = ((zig n : Nat) : Int)) := Lib.hid (by unfold zig; rw [if_pos (by omega)]; unfold I64 at h; omega)
    unfold I64 at h
    go_enter Try.func32, Try.ntmps32
    go_wp2
    go_ret
    exact ⟨congrArg (fun x => Ending.returned (Value.int .u64 x)) HZ.out, rfl⟩
theorem unfolded_any (x : Nat) (w : World) (h : x < 18446744073709551616) : Calls Try.prog 38 #[.int .u64 x] w fun e w' => e = .returned (.int .i64 (unzig x)) ∧ w = w' := by
  by_cases h0 : x % 2 = 0
  · have HZ : Hid ((x : Int) / 2 = unzig x) := Lib.hid (by unfold unzig; rw [if_pos h0]; omega)
    have h1 : ((x : Int) % 2 == 1) = false := by simp; omega
    go_enter Try.func38, Try.ntmps38
    go_wp2
    go_ret
    exact ⟨congrArg (fun x => Ending.returned (Value.int .i64 x)) HZ.out, rfl⟩
  · have HZ : Hid (bits BinOp.xor IntKind.i64 (-1) ((x : Int) / 2) = unzig x) := Lib.hid (by rw [ones_i64 _ (by unfold I64; omega)]; unfold unzig; rw [if_neg h0]; omega)
    have h1 : ((x : Int) % 2 == 1) = true := by simp; omega
    go_enter Try.func38, Try.ntmps38
    go_wp2
    go_ret
    exact ⟨congrArg (fun x => Ending.returned (Value.int .i64 x)) HZ.out, rfl⟩
theorem or_one (x : Nat) : x ||| 1 = 2 * (x / 2) + 1 := by
  have h1 : 2 * (x / 2) + x % 2 = 2 * (x / 2) ||| (x % 2) := by
    have := Nat.two_pow_add_eq_or_of_lt (i := 1) (b := x % 2) (by omega) (x / 2); simpa using this
  have h2 : 2 * (x / 2) + 1 = 2 * (x / 2) ||| 1 := by
    have := Nat.two_pow_add_eq_or_of_lt (i := 1) (b := 1) (by omega) (x / 2); simpa using this
  conv => lhs; rw [← Nat.div_add_mod x 2, h1]
  rw [Nat.or_assoc, h2]
  have : x % 2 ||| 1 = 1 := by
    rcases Nat.mod_two_eq_zero_or_one x with h | h <;> rw [h] <;> rfl
  rw [this]
/-- a number of so many bits has so many groups -/
theorem grp_len (x : Nat) : ∀ L, 1 ≤ x → 1 ≤ L → 2 ^ (L - 1) ≤ x → x < 2 ^ L → (grpN x).length = (L + 6) / 7 := by
  induction x using Nat.strongRecOn with
  | _ x ih =>
    intro L h1 hL hlo hhi
    by_cases h : x ≤ 127
    · rw [grpN_low h]
      have : L - 1 < 7 := (Nat.pow_lt_pow_iff_right (a := 2) (by omega)).1 (Nat.lt_of_le_of_lt hlo (by omega))
      show 1 = _
      omega
    · rw [grpN_high h, List.length_cons]
      have : 7 < L := (Nat.pow_lt_pow_iff_right (a := 2) (by omega)).1 (Nat.lt_of_le_of_lt (by omega) hhi)
      obtain ⟨M, rfl⟩ : ∃ M, L = M + 7 := ⟨L - 7, by omega⟩
      have e : M + 7 - 1 = (M - 1) + 7 := by omega
      rw [e, Nat.pow_add] at hlo
      rw [Nat.pow_add] at hhi
      rw [ih (x / 128) (by omega) M (by omega) (by omega) (by omega) (by omega)]
      omega
theorem grp_bits (x : Nat) (h : x < 18446744073709551616) : ((Lib.bitLen (x ||| 1) + 7 - 1) / 7 : Nat) = (grpN x).length ∧ Lib.bitLen (x ||| 1) ≤ 64 ∧ x ||| 1 < 18446744073709551616 := by
  have ho := or_one x
  obtain ⟨h1, h2, h3⟩ := Lib.bitLenAux_bounds 64 (x ||| 1) (by rw [ho]; omega) (by rw [ho]; omega)
  have hL : Lib.bitLen (x ||| 1) ≤ 64 := Lib.bitLen_le (x ||| 1) 64 (Nat.le_refl _) (by rw [ho]; omega)
  refine ⟨?_, hL, by rw [ho]; omega⟩
  unfold Lib.bitLen at hL ⊢
  by_cases h0 : x = 0
  · subst h0; rw [grpN_low (by omega)]; decide
  · generalize Lib.bitLenAux 64 (x ||| 1) = L at *
    rw [ho] at h2 h3
    have hlo : 2 ^ (L - 1) ≤ x := by
      by_cases hL1 : L = 1
      · subst hL1; show 1 ≤ x; omega
      · obtain ⟨M, rfl⟩ : ∃ M, L = M + 2 := ⟨L - 2, by omega⟩
        have e : M + 2 - 1 = M + 1 := by omega
        rw [e, Nat.pow_succ] at h2 ⊢
        omega
    rw [grp_len x L (by omega) h1 hlo (by omega)]
    omega
theorem longNumber_any (n : Int) (w : World) (h : I64 n) : Calls Try.prog 26 #[.int .i64 n] w fun e w' => e = .returned (.int .i64 ((grpN (zig n)).length : Nat)) ∧ w = w' := by
  have hz := zig_lt h
  obtain ⟨g1, g2, g3⟩ := grp_bits (zig n) hz
  obtain ⟨x, hx⟩ : ∃ x, x = zig n := ⟨_, rfl⟩
  rw [← hx] at g1 g2 g3 hz ⊢
  have HO : Hid (bits BinOp.or IntKind.u64 x 1 = ((x ||| 1 : Nat) : Int)) := Lib.hid (bits_or_u64_nat x 1 (by omega) (by omega))
  have HF : Hid (Calls Try.prog 32 #[.int .i64 n] w fun e w' => e = .returned (.int .u64 (x : Nat)) ∧ w = w') := Lib.hid (by rw [hx]; exact folded_any n w h)
  have HG : Hid (((Lib.bitLen (x ||| 1) : Int) + 7 - 1) / 7 = ((grpN x).length : Nat)) := Lib.hid (by rw [← g1]; omega)
  obtain ⟨L, hL⟩ : ∃ L, L = Lib.bitLen (x ||| 1) := ⟨_, rfl⟩
  rw [← hL] at HG g2
  have HL := Lib.hid hL
  clear hx g1 hL h
  go_enter Try.func26, Try.ntmps26
  go_wp2_with (fail)
  refine HF.out.mono ?_
  rintro e w1 ⟨rfl, rfl⟩
  go_wp2_with (fail)
  rw [HO.out]
  refine (Try.bits_Len64 ((x ||| 1 : Nat) : Int) _ (by omega) (by omega)).mono ?_
  rintro e w1 ⟨rfl, rfl⟩
  rw [Int.toNat_natCast, ← HL.out]
  go_wp2_with (fail)
  go_ret
  exact ⟨congrArg (fun x => Ending.returned (Value.int .i64 x)) HG.out, rfl⟩
end Go.Proofs.Ytnjcapenkoemlaa.vt.ce

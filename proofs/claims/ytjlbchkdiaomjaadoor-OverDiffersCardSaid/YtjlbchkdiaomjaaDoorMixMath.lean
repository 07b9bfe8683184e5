/- Numbers of 64 bits that are mixed: x, exclusive or x by 2^n, bit by bit. Plain arithmetic. -/
namespace Go.Proofs.YtjlbchkdiaomjaaDoor.mx
/-- x, exclusive or x by 2^n -/
def fx (n x : Nat) : Nat := x ^^^ (x / 2 ^ n)
theorem fx_lt (n x : Nat) (h : x < 2 ^ 64) : fx n x < 2 ^ 64 :=
  Nat.xor_lt_two_pow h (Nat.lt_of_le_of_lt (Nat.div_le_self _ _) h)
theorem bit_of (x i : Nat) : x / 2 ^ i % 2 = (x.testBit i).toNat := by
  rw [Nat.testBit_eq_decide_div_mod_eq]
  have : x / 2 ^ i % 2 = 0 ∨ x / 2 ^ i % 2 = 1 := by omega
  rcases this with h | h <;> simp [h]
theorem fx_bit (n x i : Nat) : fx n x / 2 ^ i % 2 = (x / 2 ^ i % 2 + x / 2 ^ (i + n) % 2) % 2 := by
  have e : x / 2 ^ (i + n) = x / 2 ^ n / 2 ^ i := by rw [Nat.div_div_eq_div_mul, Nat.add_comm i n, Nat.pow_add]
  rw [e, bit_of, bit_of, bit_of, fx, Nat.testBit_xor]
  cases x.testBit i <;> cases (x / 2 ^ n).testBit i <;> rfl
theorem step_of (y i : Nat) : y / 2 ^ i = 2 * (y / 2 ^ (i + 1)) + y / 2 ^ i % 2 := by
  rw [Nat.pow_succ, ← Nat.div_div_eq_div_mul]; omega
theorem far_bit (x j : Nat) (hx : x < 2 ^ 64) (hj : 64 ≤ j) : x / 2 ^ j = 0 :=
  Nat.div_eq_of_lt (Nat.lt_of_lt_of_le hx (Nat.pow_le_pow_right (by decide) hj))
/-- the n-th bit -/
def bitS (x n : Nat) : Nat := x / 2 ^ n % 2
theorem bitS_lt (x n : Nat) : bitS x n ≤ 1 := by unfold bitS; omega
theorem bitS_far (x j : Nat) (hx : x ≤ 18446744073709551615) (hj : 64 ≤ j) : bitS x j = 0 := by
  unfold bitS; rw [far_bit x j (by omega) hj]
theorem fx_step (n x k : Nat) (hx : x ≤ 18446744073709551615) (m : Nat) (hm : m = fx n x / 2 ^ (k + 1)) :
    2 * m + (if k + n < 64 then (bitS x k + bitS x (k + n)) % 2 else bitS x k) = fx n x / 2 ^ k := by
  have h1 := step_of (fx n x) k
  have h2 := fx_bit n x k
  subst hm
  by_cases h : k + n < 64
  · rw [if_pos h]; unfold bitS; omega
  · rw [if_neg h]
    have h3 := far_bit x (k + n) (by omega) (by omega)
    unfold bitS; rw [h3] at h2; omega
/-- the four bits of a level -/
def nibS (x l : Nat) : Nat := x / 16 ^ l % 16
def mixS (x : Nat) : Nat := fx 31 (fx 27 (fx 30 x * 13787848793156543929 % 2 ^ 64) * 10723151780598845931 % 2 ^ 64)
/-- the two products on the way -/
def mul1 (x : Nat) : Nat := x * 13787848793156543929 % 2 ^ 64
def mul2 (x : Nat) : Nat := x * 10723151780598845931 % 2 ^ 64
theorem mul1_lt (x : Nat) : mul1 x ≤ 18446744073709551615 := by unfold mul1; omega
theorem mul2_lt (x : Nat) : mul2 x ≤ 18446744073709551615 := by unfold mul2; omega
theorem mixS_eq (x : Nat) : mixS x = fx 31 (mul2 (fx 27 (mul1 (fx 30 x)))) := rfl
theorem fx_le (n x : Nat) (h : x ≤ 18446744073709551615) : fx n x ≤ 18446744073709551615 := by have := fx_lt n x (by omega); omega
theorem mixS_le (x : Nat) : mixS x ≤ 18446744073709551615 := by
  rw [mixS_eq]; exact fx_le _ _ (mul2_lt _)
theorem nib_step (x k : Nat) : x / 16 ^ k / 16 = x / 16 ^ (k + 1) := by rw [Nat.div_div_eq_div_mul, Nat.pow_succ]
example : mixS 1 = 0x5692161d100b05e5 := by decide +kernel
end Go.Proofs.YtjlbchkdiaomjaaDoor.mx

/- Mixing has an inverse: plain arithmetic on numbers of 64 bits. -/
import Derived.Test.YtjlbchkdiaomjaaDoorMixMath
import Derived.Laws.Bits64
import Derived.IntWalk
namespace Go.Proofs.YtjlbchkdiaomjaaDoor.mx
/-- the number whose exclusive or with itself, by 2^s, is x (two rounds reach all 64 bits) -/
def unS (s x : Nat) : Nat := x ^^^ ((x ^^^ (x / 2 ^ s)) / 2 ^ s)
theorem unS_le (s x : Nat) (h : x ≤ 18446744073709551615) : unS s x ≤ 18446744073709551615 := by
  have h1 : x ^^^ (x / 2 ^ s) < 2 ^ 64 := fx_lt s x (by omega)
  have h2 : unS s x < 2 ^ 64 := Nat.xor_lt_two_pow (by omega) (Nat.lt_of_le_of_lt (Nat.div_le_self _ _) h1)
  omega
theorem far_test (x j : Nat) (hx : x ≤ 18446744073709551615) (hj : 64 ≤ j) : x.testBit j = false :=
  Nat.testBit_lt_two_pow (Nat.lt_of_lt_of_le (show x < 2 ^ 64 by omega) (Nat.pow_le_pow_right (by decide) hj))
theorem fx_unS (s x : Nat) (hs : 64 ≤ 3 * s) (hx : x ≤ 18446744073709551615) : fx s (unS s x) = x := by
  apply Nat.eq_of_testBit_eq
  intro i
  have h := far_test x (i + 3 * s) hx (by omega)
  have e : i + 3 * s = i + s + s + s := by omega
  rw [e] at h
  simp only [fx, unS, Nat.testBit_xor, ← Nat.shiftRight_eq_div_pow, Nat.testBit_shiftRight]
  have e1 : s + i = i + s := by omega
  have e2 : s + (i + s) = i + s + s := by omega
  have e3 : s + (i + s + s) = i + s + s + s := by omega
  simp only [e1, e2, e3, h]
  cases x.testBit i <;> cases x.testBit (i + s) <;> cases x.testBit (i + s + s) <;> rfl
theorem unS_fx (s x : Nat) (hs : 64 ≤ 3 * s) (hx : x ≤ 18446744073709551615) : unS s (fx s x) = x := by
  apply Nat.eq_of_testBit_eq
  intro i
  have h := far_test x (i + 3 * s) hx (by omega)
  have e : i + 3 * s = i + s + s + s := by omega
  rw [e] at h
  simp only [fx, unS, Nat.testBit_xor, ← Nat.shiftRight_eq_div_pow, Nat.testBit_shiftRight]
  have e1 : s + i = i + s := by omega
  have e2 : s + (i + s) = i + s + s := by omega
  have e3 : s + (i + s + s) = i + s + s + s := by omega
  simp only [e1, e2, e3, h]
  cases x.testBit i <;> cases x.testBit (i + s) <;> cases x.testBit (i + s + s) <;> rfl
/-- the two backs -/
def div1 (x : Nat) : Nat := x * 10871156337175269513 % 2 ^ 64
def div2 (x : Nat) : Nat := x * 3573116690164977347 % 2 ^ 64
theorem div1_le (x : Nat) : div1 x ≤ 18446744073709551615 := by unfold div1; omega
theorem div2_le (x : Nat) : div2 x ≤ 18446744073709551615 := by unfold div2; omega
theorem back_of (x f b : Nat) (hf : f * b % 2 ^ 64 = 1) (hx : x ≤ 18446744073709551615) : x * f % 2 ^ 64 * b % 2 ^ 64 = x := by
  rw [Nat.mod_mul_mod, Nat.mul_assoc, Nat.mul_mod, hf, Nat.mul_one, Nat.mod_mod]
  exact Nat.mod_eq_of_lt (by omega)
theorem div1_mul1 (x : Nat) (hx : x ≤ 18446744073709551615) : div1 (mul1 x) = x := back_of x _ _ (by decide) hx
theorem mul1_div1 (x : Nat) (hx : x ≤ 18446744073709551615) : mul1 (div1 x) = x := back_of x _ _ (by decide) hx
theorem div2_mul2 (x : Nat) (hx : x ≤ 18446744073709551615) : div2 (mul2 x) = x := back_of x _ _ (by decide) hx
theorem mul2_div2 (x : Nat) (hx : x ≤ 18446744073709551615) : mul2 (div2 x) = x := back_of x _ _ (by decide) hx
def unmixS (x : Nat) : Nat := unS 30 (div1 (unS 27 (div2 (unS 31 x))))
theorem unmixS_le (x : Nat) : unmixS x ≤ 18446744073709551615 := unS_le _ _ (div1_le _)
theorem unmix_mix (x : Nat) (hx : x ≤ 18446744073709551615) : unmixS (mixS x) = x := by
  rw [mixS_eq, unmixS, unS_fx 31 _ (by omega) (mul2_lt _), div2_mul2 _ (fx_le _ _ (mul1_lt _)), unS_fx 27 _ (by omega) (mul1_lt _), div1_mul1 _ (fx_le _ _ hx), unS_fx 30 _ (by omega) hx]
theorem mix_unmix (x : Nat) (hx : x ≤ 18446744073709551615) : mixS (unmixS x) = x := by
  rw [mixS_eq, unmixS, fx_unS 30 _ (by omega) (div1_le _), mul1_div1 _ (unS_le _ _ (div2_le _)), fx_unS 27 _ (by omega) (div2_le _), mul2_div2 _ (unS_le _ _ hx), fx_unS 31 _ (by omega) hx]
theorem mixS_inj (x y : Nat) (hx : x ≤ 18446744073709551615) (hy : y ≤ 18446744073709551615) : mixS x = mixS y ↔ x = y :=
  ⟨fun h => by rw [← unmix_mix x hx, h, unmix_mix y hy], fun h => by rw [h]⟩
/-- the stages of a number that is mixed, and of one that is mixed back -/
def MAt (x k m : Nat) : Prop := (k = 0 ∧ m = x) ∨ (k = 1 ∧ m = mul1 (fx 30 x)) ∨ (k = 2 ∧ m = mul2 (fx 27 (mul1 (fx 30 x)))) ∨ (k = 3 ∧ m = mixS x)
def UAt (x k m : Nat) : Prop := (k = 0 ∧ m = x) ∨ (k = 1 ∧ m = unS 31 x) ∨ (k = 2 ∧ m = unS 27 (div2 (unS 31 x))) ∨ (k = 3 ∧ m = unmixS x)
theorem MAt.z (x : Nat) : MAt x 0 x := .inl ⟨rfl, rfl⟩
theorem UAt.z (x : Nat) : UAt x 0 x := .inl ⟨rfl, rfl⟩
theorem MAt.s1 {x m : Nat} (h : MAt x 0 m) : MAt x 1 (mul1 (fx 30 m)) := by
  rcases h with ⟨_, rfl⟩ | ⟨h, _⟩ | ⟨h, _⟩ | ⟨h, _⟩
  · exact .inr (.inl ⟨rfl, rfl⟩)
  all_goals cases h
theorem MAt.s2 {x m : Nat} (h : MAt x 1 m) : MAt x 2 (mul2 (fx 27 m)) := by
  rcases h with ⟨h, _⟩ | ⟨_, rfl⟩ | ⟨h, _⟩ | ⟨h, _⟩
  · cases h
  · exact .inr (.inr (.inl ⟨rfl, rfl⟩))
  all_goals cases h
theorem MAt.s3 {x m : Nat} (h : MAt x 2 m) : MAt x 3 (fx 31 m) := by
  rcases h with ⟨h, _⟩ | ⟨h, _⟩ | ⟨_, rfl⟩ | ⟨h, _⟩
  · cases h
  · cases h
  · exact .inr (.inr (.inr ⟨rfl, (mixS_eq x).symm⟩))
  · cases h
theorem MAt.out {x m : Nat} (h : MAt x 3 m) : m = mixS x := by
  rcases h with ⟨h, _⟩ | ⟨h, _⟩ | ⟨h, _⟩ | ⟨_, h⟩
  · cases h
  · cases h
  · cases h
  · exact h
theorem UAt.s1 {x m : Nat} (h : UAt x 0 m) : UAt x 1 (unS 31 m) := by
  rcases h with ⟨_, rfl⟩ | ⟨h, _⟩ | ⟨h, _⟩ | ⟨h, _⟩
  · exact .inr (.inl ⟨rfl, rfl⟩)
  all_goals cases h
theorem UAt.s2 {x m : Nat} (h : UAt x 1 m) : UAt x 2 (unS 27 (div2 m)) := by
  rcases h with ⟨h, _⟩ | ⟨_, rfl⟩ | ⟨h, _⟩ | ⟨h, _⟩
  · cases h
  · exact .inr (.inr (.inl ⟨rfl, rfl⟩))
  all_goals cases h
theorem UAt.s3 {x m : Nat} (h : UAt x 2 m) : UAt x 3 (unS 30 (div1 m)) := by
  rcases h with ⟨h, _⟩ | ⟨h, _⟩ | ⟨_, rfl⟩ | ⟨h, _⟩
  · cases h
  · cases h
  · exact .inr (.inr (.inr ⟨rfl, by rw [unmixS]⟩))
  · cases h
theorem UAt.out {x m : Nat} (h : UAt x 3 m) : m = unmixS x := by
  rcases h with ⟨h, _⟩ | ⟨h, _⟩ | ⟨h, _⟩ | ⟨_, h⟩
  · cases h
  · cases h
  · cases h
  · exact h
open Go
theorem xor_fx (s : Nat) (n : Int) (m : Nat) (hm : m ≤ 18446744073709551615) (hn : n = ((2 ^ s : Nat) : Int)) : bits .xor .u64 (m : Int) ((m : Int) / n) = ((fx s m : Nat) : Int) := by
  subst hn
  have e : (m : Int) / ((2 ^ s : Nat) : Int) = ((m / 2 ^ s : Nat) : Int) := by omega
  rw [e, bits_xor_u64_nat _ _ (by omega) (by have := Nat.div_le_self m (2 ^ s); omega)]
  rfl
theorem xor_un (s : Nat) (n : Int) (x m : Nat) (hx : x ≤ 18446744073709551615) (hm : m ≤ 18446744073709551615) (hn : n = ((2 ^ s : Nat) : Int)) : bits .xor .u64 (x : Int) ((m : Int) / n) = ((x ^^^ (m / 2 ^ s) : Nat) : Int) := by
  subst hn
  have e : (m : Int) / ((2 ^ s : Nat) : Int) = ((m / 2 ^ s : Nat) : Int) := by omega
  rw [e, bits_xor_u64_nat _ _ (by omega) (by have := Nat.div_le_self m (2 ^ s); omega)]
/-- sixteen times a sum and four bits more -/
theorem nib_sum (x k : Nat) : 16 * (x / 16 ^ (k + 1)) + nibS x k = x / 16 ^ k := by
  rw [← nib_step, nibS]; omega
theorem nibS_le (x k : Nat) : nibS x k ≤ 15 := by unfold nibS; omega
end Go.Proofs.YtjlbchkdiaomjaaDoor.mx

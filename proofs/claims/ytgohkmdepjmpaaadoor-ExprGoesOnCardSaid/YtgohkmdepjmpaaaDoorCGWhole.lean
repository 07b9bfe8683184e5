import Derived.IntWalk
import Derived.Laws.BitsAllLaws
import Derived.Test.YtgohkmdepjmpaaaDoorProg
import Derived.WalkKit
import Derived.BigQuiet
import Derived.Deep.QuietTactic
import Derived.Lib.Hide
import Derived.LoopTactic
import Derived.Outline
import Derived.Lib.Strings
/- Whole numbers of 64 bits: when a sum, a difference, a product, a quotient fits, told by its wrapped result; a product by halves. Plain arithmetic. -/
namespace Go.Proofs.YtgohkmdepjmpaaaDoor.wm
open Go.RowKit (wrap64)

def fitsB (n : Int) : Bool := decide (-9223372036854775808 ≤ n ∧ n ≤ 9223372036854775807)
def told (n : Int) : Int × Int := if fitsB n = true then (n, 0) else (0, 2)
def doS (s a b : Int) : Int × Int :=
  if s = 1 then told (a + b) else if s = 2 then told (a - b) else if s = 3 then told (a * b)
  else if s = 4 then (if b = 0 then (0, 1) else told (a.tdiv b))
  else if s = 5 then (if b = 0 then (0, 1) else (a.tmod b, 0))
  else (0, 3)

/-- plus -/
theorem plus_fits (a b : Int) (ha : -9223372036854775808 ≤ a ∧ a ≤ 9223372036854775807) (hb : -9223372036854775808 ≤ b ∧ b ≤ 9223372036854775807) :
    (decide (a < wrap64 (a + b)) == decide (0 < b)) = fitsB (a + b) := by
  unfold fitsB wrap64
  rw [Bool.eq_iff_iff]
  simp only [beq_iff_eq, decide_eq_decide, decide_eq_true_eq]
  omega
theorem minus_fits (a b : Int) (ha : -9223372036854775808 ≤ a ∧ a ≤ 9223372036854775807) (hb : -9223372036854775808 ≤ b ∧ b ≤ 9223372036854775807) :
    (decide (wrap64 (a - b) < a) == decide (0 < b)) = fitsB (a - b) := by
  unfold fitsB wrap64
  rw [Bool.eq_iff_iff]
  simp only [beq_iff_eq, decide_eq_decide, decide_eq_true_eq]
  omega
theorem wrap64_fit (n : Int) (h : fitsB n = true) : wrap64 n = n := by
  unfold fitsB at h; simp only [decide_eq_true_eq] at h
  unfold wrap64; omega

theorem wrap64_bd (n : Int) : -9223372036854775808 ≤ wrap64 n ∧ wrap64 n ≤ 9223372036854775807 := by unfold wrap64; omega
theorem wrap64_add (n : Int) : ∃ k : Int, wrap64 n = n + k * 18446744073709551616 := by
  refine ⟨-((n + 9223372036854775808) / 18446744073709551616), ?_⟩
  unfold wrap64; omega

/-- a quotient of two numbers lies no farther from nought than the dividend -/
theorem tdiv_natAbs (a b : Int) : (a.tdiv b).natAbs ≤ a.natAbs := by
  rw [Int.natAbs_tdiv]; exact Nat.div_le_self _ _

theorem times_fits (a b : Int) (ha : -9223372036854775808 ≤ a ∧ a ≤ 9223372036854775807)
    (h0 : a ≠ 0) (h1 : a ≠ -1) : (wrap64 ((wrap64 (a * b)).tdiv a) == b) = fitsB (a * b) := by
  have hq : wrap64 ((wrap64 (a * b)).tdiv a) = (wrap64 (a * b)).tdiv a := by
    have h2 := tdiv_natAbs (wrap64 (a * b)) a
    have h3 := wrap64_bd (a * b)
    have h4 : (wrap64 (a * b)).tdiv a ≤ 9223372036854775807 := by
      by_cases hm : wrap64 (a * b) = -9223372036854775808
      · have : ((wrap64 (a * b)).tdiv a).natAbs = (wrap64 (a * b)).natAbs / a.natAbs := Int.natAbs_tdiv _ _
        rw [hm] at this ⊢
        have e : (-9223372036854775808 : Int).natAbs = 9223372036854775808 := rfl
        rw [e] at this
        by_cases ha1 : a = 1
        · subst ha1; decide
        · have : 9223372036854775808 / a.natAbs ≤ 9223372036854775808 / 2 := Nat.div_le_div_left (by omega) (by omega)
          omega
      · omega
    exact wrap64_fit _ (by unfold fitsB; simp only [decide_eq_true_eq]; omega)
  rw [hq]
  rw [Bool.eq_iff_iff]
  simp only [beq_iff_eq]
  constructor
  · intro h
    obtain ⟨k, hk⟩ := wrap64_add (a * b)
    have hd := Int.mul_tdiv_add_tmod (wrap64 (a * b)) a
    rw [h] at hd
    have hr : ((wrap64 (a * b)).tmod a).natAbs < a.natAbs := by
      rw [Int.natAbs_tmod]; exact Nat.mod_lt _ (by omega)
    have hb := wrap64_bd (a * b)
    generalize (wrap64 (a * b)).tmod a = r at *
    generalize wrap64 (a * b) = p at *
    generalize a * b = x at *
    have : k = 0 := by omega
    subst this
    unfold fitsB; simp only [decide_eq_true_eq]; omega
  · intro h
    rw [wrap64_fit _ h, Int.mul_tdiv_cancel_left _ h0]

/-- the rest of a quotient: whatever the divisor but nought -/
theorem tmod_bd (a b : Int) (ha : -9223372036854775808 ≤ a ∧ a ≤ 9223372036854775807) : -9223372036854775808 ≤ a.tmod b ∧ a.tmod b ≤ 9223372036854775807 := by
  have h : (a.tmod b).natAbs ≤ a.natAbs := by rw [Int.natAbs_tmod]; exact Nat.mod_le _ _
  rcases Int.lt_or_le a 0 with h0 | h0
  · have : a.tmod b ≤ 0 := by
      have := Int.tmod_nonneg b (show 0 ≤ -a by omega)
      rw [Int.neg_tmod] at this; omega
    omega
  · have := Int.tmod_nonneg b h0
    omega
theorem over_fits (a b : Int) (ha : -9223372036854775808 ≤ a ∧ a ≤ 9223372036854775807) (hb : -9223372036854775808 ≤ b ∧ b ≤ 9223372036854775807) (h0 : b ≠ 0) :
    ((a != -9223372036854775808) || (b != -1)) = fitsB (a.tdiv b) := by
  unfold fitsB
  rw [Bool.eq_iff_iff]
  simp only [Bool.or_eq_true, bne_iff_ne, decide_eq_true_eq]
  have h2 := tdiv_natAbs a b
  by_cases hm : a = -9223372036854775808
  · subst hm
    by_cases h1 : b = -1
    · subst h1; decide
    · have h3 : ((-9223372036854775808 : Int).tdiv b).natAbs = (-9223372036854775808 : Int).natAbs / b.natAbs := Int.natAbs_tdiv _ _
      have e : (-9223372036854775808 : Int).natAbs = 9223372036854775808 := rfl
      rw [e] at h3
      by_cases hb1 : b = 1
      · subst hb1; decide
      · have : 9223372036854775808 / b.natAbs ≤ 9223372036854775808 / 2 := Nat.div_le_div_left (by omega) (by omega)
        constructor
        · intro _; omega
        · intro _; right; exact h1
  · constructor
    · intro _; omega
    · intro _; left; exact hm

/-! the reference: absolute values -/
theorem wide_eq (a b al ah bl bh low mid other : Int) (ha : 0 ≤ a ∧ a ≤ 18446744073709551615) (hb : 0 ≤ b ∧ b ≤ 18446744073709551615)
    (eal : al = a % 4294967296) (eah : ah = a / 4294967296) (ebl : bl = b % 4294967296) (ebh : bh = b / 4294967296)
    (e1 : low = al * bl) (e2 : mid = ah * bl + low / 4294967296) (e3 : other = al * bh + mid % 4294967296) :
    (0 ≤ low ∧ low ≤ 18446744073709551615) ∧ (0 ≤ mid ∧ mid ≤ 18446744073709551615) ∧ (0 ≤ other ∧ other ≤ 18446744073709551615) ∧
    (0 ≤ ah * bh + mid / 4294967296 + other / 4294967296 ∧ ah * bh + mid / 4294967296 + other / 4294967296 ≤ 18446744073709551615) ∧
    (ah * bh + mid / 4294967296 + other / 4294967296) * 18446744073709551616 + (other % 4294967296 * 4294967296 + low % 4294967296) = a * b := by
  have hal : 0 ≤ al ∧ al ≤ 4294967295 := by omega
  have hah : 0 ≤ ah ∧ ah ≤ 4294967295 := by omega
  have hbl : 0 ≤ bl ∧ bl ≤ 4294967295 := by omega
  have hbh : 0 ≤ bh ∧ bh ≤ 4294967295 := by omega
  have ea : a = ah * 4294967296 + al := by omega
  have eb : b = bh * 4294967296 + bl := by omega
  clear eal eah ebl ebh ha hb
  have m : ∀ x y : Int, 0 ≤ x ∧ x ≤ 4294967295 → 0 ≤ y ∧ y ≤ 4294967295 → 0 ≤ x * y ∧ x * y ≤ 18446744065119617025 := by
    intro x y hx hy
    exact ⟨Int.mul_nonneg hx.1 hy.1, Int.mul_le_mul hx.2 hy.2 hy.1 (by decide)⟩
  have q1 := m al bl hal hbl
  have q2 := m ah bl hah hbl
  have q3 := m al bh hal hbh
  have q4 := m ah bh hah hbh
  have hp : a * b = ah * bh * 18446744073709551616 + (ah * bl + al * bh) * 4294967296 + al * bl := by
    subst ea eb
    simp only [Int.add_mul, Int.mul_add]
    have r1 : ah * 4294967296 * (bh * 4294967296) = ah * bh * 18446744073709551616 := by
      rw [Int.mul_assoc, Int.mul_left_comm 4294967296, ← Int.mul_assoc]; rfl
    have r2 : ah * 4294967296 * bl = ah * bl * 4294967296 := by rw [Int.mul_right_comm]
    have r3 : al * (bh * 4294967296) = al * bh * 4294967296 := by rw [Int.mul_assoc]
    rw [r1, r2, r3]
    omega
  rw [hp]
  clear hp ea eb m hal hah hbl hbh
  generalize al * bl = x at *
  generalize ah * bl = y at *
  generalize al * bh = z at *
  generalize ah * bh = t at *
  subst e1 e2 e3
  refine ⟨?_, ?_, ?_, ?_, ?_⟩ <;> omega

theorem wrap_u64 (n : Int) : IntKind.u64.wrap n = n % 18446744073709551616 := by
  simp [IntKind.wrap, IntKind.bits, IntKind.signed]
theorem max_u64 : IntKind.u64.max = 18446744073709551615 := by rfl
theorem xor_ones (b : Nat) (hb : b < 2 ^ 64) : (2 ^ 64 - 1) ^^^ b = 2 ^ 64 - 1 - b := by
  have h := congrArg BitVec.toNat (BitVec.not_def (x := BitVec.ofNat 64 b))
  simp only [BitVec.toNat_not, BitVec.toNat_xor, BitVec.toNat_ofNat, BitVec.toNat_allOnes, Nat.mod_eq_of_lt hb] at h
  rw [h]
theorem xor_max (n : Int) (h : 0 ≤ n ∧ n ≤ 18446744073709551615) : bits .xor .u64 IntKind.u64.max n = 18446744073709551615 - n := by
  rw [max_u64, u64_xor _ _ (by decide) (by decide) h.1 (by omega)]
  have := xor_ones n.toNat (by omega)
  rw [show (18446744073709551615 : Int).toNat = 2 ^ 64 - 1 from rfl, this]
  omega
theorem and_max (n : Int) (h : 0 ≤ n ∧ n ≤ 18446744073709551615) : bits .and .u64 n 9223372036854775807 = n % 9223372036854775808 := by
  rw [u64_and _ _ h.1 (by omega) (by decide) (by decide)]
  rw [show (9223372036854775807 : Int).toNat = 2 ^ 63 - 1 from rfl, Nat.and_two_pow_sub_one_eq_mod]
  omega
theorem flip_neg (a : Int) (h : a < 0) (h1 : -9223372036854775808 ≤ a) :
    IntKind.u64.wrap (bits .xor .u64 IntKind.u64.max (IntKind.u64.wrap a) + 1) = -a := by
  rw [xor_max _ (by rw [wrap_u64]; omega), wrap_u64, wrap_u64]; omega
theorem flip_back (n : Int) (h : 0 ≤ n ∧ n ≤ 18446744073709551615) (hf : fitsB (-n) = true) :
    wrap64 (IntKind.u64.wrap (bits .xor .u64 IntKind.u64.max n + 1)) = -n := by
  unfold fitsB at hf; simp only [decide_eq_true_eq] at hf
  rw [xor_max _ h, wrap_u64]; unfold wrap64; omega
theorem keep_back (n : Int) (h : 0 ≤ n ∧ n ≤ 18446744073709551615) (hf : fitsB n = true) :
    wrap64 (bits .and .u64 n 9223372036854775807) = n := by
  unfold fitsB at hf; simp only [decide_eq_true_eq] at hf
  rw [and_max _ h]; unfold wrap64; omega
theorem neg_le (n : Int) (h : 0 ≤ n ∧ n ≤ 18446744073709551615) : decide (n ≤ 9223372036854775808) = fitsB (-n) := by
  unfold fitsB; rw [decide_eq_decide]; omega
theorem pos_lt (n : Int) (h : 0 ≤ n ∧ n ≤ 18446744073709551615) : decide (n < 9223372036854775808) = fitsB n := by
  unfold fitsB; rw [decide_eq_decide]; omega
/-- four half products, and what they come to -/
theorem halves (a b : Int) (ha : 0 ≤ a ∧ a ≤ 18446744073709551615) (hb : 0 ≤ b ∧ b ≤ 18446744073709551615) :
    (0 ≤ a % 4294967296 * (b % 4294967296) ∧ a % 4294967296 * (b % 4294967296) ≤ 18446744065119617025) ∧
    (0 ≤ a / 4294967296 * (b % 4294967296) ∧ a / 4294967296 * (b % 4294967296) ≤ 18446744065119617025) ∧
    (0 ≤ a % 4294967296 * (b / 4294967296) ∧ a % 4294967296 * (b / 4294967296) ≤ 18446744065119617025) ∧
    (0 ≤ a / 4294967296 * (b / 4294967296) ∧ a / 4294967296 * (b / 4294967296) ≤ 18446744065119617025) := by
  have m : ∀ x y : Int, 0 ≤ x ∧ x ≤ 4294967295 → 0 ≤ y ∧ y ≤ 4294967295 → 0 ≤ x * y ∧ x * y ≤ 18446744065119617025 := by
    intro x y hx hy
    exact ⟨Int.mul_nonneg hx.1 hy.1, Int.mul_le_mul hx.2 hy.2 hy.1 (by decide)⟩
  exact ⟨m _ _ (by omega) (by omega), m _ _ (by omega) (by omega), m _ _ (by omega) (by omega), m _ _ (by omega) (by omega)⟩
end Go.Proofs.YtgohkmdepjmpaaaDoor.wm

/- What package whole's functions that reckon return, for every input. -/
namespace Go.Proofs.YtgohkmdepjmpaaaDoor.whole
open Go.RowKit wm

/-- what a pair of numbers is, as a call's end -/
abbrev ret2 (p : Int × Int) : Ending := .returned (.tuple #[.int .i64 p.1, .int .i64 p.2])



theorem neg_fits (b : Int) (hb : -9223372036854775808 ≤ b ∧ b ≤ 9223372036854775807) : (b != -9223372036854775808) = fitsB (-1 * b) := by
  unfold fitsB
  rw [Bool.eq_iff_iff]
  simp only [bne_iff_ne, decide_eq_true_eq]
  omega



end Go.Proofs.YtgohkmdepjmpaaaDoor.whole

/- The digits of a text: whether there are any but digits; the document's own reading. -/
namespace Go.Proofs.YtgohkmdepjmpaaaDoor.whole
open Go.RowKit wm

def isD (c : UInt8) : Bool := decide (48 ≤ (c.toNat : Int) ∧ (c.toNat : Int) ≤ 57)
def digB (l : List UInt8) : Bool := !l.isEmpty && l.all isD

theorem take_snoc (s : ByteArray) (k : Nat) (h : k < s.size) : s.data.toList.take (k + 1) = s.data.toList.take k ++ [s[k]] := by
  rw [List.take_succ_eq_append_getElem (by simpa using h)]; rfl
theorem all_snoc (s : ByteArray) (k : Nat) (h : k < s.size) : (s.data.toList.take (k + 1)).all isD = ((s.data.toList.take k).all isD && isD s[k]) := by
  rw [take_snoc s k h, List.all_append]; simp
theorem not_all (s : ByteArray) (k : Nat) (h : k < s.size) (hd : isD s[k] = false) : digB s.data.toList = false := by
  unfold digB
  have : s.data.toList.all isD = false := by
    rw [List.all_eq_false]
    exact ⟨s[k], by simp [ByteArray.getElem_eq_getElem_data], by simp [hd]⟩
  rw [this, Bool.and_false]

theorem lt_256 (c : UInt8) : (c.toNat : Int) < 256 := by have := c.toNat_lt; omega

/-- what digits come to, bounded: the document's own way: the number so far, and whether it was too far already -/
def stepD (p : Int × Bool) (c : UInt8) : Int × Bool :=
  if p.2 = true ∨ 1000000000000000000 < p.1 then (p.1, true) else (10 * p.1 + ((c.toNat : Int) - 48), false)
def runD (l : List UInt8) : Int × Bool := l.foldl stepD (0, false)
theorem runD_snoc (l : List UInt8) (c : UInt8) : runD (l ++ [c]) = stepD (runD l) c := by
  unfold runD; rw [List.foldl_append]; rfl
theorem stepD_bd (p : Int × Bool) (c : UInt8) (hp : 0 ≤ p.1 ∧ p.1 ≤ 10000000000000000009) (hc : isD c = true) : 0 ≤ (stepD p c).1 ∧ (stepD p c).1 ≤ 10000000000000000009 := by
  unfold isD at hc; simp only [decide_eq_true_eq] at hc
  unfold stepD
  split
  · exact hp
  · rename_i hn
    simp only [not_or] at hn
    exact ⟨by show 0 ≤ 10 * _ + _; omega, by show 10 * _ + _ ≤ _; omega⟩
theorem foldD_bd : ∀ (l : List UInt8) (p : Int × Bool), 0 ≤ p.1 ∧ p.1 ≤ 10000000000000000009 → l.all isD = true → 0 ≤ (l.foldl stepD p).1 ∧ (l.foldl stepD p).1 ≤ 10000000000000000009
  | [], _, hp, _ => hp
  | c :: r, p, hp, h => by
    simp only [List.all_cons, Bool.and_eq_true] at h
    exact foldD_bd r _ (stepD_bd p c hp h.1) h.2
theorem runD_bd (l : List UInt8) (h : l.all isD = true) : 0 ≤ (runD l).1 ∧ (runD l).1 ≤ 10000000000000000009 := foldD_bd l _ ⟨by decide, by decide⟩ h
/-- what the document's Read answers: the number, and 0; or 0, and why -/
def readS (l : List UInt8) : Int × Int :=
  if digB l = true then (if (runD l).2 = true ∨ 9223372036854775808 ≤ (runD l).1 then (0, 2) else ((runD l).1, 0)) else (0, 1)

set_option maxHeartbeats 400000 in
theorem rread_any (s : ByteArray) (w : World) (hs : s.size ≤ maxLen) :
    Calls Tryd.prog 31 #[.string s] w fun e w' => e = ret2 (readS s.data.toList) ∧ ∃ n, w' = w.drewN n := by
  by_cases he : s.size = 0
  · have hd : Hid (readS s.data.toList = (0, 1)) := by
      have : s.data.toList = [] := List.eq_nil_of_length_eq_zero (by simpa using he)
      show _ = _
      rw [this]; rfl
    have hl : s.toList.isEmpty = true := by
      rw [Lib.toList_data, List.isEmpty_iff]; exact List.eq_nil_of_length_eq_zero (by simpa using he)
    clear he
    unfold maxLen at hs
    go_enter Tryd.func31, Tryd.ntmps31
    go_wp2
    go_ret2
    exact ⟨by rw [hd.out]; rfl, 0, rfl⟩
  · have hl : s.toList.isEmpty = false := by
      rw [Lib.toList_data, List.isEmpty_eq_false_iff]; intro h; apply he
      have := congrArg List.length h
      simpa using this
    clear he
    unfold maxLen at hs
    go_enter Tryd.func31, Tryd.ntmps31
    go_wp2
    go_loop [4, 5, 6] (fun n f i => ∃ (k : Nat) (m : Int) (b : Bool), k ≤ s.size ∧ i = .int .i64 k ∧ n = .int .u64 m ∧ f = .bool b ∧ Hid (runD (s.data.toList.take k) = (m, b)) ∧ Hid ((s.data.toList.take k).all isD = true)) (fun _ _ i => s.size - (intOf i).toNat)
    case atStart => exact ⟨0, 0, false, Nat.zero_le _, rfl, rfl, rfl, Lib.hid rfl, Lib.hid rfl⟩
    case round =>
      obtain ⟨k, m, b, hk, rfl, rfl, rfl, HR, HA⟩ := hrel
      have hm : 0 ≤ m ∧ m ≤ 10000000000000000009 := by
        have := runD_bd _ HA.out
        rw [HR.out] at this; exact this
      by_cases hlt : k < s.size
      · have hsn := Lib.hid (all_snoc s k hlt)
        have hno := Lib.hid (not_all s k hlt)
        have hrs : Hid (runD (s.data.toList.take (k + 1)) = stepD (m, b) s[k]) := by
          show _ = _
          rw [take_snoc s k hlt, runD_snoc, HR.out]
        have hbad : Hid (isD s[k] = false → readS s.data.toList = (0, 1)) := by
          intro h
          unfold readS; rw [hno.out h]; rfl
        by_cases h18 : 1000000000000000000 < m
        · go_wp2
          · go_ret2
            have hd : isD s[k] = false := by
              unfold isD; refine decide_eq_false (fun h => ?_)
              have : (s[k].toNat : Int) < 48 ∨ 57 < (s[k].toNat : Int) := by assumption
              omega
            exact ⟨by rw [hbad.out hd]; rfl, 0, rfl⟩
          · go_round
            case rel =>
              have hd : isD s[k] = true := by
                unfold isD; refine decide_eq_true ?_
                assumption
              exact ⟨k + 1, m, true, by omega, by go_num, rfl, rfl, Lib.hid (by rw [hrs.out]; unfold stepD; rw [if_pos (Or.inr h18)]), Lib.hid (by rw [hsn.out, HA.out, hd]; rfl)⟩
            case measure => simp [intOf]; omega
          · go_ret2
            have hd : isD s[k] = false := by
              unfold isD; refine decide_eq_false (fun h => ?_)
              have : (s[k].toNat : Int) < 48 := by assumption
              omega
            exact ⟨by rw [hbad.out hd]; rfl, 0, rfl⟩
        · cases b
          · go_wp2
            · go_ret2
              have hd : isD s[k] = false := by
                unfold isD; refine decide_eq_false (fun h => ?_)
                have : (s[k].toNat : Int) < 48 ∨ 57 < (s[k].toNat : Int) := by assumption
                omega
              exact ⟨by rw [hbad.out hd]; rfl, 0, rfl⟩
            · go_round
              case rel =>
                have hd : isD s[k] = true := by
                  unfold isD; refine decide_eq_true ?_
                  assumption
                exact ⟨k + 1, 10 * m + ((s[k].toNat : Int) - 48), false, by omega, by go_num, rfl, rfl, Lib.hid (by rw [hrs.out]; unfold stepD; rw [if_neg (by simp [h18])]), Lib.hid (by rw [hsn.out, HA.out, hd]; rfl)⟩
              case measure => simp [intOf]; omega
            · go_ret2
              have hd : isD s[k] = false := by
                unfold isD; refine decide_eq_false (fun h => ?_)
                have : (s[k].toNat : Int) < 48 := by assumption
                omega
              exact ⟨by rw [hbad.out hd]; rfl, 0, rfl⟩
          · go_wp2
            · go_ret2
              have hd : isD s[k] = false := by
                unfold isD; refine decide_eq_false (fun h => ?_)
                have : (s[k].toNat : Int) < 48 ∨ 57 < (s[k].toNat : Int) := by assumption
                omega
              exact ⟨by rw [hbad.out hd]; rfl, 0, rfl⟩
            · go_round
              case rel =>
                have hd : isD s[k] = true := by
                  unfold isD; refine decide_eq_true ?_
                  assumption
                exact ⟨k + 1, m, true, by omega, by go_num, rfl, rfl, Lib.hid (by rw [hrs.out]; unfold stepD; rw [if_pos (Or.inl rfl)]), Lib.hid (by rw [hsn.out, HA.out, hd]; rfl)⟩
              case measure => simp [intOf]; omega
            · go_ret2
              have hd : isD s[k] = false := by
                unfold isD; refine decide_eq_false (fun h => ?_)
                have : (s[k].toNat : Int) < 48 := by assumption
                omega
              exact ⟨by rw [hbad.out hd]; rfl, 0, rfl⟩
      · have hfin : Hid (readS s.data.toList = if b = true ∨ 9223372036854775808 ≤ m then (0, 2) else (m, 0)) := by
          show _ = _
          have h := HA.out
          have hr := HR.out
          rw [List.take_of_length_le (by simp; omega)] at h hr
          have hd : digB s.data.toList = true := by
            unfold digB; rw [h, Bool.and_true, ← Lib.toList_data, hl]; rfl
          unfold readS; rw [if_pos hd, hr]
        cases b
        · by_cases h63 : 9223372036854775808 ≤ m
          · go_wp2
            go_ret2
            exact ⟨by rw [hfin.out, if_pos (Or.inr h63)]; rfl, 0, rfl⟩
          · go_wp2
            go_ret2
            exact ⟨by rw [hfin.out, if_neg (by simp [h63])]; rfl, 0, rfl⟩
        · go_wp2
          go_ret2
          exact ⟨by rw [hfin.out, if_pos (Or.inl trivial)]; rfl, 0, rfl⟩
end Go.Proofs.YtgohkmdepjmpaaaDoor.whole

/- Numbers and their texts, as packages whole and the document write and read them, where strconv's variables hold what its initialisers lay. -/
import Derived.Test.YtnjcapenkoemlaaProg
import Derived.Test.YtnjcapenkoemlaaWholeMath
import Derived.WalkKit
import Derived.BigQuiet
import Derived.Deep.QuietTactic
import Derived.Lib.Hide
import Derived.LoopTactic
import Derived.Outline
import Derived.Lib.Strings
import Derived.WalkSmall
import Derived.Stop.LaidErr
import Derived.Lib.AppendIntMem
import Derived.Lib.ItoaLen
namespace Go.Proofs.Ytnjcapenkoemlaa.whole
open Go.RowKit wm

/-- what a pair of numbers is, as a call's end -/
abbrev ret2 (p : Int × Int) : Ending := .returned (.tuple #[.int .i64 p.1, .int .i64 p.2])
theorem below_grow {B : Nat} {w : World} (os : Array Obj) (hB : B ≤ w.heap.size) : Below B w (Sort.grow w os) := by
  refine ⟨rfl, rfl, rfl, ?_, fun k hk => ?_⟩
  · show w.heap.size ≤ (w.heap ++ os).size
    rw [Array.size_append]; omega
  · show (w.heap ++ os)[k]? = _
    rw [Array.getElem?_append_left (by omega)]



theorem big_neg (a : Int) (w : World) (h : a < 0) (h1 : -9223372036854775808 ≤ a) :
    Calls Try.prog 30 #[.int .i64 a] w fun e w' => e = .returned (.tuple #[.bool true, .int .u64 (-a)]) ∧ w = w' := by
  have H := Lib.hid (flip_neg a h h1)
  go_enter Try.func30, Try.ntmps30
  go_wp2
  go_ret2
  exact ⟨by rw [H.out]; rfl, rfl⟩
theorem big_pos (a : Int) (w : World) (h : 0 ≤ a) (h1 : a ≤ 9223372036854775807) :
    Calls Try.prog 30 #[.int .i64 a] w fun e w' => e = .returned (.tuple #[.bool false, .int .u64 a]) ∧ w = w' := by
  go_enter Try.func30, Try.ntmps30
  go_wp2
  go_ret2
  exact ⟨rfl, rfl⟩
/-- the digit k, as a byte -/
def dgB (k : Nat) : UInt8 := UInt8.ofNat (48 + k)
theorem dec_big {m : Nat} (h : 9 < m) : Lib.decDigits m = Lib.decDigits (m / 10) ++ [dgB (m % 10)] := by
  rw [Lib.decDigits, dif_neg (by omega)]; rfl
theorem dec_small {m : Nat} (h : ¬ 9 < m) : Lib.decDigits m = [dgB m] := by
  rw [Lib.decDigits, dif_pos (by omega)]; rfl
theorem cat_lists (a b : List UInt8) : (⟨a.toArray⟩ : ByteArray) ++ ⟨b.toArray⟩ = ⟨(a ++ b).toArray⟩ := by
  apply ByteArray.ext; simp
def tenDigits : ByteArray := { data := #[48, 49, 50, 51, 52, 53, 54, 55, 56, 57] }
theorem dig_fin : ∀ i : Fin 10, tenDigits.extract i.val (i.val + 1) = ⟨[UInt8.ofNat (48 + i.val)].toArray⟩ := by decide +kernel
/-- one digit out of ten -/
theorem dig_slice (d : Int) (k : Nat) (hk : d = k) (h : k < 10) (w : World) :
    (Instr.slice 9 (.string { data := #[48, 49, 50, 51, 52, 53, 54, 55, 56, 57] }) (some (.int .u64 d)) (some (.int .u64 (d + 1))) none).run Try.prog w = .ok (.string ⟨[dgB k].toArray⟩) w := by
  subst hk
  have e := run_slice_string (P := Try.prog) w 9 tenDigits .u64 .u64 (k : Int) ((k : Int) + 1) Try.underlying9 (by omega) (by omega) (by show _ ≤ ((10 : Nat) : Int); omega)
  have f := dig_fin ⟨k, h⟩
  simp only at f
  rw [show ((k : Int) + 1).toNat = k + 1 by omega, Int.toNat_natCast, f] at e
  exact e
theorem rest_len {m n : Nat} {l : List UInt8} (hn : n ≤ 9223372036854775808) (h : Lib.decDigits m ++ l = Lib.decDigits n) : l.length ≤ 21 := by
  have h1 := Lib.nDigits_le20 n (by omega)
  rw [← Lib.decDigits_length, ← h, List.length_append] at h1
  omega
/-- the end of the document's Text, from its loop on: of a number that is not below nought -/
theorem dec_step {m n : Nat} {l : List UInt8} (h9 : 9 < m) (h : Lib.decDigits m ++ l = Lib.decDigits n) : Lib.decDigits (m / 10) ++ (dgB (m % 10) :: l) = Lib.decDigits n := by
  rw [← h, dec_big h9, List.append_assoc]; rfl
theorem dec_last {m n : Nat} {l : List UInt8} (h9 : ¬ 9 < m) (h : Lib.decDigits m ++ l = Lib.decDigits n) : dgB m :: l = Lib.decDigits n := by
  rw [← h, dec_small h9]; rfl
set_option maxHeartbeats 400000 in
theorem rtext_pos (n : Nat) (w : World) (h : n ≤ 9223372036854775807) :
    Calls Try.prog 24 #[.int .i64 n] w fun e w' => e = .returned (.string ⟨(Lib.itoa n).toArray⟩) ∧ w' = w := by
  rw [Lib.itoa_nonneg]
  go_enter Try.func24, Try.ntmps24
  go_wp2_with (first | (go_at_call 30; refine (big_pos n _ (by omega) (by omega)).mono ?_; rintro e w1 ⟨rfl, rfl⟩))
  go_loop [4, 5] (fun a s => ∃ (m : Nat) (l : List UInt8), m ≤ 9223372036854775807 ∧ a = .int .u64 m ∧ s = .string ⟨l.toArray⟩ ∧ Hid (Lib.decDigits m ++ l = Lib.decDigits n)) (fun a _ => (intOf a).toNat)
  case atStart => exact ⟨n, [], by omega, rfl, rfl, Lib.hid (by simp)⟩
  case round =>
    obtain ⟨m, l, hm, rfl, rfl, HR⟩ := hrel
    have hlen := rest_len (by omega) HR.out
    by_cases h9 : 9 < m
    · have hsl := dig_slice ((m : Int) % 10) (m % 10) (by omega) (by omega)
      go_wp2
      go_round
      case rel => exact ⟨m / 10, dgB (m % 10) :: l, by omega, by go_num, congrArg Value.string (cat_lists [dgB (m % 10)] l), Lib.hid (dec_step h9 HR.out)⟩
      case measure => simp [intOf]; omega
    · have hsl := dig_slice (m : Int) m rfl (by omega)
      go_wp2
      go_ret
      exact ⟨by rw [← dec_last h9 HR.out]; exact congrArg (fun x => Ending.returned (Value.string x)) (cat_lists [dgB m] l), rfl⟩
set_option maxHeartbeats 400000 in
theorem rtext_neg (n : Nat) (w : World) (h : n ≤ 9223372036854775808) (h1 : 1 ≤ n) :
    Calls Try.prog 24 #[.int .i64 (-(n : Int))] w fun e w' => e = .returned (.string ⟨(Lib.itoa (-(n : Int))).toArray⟩) ∧ w' = w := by
  rw [Lib.itoa_neg n h1]
  go_enter Try.func24, Try.ntmps24
  go_wp2_with (first | (go_at_call 30; refine (big_neg _ _ (by omega) (by omega)).mono ?_; rintro e w1 ⟨rfl, rfl⟩))
  go_loop [4, 5] (fun a s => ∃ (m : Nat) (l : List UInt8), m ≤ 9223372036854775808 ∧ a = .int .u64 m ∧ s = .string ⟨l.toArray⟩ ∧ Hid (Lib.decDigits m ++ l = Lib.decDigits n)) (fun a _ => (intOf a).toNat)
  case atStart => exact ⟨n, [], by omega, by simp, rfl, Lib.hid (by simp)⟩
  case round =>
    obtain ⟨m, l, hm, rfl, rfl, HR⟩ := hrel
    have hlen := rest_len (by omega) HR.out
    by_cases h9 : 9 < m
    · have hsl := dig_slice ((m : Int) % 10) (m % 10) (by omega) (by omega)
      go_wp2
      go_round
      case rel => exact ⟨m / 10, dgB (m % 10) :: l, by omega, by go_num, congrArg Value.string (cat_lists [dgB (m % 10)] l), Lib.hid (dec_step h9 HR.out)⟩
      case measure => simp [intOf]; omega
    · have hsl := dig_slice (m : Int) m rfl (by omega)
      go_wp2
      go_ret
      exact ⟨by rw [← dec_last h9 HR.out]; exact congrArg (fun x => Ending.returned (Value.string x)) ((congrArg (fun x => (⟨[45].toArray⟩ : ByteArray) ++ x) (cat_lists [dgB m] l)).trans (cat_lists [45] (dgB m :: l))), rfl⟩
theorem rtext_any (a : Int) (w : World) (h : -9223372036854775808 ≤ a ∧ a ≤ 9223372036854775807) :
    Calls Try.prog 24 #[.int .i64 a] w fun e w' => e = .returned (.string ⟨(Lib.itoa a).toArray⟩) ∧ w' = w := by
  by_cases h0 : 0 ≤ a
  · obtain ⟨n, rfl⟩ := Int.eq_ofNat_of_zero_le h0
    exact rtext_pos n w (by omega)
  · obtain ⟨n, hn⟩ := Int.eq_ofNat_of_zero_le (show 0 ≤ -a by omega)
    obtain rfl : a = -(n : Int) := by omega
    exact rtext_neg n w (by omega) (by omega)
end Go.Proofs.Ytnjcapenkoemlaa.whole

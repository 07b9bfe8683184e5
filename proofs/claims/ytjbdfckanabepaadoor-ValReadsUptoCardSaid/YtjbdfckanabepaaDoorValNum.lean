/- Numbers and their texts, as packages whole and the document write and read them, where strconv's variables hold what its initialisers lay. -/
import Derived.Test.YtjbdfckanabepaaDoorProg
import Derived.Test.YtjbdfckanabepaaDoorShelf
import Derived.Test.YtjbdfckanabepaaDoorWholeMath
import Derived.WalkKit
import Derived.BigQuiet
import Derived.Deep.QuietTactic
import Derived.Lib.Hide
import Derived.LoopTactic
import Derived.Outline
import Derived.Lib.Strings
import Derived.WalkSmall
import Derived.Stop.LaidErr
import Derived.Lib.AppendIntMem
import Derived.Lib.ItoaLen
namespace Go.Proofs.YtjbdfckanabepaaDoor.whole
open Go.RowKit wm

/-- what a pair of numbers is, as a call's end -/
abbrev ret2 (p : Int × Int) : Ending := .returned (.tuple #[.int .i64 p.1, .int .i64 p.2])
/-- strconv's table and its two errors, in this world and in each that keeps what lies below B -/
def Laid (B : Nat) (w : World) : Prop :=
  Lib.TabBelow Tryd.prog B w "internal/strconv.uint64pow10" .u64 Lib.pow10Tab ∧
  (∃ tp p, ∀ w', Below B w w' → w'.var? Tryd.prog "strconv.ErrSyntax" = some #[.iface tp p]) ∧
  (∃ tp p, ∀ w', Below B w w' → w'.var? Tryd.prog "strconv.ErrRange" = some #[.iface tp p])
theorem Laid.on {B : Nat} {w w1 : World} (h : Laid B w) (hb : Below B w w1) : Laid B w1 := by
  obtain ⟨h1, ⟨t2, p2, h2⟩, t3, p3, h3⟩ := h
  exact ⟨h1.on hb, ⟨t2, p2, fun w' h => h2 w' (hb.trans h)⟩, t3, p3, fun w' h => h3 w' (hb.trans h)⟩

theorem below_grow {B : Nat} {w : World} (os : Array Obj) (hB : B ≤ w.heap.size) : Below B w (Sort.grow w os) := by
  refine ⟨rfl, rfl, rfl, ?_, fun k hk => ?_⟩
  · show w.heap.size ≤ (w.heap ++ os).size
    rw [Array.size_append]; omega
  · show (w.heap ++ os)[k]? = _
    rw [Array.getElem?_append_left (by omega)]

theorem text_any (B : Nat) (n : Int) (w : World) (hn : -9223372036854775808 ≤ n ∧ n ≤ 9223372036854775807) (hB : B ≤ w.heap.size) (hL : Laid B w) :
    Calls Tryd.prog 36 #[.int .i64 n] w fun e w' => e = .returned (.string ⟨(Lib.itoa n).toArray⟩) ∧ Below B w w' := by
  have ht := hL.1.here
  have hb : ∀ k os, Hid (Below B w (Sort.grow (w.drewN k) os)) := fun k os => (below_drewN (Below.refl _ _) k).trans (below_grow os hB)
  have HT := Lib.hid ht
  clear ht hL
  go_enter Tryd.func36, Tryd.ntmps36
  go_wp2_with (go_at_call 44; refine (Tryd.strconv_Itoa n hn.1 hn.2 _ HT.out).mono ?_; rintro e w' ⟨rfl, k, os, rfl⟩)
  go_ret
  exact ⟨rfl, hb _ _⟩

/-- what Signed answers -/
def signedS (l : List UInt8) : Int × Int :=
  match Lib.atoiAll l with
  | .ok v => if Lib.itoa v = l then (v, 0) else (0, 1)
  | _ => (0, 1)
theorem atoi_ok (B : Nat) (s : ByteArray) (v : Int) (w : World) (hs : s.size ≤ 281474976710656) (h : Lib.atoiAll s.data.toList = .ok v) (hB : B ≤ w.heap.size) :
    Calls Tryd.prog 62 #[.string s] w fun e w' => e = .returned (.tuple #[.int .i64 v, .nilIface]) ∧ Below B w w' :=
  (Tryd.strconv_Atoi_ok s (by omega) v h w).mono fun _ _ ⟨he, hw⟩ => by
    refine ⟨he, ?_⟩
    rcases hw with rfl | ⟨t, rfl⟩
    · exact Below.refl _ _
    · exact (Lib.bytesWorld_below _ _ _).mono hB
/-- the end of Atoi at a text that is no number, or one too far -/
def Bad (B : Nat) (w : World) (e : Ending) (w' : World) : Prop := ∃ (m : Int) (N : Nat), e = .returned (.tuple #[.int .i64 m, .iface 105 (.pointer (some ⟨N, 0, none⟩))]) ∧ Below B w w'
theorem atoi_bad (B : Nat) (s : ByteArray) (w : World) (hs : s.size ≤ 281474976710656) (h : ∀ v, Lib.atoiAll s.data.toList ≠ .ok v) (hB : B ≤ w.heap.size) (hL : Laid B w) :
    Calls Tryd.prog 62 #[.string s] w (Bad B w) := by
  obtain ⟨_, ⟨t2, p2, h2⟩, t3, p3, h3⟩ := hL
  cases ha : Lib.atoiAll s.data.toList
  · rename_i v; exact absurd ha (h v)
  · exact (Any.strconv_Atoi_syntax_var Tryd.laysC172 s hs ha t2 p2 w (h2 w (Below.refl _ _))).mono fun _ _ ⟨N, he, _, _, hb⟩ => ⟨_, N, he, hb.mono hB⟩
  · exact (Any.strconv_Atoi_range_var Tryd.laysC172 s hs ha t3 p3 w (h3 w (Below.refl _ _))).mono fun _ _ ⟨N, he, _, _, hb⟩ => ⟨_, N, he, hb.mono hB⟩
theorem signed_ok (B : Nat) (s : ByteArray) (v : Int) (w : World) (hs : s.size ≤ 281474976710656) (h : Lib.atoiAll s.data.toList = .ok v) (hB : B ≤ w.heap.size) (hL : Laid B w) :
    Calls Tryd.prog 55 #[.string s] w fun e w' => e = ret2 (signedS s.data.toList) ∧ Below B w w' := by
  have hv := Lib.atoiAll_bounds h
  have HA := Lib.hid (fun w => atoi_ok B s v w hs h)
  have HL := Lib.hid hL
  have HN : Hid ((!Lib.itoa v == s.toList) = true → signedS s.data.toList = (0, 1)) := by
    intro e
    rw [Lib.toList_data] at e
    unfold signedS; rw [h]; simp only
    rw [if_neg]; intro e2; rw [e2] at e; simp at e
  have HY : Hid ((!Lib.itoa v == s.toList) = false → signedS s.data.toList = (v, 0)) := by
    intro e
    rw [Lib.toList_data] at e
    unfold signedS; rw [h]; simp only
    rw [if_pos]; simpa using e
  clear h hL
  go_enter Tryd.func55, Tryd.ntmps55
  go_wp2_with (first | (go_at_call 62; refine (HA.out _ hB).mono ?_; rintro e w1 ⟨rfl, hb⟩) | (go_at_call 36; refine (text_any B _ _ hv (by have := hb.size; omega) (HL.out.on hb)).mono ?_; rintro e w2 ⟨rfl, hb2⟩))
  · go_ret2
    have e : (!Lib.itoa v == s.toList) = true := by assumption
    exact ⟨by rw [HN.out e]; rfl, hb.trans hb2⟩
  · go_ret2
    have e : (!Lib.itoa v == s.toList) = false := by assumption
    exact ⟨by rw [HY.out e]; rfl, hb.trans hb2⟩
theorem signed_bad (B : Nat) (s : ByteArray) (w : World) (hs : s.size ≤ 281474976710656) (h : ∀ v, Lib.atoiAll s.data.toList ≠ .ok v) (hB : B ≤ w.heap.size) (hL : Laid B w) :
    Calls Tryd.prog 55 #[.string s] w fun e w' => e = ret2 (0, 1) ∧ Below B w w' := by
  have HA := Lib.hid (atoi_bad B s w hs h hB hL)
  clear h hL
  go_enter Tryd.func55, Tryd.ntmps55
  go_wp2_with (first | (go_at_call 62; refine HA.out.mono ?_; rintro e w1 ⟨m, N, rfl, hb⟩))
  go_ret2
  exact ⟨rfl, hb⟩
/-- Signed, whatever the text. -/
theorem signed_any (B : Nat) (s : ByteArray) (w : World) (hs : s.size ≤ 281474976710656) (hB : B ≤ w.heap.size) (hL : Laid B w) :
    Calls Tryd.prog 55 #[.string s] w fun e w' => e = ret2 (signedS s.data.toList) ∧ Below B w w' := by
  by_cases h : ∃ v, Lib.atoiAll s.data.toList = .ok v
  · obtain ⟨v, h⟩ := h
    exact signed_ok B s v w hs h hB hL
  · have h' : ∀ v, Lib.atoiAll s.data.toList ≠ .ok v := fun v hv => h ⟨v, hv⟩
    have e : signedS s.data.toList = (0, 1) := by
      unfold signedS
      split
      · rename_i v hv; exact absurd hv (h' v)
      · rfl
    rw [e]
    exact signed_bad B s w hs h' hB hL

theorem big_neg (a : Int) (w : World) (h : a < 0) (h1 : -9223372036854775808 ≤ a) :
    Calls Tryd.prog 34 #[.int .i64 a] w fun e w' => e = .returned (.tuple #[.bool true, .int .u64 (-a)]) ∧ w = w' := by
  have H := Lib.hid (flip_neg a h h1)
  go_enter Tryd.func34, Tryd.ntmps34
  go_wp2
  go_ret2
  exact ⟨by rw [H.out]; rfl, rfl⟩
theorem big_pos (a : Int) (w : World) (h : 0 ≤ a) (h1 : a ≤ 9223372036854775807) :
    Calls Tryd.prog 34 #[.int .i64 a] w fun e w' => e = .returned (.tuple #[.bool false, .int .u64 a]) ∧ w = w' := by
  go_enter Tryd.func34, Tryd.ntmps34
  go_wp2
  go_ret2
  exact ⟨rfl, rfl⟩
/-- the digit k, as a byte -/
def dgB (k : Nat) : UInt8 := UInt8.ofNat (48 + k)
theorem dec_big {m : Nat} (h : 9 < m) : Lib.decDigits m = Lib.decDigits (m / 10) ++ [dgB (m % 10)] := by
  rw [Lib.decDigits, dif_neg (by omega)]; rfl
theorem dec_small {m : Nat} (h : ¬ 9 < m) : Lib.decDigits m = [dgB m] := by
  rw [Lib.decDigits, dif_pos (by omega)]; rfl
theorem cat_lists (a b : List UInt8) : (⟨a.toArray⟩ : ByteArray) ++ ⟨b.toArray⟩ = ⟨(a ++ b).toArray⟩ := by
  apply ByteArray.ext; simp
def tenDigits : ByteArray := { data := #[48, 49, 50, 51, 52, 53, 54, 55, 56, 57] }
theorem dig_fin : ∀ i : Fin 10, tenDigits.extract i.val (i.val + 1) = ⟨[UInt8.ofNat (48 + i.val)].toArray⟩ := by decide +kernel
/-- one digit out of ten -/
theorem dig_slice (d : Int) (k : Nat) (hk : d = k) (h : k < 10) (w : World) :
    (Instr.slice 9 (.string { data := #[48, 49, 50, 51, 52, 53, 54, 55, 56, 57] }) (some (.int .u64 d)) (some (.int .u64 (d + 1))) none).run Tryd.prog w = .ok (.string ⟨[dgB k].toArray⟩) w := by
  subst hk
  have e := run_slice_string (P := Tryd.prog) w 9 tenDigits .u64 .u64 (k : Int) ((k : Int) + 1) Tryd.underlying9 (by omega) (by omega) (by show _ ≤ ((10 : Nat) : Int); omega)
  have f := dig_fin ⟨k, h⟩
  simp only at f
  rw [show ((k : Int) + 1).toNat = k + 1 by omega, Int.toNat_natCast, f] at e
  exact e
theorem rest_len {m n : Nat} {l : List UInt8} (hn : n ≤ 9223372036854775808) (h : Lib.decDigits m ++ l = Lib.decDigits n) : l.length ≤ 21 := by
  have h1 := Lib.nDigits_le20 n (by omega)
  rw [← Lib.decDigits_length, ← h, List.length_append] at h1
  omega
/-- the end of the document's Text, from its loop on: of a number that is not below nought -/
theorem dec_step {m n : Nat} {l : List UInt8} (h9 : 9 < m) (h : Lib.decDigits m ++ l = Lib.decDigits n) : Lib.decDigits (m / 10) ++ (dgB (m % 10) :: l) = Lib.decDigits n := by
  rw [← h, dec_big h9, List.append_assoc]; rfl
theorem dec_last {m n : Nat} {l : List UInt8} (h9 : ¬ 9 < m) (h : Lib.decDigits m ++ l = Lib.decDigits n) : dgB m :: l = Lib.decDigits n := by
  rw [← h, dec_small h9]; rfl
set_option maxHeartbeats 400000 in
theorem rtext_pos (n : Nat) (w : World) (h : n ≤ 9223372036854775807) :
    Calls Tryd.prog 26 #[.int .i64 n] w fun e w' => e = .returned (.string ⟨(Lib.itoa n).toArray⟩) ∧ w' = w := by
  rw [Lib.itoa_nonneg]
  go_enter Tryd.func26, Tryd.ntmps26
  go_wp2_with (first | (go_at_call 34; refine (big_pos n _ (by omega) (by omega)).mono ?_; rintro e w1 ⟨rfl, rfl⟩))
  go_loop [4, 5] (fun a s => ∃ (m : Nat) (l : List UInt8), m ≤ 9223372036854775807 ∧ a = .int .u64 m ∧ s = .string ⟨l.toArray⟩ ∧ Hid (Lib.decDigits m ++ l = Lib.decDigits n)) (fun a _ => (intOf a).toNat)
  case atStart => exact ⟨n, [], by omega, rfl, rfl, Lib.hid (by simp)⟩
  case round =>
    obtain ⟨m, l, hm, rfl, rfl, HR⟩ := hrel
    have hlen := rest_len (by omega) HR.out
    by_cases h9 : 9 < m
    · have hsl := dig_slice ((m : Int) % 10) (m % 10) (by omega) (by omega)
      go_wp2
      go_round
      case rel => exact ⟨m / 10, dgB (m % 10) :: l, by omega, by go_num, congrArg Value.string (cat_lists [dgB (m % 10)] l), Lib.hid (dec_step h9 HR.out)⟩
      case measure => simp [intOf]; omega
    · have hsl := dig_slice (m : Int) m rfl (by omega)
      go_wp2
      go_ret
      exact ⟨by rw [← dec_last h9 HR.out]; exact congrArg (fun x => Ending.returned (Value.string x)) (cat_lists [dgB m] l), rfl⟩
set_option maxHeartbeats 400000 in
theorem rtext_neg (n : Nat) (w : World) (h : n ≤ 9223372036854775808) (h1 : 1 ≤ n) :
    Calls Tryd.prog 26 #[.int .i64 (-(n : Int))] w fun e w' => e = .returned (.string ⟨(Lib.itoa (-(n : Int))).toArray⟩) ∧ w' = w := by
  rw [Lib.itoa_neg n h1]
  go_enter Tryd.func26, Tryd.ntmps26
  go_wp2_with (first | (go_at_call 34; refine (big_neg _ _ (by omega) (by omega)).mono ?_; rintro e w1 ⟨rfl, rfl⟩))
  go_loop [4, 5] (fun a s => ∃ (m : Nat) (l : List UInt8), m ≤ 9223372036854775808 ∧ a = .int .u64 m ∧ s = .string ⟨l.toArray⟩ ∧ Hid (Lib.decDigits m ++ l = Lib.decDigits n)) (fun a _ => (intOf a).toNat)
  case atStart => exact ⟨n, [], by omega, by simp, rfl, Lib.hid (by simp)⟩
  case round =>
    obtain ⟨m, l, hm, rfl, rfl, HR⟩ := hrel
    have hlen := rest_len (by omega) HR.out
    by_cases h9 : 9 < m
    · have hsl := dig_slice ((m : Int) % 10) (m % 10) (by omega) (by omega)
      go_wp2
      go_round
      case rel => exact ⟨m / 10, dgB (m % 10) :: l, by omega, by go_num, congrArg Value.string (cat_lists [dgB (m % 10)] l), Lib.hid (dec_step h9 HR.out)⟩
      case measure => simp [intOf]; omega
    · have hsl := dig_slice (m : Int) m rfl (by omega)
      go_wp2
      go_ret
      exact ⟨by rw [← dec_last h9 HR.out]; exact congrArg (fun x => Ending.returned (Value.string x)) ((congrArg (fun x => (⟨[45].toArray⟩ : ByteArray) ++ x) (cat_lists [dgB m] l)).trans (cat_lists [45] (dgB m :: l))), rfl⟩
theorem rtext_any (a : Int) (w : World) (h : -9223372036854775808 ≤ a ∧ a ≤ 9223372036854775807) :
    Calls Tryd.prog 26 #[.int .i64 a] w fun e w' => e = .returned (.string ⟨(Lib.itoa a).toArray⟩) ∧ w' = w := by
  by_cases h0 : 0 ≤ a
  · obtain ⟨n, rfl⟩ := Int.eq_ofNat_of_zero_le h0
    exact rtext_pos n w (by omega)
  · obtain ⟨n, hn⟩ := Int.eq_ofNat_of_zero_le (show 0 ≤ -a by omega)
    obtain rfl : a = -(n : Int) := by omega
    exact rtext_neg n w (by omega) (by omega)
theorem parse_snoc : ∀ (l : List UInt8) (acc u : Nat) (c : UInt8), Lib.parseUint10 acc l = .ok u → Lib.parseUint10 acc (l ++ [c]) = Lib.parseUint10 u [c]
  | [], acc, u, c, h => by cases h; rfl
  | d :: r, acc, u, c, h => by
    rw [Lib.parseUint10] at h
    rw [List.cons_append, Lib.parseUint10]
    by_cases h1 : 48 ≤ d.toNat ∧ d.toNat ≤ 57
    · rw [if_pos h1] at h ⊢
      by_cases h2 : 1844674407370955162 ≤ acc
      · rw [if_pos h2] at h; cases h
      · rw [if_neg h2] at h ⊢
        by_cases h3 : 18446744073709551616 ≤ acc * 10 + (d.toNat - 48)
        · rw [if_pos h3] at h; cases h
        · rw [if_neg h3] at h ⊢
          exact parse_snoc r _ u c h
    · rw [if_neg h1] at h; cases h
theorem dgB_nat (k : Nat) (h : k < 10) : (dgB k).toNat = 48 + k := by
  unfold dgB; simp; omega
theorem parse_one (acc k : Nat) (h : k < 10) (ha : acc ≤ 922337203685477580) : Lib.parseUint10 acc [dgB k] = .ok (acc * 10 + k) := by
  have e := dgB_nat k h
  have p0 : 48 ≤ (dgB k).toNat ∧ (dgB k).toNat ≤ 57 := by omega
  have p1 : ¬ 1844674407370955162 ≤ acc := by omega
  have p2 : ¬ 18446744073709551616 ≤ acc * 10 + ((dgB k).toNat - 48) := by omega
  rw [Lib.parseUint10, if_pos p0, if_neg p1, if_neg p2, Lib.parseUint10, e]
  congr 1; omega
theorem parse_dec (u : Nat) : u ≤ 9223372036854775808 → Lib.parseUint10 0 (Lib.decDigits u) = .ok u := by
  induction u using Nat.strongRecOn with
  | _ u ih =>
    intro hu
    by_cases h : 9 < u
    · rw [dec_big h, parse_snoc _ _ _ _ (ih (u / 10) (by omega) (by omega)), parse_one _ _ (by omega) (by omega)]
      congr 1; omega
    · rw [dec_small h, parse_one _ _ (by omega) (by omega)]
      congr 1; omega
theorem dec_head (u : Nat) : ∃ c r, Lib.decDigits u = c :: r ∧ 48 ≤ c.toNat ∧ c.toNat ≤ 57 := by
  induction u using Nat.strongRecOn with
  | _ u ih =>
    by_cases h : 9 < u
    · obtain ⟨c, r, h1, h2⟩ := ih (u / 10) (by omega)
      exact ⟨c, r ++ [dgB (u % 10)], by rw [dec_big h, h1]; rfl, h2⟩
    · have := dgB_nat u (by omega)
      exact ⟨dgB u, [], dec_small h, by omega, by omega⟩
theorem mag_dec (u : Nat) (hu : u ≤ 9223372036854775808) : Lib.parseMag (Lib.decDigits u) = .ok u := by
  obtain ⟨c, r, h1, _⟩ := dec_head u
  unfold Lib.parseMag
  rw [if_neg (by rw [h1]; simp), parse_dec u hu]
theorem atoi_itoa (n : Int) (hn : -9223372036854775808 ≤ n ∧ n ≤ 9223372036854775807) : Lib.atoiAll (Lib.itoa n) = .ok n := by
  by_cases h0 : 0 ≤ n
  · obtain ⟨u, rfl⟩ := Int.eq_ofNat_of_zero_le h0
    rw [Lib.itoa_nonneg]
    have hm := mag_dec u (by omega)
    obtain ⟨c, r, h1, h2, h3⟩ := dec_head u
    rw [h1] at hm ⊢
    have n45 : ¬ c.toNat = 45 := by omega
    have n43 : ¬ (c.toNat = 43 ∨ c.toNat = 45) := by omega
    unfold Lib.atoiAll
    simp only
    rw [if_neg n43, hm]
    simp only [n45, if_false, not_false_eq_true, true_and, false_and]
    rw [if_neg (by omega)]
  · obtain ⟨u, hu⟩ := Int.eq_ofNat_of_zero_le (show 0 ≤ -n by omega)
    obtain rfl : n = -(u : Int) := by omega
    rw [Lib.itoa_neg u (by omega)]
    have hm := mag_dec u (by omega)
    unfold Lib.atoiAll
    have e45 : (45 : UInt8).toNat = 45 := rfl
    simp only [e45]
    rw [if_pos (Or.inr trivial), hm]
    simp only [not_true, false_and, if_false, true_and, if_true]
    rw [if_neg (by omega)]
theorem signed_itoa (n : Int) (hn : -9223372036854775808 ≤ n ∧ n ≤ 9223372036854775807) : signedS (Lib.itoa n) = (n, 0) := by
  unfold signedS; rw [atoi_itoa n hn]; simp
theorem signed_cases (l : List UInt8) : (∃ v, signedS l = (v, 0) ∧ Lib.itoa v = l ∧ -9223372036854775808 ≤ v ∧ v ≤ 9223372036854775807) ∨ signedS l = (0, 1) := by
  unfold signedS
  split
  · rename_i v hv
    have := Lib.atoiAll_bounds hv
    split
    · rename_i h; exact Or.inl ⟨v, rfl, h, this⟩
    · exact Or.inr rfl
  · exact Or.inr rfl
end Go.Proofs.YtjbdfckanabepaaDoor.whole

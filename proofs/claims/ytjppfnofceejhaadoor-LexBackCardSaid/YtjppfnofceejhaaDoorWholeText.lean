/- What package whole's functions between numbers and texts return, where strconv's variables hold what its initialisers lay. -/
import Derived.Test.YtjppfnofceejhaaDoorWholeRead
import Derived.Test.YtjppfnofceejhaaDoorShelf
import Derived.WalkSmall
import Derived.Stop.LaidErr
import Derived.Lib.AppendIntMem
namespace Go.Proofs.YtjppfnofceejhaaDoor.whole
open Go.RowKit wm

/-- strconv's table and its two errors, in this world and in each that keeps what lies below B -/
def Laid (B : Nat) (w : World) : Prop :=
  Lib.TabBelow Tryd.prog B w "internal/strconv.uint64pow10" .u64 Lib.pow10Tab ∧
  (∃ tp p, ∀ w', Below B w w' → w'.var? Tryd.prog "strconv.ErrSyntax" = some #[.iface tp p]) ∧
  (∃ tp p, ∀ w', Below B w w' → w'.var? Tryd.prog "strconv.ErrRange" = some #[.iface tp p])
theorem Laid.on {B : Nat} {w w1 : World} (h : Laid B w) (hb : Below B w w1) : Laid B w1 := by
  obtain ⟨h1, ⟨t2, p2, h2⟩, t3, p3, h3⟩ := h
  exact ⟨h1.on hb, ⟨t2, p2, fun w' h => h2 w' (hb.trans h)⟩, t3, p3, fun w' h => h3 w' (hb.trans h)⟩

theorem below_grow {B : Nat} {w : World} (os : Array Obj) (hB : B ≤ w.heap.size) : Below B w (Sort.grow w os) := by
  refine ⟨rfl, rfl, rfl, ?_, fun k hk => ?_⟩
  · show w.heap.size ≤ (w.heap ++ os).size
    rw [Array.size_append]; omega
  · show (w.heap ++ os)[k]? = _
    rw [Array.getElem?_append_left (by omega)]


/-- what Signed answers -/
def signedS (l : List UInt8) : Int × Int :=
  match Lib.atoiAll l with
  | .ok v => if Lib.itoa v = l then (v, 0) else (0, 1)
  | _ => (0, 1)
theorem atoi_ok (B : Nat) (s : ByteArray) (v : Int) (w : World) (hs : s.size ≤ 281474976710656) (h : Lib.atoiAll s.data.toList = .ok v) (hB : B ≤ w.heap.size) :
    Calls Tryd.prog 38 #[.string s] w fun e w' => e = .returned (.tuple #[.int .i64 v, .nilIface]) ∧ Below B w w' :=
  (Tryd.strconv_Atoi_ok s (by omega) v h w).mono fun _ _ ⟨he, hw⟩ => by
    refine ⟨he, ?_⟩
    rcases hw with rfl | ⟨t, rfl⟩
    · exact Below.refl _ _
    · exact (Lib.bytesWorld_below _ _ _).mono hB
/-- the end of Atoi at a text that is no number, or one too far -/
def Bad (B : Nat) (w : World) (e : Ending) (w' : World) : Prop := ∃ (m : Int) (N : Nat), e = .returned (.tuple #[.int .i64 m, .iface 68 (.pointer (some ⟨N, 0, none⟩))]) ∧ Below B w w'
theorem atoi_bad (B : Nat) (s : ByteArray) (w : World) (hs : s.size ≤ 281474976710656) (h : ∀ v, Lib.atoiAll s.data.toList ≠ .ok v) (hB : B ≤ w.heap.size) (hL : Laid B w) :
    Calls Tryd.prog 38 #[.string s] w (Bad B w) := by
  obtain ⟨_, ⟨t2, p2, h2⟩, t3, p3, h3⟩ := hL
  cases ha : Lib.atoiAll s.data.toList
  · rename_i v; exact absurd ha (h v)
  · exact (Any.strconv_Atoi_syntax_var Tryd.laysC172 s hs ha t2 p2 w (h2 w (Below.refl _ _))).mono fun _ _ ⟨N, he, _, _, hb⟩ => ⟨_, N, he, hb.mono hB⟩
  · exact (Any.strconv_Atoi_range_var Tryd.laysC172 s hs ha t3 p3 w (h3 w (Below.refl _ _))).mono fun _ _ ⟨N, he, _, _, hb⟩ => ⟨_, N, he, hb.mono hB⟩

/-! ### what Atoi and the document's reading of digits have to do with one another -/
theorem far_stays : ∀ (l : List UInt8) (m : Int), l.foldl stepD (m, true) = (m, true)
  | [], _ => rfl
  | c :: r, m => by
    have e : stepD (m, true) c = (m, true) := by unfold stepD; rw [if_pos (Or.inl rfl)]
    rw [List.foldl_cons, e]; exact far_stays r m
theorem parse_far (acc : Nat) (l : List UInt8) (h : 10000000000000000010 ≤ acc) (hl : l.all isD = true) :
    Lib.parseUint10 acc l = .range ∨ ∃ u, 9223372036854775808 ≤ u ∧ Lib.parseUint10 acc l = .ok u := by
  cases l with
  | nil => exact Or.inr ⟨acc, by omega, rfl⟩
  | cons c r =>
    left
    have hc : isD c = true := by simp only [List.all_cons, Bool.and_eq_true] at hl; exact hl.1
    unfold isD at hc; simp only [decide_eq_true_eq] at hc
    rw [Lib.parseUint10, if_pos (by omega), if_pos (by omega)]
theorem parse_run : ∀ (l : List UInt8) (acc : Nat), l.all isD = true → acc ≤ 10000000000000000009 →
    if (l.foldl stepD ((acc : Int), false)).2 = true ∨ 9223372036854775808 ≤ (l.foldl stepD ((acc : Int), false)).1
    then (Lib.parseUint10 acc l = .range ∨ ∃ u, 9223372036854775808 ≤ u ∧ Lib.parseUint10 acc l = .ok u)
    else ∃ u : Nat, Lib.parseUint10 acc l = .ok u ∧ (u : Int) = (l.foldl stepD ((acc : Int), false)).1
  | [], acc, _, _ => by
    show if false = true ∨ 9223372036854775808 ≤ (acc : Int) then _ else _
    split
    · rename_i h
      refine Or.inr ⟨acc, ?_, rfl⟩
      rcases h with h | h
      · cases h
      · omega
    · exact ⟨acc, rfl, rfl⟩
  | c :: r, acc, hl, ha => by
    simp only [List.all_cons, Bool.and_eq_true] at hl
    obtain ⟨hc, hr⟩ := hl
    have hc' : 48 ≤ c.toNat ∧ c.toNat ≤ 57 := by unfold isD at hc; simp only [decide_eq_true_eq] at hc; omega
    rw [List.foldl_cons]
    by_cases h18 : 1000000000000000000 < (acc : Int)
    · have e : stepD ((acc : Int), false) c = ((acc : Int), true) := by unfold stepD; rw [if_pos (Or.inr h18)]
      rw [e, far_stays, if_pos (Or.inl rfl), Lib.parseUint10, if_pos hc']
      by_cases h1 : 1844674407370955162 ≤ acc
      · rw [if_pos h1]; exact Or.inl rfl
      · rw [if_neg h1]
        by_cases h2 : 18446744073709551616 ≤ acc * 10 + (c.toNat - 48)
        · rw [if_pos h2]; exact Or.inl rfl
        · rw [if_neg h2]
          exact parse_far _ r (by omega) hr
    · have e : stepD ((acc : Int), false) c = (((acc * 10 + (c.toNat - 48) : Nat) : Int), false) := by
        unfold stepD; rw [if_neg (by simp; omega)]
        congr 1
        omega
      have p1 : ¬ 1844674407370955162 ≤ acc := by omega
      have p2 : ¬ 18446744073709551616 ≤ acc * 10 + (c.toNat - 48) := by omega
      rw [e, Lib.parseUint10, if_pos hc', if_neg p1, if_neg p2]
      exact parse_run r _ hr (by omega)
theorem atoi_run (l : List UInt8) (h : digB l = true) :
    if (runD l).2 = true ∨ 9223372036854775808 ≤ (runD l).1 then ∀ v, Lib.atoiAll l ≠ .ok v else Lib.atoiAll l = .ok (runD l).1 := by
  unfold digB at h
  rw [Bool.and_eq_true] at h
  obtain ⟨h1, h2⟩ := h
  cases l with
  | nil => cases h1
  | cons c r =>
    have hc : isD c = true := by simp only [List.all_cons, Bool.and_eq_true] at h2; exact h2.1
    have hc' : 48 ≤ c.toNat ∧ c.toNat ≤ 57 := by unfold isD at hc; simp only [decide_eq_true_eq] at hc; omega
    have hp := parse_run (c :: r) 0 h2 (by omega)
    have n45 : ¬ c.toNat = 45 := by omega
    have n43 : ¬ (c.toNat = 43 ∨ c.toNat = 45) := by omega
    have em : Lib.parseMag (c :: r) = Lib.parseUint10 0 (c :: r) := by unfold Lib.parseMag; rw [if_neg (by simp)]
    have eo : ∀ u, Lib.parseUint10 0 (c :: r) = .ok u → Lib.atoiAll (c :: r) = if 9223372036854775808 ≤ u then .range else .ok (u : Int) := by
      intro u hu
      unfold Lib.atoiAll
      simp only
      rw [if_neg n43, em, hu]
      simp only [n45, if_false, not_false_eq_true, true_and, false_and]
    have er : Lib.parseUint10 0 (c :: r) = .range → Lib.atoiAll (c :: r) = .range := by
      intro hu
      unfold Lib.atoiAll
      simp only
      rw [if_neg n43, em, hu]
    show if (List.foldl stepD (((0 : Nat) : Int), false) (c :: r)).2 = true ∨ _ ≤ (List.foldl stepD (((0 : Nat) : Int), false) (c :: r)).1 then _ else _ = Lib.NumEnd.ok (List.foldl stepD (((0 : Nat) : Int), false) (c :: r)).1
    split at hp
    · rename_i hh
      rw [if_pos hh]
      intro v
      rcases hp with hp | ⟨u, hu, hp⟩
      · rw [er hp]; intro hx; cases hx
      · rw [eo u hp, if_pos hu]; intro hx; cases hx
    · rename_i hh
      rw [if_neg hh]
      obtain ⟨u, hp, hu⟩ := hp
      rw [← hu] at hh ⊢
      rw [eo u hp, if_neg (by intro hx; apply hh; right; omega)]
/-- Read, whatever the text. -/
theorem read_any (B : Nat) (s : ByteArray) (w : World) (hs : s.size ≤ 281474976710656) (hB : B ≤ w.heap.size) (hL : Laid B w) :
    Calls Tryd.prog 30 #[.string s] w fun e w' => e = ret2 (readS s.data.toList) ∧ Below B w w' := by
  have hs' : s.size ≤ maxLen := by unfold maxLen; omega
  cases hd : digB s.data.toList
  · have HS : Hid (readS s.data.toList = (0, 1)) := by show _ = _; unfold readS; rw [hd]; rfl
    have HD := Lib.hid hd
    clear hd hL
    go_enter Tryd.func30, Tryd.ntmps30
    go_wp2_with (first | (go_at_call 37; refine (digits_any s _ hs').mono ?_; rintro e w1 ⟨rfl, rfl⟩; rw [HD.out]))
    go_ret2
    exact ⟨by rw [HS.out]; rfl, Below.refl _ _⟩
  · have hr := atoi_run _ hd
    have HD := Lib.hid hd
    by_cases hf : (runD s.data.toList).2 = true ∨ 9223372036854775808 ≤ (runD s.data.toList).1
    · rw [if_pos hf] at hr
      have HS : Hid (readS s.data.toList = (0, 2)) := by show _ = _; unfold readS; rw [if_pos hd, if_pos hf]
      have HA := Lib.hid (atoi_bad B s w hs hr hB hL)
      clear hd hL hf hr
      go_enter Tryd.func30, Tryd.ntmps30
      go_wp2_with (first | (go_at_call 37; refine (digits_any s _ hs').mono ?_; rintro e w1 ⟨rfl, rfl⟩; rw [HD.out]) | (go_at_call 38; refine HA.out.mono ?_; rintro e w1 ⟨m, N, rfl, hb⟩))
      go_ret2
      exact ⟨by rw [HS.out]; rfl, hb⟩
    · rw [if_neg hf] at hr
      have HS : Hid (readS s.data.toList = ((runD s.data.toList).1, 0)) := by show _ = _; unfold readS; rw [if_pos hd, if_neg hf]
      have HA := Lib.hid (atoi_ok B s _ w hs hr hB)
      clear hd hL hf hr
      go_enter Tryd.func30, Tryd.ntmps30
      go_wp2_with (first | (go_at_call 37; refine (digits_any s _ hs').mono ?_; rintro e w1 ⟨rfl, rfl⟩; rw [HD.out]) | (go_at_call 38; refine HA.out.mono ?_; rintro e w1 ⟨rfl, hb⟩))
      go_ret2
      exact ⟨by rw [HS.out]; rfl, hb⟩
end Go.Proofs.YtjppfnofceejhaaDoor.whole

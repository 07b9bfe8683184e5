/- The document's own line and column of a place. -/
import Derived.Test.YtoljheenijblmaaProg
import Derived.Test.YtoljheenijblmaaPlaceMath
import Derived.WalkKit
import Derived.LoopTactic
import Derived.Lib.Hide
import Derived.Lib.Strings
import Derived.Outline
namespace Go.Proofs.Ytoljheenijblmaa.place
open Go.RowKit pl

/-- a place, held within a text -/
def clampS (n : Nat) (off : Int) : Nat := min off.toNat n
theorem take_snoc (s : ByteArray) (k : Nat) (h : k < s.size) : s.data.toList.take (k + 1) = s.data.toList.take k ++ [s[k]] := by
  rw [List.take_succ_eq_append_getElem (by simpa using h)]; rfl
theorem is_ten {n : Nat} (h : ((n : Int) == 10) = true) : n = 10 := by rw [beq_iff_eq] at h; omega
theorem no_ten {n : Nat} (h : ((n : Int) == 10) = false) : ¬ n = 10 := by rw [beq_eq_false_iff_ne] at h; omega
theorem atS_take (s : ByteArray) (k : Nat) (h : k < s.size) : atS (s.data.toList.take (k + 1)) = stepA (atS (s.data.toList.take k)) s[k] := by rw [take_snoc s k h, atS_snoc]
theorem rat_in (s : ByteArray) (n : Nat) (w : World) (hs : s.size ≤ 281474976710656) (hn : n ≤ s.size) (off : Int) (h : (off < 0 ∧ n = 0) ∨ (0 ≤ off ∧ off ≤ s.size ∧ off = n) ∨ ((s.size : Int) < off ∧ n = s.size)) :
    Calls Try.prog 8 #[.string s, .int .i64 off] w fun e w' => e = .returned (.tuple #[.int .i64 (atS (s.data.toList.take n)).1, .int .i64 (atS (s.data.toList.take n)).2]) ∧ w = w' := by
  rcases h with ⟨h, rfl⟩ | ⟨h0, h1, rfl⟩ | ⟨h, rfl⟩
  · go_enter Try.func8, Try.ntmps8
    go_wp2
    refine wp_loop_rounds 1 ?_
    rw [rounds_succ]
    go_wp2
    go_ret2
    exact ⟨rfl, rfl⟩
  · go_enter Try.func8, Try.ntmps8
    go_wp2
    go_loop [6, 7, 8] (fun l c i => ∃ (k : Nat) (a b : Int), k ≤ n ∧ 1 ≤ a ∧ a ≤ 1 + s.size ∧ 1 ≤ b ∧ b ≤ 1 + s.size ∧ i = .int .i64 k ∧ l = .int .i64 a ∧ c = .int .i64 b ∧ Hid (atS (s.data.toList.take k) = (a, b))) (fun _ _ i => n - (intOf i).toNat)
    case atStart => exact ⟨0, 1, 1, by omega, by omega, by omega, by omega, by omega, rfl, rfl, rfl, Lib.hid rfl⟩
    case round =>
      obtain ⟨k, a, b, hk, ha1, ha2, hb1, hb2, rfl, rfl, rfl, HA⟩ := hrel
      by_cases hlt : k < n
      · have hks : k < s.size := by omega
        have hst := atS_take s k hks
        have hbd := atS_bd (s.data.toList.take (k + 1))
        have hlen : (s.data.toList.take (k + 1)).length ≤ s.size := by simp; omega
        rw [HA.out] at hst
        have HN : Hid (s[k].toNat = 10 → atS (s.data.toList.take (k + 1)) = (a + 1, 1)) := by
          intro h; rw [hst]; unfold stepA; rw [if_pos h]
        have HO : Hid (¬ s[k].toNat = 10 → atS (s.data.toList.take (k + 1)) = (a, b + 1)) := by
          intro h; rw [hst]; unfold stepA; rw [if_neg h]
        have HB := Lib.hid (And.intro hbd hlen)
        have hbk : b ≤ 1 + k := by
          have h := atS_bd (s.data.toList.take k)
          have h2 : (s.data.toList.take k).length ≤ k := List.length_take_le _ _
          rw [HA.out] at h; simp only at h; omega
        have hak : a ≤ 1 + k := by
          have h := atS_bd (s.data.toList.take k)
          have h2 : (s.data.toList.take k).length ≤ k := List.length_take_le _ _
          rw [HA.out] at h; simp only at h; omega
        clear hst hbd hlen
        go_wp2
        · go_round
          case rel =>
            have h10 : s[k].toNat = 10 := is_ten (by assumption)
            exact ⟨k + 1, a + 1, 1, by omega, by omega, by omega, by omega, by omega, by go_num, rfl, rfl, Lib.hid (HN.out h10)⟩
          case measure => simp [intOf]; omega
        · go_round
          case rel =>
            have h10 : ¬ s[k].toNat = 10 := no_ten (by assumption)
            exact ⟨k + 1, a, b + 1, by omega, by omega, by omega, by omega, by omega, by go_num, rfl, rfl, Lib.hid (HO.out h10)⟩
          case measure => simp [intOf]; omega
      · have hkn : Hid (k = n) := by show _ = _; omega
        go_wp2
        go_ret2
        exact ⟨by rw [← hkn.out, HA.out]; rfl, rfl⟩
  · go_enter Try.func8, Try.ntmps8
    go_wp2
    go_loop [6, 7, 8] (fun l c i => ∃ (k : Nat) (a b : Int), k ≤ s.size ∧ 1 ≤ a ∧ a ≤ 1 + s.size ∧ 1 ≤ b ∧ b ≤ 1 + s.size ∧ i = .int .i64 k ∧ l = .int .i64 a ∧ c = .int .i64 b ∧ Hid (atS (s.data.toList.take k) = (a, b))) (fun _ _ i => s.size - (intOf i).toNat)
    case atStart => exact ⟨0, 1, 1, by omega, by omega, by omega, by omega, by omega, rfl, rfl, rfl, Lib.hid rfl⟩
    case round =>
      obtain ⟨k, a, b, hk, ha1, ha2, hb1, hb2, rfl, rfl, rfl, HA⟩ := hrel
      by_cases hlt : k < s.size
      · have hks : k < s.size := by omega
        have hst := atS_take s k hks
        have hbd := atS_bd (s.data.toList.take (k + 1))
        have hlen : (s.data.toList.take (k + 1)).length ≤ s.size := by simp; omega
        rw [HA.out] at hst
        have HN : Hid (s[k].toNat = 10 → atS (s.data.toList.take (k + 1)) = (a + 1, 1)) := by
          intro h; rw [hst]; unfold stepA; rw [if_pos h]
        have HO : Hid (¬ s[k].toNat = 10 → atS (s.data.toList.take (k + 1)) = (a, b + 1)) := by
          intro h; rw [hst]; unfold stepA; rw [if_neg h]
        have HB := Lib.hid (And.intro hbd hlen)
        have hbk : b ≤ 1 + k := by
          have h := atS_bd (s.data.toList.take k)
          have h2 : (s.data.toList.take k).length ≤ k := List.length_take_le _ _
          rw [HA.out] at h; simp only at h; omega
        have hak : a ≤ 1 + k := by
          have h := atS_bd (s.data.toList.take k)
          have h2 : (s.data.toList.take k).length ≤ k := List.length_take_le _ _
          rw [HA.out] at h; simp only at h; omega
        clear hst hbd hlen
        go_wp2
        · go_round
          case rel =>
            have h10 : s[k].toNat = 10 := is_ten (by assumption)
            exact ⟨k + 1, a + 1, 1, by omega, by omega, by omega, by omega, by omega, by go_num, rfl, rfl, Lib.hid (HN.out h10)⟩
          case measure => simp [intOf]; omega
        · go_round
          case rel =>
            have h10 : ¬ s[k].toNat = 10 := no_ten (by assumption)
            exact ⟨k + 1, a, b + 1, by omega, by omega, by omega, by omega, by omega, by go_num, rfl, rfl, Lib.hid (HO.out h10)⟩
          case measure => simp [intOf]; omega
      · have hkn : Hid (k = s.size) := by show _ = _; omega
        go_wp2
        go_ret2
        exact ⟨by rw [← hkn.out, HA.out]; rfl, rfl⟩
/-- The document's At, whatever the place. -/
theorem rat_any (s : ByteArray) (off : Int) (w : World) (hs : s.size ≤ 281474976710656) :
    Calls Try.prog 8 #[.string s, .int .i64 off] w fun e w' => e = .returned (.tuple #[.int .i64 (atS (s.data.toList.take (clampS s.size off))).1, .int .i64 (atS (s.data.toList.take (clampS s.size off))).2]) ∧ w = w' :=
  rat_in s _ w hs (by unfold clampS; omega) off (by unfold clampS; omega)
end Go.Proofs.Ytoljheenijblmaa.place

/- The digits of a text: whether there are any but digits; the document's own reading. -/
import Derived.Test.YtjppfnofceejhaaDoorWholeWalks
import Derived.LoopTactic
import Derived.Outline
import Derived.Lib.Strings
namespace Go.Proofs.YtjppfnofceejhaaDoor.whole
open Go.RowKit wm

def isD (c : UInt8) : Bool := decide (48 ≤ (c.toNat : Int) ∧ (c.toNat : Int) ≤ 57)
def digB (l : List UInt8) : Bool := !l.isEmpty && l.all isD

theorem take_snoc (s : ByteArray) (k : Nat) (h : k < s.size) : s.data.toList.take (k + 1) = s.data.toList.take k ++ [s[k]] := by
  rw [List.take_succ_eq_append_getElem (by simpa using h)]; rfl
theorem all_snoc (s : ByteArray) (k : Nat) (h : k < s.size) : (s.data.toList.take (k + 1)).all isD = ((s.data.toList.take k).all isD && isD s[k]) := by
  rw [take_snoc s k h, List.all_append]; simp
theorem not_all (s : ByteArray) (k : Nat) (h : k < s.size) (hd : isD s[k] = false) : digB s.data.toList = false := by
  unfold digB
  have : s.data.toList.all isD = false := by
    rw [List.all_eq_false]
    exact ⟨s[k], by simp [ByteArray.getElem_eq_getElem_data], by simp [hd]⟩
  rw [this, Bool.and_false]

theorem lt_256 (c : UInt8) : (c.toNat : Int) < 256 := by have := c.toNat_lt; omega
set_option maxHeartbeats 400000 in
theorem digits_any (s : ByteArray) (w : World) (hs : s.size ≤ maxLen) :
    Calls Tryd.prog 37 #[.string s] w fun e w' => e = .returned (.bool (digB s.data.toList)) ∧ w = w' := by
  unfold maxLen at hs
  go_enter Tryd.func37, Tryd.ntmps37
  go_wp2
  go_loop [6] (fun i => ∃ k : Nat, k ≤ s.size ∧ i = .int .i64 k ∧ (s.data.toList.take k).all isD = true) (fun i => s.size - (intOf i).toNat)
  case atStart => exact ⟨0, Nat.zero_le _, rfl, rfl⟩
  case round =>
    obtain ⟨k, hk, rfl, hall⟩ := hrel
    have HA := Lib.hid hall
    clear hall
    by_cases hlt : k < s.size
    · have hsn := Lib.hid (all_snoc s k hlt)
      have hno := Lib.hid (not_all s k hlt)
      by_cases h1 : 48 ≤ (s[k].toNat : Int)
      · go_wp2
        · go_ret
          have hd : isD s[k] = false := by
            unfold isD; refine decide_eq_false (fun h => ?_)
            have : (s[k].toNat : Int) < 48 ∨ 57 < (s[k].toNat : Int) := by assumption
            omega
          exact ⟨by rw [hno.out hd]; rfl, rfl⟩
        · go_round
          case rel =>
            have hd : isD s[k] = true := by
              unfold isD; refine decide_eq_true ?_
              assumption
            exact ⟨k + 1, by omega, by go_num, by rw [hsn.out, HA.out, hd]; rfl⟩
          case measure => simp [intOf]; omega
      · go_wp2
        go_ret
        have hd : isD s[k] = false := by unfold isD; exact decide_eq_false (fun h => by omega)
        exact ⟨by rw [hno.out hd]; rfl, rfl⟩
    · have hfin : Hid ((!s.toList.isEmpty) = digB s.data.toList) := by
        show _ = _
        have h := HA.out
        rw [List.take_of_length_le (by simp; omega)] at h
        unfold digB; rw [h, Bool.and_true, Lib.toList_data]
      go_wp2
      go_ret
      exact ⟨by rw [← hfin.out]; rfl, rfl⟩

/-- what digits come to, bounded: the document's own way: the number so far, and whether it was too far already -/
def stepD (p : Int × Bool) (c : UInt8) : Int × Bool :=
  if p.2 = true ∨ 1000000000000000000 < p.1 then (p.1, true) else (10 * p.1 + ((c.toNat : Int) - 48), false)
def runD (l : List UInt8) : Int × Bool := l.foldl stepD (0, false)
theorem runD_snoc (l : List UInt8) (c : UInt8) : runD (l ++ [c]) = stepD (runD l) c := by
  unfold runD; rw [List.foldl_append]; rfl
theorem stepD_bd (p : Int × Bool) (c : UInt8) (hp : 0 ≤ p.1 ∧ p.1 ≤ 10000000000000000009) (hc : isD c = true) : 0 ≤ (stepD p c).1 ∧ (stepD p c).1 ≤ 10000000000000000009 := by
  unfold isD at hc; simp only [decide_eq_true_eq] at hc
  unfold stepD
  split
  · exact hp
  · rename_i hn
    simp only [not_or] at hn
    exact ⟨by show 0 ≤ 10 * _ + _; omega, by show 10 * _ + _ ≤ _; omega⟩
theorem foldD_bd : ∀ (l : List UInt8) (p : Int × Bool), 0 ≤ p.1 ∧ p.1 ≤ 10000000000000000009 → l.all isD = true → 0 ≤ (l.foldl stepD p).1 ∧ (l.foldl stepD p).1 ≤ 10000000000000000009
  | [], _, hp, _ => hp
  | c :: r, p, hp, h => by
    simp only [List.all_cons, Bool.and_eq_true] at h
    exact foldD_bd r _ (stepD_bd p c hp h.1) h.2
theorem runD_bd (l : List UInt8) (h : l.all isD = true) : 0 ≤ (runD l).1 ∧ (runD l).1 ≤ 10000000000000000009 := foldD_bd l _ ⟨by decide, by decide⟩ h
/-- what the document's Read answers: the number, and 0; or 0, and why -/
def readS (l : List UInt8) : Int × Int :=
  if digB l = true then (if (runD l).2 = true ∨ 9223372036854775808 ≤ (runD l).1 then (0, 2) else ((runD l).1, 0)) else (0, 1)

set_option maxHeartbeats 400000 in
theorem rread_any (s : ByteArray) (w : World) (hs : s.size ≤ maxLen) :
    Calls Tryd.prog 25 #[.string s] w fun e w' => e = ret2 (readS s.data.toList) ∧ ∃ n, w' = w.drewN n := by
  by_cases he : s.size = 0
  · have hd : Hid (readS s.data.toList = (0, 1)) := by
      have : s.data.toList = [] := List.eq_nil_of_length_eq_zero (by simpa using he)
      show _ = _
      rw [this]; rfl
    have hl : s.toList.isEmpty = true := by
      rw [Lib.toList_data, List.isEmpty_iff]; exact List.eq_nil_of_length_eq_zero (by simpa using he)
    clear he
    unfold maxLen at hs
    go_enter Tryd.func25, Tryd.ntmps25
    go_wp2
    go_ret2
    exact ⟨by rw [hd.out]; rfl, 0, rfl⟩
  · have hl : s.toList.isEmpty = false := by
      rw [Lib.toList_data, List.isEmpty_eq_false_iff]; intro h; apply he
      have := congrArg List.length h
      simpa using this
    clear he
    unfold maxLen at hs
    go_enter Tryd.func25, Tryd.ntmps25
    go_wp2
    go_loop [4, 5, 6] (fun n f i => ∃ (k : Nat) (m : Int) (b : Bool), k ≤ s.size ∧ i = .int .i64 k ∧ n = .int .u64 m ∧ f = .bool b ∧ Hid (runD (s.data.toList.take k) = (m, b)) ∧ Hid ((s.data.toList.take k).all isD = true)) (fun _ _ i => s.size - (intOf i).toNat)
    case atStart => exact ⟨0, 0, false, Nat.zero_le _, rfl, rfl, rfl, Lib.hid rfl, Lib.hid rfl⟩
    case round =>
      obtain ⟨k, m, b, hk, rfl, rfl, rfl, HR, HA⟩ := hrel
      have hm : 0 ≤ m ∧ m ≤ 10000000000000000009 := by
        have := runD_bd _ HA.out
        rw [HR.out] at this; exact this
      by_cases hlt : k < s.size
      · have hsn := Lib.hid (all_snoc s k hlt)
        have hno := Lib.hid (not_all s k hlt)
        have hrs : Hid (runD (s.data.toList.take (k + 1)) = stepD (m, b) s[k]) := by
          show _ = _
          rw [take_snoc s k hlt, runD_snoc, HR.out]
        have hbad : Hid (isD s[k] = false → readS s.data.toList = (0, 1)) := by
          intro h
          unfold readS; rw [hno.out h]; rfl
        by_cases h18 : 1000000000000000000 < m
        · go_wp2
          · go_ret2
            have hd : isD s[k] = false := by
              unfold isD; refine decide_eq_false (fun h => ?_)
              have : (s[k].toNat : Int) < 48 ∨ 57 < (s[k].toNat : Int) := by assumption
              omega
            exact ⟨by rw [hbad.out hd]; rfl, 0, rfl⟩
          · go_round
            case rel =>
              have hd : isD s[k] = true := by
                unfold isD; refine decide_eq_true ?_
                assumption
              exact ⟨k + 1, m, true, by omega, by go_num, rfl, rfl, Lib.hid (by rw [hrs.out]; unfold stepD; rw [if_pos (Or.inr h18)]), Lib.hid (by rw [hsn.out, HA.out, hd]; rfl)⟩
            case measure => simp [intOf]; omega
          · go_ret2
            have hd : isD s[k] = false := by
              unfold isD; refine decide_eq_false (fun h => ?_)
              have : (s[k].toNat : Int) < 48 := by assumption
              omega
            exact ⟨by rw [hbad.out hd]; rfl, 0, rfl⟩
        · cases b
          · go_wp2
            · go_ret2
              have hd : isD s[k] = false := by
                unfold isD; refine decide_eq_false (fun h => ?_)
                have : (s[k].toNat : Int) < 48 ∨ 57 < (s[k].toNat : Int) := by assumption
                omega
              exact ⟨by rw [hbad.out hd]; rfl, 0, rfl⟩
            · go_round
              case rel =>
                have hd : isD s[k] = true := by
                  unfold isD; refine decide_eq_true ?_
                  assumption
                exact ⟨k + 1, 10 * m + ((s[k].toNat : Int) - 48), false, by omega, by go_num, rfl, rfl, Lib.hid (by rw [hrs.out]; unfold stepD; rw [if_neg (by simp [h18])]), Lib.hid (by rw [hsn.out, HA.out, hd]; rfl)⟩
              case measure => simp [intOf]; omega
            · go_ret2
              have hd : isD s[k] = false := by
                unfold isD; refine decide_eq_false (fun h => ?_)
                have : (s[k].toNat : Int) < 48 := by assumption
                omega
              exact ⟨by rw [hbad.out hd]; rfl, 0, rfl⟩
          · go_wp2
            · go_ret2
              have hd : isD s[k] = false := by
                unfold isD; refine decide_eq_false (fun h => ?_)
                have : (s[k].toNat : Int) < 48 ∨ 57 < (s[k].toNat : Int) := by assumption
                omega
              exact ⟨by rw [hbad.out hd]; rfl, 0, rfl⟩
            · go_round
              case rel =>
                have hd : isD s[k] = true := by
                  unfold isD; refine decide_eq_true ?_
                  assumption
                exact ⟨k + 1, m, true, by omega, by go_num, rfl, rfl, Lib.hid (by rw [hrs.out]; unfold stepD; rw [if_pos (Or.inl rfl)]), Lib.hid (by rw [hsn.out, HA.out, hd]; rfl)⟩
              case measure => simp [intOf]; omega
            · go_ret2
              have hd : isD s[k] = false := by
                unfold isD; refine decide_eq_false (fun h => ?_)
                have : (s[k].toNat : Int) < 48 := by assumption
                omega
              exact ⟨by rw [hbad.out hd]; rfl, 0, rfl⟩
      · have hfin : Hid (readS s.data.toList = if b = true ∨ 9223372036854775808 ≤ m then (0, 2) else (m, 0)) := by
          show _ = _
          have h := HA.out
          have hr := HR.out
          rw [List.take_of_length_le (by simp; omega)] at h hr
          have hd : digB s.data.toList = true := by
            unfold digB; rw [h, Bool.and_true, ← Lib.toList_data, hl]; rfl
          unfold readS; rw [if_pos hd, hr]
        cases b
        · by_cases h63 : 9223372036854775808 ≤ m
          · go_wp2
            go_ret2
            exact ⟨by rw [hfin.out, if_pos (Or.inr h63)]; rfl, 0, rfl⟩
          · go_wp2
            go_ret2
            exact ⟨by rw [hfin.out, if_neg (by simp [h63])]; rfl, 0, rfl⟩
        · go_wp2
          go_ret2
          exact ⟨by rw [hfin.out, if_pos (Or.inl trivial)]; rfl, 0, rfl⟩
end Go.Proofs.YtjppfnofceejhaaDoor.whole

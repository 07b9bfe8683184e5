/- What Holds returns, for every sign. -/
import Derived.Test.YtbbhakedmjfdgaaDoorWholeWalks
namespace Go.Proofs.YtbbhakedmjfdgaaDoor.whole
open Go.RowKit wm

def holdsS (s a b : Int) : Bool :=
  if s = 6 then a == b else if s = 7 then a != b else if s = 8 then decide (a < b) else if s = 9 then decide (a ≤ b)
  else if s = 10 then decide (b < a) else if s = 11 then decide (b ≤ a) else false

theorem holds_same (a b : Int) (w : World) : Calls Tryd.prog 10 #[.int .i64 6, .int .i64 a, .int .i64 b] w fun e w' => e = .returned (.bool (a == b)) ∧ w = w' := by
  go_enter Tryd.func10, Tryd.ntmps10
  go_wp2
  go_ret
  exact ⟨rfl, rfl⟩
theorem holds_apart (a b : Int) (w : World) : Calls Tryd.prog 10 #[.int .i64 7, .int .i64 a, .int .i64 b] w fun e w' => e = .returned (.bool (a != b)) ∧ w = w' := by
  go_enter Tryd.func10, Tryd.ntmps10
  go_wp2
  go_ret
  exact ⟨rfl, rfl⟩
theorem holds_less (a b : Int) (w : World) : Calls Tryd.prog 10 #[.int .i64 8, .int .i64 a, .int .i64 b] w fun e w' => e = .returned (.bool (decide (a < b))) ∧ w = w' := by
  go_enter Tryd.func10, Tryd.ntmps10
  go_wp2
  go_ret
  exact ⟨rfl, rfl⟩
theorem holds_most (a b : Int) (w : World) : Calls Tryd.prog 10 #[.int .i64 9, .int .i64 a, .int .i64 b] w fun e w' => e = .returned (.bool (decide (a ≤ b))) ∧ w = w' := by
  go_enter Tryd.func10, Tryd.ntmps10
  go_wp2
  go_ret
  exact ⟨rfl, rfl⟩
theorem holds_more (a b : Int) (w : World) : Calls Tryd.prog 10 #[.int .i64 10, .int .i64 a, .int .i64 b] w fun e w' => e = .returned (.bool (decide (b < a))) ∧ w = w' := by
  go_enter Tryd.func10, Tryd.ntmps10
  go_wp2
  go_ret
  exact ⟨rfl, rfl⟩
theorem holds_least (a b : Int) (w : World) : Calls Tryd.prog 10 #[.int .i64 11, .int .i64 a, .int .i64 b] w fun e w' => e = .returned (.bool (decide (b ≤ a))) ∧ w = w' := by
  go_enter Tryd.func10, Tryd.ntmps10
  go_wp2
  go_ret
  exact ⟨rfl, rfl⟩
theorem holds_else (s a b : Int) (w : World) (h : s < 6 ∨ 11 < s) : Calls Tryd.prog 10 #[.int .i64 s, .int .i64 a, .int .i64 b] w fun e w' => e = .returned (.bool false) ∧ w = w' := by
  have e1 : (s == 6) = false := by rw [beq_eq_false_iff_ne]; omega
  have e2 : (s == 7) = false := by rw [beq_eq_false_iff_ne]; omega
  have e3 : (s == 8) = false := by rw [beq_eq_false_iff_ne]; omega
  have e4 : (s == 9) = false := by rw [beq_eq_false_iff_ne]; omega
  have e5 : (s == 10) = false := by rw [beq_eq_false_iff_ne]; omega
  have e6 : (s == 11) = false := by rw [beq_eq_false_iff_ne]; omega
  clear h
  go_enter Tryd.func10, Tryd.ntmps10
  go_wp2
  go_ret
  exact ⟨rfl, rfl⟩
theorem holds_any (s a b : Int) (w : World) : Calls Tryd.prog 10 #[.int .i64 s, .int .i64 a, .int .i64 b] w fun e w' => e = .returned (.bool (holdsS s a b)) ∧ w = w' := by
  by_cases h : s < 6 ∨ 11 < s
  · have e : holdsS s a b = false := by
      unfold holdsS
      rw [if_neg (by omega), if_neg (by omega), if_neg (by omega), if_neg (by omega), if_neg (by omega), if_neg (by omega)]
    rw [e]; exact holds_else s a b w h
  · have : s = 6 ∨ s = 7 ∨ s = 8 ∨ s = 9 ∨ s = 10 ∨ s = 11 := by omega
    rcases this with rfl | rfl | rfl | rfl | rfl | rfl
    · exact holds_same a b w
    · exact holds_apart a b w
    · exact holds_less a b w
    · exact holds_most a b w
    · exact holds_more a b w
    · exact holds_least a b w
end Go.Proofs.YtbbhakedmjfdgaaDoor.whole

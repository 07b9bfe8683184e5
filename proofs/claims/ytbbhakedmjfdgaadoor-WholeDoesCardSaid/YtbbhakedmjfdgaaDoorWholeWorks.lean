/- The head of each statement of layer 1 holds: what the document's examples say of package whole. -/
import Derived.Test.YtbbhakedmjfdgaaDoorWholeRefDiv
import Derived.Test.YtbbhakedmjfdgaaDoorWholeHolds
import Derived.Test.YtbbhakedmjfdgaaDoorWholeText
namespace Go.Proofs.YtbbhakedmjfdgaaDoor.whole
open Go.RowKit wm

/-- the worlds that keep what lies below B -/
def Up (B : Nat) (w : World) : World → Prop := fun w' => Below B w w'
theorem text_m5 (B : Nat) (w : World) (hB : B ≤ w.heap.size) (hL : Laid B w) :
    Calls Tryd.prog 11 #[.int .i64 (-5)] w fun e w' => e = .returned (.string { data := #[45, 53] }) ∧ Below B w w' := by
  have e : (⟨(Lib.itoa (-5)).toArray⟩ : ByteArray) = { data := #[45, 53] } := by decide +kernel
  have h := text_any B (-5) w (by omega) hB hL
  rw [e] at h
  exact h
theorem works_any (B : Nat) (w : World) (hB : B ≤ w.heap.size) (hL : Laid B w) :
    Calls Tryd.prog 9 #[] w fun e w' => e = .returned (.bool true) ∧ Below B w w' := by
  have d1 : doS 4 (-7) 2 = (-3, 0) := by decide
  have d2 : doS 5 (-7) 2 = (-1, 0) := by decide
  have d3 : doS 1 9223372036854775807 1 = (0, 2) := by decide
  have d4 : readS ({ data := #[48, 52, 50] } : ByteArray).data.toList = (42, 0) := by decide
  have c1 := Lib.hid (fun w => do_over (-7) 2 w (by omega) (by omega))
  have c2 := Lib.hid (fun w => do_rest (-7) 2 w (by omega))
  have c3 := Lib.hid (fun w => do_plus 9223372036854775807 1 w (by omega) (by omega))
  have c4 := Lib.hid (read_any B { data := #[48, 52, 50] } w (by decide) hB hL)
  rw [d1] at c1
  rw [d2] at c2
  rw [d3] at c3
  rw [d4] at c4
  clear d1 d2 d3 d4
  have HL := Lib.hid hL
  clear hL
  go_enter Tryd.func9, Tryd.ntmps9
  go_wp2_with (fail)
  refine (c1.out _).mono ?_
  rintro e w1 ⟨rfl, rfl⟩
  go_wp2_with (fail)
  refine (c2.out _).mono ?_
  rintro e w1 ⟨rfl, rfl⟩
  go_wp2_with (fail)
  refine (c3.out _).mono ?_
  rintro e w1 ⟨rfl, rfl⟩
  go_wp2_with (fail)
  refine c4.out.mono ?_
  rintro e w1 ⟨rfl, hb⟩
  go_wp2_with (fail)
  refine (text_m5 B _ (by have := hb.size; omega) (HL.out.on hb)).mono ?_
  rintro e w2 ⟨rfl, hb2⟩
  go_wp2_with (go_at_call 10; refine (holds_most 2 2 _).mono ?_; rintro e w' ⟨rfl, rfl⟩)
  go_ret
  exact ⟨rfl, hb.trans hb2⟩
end Go.Proofs.YtbbhakedmjfdgaaDoor.whole

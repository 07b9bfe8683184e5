/- WholeDoes, walked: it returns true, and of what was there nothing has turned. -/
import Derived.Test.YtbbhakedmjfdgaaDoorWholeWorks
namespace Go.Proofs.YtbbhakedmjfdgaaDoor.whole
open Go.RowKit wm

theorem does_any (B : Nat) (s a b : Int) (w : World) (ha : -9223372036854775808 ≤ a ∧ a ≤ 9223372036854775807) (hb : -9223372036854775808 ≤ b ∧ b ≤ 9223372036854775807) (hB : B ≤ w.heap.size) (hL : Laid B w) :
    Calls Tryd.prog 3 #[.int .i64 s, .int .i64 a, .int .i64 b] w fun e w' => e = .returned (.bool true) ∧ Below B w w' := by
  have HL := Lib.hid hL
  clear hL
  go_enter Tryd.func3, Tryd.ntmps3
  go_wp2_with (fail)
  refine (do_any s a b _ ha hb).mono ?_
  rintro e w1 ⟨rfl, rfl⟩
  go_wp2_with (fail)
  refine (rdo_any s a b _ ha hb).mono ?_
  rintro e w1 ⟨rfl, n1, rfl⟩
  go_wp2_with (fail)
  refine (neg_any a _ ha).mono ?_
  rintro e w1 ⟨rfl, rfl⟩
  go_wp2_with (fail)
  refine (rdo_any 2 0 a _ (by omega) ha).mono ?_
  rintro e w1 ⟨rfl, n2, rfl⟩
  go_wp2_with (fail)
  have hb2 : Below B w (w.drewN (n1 + n2)) := below_drewN (Below.refl _ _) _
  refine (works_any B _ (by have := hb2.size; omega) (HL.out.on hb2)).mono ?_
  rintro e w1 ⟨rfl, hb3⟩
  go_wp2_with (fail)
  go_ret
  exact ⟨rfl, hb2.trans hb3⟩
end Go.Proofs.YtbbhakedmjfdgaaDoor.whole

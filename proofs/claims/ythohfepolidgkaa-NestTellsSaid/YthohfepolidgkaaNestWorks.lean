/- The layer's works() answers true. -/
import Derived.Test.YthohfepolidgkaaNestCon
namespace Go.Proofs.Ythohfepolidgkaa.ne
open Go.RowKit mem

def ex4 : List Tk := [⟨4, 0, 0, [40]⟩, ⟨4, 0, 0, [40]⟩, ⟨4, 0, 0, [41]⟩, ⟨4, 0, 0, [45]⟩]
theorem ex4_most : mostN ex4 ex4.length = (2, 1) := by decide +kernel
theorem nil_check : checkN [] = (0, 0) := by decide +kernel
theorem nworks_any (w : World) : Calls Try.prog 5 #[] w fun e w' => e = .returned (.bool true) ∧ Below w.heap.size w w' := by
  obtain ⟨W, hW⟩ : ∃ W, W = w.alloc (.cells (tksV ex4).toArray 35) := ⟨_, rfl⟩
  have hbW : Below w.heap.size w W := by rw [hW]; exact (Below.refl _ _).alloc (Nat.le_refl _) _
  have bx : Box W w.heap.size 35 (tksV ex4).toArray := by rw [hW]; exact Box.new _ _ _ _ rfl
  have hs : TksS W.heap.size W ex4 (.slice (some ⟨w.heap.size, 0, none⟩) 4 4) := ⟨tksV_len ex4, _, _, rfl, fun _ => ⟨_, _, rfl, bx.lt, fun j u hu => by rw [Nat.zero_add, bx.cell j]; simpa using hu⟩⟩
  have HM := Lib.hid (nmost_any ex4 _ W W.heap.size hs (Nat.le_refl _) (by decide))
  rw [ex4_most] at HM
  have HC : ∀ w', Hid (Calls Try.prog 8 #[.slice none 0 0] w' fun e w'' => e = .returned (.tuple #[.int .i64 0, .int .i64 0]) ∧ Below w'.heap.size w' w'') := fun w' => Lib.hid ((ncheck_any [] _ w' w'.heap.size (Sees.none_ _ _ _) (Nat.le_refl _) (by decide)).mono fun e w'' h => by
    unfold CheckPost at h
    rw [nil_check] at h
    exact h)
  have HB := Lib.hid hbW
  have HW := Lib.hid hW
  clear hbW bx hs hW
  go_enter Try.func5, Try.ntmps5
  go_wp2_with (first | (change Calls _ _ _ (w.alloc (.cells (tksV ex4).toArray 35)) _; rw [← HW.out]; fail))
  change Calls _ _ _ (w.alloc (.cells (tksV ex4).toArray 35)) _
  rw [← HW.out]
  refine HM.out.mono ?_
  rintro e w1 ⟨rfl, hb1⟩
  have HB1 := Lib.hid (HB.out.trans (hb1.mono HB.out.size))
  clear hb1
  go_wp2_with (fail)
  refine (HC _).out.mono ?_
  rintro e w2 ⟨rfl, hb2⟩
  have HB2 := Lib.hid (HB1.out.trans (hb2.mono HB1.out.size))
  clear hb2
  go_wp2_with (fail)
  go_ret
  exact ⟨rfl, HB2.out⟩
end Go.Proofs.Ythohfepolidgkaa.ne

/- The layer's works() answers true. -/
import Derived.Test.YtkjlefhplghifaaDoorWordCon
namespace Go.Proofs.YtkjlefhplghifaaDoor.wd
open Go.RowKit mem vt

theorem from_base {f : Nat} {args : Array Value} {w w1 : World} {r : Ending} (h : Calls Tryd.prog f args w1 fun e w' => e = r ∧ Below w1.heap.size w1 w') (hb : Below w.heap.size w w1) : Calls Tryd.prog f args w1 fun e w' => e = r ∧ Below w.heap.size w w' :=
  h.mono fun e w' ⟨h1, h2⟩ => ⟨h1, hb.trans (h2.mono hb.size)⟩
theorem works_any (w : World) (hL : LD w) : Calls Tryd.prog 5 #[] w fun e w' => e = .returned (.bool true) ∧ Below w.heap.size w w' := by
  have H1 := Lib.hid (fun w' hb => from_base (w := w) (w1 := w') (given_any [102, 105, 108, 108] w' (by decide) (hL.on hb)) hb)
  have H2 : Hid (∀ w', Below w.heap.size w w' → Calls Tryd.prog 6 #[] w' fun e w'' => ∃ A c, e = .returned (.slice A 20 c) ∧ Below w.heap.size w w'') := Lib.hid (fun w' hb => (all_any w' (hL.on hb)).mono fun e w'' ⟨v, h1, h2⟩ => by
    obtain ⟨A, c, rfl⟩ := own_form h2.1
    exact ⟨A, c, h1, hb.trans (h2.2.mono hb.size)⟩)
  have H3 := Lib.hid (fun w' hb => from_base (w := w) (w1 := w') (is_any [119, 104, 105, 108, 101] w' (by decide) (hL.on hb)) hb)
  have H4 := Lib.hid (fun w' hb => from_base (w := w) (w1 := w') (is_any [108, 101, 110] w' (by decide) (hL.on hb)) hb)
  have H5 := Lib.hid (fun w' hb => from_base (w := w) (w1 := w') (spell_any 11 w' (by unfold I64; decide) (hL.on hb)) hb)
  have H6 := Lib.hid (fun w' hb => from_base (w := w) (w1 := w') (bind_any 12 w' (by unfold I64; decide) (hL.on hb)) hb)
  have H7 := Lib.hid (fun w' hb => from_base (w := w) (w1 := w') (mark_any [60, 61, 98] w' (by decide) (hL.on hb)) hb)
  have H8 := Lib.hid (fun w' hb => from_base (w := w) (w1 := w') (mark_any [38, 98] w' (by decide) (hL.on hb)) hb)
  have e1 : givN [102, 105, 108, 108] = 2 := by decide +kernel
  have e2 : givB [102, 105, 108, 108] = true := by decide +kernel
  have e3 : isW [119, 104, 105, 108, 101] = true := by decide +kernel
  have e4 : isW [108, 101, 110] = false := by decide +kernel
  have e5 : spellF 11 = [62, 61] := by decide +kernel
  have e6 : bindF 12 = 2 := by decide +kernel
  have e7 : markF [60, 61, 98] = [60, 61] := by decide +kernel
  have e8 : markF [38, 98] = [] := by decide +kernel
  rw [e1, e2] at H1
  rw [e3] at H3
  rw [e4] at H4
  rw [e5] at H5
  rw [e6] at H6
  rw [e7] at H7
  rw [e8] at H8
  clear e1 e2 e3 e4 e5 e6 e7 e8
  have hb0 : Below w.heap.size w w := Below.refl _ _
  go_enter Tryd.func5, Tryd.ntmps5
  go_wp2_with (fail)
  refine (H1.out _ hb0).mono ?_
  rintro e w1 ⟨rfl, hb1⟩
  go_wp2_with (fail)
  refine (H2.out _ hb1).mono ?_
  rintro e w2 ⟨A2, c2, rfl, hb2⟩
  go_wp2_with (fail)
  refine (H3.out _ hb2).mono ?_
  rintro e w3 ⟨rfl, hb3⟩
  go_wp2_with (fail)
  refine (H4.out _ hb3).mono ?_
  rintro e w4 ⟨rfl, hb4⟩
  go_wp2_with (fail)
  refine (H5.out _ hb4).mono ?_
  rintro e w5 ⟨rfl, hb5⟩
  go_wp2_with (fail)
  refine (H6.out _ hb5).mono ?_
  rintro e w6 ⟨rfl, hb6⟩
  go_wp2_with (fail)
  refine (H7.out _ hb6).mono ?_
  rintro e w7 ⟨rfl, hb7⟩
  go_wp2_with (fail)
  refine (H8.out _ hb7).mono ?_
  rintro e w8 ⟨rfl, hb8⟩
  go_wp2_with (fail)
  go_ret
  exact ⟨rfl, hb8⟩
end Go.Proofs.YtkjlefhplghifaaDoor.wd

/- What the rows' list of variables gives: strconv's table and errors, package word's two tables; a start that meets them. -/
import Derived.Test.YtjppfnofceejhaaDoorLaidTabs
import Derived.Test.YtjppfnofceejhaaDoorLaidNums
import Derived.Test.YtjppfnofceejhaaDoorLexCon
namespace Go.Proofs.YtjppfnofceejhaaDoor.lx
open Go.ChangeShapes Go.WideShapes Go.ChangeAt Go.RowKit

theorem own : ownKnob Tryd.prog.godebug = none := by kernel_rfl
abbrev laid10 : List (String × DataW Unit) := Rows.lexCutsRow.laid
/-- WHAT THE LIST GIVES -/
theorem laid_of {W : World} (h : laidMetH Tryd.prog laid10 W) : LD W := by
  rw [MakeChecks.laidMetH_plain _ _ _ (by kernel_rfl)] at h
  have h1 := Lib.laidMet.reads h (n := "marline/word.words") (d := Rows.laid_marline_word_words) (by simp [laid10, Rows.lexCutsRow])
  have h2 := Lib.laidMet.reads h (n := "marline/word.spellings") (d := Rows.laid_marline_word_spellings) (by simp [laid10, Rows.lexCutsRow])
  exact ⟨wd.words_of h1 h2, W.heap.size, Nat.le_refl _, whole.nums_of h.tail.tail⟩
/-- A start: the heap that the initialisers leave. -/
theorem door_met (os : Os) (args : Array Value) : laidMetH Tryd.prog laid10 ((World.doorLaid Tryd.prog 72 os).forCall (fun _ _ => 0) ⟨#[], args, []⟩).memory :=
  laidMetH_of_parts3 (fuel := 8) (laidMet_of_run' 8 (by kernel_rfl) (by kernel_rfl)) (by kernel_rfl) (by kernel_rfl)
end Go.Proofs.YtjppfnofceejhaaDoor.lx

/- What the rows' list of variables gives: package word's table of words; a start that meets it. -/
import Derived.Test.YtkmkeaeaalnbjaaDoorCLaidTabs
namespace Go.Proofs.YtkmkeaeaalnbjaaDoor.nt
open Go.ChangeShapes Go.WideShapes Go.ChangeAt Go.RowKit

theorem own : ownKnob Tryd.prog.godebug = none := by kernel_rfl
abbrev laid11 : List (String × DataW Unit) := Rows.treeTellsRow.laid
/-- WHAT THE LIST GIVES -/
theorem laid_of {W : World} (h : laidMetH Tryd.prog laid11 W) : wd.LD W := by
  rw [MakeChecks.laidMetH_plain _ _ _ (by kernel_rfl)] at h
  have h1 := Lib.laidMet.reads h (n := "marline/word.words") (d := Rows.laid_marline_word_words) (by simp [laid11, Rows.treeTellsRow])
  exact wd.words_of1 h1
/-- A start: the heap that the initialiser leaves. -/
theorem door_met (os : Os) (args : Array Value) : laidMetH Tryd.prog laid11 ((World.doorLaid Tryd.prog 14 os).forCall (fun _ _ => 0) ⟨#[], args, []⟩).memory :=
  laidMetH_of_parts3 (fuel := 8) (laidMet_of_run' 8 (by kernel_rfl) (by kernel_rfl)) (by kernel_rfl) (by kernel_rfl)
end Go.Proofs.YtkmkeaeaalnbjaaDoor.nt

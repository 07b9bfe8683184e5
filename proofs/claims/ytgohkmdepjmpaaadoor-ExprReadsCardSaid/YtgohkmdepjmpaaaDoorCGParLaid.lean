import Derived.Test.YtgohkmdepjmpaaaDoorCards
import Derived.Test.YtgohkmdepjmpaaaDoorTie
import Derived.Test.YtgohkmdepjmpaaaDoorCGWord
import Derived.Lib.LaidU8
import Derived.ProofKit
import Derived.OpenShut
import Derived.LaidMore
import Derived.WalkSmall
import Derived.MakeChecks
import Derived.Deep.DeepHandedRow
import Derived.Deep.DeepWitnessRowRef
import Derived.Test.YtgohkmdepjmpaaaDoorCParCon
import Derived.Lay
/- What a row's list of variables gives: tables of texts. -/
namespace Go.Proofs.YtgohkmdepjmpaaaDoor.wd
open Go.ChangeShapes Go.WideShapes Go.ChangeAt Go.RowKit

theorem gWords : Tryd.prog.globalNamed "marline/word.words" = some 0 := by kernel_rfl
theorem gWordsType : (Tryd.prog.globals[0]?).map (·.type) = some 98 := by kernel_rfl
theorem gSpells : Tryd.prog.globalNamed "marline/word.spellings" = some 1 := by kernel_rfl
theorem gSpellsType : (Tryd.prog.globals[1]?).map (·.type) = some 99 := by kernel_rfl
theorem cellsStr : Tryd.prog.cellsOf 9 = 1 := by kernel_rfl
theorem cellsWords : Tryd.prog.cellsOf 98 = 20 := by kernel_rfl
theorem cellsSpells : Tryd.prog.cellsOf 99 = 25 := by kernel_rfl

/-- a list of texts as a row lists it -/
def textsData (l : List (List UInt8)) : DataW Unit := .agg (l.map fun s => .lit (.string s))
set_option maxRecDepth 100000 in
/-- an array of texts that reads as these holds them, cell for cell -/
theorem cells_of_texts {w : World} {fuel : Nat} {t e : TypeId} {n : Nat} {cs : List Value} {l : List (List UInt8)} {p : List MemPlace} (ht : Tryd.prog.underlying t = some (.array n e)) (he : Tryd.prog.underlying e = some .string) (hce : Tryd.prog.cellsOf e = 1) (hl : l.length = n) (hn : cs.length = n)
    (h : DataW.trod (fun _ => ()) Tryd.prog w 0 (fun _ => true) false fuel t cs = some (textsData l, p)) : cs = strV l := by
  apply List.ext_getElem?
  intro i
  by_cases hi : i < n
  · obtain ⟨fuel', d, q, hd, hf⟩ := Lib.array_elem ht h i hi
    rw [hce, Nat.mul_one] at hf
    obtain ⟨s, h1, h2, _⟩ := DataW.trod_string he hf
    have hil : i < l.length := by omega
    have e1 : cs[i]? = some (.string s) := by
      have := congrArg (·[0]?) h1
      simpa [List.getElem?_take, List.getElem?_drop] using this
    rw [e1, strV_at l i hil]
    rw [List.getElem?_map, List.getElem?_eq_getElem hil, Option.map_some] at hd
    have h3 := Option.some.inj hd
    have h4 : d = .lit (.string s.data.toList) := congrArg Prod.fst h2
    rw [h4] at h3
    injection h3 with h3
    injection h3 with h3
    rw [h3]
  · rw [List.getElem?_eq_none (by omega), List.getElem?_eq_none (by rw [strV_len]; omega)]
theorem words_data : (Rows.laid_marline_word_words : DataW Unit) = textsData words20 := by kernel_rfl
theorem spells_data : (Rows.laid_marline_word_spellings : DataW Unit) = textsData spell25 := by kernel_rfl
/-- a listed table lies in its block -/
theorem tab_of {W : World} {name : String} {g n : Nat} {t : TypeId} {l : List (List UInt8)} (hg : Tryd.prog.globalNamed name = some g) (hty : (Tryd.prog.globals[g]?).map (·.type) = some t) (ht : Tryd.prog.underlying t = some (.array n 9)) (hct : Tryd.prog.cellsOf t = n) (hl : l.length = n)
    (h : Lib.VarReads Tryd.prog W name (textsData l)) : TabAt W g l := by
  obtain ⟨g', t', cs, fuel, p, hg', hty', hvar, hd⟩ := h
  obtain rfl := Option.some.inj (hg.symm.trans hg')
  obtain rfl := Option.some.inj (hty.symm.trans hty')
  have hn : cs.toList.length = n := by
    have h2 := hd
    cases fuel with
    | zero => simp [DataW.trod] at h2
    | succ fuel =>
      simp only [DataW.trod, ht] at h2
      split at h2
      · rename_i hc
        simp at hc
        simp only [Array.length_toList]
        have hce := cellsStr
        omega
      · cases h2
  have e := cells_of_texts ht Tryd.underlying9 cellsStr hl hn hd
  unfold World.var? at hvar
  simp only [hg, Option.bind_some] at hvar
  split at hvar
  · rename_i cs' t0 fr heq
    obtain rfl := Option.some.inj hvar
    exact ⟨t0, fr, by rw [heq, ← e]⟩
  · cases hvar
/-- both of package word's tables -/
theorem words_of {W : World} (h1 : Lib.VarReads Tryd.prog W "marline/word.words" Rows.laid_marline_word_words) (h2 : Lib.VarReads Tryd.prog W "marline/word.spellings" Rows.laid_marline_word_spellings) : LD W := by
  rw [words_data] at h1
  rw [spells_data] at h2
  exact ⟨tab_of gWords gWordsType Tryd.underlying98 cellsWords rfl h1, tab_of gSpells gSpellsType Tryd.underlying99 cellsSpells rfl h2⟩
end Go.Proofs.YtgohkmdepjmpaaaDoor.wd

/- What the rows' list of variables gives: package word's two tables; a start that meets them. -/
--KEEP
namespace Go.Proofs.YtgohkmdepjmpaaaDoor.pm.cd
open Go.ChangeShapes Go.WideShapes Go.ChangeAt Go.RowKit

theorem own : ownKnob Tryd.prog.godebug = none := by kernel_rfl
abbrev laid13 : List (String × DataW Unit) := Rows.exprReadsRow.laid
/-- WHAT THE LIST GIVES -/
theorem laid_of {W : World} (h : laidMetH Tryd.prog laid13 W) : LD W := by
  rw [MakeChecks.laidMetH_plain _ _ _ (by kernel_rfl)] at h
  have h1 := Lib.laidMet.reads h (n := "marline/word.words") (d := Rows.laid_marline_word_words) (by simp [laid13, Rows.exprReadsRow])
  have h2 := Lib.laidMet.reads h (n := "marline/word.spellings") (d := Rows.laid_marline_word_spellings) (by simp [laid13, Rows.exprReadsRow])
  exact wd.words_of h1 h2
/-- A start: the listed variables as they are listed. -/
theorem door_met (os : Os) (args : Array Value) : laidMetH Tryd.prog laid13 ((World.laidAll Tryd.prog os laid13).forCall (fun _ _ => 0) ⟨#[], args, []⟩).memory := by
  rw [MakeChecks.laidMetH_plain _ _ _ (by kernel_rfl)]
  exact laidMet_laidAll _ (by kernel_rfl) (by kernel_rfl)
end Go.Proofs.YtgohkmdepjmpaaaDoor.pm.cd

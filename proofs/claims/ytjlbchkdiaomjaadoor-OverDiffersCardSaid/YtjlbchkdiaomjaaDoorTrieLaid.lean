/- What the rows list of variables gives: package mix table of rounds; a start that meets it. -/
import Derived.Test.YtjlbchkdiaomjaaDoorCards
import Derived.Test.YtjlbchkdiaomjaaDoorTie
import Derived.Test.YtjlbchkdiaomjaaDoorTrieMix
import Derived.Lib.LaidU8
import Derived.ProofKit
import Derived.OpenShut
import Derived.LaidMore
import Derived.WalkSmall
import Derived.MakeChecks
import Derived.Deep.DeepHandedRow
import Derived.Deep.DeepWitnessRowRef
namespace Go.Proofs.YtjlbchkdiaomjaaDoor.mix
open Go.ChangeShapes Go.WideShapes Go.ChangeAt Go.RowKit

theorem own : ownKnob Tryd.prog.godebug = none := by kernel_rfl
theorem gRounds : Tryd.prog.globalNamed "marline/mix.rounds" = some 0 := by kernel_rfl
theorem gRoundsType : (Tryd.prog.globals[0]?).map (·.type) = some 132 := by kernel_rfl
theorem cellsRow : Tryd.prog.cellsOf 131 = 3 := by kernel_rfl
theorem cellsUint : Tryd.prog.cellsOf 109 = 1 := by kernel_rfl
theorem cellsU64 : Tryd.prog.cellsOf 102 = 1 := by kernel_rfl

abbrev laid1 : List (String × DataW Unit) := Rows.trieOfRow.laid
theorem cells_of {W : World} (h : laidMetH Tryd.prog laid1 W) : ∃ cs, W.var? Tryd.prog "marline/mix.rounds" = some cs ∧ ∀ i, i < 9 → cs[i]? = some (.int .u64 (tab.getD i 0)) := by
  rw [MakeChecks.laidMetH_plain _ _ _ (by kernel_rfl)] at h
  obtain ⟨g, t, cs, fuel, p, hg, hty, hvar, hd⟩ := Lib.laidMet.reads h (n := "marline/mix.rounds") (d := Rows.laid_marline_mix_rounds) (by simp [laid1, Rows.trieOfRow])
  obtain rfl := Option.some.inj (gRounds.symm.trans hg)
  obtain rfl := Option.some.inj (gRoundsType.symm.trans hty)
  refine ⟨cs, hvar, ?_⟩
  have row : ∀ i, i < 3 → (cs.toList.drop (i * 3)).take 3 = (([[30, 13787848793156543929, 10871156337175269513], [27, 10723151780598845931, 3573116690164977347], [31, 1, 1]] : List (List Int)).getD i []).map fun z => Value.int .u64 z := by
    intro i hi
    obtain ⟨fuel', d, q, hdi, he⟩ := Lib.array_elem Tryd.underlying132 hd i hi
    rw [cellsRow] at he
    have hz : d = .agg ((([[30, 13787848793156543929, 10871156337175269513], [27, 10723151780598845931, 3573116690164977347], [31, 1, 1]] : List (List Int)).getD i []).map fun z => .lit (.int .u64 z)) := by
      match i, hi, hdi with
      | 0, _, hdi => exact (Option.some.inj hdi).symm
      | 1, _, hdi => exact (Option.some.inj hdi).symm
      | 2, _, hdi => exact (Option.some.inj hdi).symm
    rw [hz] at he
    exact Lib.ints_of_struct Tryd.underlying131 (fun j f hj => by
      match j, hj with
      | 0, hj => simp at hj; subst hj; exact ⟨Tryd.underlying109, rfl, cellsUint⟩
      | 1, hj => simp at hj; subst hj; exact ⟨Tryd.underlying102, rfl, cellsU64⟩
      | 2, hj => simp at hj; subst hj; exact ⟨Tryd.underlying102, rfl, cellsU64⟩
      | j + 3, hj => simp at hj) (by rw [cellsRow]; rfl) he
  intro i hi
  have hr := row (i / 3) (by omega)
  have h1 := congrArg (·[i % 3]?) hr
  simp only [List.getElem?_take, List.getElem?_drop] at h1
  rw [if_pos (by omega), show i / 3 * 3 + i % 3 = i by omega, Array.getElem?_toList] at h1
  rw [h1]
  match i, hi with
  | 0, _ => rfl
  | 1, _ => rfl
  | 2, _ => rfl
  | 3, _ => rfl
  | 4, _ => rfl
  | 5, _ => rfl
  | 6, _ => rfl
  | 7, _ => rfl
  | 8, _ => rfl
/-- WHAT THE LIST GIVES -/
theorem laid_of {W : World} (h : laidMetH Tryd.prog laid1 W) : Laid W.heap.size W := by
  obtain ⟨cs, hv, hc⟩ := cells_of h
  have hlt : 0 < W.heap.size := by
    have hv' := hv
    unfold World.var? at hv'
    simp only [gRounds, Option.bind_some] at hv'
    by_cases hlt : 0 < W.heap.size
    · exact hlt
    · rw [Array.getElem?_eq_none (by omega)] at hv'
      cases hv'
  intro w' hb i hi
  have := World.var?_cell gRounds (var?_below hb gRounds hlt hv) i
  rw [this]; exact hc i hi
/-- A start: the heap that the initialiser leaves. -/
theorem door_met (os : Os) (args : Array Value) : laidMetH Tryd.prog laid1 ((World.doorLaid Tryd.prog 17 os).forCall (fun _ _ => 0) ⟨#[], args, []⟩).memory :=
  laidMetH_of_parts3 (fuel := 8) (laidMet_of_run' 8 (by kernel_rfl) (by kernel_rfl)) (by kernel_rfl) (by kernel_rfl)
end Go.Proofs.YtjlbchkdiaomjaaDoor.mix

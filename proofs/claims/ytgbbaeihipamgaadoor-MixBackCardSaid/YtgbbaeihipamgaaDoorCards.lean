/-
  DERIVED. GIVEN WITH THE SEED: THE CARDS: each row of YtgbbaeihipamgaaDoorRows.lean that lists a variable, with what it lists TIED to the program's text (the seventh form; the later family's looks); each row that meets fmt, with fmt's text TOLD by the authors' own Lean function (tested against real Go, not proved from fmt's source: count such statements apart). THE CARD IS WHAT COUNTS. Prove the row's statement (the work); the ties are given (YtgbbaeihipamgaaDoorTie.lean); close each card by the builder's one call (the guide's Derived/Test/ToyasCard.lean, 'card_holds'). Laid BY PROGRAM, IN A SANDBOX (cutbox-door.mjs). By AI agents, Wed Nov 11 2026. No macro, syntax, notation, axiom, sorry.
-/
import Derived.Test.YtgbbaeihipamgaaDoorRows
import GoSem.ClaimSeven
namespace Go.Proofs.YtgbbaeihipamgaaDoor
namespace Rows

/-- THE TIED CARD OF 'marlinelaw03.MixMixes'. -/
def mixMixesCard : Claim7 := { stood := { row := mixMixesRow, standIns := [], harness := (true, "71c9636657971d30f731f5cdc957627e789120a2eaffcd9d9e240b5333a934b1"), looks := false }, kinds := [], alts := [], laidByText := true, laidKinds := [.data], laidTests := true, laidLooks := .later }
def MixMixesCardSaid : Prop := Claim7.holds Tryd.pinned (.plain (OpenSpec.ofChange mixMixesSpec)) mixMixesCard

/-- THE TIED CARD OF 'marlinelaw03.MixBack'. -/
def mixBackCard : Claim7 := { stood := { row := mixBackRow, standIns := [], harness := (true, "71c9636657971d30f731f5cdc957627e789120a2eaffcd9d9e240b5333a934b1"), looks := false }, kinds := [], alts := [], laidByText := true, laidKinds := [.data], laidTests := true, laidLooks := .later }
def MixBackCardSaid : Prop := Claim7.holds Tryd.pinned (.plain (OpenSpec.ofChange mixBackSpec)) mixBackCard

/-- THE SECOND FORM's CARD OF 'marlinelaw03.MixMixes'. -/
def mixMixesUptoCard : Claim7 := { stood := { row := mixMixesUptoRow, standIns := [], harness := (true, "71c9636657971d30f731f5cdc957627e789120a2eaffcd9d9e240b5333a934b1"), looks := false }, kinds := [], alts := [], laidByText := true, laidKinds := [.data], laidTests := true, laidLooks := .later }
def MixMixesUptoCardSaid : Prop := Claim7.holds Tryd.pinned (.plain (OpenSpec.upto mixMixesSpec)) mixMixesUptoCard

/-- THE SECOND FORM's CARD OF 'marlinelaw03.MixBack'. -/
def mixBackUptoCard : Claim7 := { stood := { row := mixBackUptoRow, standIns := [], harness := (true, "71c9636657971d30f731f5cdc957627e789120a2eaffcd9d9e240b5333a934b1"), looks := false }, kinds := [], alts := [], laidByText := true, laidKinds := [.data], laidTests := true, laidLooks := .later }
def MixBackUptoCardSaid : Prop := Claim7.holds Tryd.pinned (.plain (OpenSpec.upto mixBackSpec)) mixBackUptoCard
end Rows
end Go.Proofs.YtgbbaeihipamgaaDoor

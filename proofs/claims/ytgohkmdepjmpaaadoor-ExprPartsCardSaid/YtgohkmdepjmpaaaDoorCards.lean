/-
  DERIVED. GIVEN WITH THE SEED: THE CARDS: each row of YtgohkmdepjmpaaaDoorRows.lean that lists a variable, with what it lists TIED to the program's text (the seventh form; the later family's looks); each row that meets fmt, with fmt's text TOLD by the authors' own Lean function (tested against real Go, not proved from fmt's source: count such statements apart). THE CARD IS WHAT COUNTS. Prove the row's statement (the work); the ties are given (YtgohkmdepjmpaaaDoorTie.lean); close each card by the builder's one call (the guide's Derived/Test/ToyasCard.lean, 'card_holds'). Laid BY PROGRAM, IN A SANDBOX (cutbox-door.mjs). By AI agents, Wed Nov 11 2026. No macro, syntax, notation, axiom, sorry.
-/
import Derived.Test.YtgohkmdepjmpaaaDoorRows
import GoSem.ClaimSeven
namespace Go.Proofs.YtgohkmdepjmpaaaDoor
namespace Rows

/-- THE TIED CARD OF 'marlinelaw13.ExprReads'. -/
def exprReadsCard : Claim7 := { stood := { row := exprReadsRow, standIns := [], harness := (true, "391611065b224235114236debc8551f91862528cb4ae525726ebcc59768357cc"), looks := false }, kinds := [], alts := [], laidByText := true, laidKinds := [.data, .data, .data, .pinned], laidTests := true, laidLooks := .later }
def ExprReadsCardSaid : Prop := Claim7.holds Tryd.pinned (.plain (OpenSpec.ofChange exprReadsSpec)) exprReadsCard

/-- THE TIED CARD OF 'marlinelaw13.ExprParts'. -/
def exprPartsCard : Claim7 := { stood := { row := exprPartsRow, standIns := [], harness := (true, "391611065b224235114236debc8551f91862528cb4ae525726ebcc59768357cc"), looks := false }, kinds := [], alts := [], laidByText := true, laidKinds := [.data, .data, .data, .pinned], laidTests := true, laidLooks := .later }
def ExprPartsCardSaid : Prop := Claim7.holds Tryd.pinned (.plain (OpenSpec.ofChange exprPartsSpec)) exprPartsCard

/-- THE TIED CARD OF 'marlinelaw13.ExprGoesOn'. -/
def exprGoesOnCard : Claim7 := { stood := { row := exprGoesOnRow, standIns := [], harness := (true, "391611065b224235114236debc8551f91862528cb4ae525726ebcc59768357cc"), looks := false }, kinds := [], alts := [], laidByText := true, laidKinds := [.data, .data, .data, .pinned], laidTests := true, laidLooks := .later }
def ExprGoesOnCardSaid : Prop := Claim7.holds Tryd.pinned (.plain (OpenSpec.ofChange exprGoesOnSpec)) exprGoesOnCard

/-- THE SECOND FORM's CARD OF 'marlinelaw13.ExprReads'. -/
def exprReadsUptoCard : Claim7 := { stood := { row := exprReadsUptoRow, standIns := [], harness := (true, "391611065b224235114236debc8551f91862528cb4ae525726ebcc59768357cc"), looks := false }, kinds := [], alts := [], laidByText := true, laidKinds := [.data, .data, .data, .pinned], laidTests := true, laidLooks := .later }
def ExprReadsUptoCardSaid : Prop := Claim7.holds Tryd.pinned (.plain (OpenSpec.upto exprReadsSpec)) exprReadsUptoCard

/-- THE SECOND FORM's CARD OF 'marlinelaw13.ExprParts'. -/
def exprPartsUptoCard : Claim7 := { stood := { row := exprPartsUptoRow, standIns := [], harness := (true, "391611065b224235114236debc8551f91862528cb4ae525726ebcc59768357cc"), looks := false }, kinds := [], alts := [], laidByText := true, laidKinds := [.data, .data, .data, .pinned], laidTests := true, laidLooks := .later }
def ExprPartsUptoCardSaid : Prop := Claim7.holds Tryd.pinned (.plain (OpenSpec.upto exprPartsSpec)) exprPartsUptoCard

/-- THE SECOND FORM's CARD OF 'marlinelaw13.ExprGoesOn'. -/
def exprGoesOnUptoCard : Claim7 := { stood := { row := exprGoesOnUptoRow, standIns := [], harness := (true, "391611065b224235114236debc8551f91862528cb4ae525726ebcc59768357cc"), looks := false }, kinds := [], alts := [], laidByText := true, laidKinds := [.data, .data, .data, .pinned], laidTests := true, laidLooks := .later }
def ExprGoesOnUptoCardSaid : Prop := Claim7.holds Tryd.pinned (.plain (OpenSpec.upto exprGoesOnSpec)) exprGoesOnUptoCard
end Rows
end Go.Proofs.YtgohkmdepjmpaaaDoor

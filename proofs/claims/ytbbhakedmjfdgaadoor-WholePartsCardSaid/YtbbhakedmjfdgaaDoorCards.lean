/-
  DERIVED. GIVEN WITH THE SEED: THE CARDS: each row of YtbbhakedmjfdgaaDoorRows.lean that lists a variable, with what it lists TIED to the program's text (the seventh form; the later family's looks); each row that meets fmt, with fmt's text TOLD by the authors' own Lean function (tested against real Go, not proved from fmt's source: count such statements apart). THE CARD IS WHAT COUNTS. Prove the row's statement (the work); the ties are given (YtbbhakedmjfdgaaDoorTie.lean); close each card by the builder's one call (the guide's Derived/Test/ToyasCard.lean, 'card_holds'). Laid BY PROGRAM, IN A SANDBOX (cutbox-door.mjs). By AI agents, Wed Nov 11 2026. No macro, syntax, notation, axiom, sorry.
-/
import Derived.Test.YtbbhakedmjfdgaaDoorRows
import GoSem.ClaimSeven
namespace Go.Proofs.YtbbhakedmjfdgaaDoor
namespace Rows

/-- THE TIED CARD OF 'marlinelaw01.WholeDoes'. -/
def wholeDoesCard : Claim7 := { stood := { row := wholeDoesRow, standIns := [], harness := (true, "7c28d54d1e876978586deeacd3fec89d8135ba6699d1c3ac93c94189d72e29b3"), looks := true }, kinds := [], alts := [], laidByText := true, laidKinds := [.data, .data, .data, .sentinel, .sentinel], laidTests := true, laidLooks := .later }
def WholeDoesCardSaid : Prop := Claim7.holds Tryd.pinned (.plain (OpenSpec.ofChange wholeDoesSpec)) wholeDoesCard

/-- THE TIED CARD OF 'marlinelaw01.WholeParts'. -/
def wholePartsCard : Claim7 := { stood := { row := wholePartsRow, standIns := [], harness := (true, "7c28d54d1e876978586deeacd3fec89d8135ba6699d1c3ac93c94189d72e29b3"), looks := true }, kinds := [], alts := [], laidByText := true, laidKinds := [.data, .data, .data, .sentinel, .sentinel], laidTests := true, laidLooks := .later }
def WholePartsCardSaid : Prop := Claim7.holds Tryd.pinned (.plain (OpenSpec.ofChange wholePartsSpec)) wholePartsCard

/-- THE TIED CARD OF 'marlinelaw01.WholeTexts'. -/
def wholeTextsCard : Claim7 := { stood := { row := wholeTextsRow, standIns := [], harness := (true, "7c28d54d1e876978586deeacd3fec89d8135ba6699d1c3ac93c94189d72e29b3"), looks := true }, kinds := [], alts := [], laidByText := true, laidKinds := [.data, .data, .data, .sentinel, .sentinel], laidTests := true, laidLooks := .later }
def WholeTextsCardSaid : Prop := Claim7.holds Tryd.pinned (.plain (OpenSpec.ofChange wholeTextsSpec)) wholeTextsCard

/-- THE SECOND FORM's CARD OF 'marlinelaw01.WholeDoes'. -/
def wholeDoesUptoCard : Claim7 := { stood := { row := wholeDoesUptoRow, standIns := [], harness := (true, "7c28d54d1e876978586deeacd3fec89d8135ba6699d1c3ac93c94189d72e29b3"), looks := true }, kinds := [], alts := [], laidByText := true, laidKinds := [.data, .data, .data, .sentinel, .sentinel], laidTests := true, laidLooks := .later }
def WholeDoesUptoCardSaid : Prop := Claim7.holds Tryd.pinned (.plain (OpenSpec.upto wholeDoesSpec)) wholeDoesUptoCard

/-- THE SECOND FORM's CARD OF 'marlinelaw01.WholeParts'. -/
def wholePartsUptoCard : Claim7 := { stood := { row := wholePartsUptoRow, standIns := [], harness := (true, "7c28d54d1e876978586deeacd3fec89d8135ba6699d1c3ac93c94189d72e29b3"), looks := true }, kinds := [], alts := [], laidByText := true, laidKinds := [.data, .data, .data, .sentinel, .sentinel], laidTests := true, laidLooks := .later }
def WholePartsUptoCardSaid : Prop := Claim7.holds Tryd.pinned (.plain (OpenSpec.upto wholePartsSpec)) wholePartsUptoCard

/-- THE SECOND FORM's CARD OF 'marlinelaw01.WholeTexts'. -/
def wholeTextsUptoCard : Claim7 := { stood := { row := wholeTextsUptoRow, standIns := [], harness := (true, "7c28d54d1e876978586deeacd3fec89d8135ba6699d1c3ac93c94189d72e29b3"), looks := true }, kinds := [], alts := [], laidByText := true, laidKinds := [.data, .data, .data, .sentinel, .sentinel], laidTests := true, laidLooks := .later }
def WholeTextsUptoCardSaid : Prop := Claim7.holds Tryd.pinned (.plain (OpenSpec.upto wholeTextsSpec)) wholeTextsUptoCard
end Rows
end Go.Proofs.YtbbhakedmjfdgaaDoor

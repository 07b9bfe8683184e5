/-
  DERIVED. GIVEN WITH THE SEED: THE CARDS: each row of YtkjlefhplghifaaDoorRows.lean that lists a variable, with what it lists TIED to the program's text (the seventh form; the later family's looks); each row that meets fmt, with fmt's text TOLD by the authors' own Lean function (tested against real Go, not proved from fmt's source: count such statements apart). THE CARD IS WHAT COUNTS. Prove the row's statement (the work); the ties are given (YtkjlefhplghifaaDoorTie.lean); close each card by the builder's one call (the guide's Derived/Test/ToyasCard.lean, 'card_holds'). Laid BY PROGRAM, IN A SANDBOX (cutbox-door.mjs). By AI agents, Wed Nov 11 2026. No macro, syntax, notation, axiom, sorry.
-/
import Derived.Test.YtkjlefhplghifaaDoorRows
import GoSem.ClaimSeven
namespace Go.Proofs.YtkjlefhplghifaaDoor
namespace Rows

/-- THE TIED CARD OF 'marlinelaw09.WordKnows'. -/
def wordKnowsCard : Claim7 := { stood := { row := wordKnowsRow, standIns := [], harness := (true, "fc87d452f8b2a10b0336bd5ba636928826943f96301da3578b470c30b82b8ded"), looks := false }, kinds := [], alts := [], laidByText := true, laidKinds := [.data, .data], laidTests := true, laidLooks := .later }
def WordKnowsCardSaid : Prop := Claim7.holds Tryd.pinned (.plain (OpenSpec.ofChange wordKnowsSpec)) wordKnowsCard

/-- THE TIED CARD OF 'marlinelaw09.WordSigns'. -/
def wordSignsCard : Claim7 := { stood := { row := wordSignsRow, standIns := [], harness := (true, "fc87d452f8b2a10b0336bd5ba636928826943f96301da3578b470c30b82b8ded"), looks := false }, kinds := [], alts := [], laidByText := true, laidKinds := [.data, .data], laidTests := true, laidLooks := .later }
def WordSignsCardSaid : Prop := Claim7.holds Tryd.pinned (.plain (OpenSpec.ofChange wordSignsSpec)) wordSignsCard

/-- THE SECOND FORM's CARD OF 'marlinelaw09.WordKnows'. -/
def wordKnowsUptoCard : Claim7 := { stood := { row := wordKnowsUptoRow, standIns := [], harness := (true, "fc87d452f8b2a10b0336bd5ba636928826943f96301da3578b470c30b82b8ded"), looks := false }, kinds := [], alts := [], laidByText := true, laidKinds := [.data, .data], laidTests := true, laidLooks := .later }
def WordKnowsUptoCardSaid : Prop := Claim7.holds Tryd.pinned (.plain (OpenSpec.upto wordKnowsSpec)) wordKnowsUptoCard

/-- THE SECOND FORM's CARD OF 'marlinelaw09.WordSigns'. -/
def wordSignsUptoCard : Claim7 := { stood := { row := wordSignsUptoRow, standIns := [], harness := (true, "fc87d452f8b2a10b0336bd5ba636928826943f96301da3578b470c30b82b8ded"), looks := false }, kinds := [], alts := [], laidByText := true, laidKinds := [.data, .data], laidTests := true, laidLooks := .later }
def WordSignsUptoCardSaid : Prop := Claim7.holds Tryd.pinned (.plain (OpenSpec.upto wordSignsSpec)) wordSignsUptoCard
end Rows
end Go.Proofs.YtkjlefhplghifaaDoor

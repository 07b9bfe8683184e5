/-
  DERIVED. GIVEN WITH THE SEED: THE CARDS: each row of YtjadomkapfhnnaaDoorRows.lean that lists a variable, with what it lists TIED to the program's text (the seventh form; the later family's looks); each row that meets fmt, with fmt's text TOLD by the authors' own Lean function (tested against real Go, not proved from fmt's source: count such statements apart). THE CARD IS WHAT COUNTS. Prove the row's statement (the work); the ties are given (YtjadomkapfhnnaaDoorTie.lean); close each card by the builder's one call (the guide's Derived/Test/ToyasCard.lean, 'card_holds'). Laid BY PROGRAM, IN A SANDBOX (cutbox-door.mjs). By AI agents, Wed Nov 11 2026. No macro, syntax, notation, axiom, sorry.
-/
import Derived.Test.YtjadomkapfhnnaaDoorRows
import GoSem.ClaimSeven
namespace Go.Proofs.YtjadomkapfhnnaaDoor
namespace Rows

/-- THE TIED CARD OF 'marlinelaw04.TriePlays'. -/
def triePlaysCard : Claim7 := { stood := { row := triePlaysRow, standIns := [], harness := (true, "de3f0c66710b3d206215b567e4f8ed2892341a8f7efafebc0fe3a16fb424e1b8"), looks := false }, kinds := [], alts := [], laidByText := true, laidKinds := [.data], laidTests := true, laidLooks := .later }
def TriePlaysCardSaid : Prop := Claim7.holds Tryd.pinned (.plain (OpenSpec.ofChange triePlaysSpec)) triePlaysCard

/-- THE TIED CARD OF 'marlinelaw04.TrieStays'. -/
def trieStaysCard : Claim7 := { stood := { row := trieStaysRow, standIns := [], harness := (true, "de3f0c66710b3d206215b567e4f8ed2892341a8f7efafebc0fe3a16fb424e1b8"), looks := false }, kinds := [], alts := [], laidByText := true, laidKinds := [.data], laidTests := true, laidLooks := .later }
def TrieStaysCardSaid : Prop := Claim7.holds Tryd.pinned (.plain (OpenSpec.ofChange trieStaysSpec)) trieStaysCard

/-- THE TIED CARD OF 'marlinelaw04.TrieOf'. -/
def trieOfCard : Claim7 := { stood := { row := trieOfRow, standIns := [], harness := (true, "de3f0c66710b3d206215b567e4f8ed2892341a8f7efafebc0fe3a16fb424e1b8"), looks := false }, kinds := [], alts := [], laidByText := true, laidKinds := [.data], laidTests := true, laidLooks := .later }
def TrieOfCardSaid : Prop := Claim7.holds Tryd.pinned (.plain (OpenSpec.ofChange trieOfSpec)) trieOfCard

/-- THE SECOND FORM's CARD OF 'marlinelaw04.TriePlays'. -/
def triePlaysUptoCard : Claim7 := { stood := { row := triePlaysUptoRow, standIns := [], harness := (true, "de3f0c66710b3d206215b567e4f8ed2892341a8f7efafebc0fe3a16fb424e1b8"), looks := false }, kinds := [], alts := [], laidByText := true, laidKinds := [.data], laidTests := true, laidLooks := .later }
def TriePlaysUptoCardSaid : Prop := Claim7.holds Tryd.pinned (.plain (OpenSpec.upto triePlaysSpec)) triePlaysUptoCard

/-- THE SECOND FORM's CARD OF 'marlinelaw04.TrieStays'. -/
def trieStaysUptoCard : Claim7 := { stood := { row := trieStaysUptoRow, standIns := [], harness := (true, "de3f0c66710b3d206215b567e4f8ed2892341a8f7efafebc0fe3a16fb424e1b8"), looks := false }, kinds := [], alts := [], laidByText := true, laidKinds := [.data], laidTests := true, laidLooks := .later }
def TrieStaysUptoCardSaid : Prop := Claim7.holds Tryd.pinned (.plain (OpenSpec.upto trieStaysSpec)) trieStaysUptoCard

/-- THE SECOND FORM's CARD OF 'marlinelaw04.TrieOf'. -/
def trieOfUptoCard : Claim7 := { stood := { row := trieOfUptoRow, standIns := [], harness := (true, "de3f0c66710b3d206215b567e4f8ed2892341a8f7efafebc0fe3a16fb424e1b8"), looks := false }, kinds := [], alts := [], laidByText := true, laidKinds := [.data], laidTests := true, laidLooks := .later }
def TrieOfUptoCardSaid : Prop := Claim7.holds Tryd.pinned (.plain (OpenSpec.upto trieOfSpec)) trieOfUptoCard
end Rows
end Go.Proofs.YtjadomkapfhnnaaDoor

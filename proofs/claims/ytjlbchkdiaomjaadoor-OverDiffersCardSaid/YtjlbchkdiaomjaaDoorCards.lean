/-
  DERIVED. GIVEN WITH THE SEED: THE CARDS: each row of YtjlbchkdiaomjaaDoorRows.lean that lists a variable, with what it lists TIED to the program's text (the seventh form; the later family's looks); each row that meets fmt, with fmt's text TOLD by the authors' own Lean function (tested against real Go, not proved from fmt's source: count such statements apart). THE CARD IS WHAT COUNTS. Prove the row's statement (the work); the ties are given (YtjlbchkdiaomjaaDoorTie.lean); close each card by the builder's one call (the guide's Derived/Test/ToyasCard.lean, 'card_holds'). Laid BY PROGRAM, IN A SANDBOX (cutbox-door.mjs). By AI agents, Wed Nov 11 2026. No macro, syntax, notation, axiom, sorry.
-/
import Derived.Test.YtjlbchkdiaomjaaDoorRows
import GoSem.ClaimSeven
namespace Go.Proofs.YtjlbchkdiaomjaaDoor
namespace Rows

/-- THE TIED CARD OF 'marlinelaw04.TriePlays'. -/
def triePlaysCard : Claim7 := { stood := { row := triePlaysRow, standIns := [], harness := (true, "20c3dbf2cd59623931d09b32ead73ee902ac1397dd404d1199f27fb6de06231c"), looks := false }, kinds := [], alts := [], laidByText := true, laidKinds := [.data], laidTests := true, laidLooks := .later }
def TriePlaysCardSaid : Prop := Claim7.holds Tryd.pinned (.plain (OpenSpec.ofChange triePlaysSpec)) triePlaysCard

/-- THE TIED CARD OF 'marlinelaw04.TrieStays'. -/
def trieStaysCard : Claim7 := { stood := { row := trieStaysRow, standIns := [], harness := (true, "20c3dbf2cd59623931d09b32ead73ee902ac1397dd404d1199f27fb6de06231c"), looks := false }, kinds := [], alts := [], laidByText := true, laidKinds := [.data], laidTests := true, laidLooks := .later }
def TrieStaysCardSaid : Prop := Claim7.holds Tryd.pinned (.plain (OpenSpec.ofChange trieStaysSpec)) trieStaysCard

/-- THE TIED CARD OF 'marlinelaw04.TrieOf'. -/
def trieOfCard : Claim7 := { stood := { row := trieOfRow, standIns := [], harness := (true, "20c3dbf2cd59623931d09b32ead73ee902ac1397dd404d1199f27fb6de06231c"), looks := false }, kinds := [], alts := [], laidByText := true, laidKinds := [.data], laidTests := true, laidLooks := .later }
def TrieOfCardSaid : Prop := Claim7.holds Tryd.pinned (.plain (OpenSpec.ofChange trieOfSpec)) trieOfCard

/-- THE TIED CARD OF 'marlinelaw05.OverLays'. -/
def overLaysCard : Claim7 := { stood := { row := overLaysRow, standIns := [], harness := (true, "20c3dbf2cd59623931d09b32ead73ee902ac1397dd404d1199f27fb6de06231c"), looks := false }, kinds := [], alts := [], laidByText := true, laidKinds := [.data], laidTests := true, laidLooks := .later }
def OverLaysCardSaid : Prop := Claim7.holds Tryd.pinned (.plain (OpenSpec.ofChange overLaysSpec)) overLaysCard

/-- THE TIED CARD OF 'marlinelaw05.OverDiffers'. -/
def overDiffersCard : Claim7 := { stood := { row := overDiffersRow, standIns := [], harness := (true, "20c3dbf2cd59623931d09b32ead73ee902ac1397dd404d1199f27fb6de06231c"), looks := false }, kinds := [], alts := [], laidByText := true, laidKinds := [.data], laidTests := true, laidLooks := .later }
def OverDiffersCardSaid : Prop := Claim7.holds Tryd.pinned (.plain (OpenSpec.ofChange overDiffersSpec)) overDiffersCard

/-- THE TIED CARD OF 'marlinelaw05.OverFolds'. -/
def overFoldsCard : Claim7 := { stood := { row := overFoldsRow, standIns := [], harness := (true, "20c3dbf2cd59623931d09b32ead73ee902ac1397dd404d1199f27fb6de06231c"), looks := false }, kinds := [], alts := [], laidByText := true, laidKinds := [.data], laidTests := true, laidLooks := .later }
def OverFoldsCardSaid : Prop := Claim7.holds Tryd.pinned (.plain (OpenSpec.ofChange overFoldsSpec)) overFoldsCard

/-- THE SECOND FORM's CARD OF 'marlinelaw04.TriePlays'. -/
def triePlaysUptoCard : Claim7 := { stood := { row := triePlaysUptoRow, standIns := [], harness := (true, "20c3dbf2cd59623931d09b32ead73ee902ac1397dd404d1199f27fb6de06231c"), looks := false }, kinds := [], alts := [], laidByText := true, laidKinds := [.data], laidTests := true, laidLooks := .later }
def TriePlaysUptoCardSaid : Prop := Claim7.holds Tryd.pinned (.plain (OpenSpec.upto triePlaysSpec)) triePlaysUptoCard

/-- THE SECOND FORM's CARD OF 'marlinelaw04.TrieStays'. -/
def trieStaysUptoCard : Claim7 := { stood := { row := trieStaysUptoRow, standIns := [], harness := (true, "20c3dbf2cd59623931d09b32ead73ee902ac1397dd404d1199f27fb6de06231c"), looks := false }, kinds := [], alts := [], laidByText := true, laidKinds := [.data], laidTests := true, laidLooks := .later }
def TrieStaysUptoCardSaid : Prop := Claim7.holds Tryd.pinned (.plain (OpenSpec.upto trieStaysSpec)) trieStaysUptoCard

/-- THE SECOND FORM's CARD OF 'marlinelaw04.TrieOf'. -/
def trieOfUptoCard : Claim7 := { stood := { row := trieOfUptoRow, standIns := [], harness := (true, "20c3dbf2cd59623931d09b32ead73ee902ac1397dd404d1199f27fb6de06231c"), looks := false }, kinds := [], alts := [], laidByText := true, laidKinds := [.data], laidTests := true, laidLooks := .later }
def TrieOfUptoCardSaid : Prop := Claim7.holds Tryd.pinned (.plain (OpenSpec.upto trieOfSpec)) trieOfUptoCard

/-- THE SECOND FORM's CARD OF 'marlinelaw05.OverLays'. -/
def overLaysUptoCard : Claim7 := { stood := { row := overLaysUptoRow, standIns := [], harness := (true, "20c3dbf2cd59623931d09b32ead73ee902ac1397dd404d1199f27fb6de06231c"), looks := false }, kinds := [], alts := [], laidByText := true, laidKinds := [.data], laidTests := true, laidLooks := .later }
def OverLaysUptoCardSaid : Prop := Claim7.holds Tryd.pinned (.plain (OpenSpec.upto overLaysSpec)) overLaysUptoCard

/-- THE SECOND FORM's CARD OF 'marlinelaw05.OverDiffers'. -/
def overDiffersUptoCard : Claim7 := { stood := { row := overDiffersUptoRow, standIns := [], harness := (true, "20c3dbf2cd59623931d09b32ead73ee902ac1397dd404d1199f27fb6de06231c"), looks := false }, kinds := [], alts := [], laidByText := true, laidKinds := [.data], laidTests := true, laidLooks := .later }
def OverDiffersUptoCardSaid : Prop := Claim7.holds Tryd.pinned (.plain (OpenSpec.upto overDiffersSpec)) overDiffersUptoCard

/-- THE SECOND FORM's CARD OF 'marlinelaw05.OverFolds'. -/
def overFoldsUptoCard : Claim7 := { stood := { row := overFoldsUptoRow, standIns := [], harness := (true, "20c3dbf2cd59623931d09b32ead73ee902ac1397dd404d1199f27fb6de06231c"), looks := false }, kinds := [], alts := [], laidByText := true, laidKinds := [.data], laidTests := true, laidLooks := .later }
def OverFoldsUptoCardSaid : Prop := Claim7.holds Tryd.pinned (.plain (OpenSpec.upto overFoldsSpec)) overFoldsUptoCard
end Rows
end Go.Proofs.YtjlbchkdiaomjaaDoor

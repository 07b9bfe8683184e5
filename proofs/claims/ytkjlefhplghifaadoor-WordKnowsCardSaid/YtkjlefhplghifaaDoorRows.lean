/-
  NARROWER THAN 'FOR EVERY INPUT', by the rows' own cells (each row's printed sentence says how): WordKnows: laid · WordSigns: laid.
  DERIVED. THE GIVEN ROWS OF THIS SEAT. 2 by the template 'for every input the law returns true; each argument reads behind the call as it read before'; 0 by the template 'total and deterministic' (their statements: YtkjlefhplghifaaDoorTotals.lean).
  GIVEN WITH THE SEED: the statements are not yours to turn. If you find one false, say at which input.
  Laid BY PROGRAM, IN A SANDBOX (cutbox-rows.mjs): the forced cells as the released guide's own fill.sh prints them over the translation d497ffdbf056170a… (all of the seat's roots in one cut). By AI agents, Wed Nov 11 2026. No macro, syntax, notation, axiom, sorry.
-/
import Derived.Test.YtkjlefhplghifaaDoorChecked
import GoSem.Claim
import GoSem.ClaimJoined
import GoSem.ClaimMapViews
import Derived.JoinedTies
import Derived.KernelRfl
namespace Go.Proofs.YtkjlefhplghifaaDoor
/- THE CELL 'sum', in the pinned program and in every row, IS THE sha256 OF THE DUMP (.gsa) THAT YtkjlefhplghifaaDoorProg.lean LOADS. Nothing in Lean hashes anything: it is a label: what it is worth is what the hold of that sum in a sandbox is worth. -/
noncomputable def Tryd.pinned : Pinned := { name := "ytkjlefhplghifaadoor", sum := "d497ffdbf056170a471484b9eb70ac87016f98196a667e0351f9ad0640d609ae", checked := Tryd.checked }
namespace Rows
def none {H : Type} : Left H := { results := [], args := [] }

/- WHAT THE LISTED PACKAGE-LEVEL VARIABLES READ AS WHEN THE CALL BEGINS. Each datum BY PROGRAM (the guide's laid-datum.mjs) off the statement by which the dump's own 'gosem.cut.vars' lays the variable. In a bare row this is a premise. The card (YtkjlefhplghifaaDoorCards.lean) ties it to the program's text. -/
def laid_marline_word_words {H : Type} : DataW H := .agg [.lit (.string [114, 101, 99]), .lit (.string [105, 115, 111]), .lit (.string [102, 117, 110]), .lit (.string [109, 101, 114, 103, 101]), .lit (.string [109, 97, 105, 110]), .lit (.string [118, 97, 114]), .lit (.string [105, 102]), .lit (.string [101, 108, 115, 101]), .lit (.string [119, 104, 105, 108, 101]), .lit (.string [114, 101, 116, 117, 114, 110]), .lit (.string [102, 111, 114, 107]), .lit (.string [106, 111, 105, 110]), .lit (.string [112, 114, 105, 110, 116]), .lit (.string [110, 101, 119]), .lit (.string [98, 121]), .lit (.string [105, 110, 116]), .lit (.string [98, 111, 111, 108]), .lit (.string [114, 101, 118]), .lit (.string [116, 114, 117, 101]), .lit (.string [102, 97, 108, 115, 101])]
def laid_marline_word_spellings {H : Type} : DataW H := .agg [.lit (.string []), .lit (.string [43]), .lit (.string [45]), .lit (.string [42]), .lit (.string [47]), .lit (.string [37]), .lit (.string [61, 61]), .lit (.string [33, 61]), .lit (.string [60]), .lit (.string [60, 61]), .lit (.string [62]), .lit (.string [62, 61]), .lit (.string [38, 38]), .lit (.string [124, 124]), .lit (.string [33]), .lit (.string [40]), .lit (.string [41]), .lit (.string [123]), .lit (.string [125]), .lit (.string [91]), .lit (.string [93]), .lit (.string [44]), .lit (.string [59]), .lit (.string [46]), .lit (.string [61])]

/-- 'marlinelaw09.WordKnows': WHATEVER THE INPUT: true; the input reads as it did. -/
def wordKnowsSpec : ChangeSpec := { name := "wordKnows", fn := fun _ => fun
  | [d] => { results := [.lit (.bool true)], args := [d] }
  | _ => none }
def wordKnowsRow : OpenClaim := { program := "ytkjlefhplghifaadoor", sum := "d497ffdbf056170a471484b9eb70ac87016f98196a667e0351f9ad0640d609ae", func := "marline/marlinelaw09.WordKnows", spec := "wordKnows", named := ["marline/word.words", "marline/word.spellings"], apart := false, laid := [("marline/word.words", laid_marline_word_words), ("marline/word.spellings", laid_marline_word_spellings)] }
def WordKnowsSaid : Prop := wordKnowsRow.holds Tryd.pinned (OpenSpec.ofChange wordKnowsSpec)

/-- ITS FALSE NEIGHBOUR: 'it returns false'. Refute it at one input. -/
def wordKnowsWrong : ChangeSpec := { name := "wordKnows", fn := fun _ => fun
  | [d] => { results := [.lit (.bool false)], args := [d] }
  | _ => none }
def WordKnowsWrongFalsely : Prop := wordKnowsRow.holds Tryd.pinned (OpenSpec.ofChange wordKnowsWrong)

/-- 'marlinelaw09.WordSigns': WHATEVER THE INPUT: true; the input reads as it did. -/
def wordSignsSpec : ChangeSpec := { name := "wordSigns", fn := fun _ => fun
  | [d1, d2] => { results := [.lit (.bool true)], args := [d1, d2] }
  | _ => none }
def wordSignsRow : OpenClaim := { program := "ytkjlefhplghifaadoor", sum := "d497ffdbf056170a471484b9eb70ac87016f98196a667e0351f9ad0640d609ae", func := "marline/marlinelaw09.WordSigns", spec := "wordSigns", named := ["marline/word.words", "marline/word.spellings"], apart := false, laid := [("marline/word.words", laid_marline_word_words), ("marline/word.spellings", laid_marline_word_spellings)] }
def WordSignsSaid : Prop := wordSignsRow.holds Tryd.pinned (OpenSpec.ofChange wordSignsSpec)

/-- ITS FALSE NEIGHBOUR: 'it returns false'. Refute it at one input. -/
def wordSignsWrong : ChangeSpec := { name := "wordSigns", fn := fun _ => fun
  | [d1, d2] => { results := [.lit (.bool false)], args := [d1, d2] }
  | _ => none }
def WordSignsWrongFalsely : Prop := wordSignsRow.holds Tryd.pinned (OpenSpec.ofChange wordSignsWrong)

/- THE SECOND FORM. 'bulk': how many values and letters a reading holds, each counted each time it is reached (what is shared counts as often as it is met; a slice's spare places count too). A statement '..UptoSaid' is the law's where the arguments, and the package variables that the reading takes, are together of bulk at most 1048576: NARROWER than '..Said'. Prove '..Said' where nothing that the law and all that it calls make is longer than what came in: it says more and counts as full. Else prove '..UptoSaid'. A law counts once. -/
mutual
def uptoBulk {H : Type} : DataW H → Nat
  | .lit (.string bytes) => bytes.length + 1
  | .lit _ => 1
  | .nil => 1
  | .ptr d => uptoBulk d + 1
  | .slice elems spare => uptoBulkAll elems + uptoBulkAll spare + 1
  | .agg parts => uptoBulkAll parts + 1
  | .iface _ d => uptoBulk d + 1
  | .map entries => uptoBulkEntries entries + 1
  | .held _ => 1
def uptoBulkAll {H : Type} : List (DataW H) → Nat
  | [] => 0
  | d :: r => uptoBulk d + uptoBulkAll r
def uptoBulkEntries {H : Type} : List (Lit × DataW H) → Nat
  | [] => 0
  | x :: r => uptoBulkEntry x + uptoBulkEntries r
def uptoBulkEntry {H : Type} : Lit × DataW H → Nat
  | (.string bytes, d) => bytes.length + uptoBulk d + 1
  | (_, d) => uptoBulk d + 1
 end
def uptoSmall : (H : Type) → List (DataW H) → Bool := fun _ ds => decide (uptoBulkAll ds ≤ 1048576)
def OpenSpec.upto (s : _root_.Go.ChangeSpec) : _root_.Go.OpenSpec := { _root_.Go.OpenSpec.ofChange s with cond := some uptoSmall }

/-- 'marlinelaw09.WordKnows', WHERE WHAT IT READS IS OF BULK AT MOST 1048576: true; the input reads as it did. -/
def wordKnowsUptoRow : OpenClaim := { program := "ytkjlefhplghifaadoor", sum := "d497ffdbf056170a471484b9eb70ac87016f98196a667e0351f9ad0640d609ae", func := "marline/marlinelaw09.WordKnows", spec := "wordKnows", named := ["marline/word.words", "marline/word.spellings"], apart := false, laid := [("marline/word.words", laid_marline_word_words), ("marline/word.spellings", laid_marline_word_spellings)], narrowed := true }
def WordKnowsUptoSaid : Prop := wordKnowsUptoRow.holds Tryd.pinned (OpenSpec.upto wordKnowsSpec)

/-- 'marlinelaw09.WordSigns', WHERE WHAT IT READS IS OF BULK AT MOST 1048576: true; the input reads as it did. -/
def wordSignsUptoRow : OpenClaim := { program := "ytkjlefhplghifaadoor", sum := "d497ffdbf056170a471484b9eb70ac87016f98196a667e0351f9ad0640d609ae", func := "marline/marlinelaw09.WordSigns", spec := "wordSigns", named := ["marline/word.words", "marline/word.spellings"], apart := false, laid := [("marline/word.words", laid_marline_word_words), ("marline/word.spellings", laid_marline_word_spellings)], narrowed := true }
def WordSignsUptoSaid : Prop := wordSignsUptoRow.holds Tryd.pinned (OpenSpec.upto wordSignsSpec)

end Rows
end Go.Proofs.YtkjlefhplghifaaDoor

/-
  NARROWER THAN 'FOR EVERY INPUT', by the rows' own cells (each row's printed sentence says how): TreeTells: loops, laid · TreeGrows: loops, laid · TreeWalks: loops, laid · TreeStops: laid.
  DERIVED. THE GIVEN ROWS OF THIS SEAT. 4 by the template 'for every input the law returns true; each argument reads behind the call as it read before'; 0 by the template 'total and deterministic' (their statements: YtkmkeaeaalnbjaaDoorTotals.lean).
  GIVEN WITH THE SEED: the statements are not yours to turn. If you find one false, say at which input.
  Laid BY PROGRAM, IN A SANDBOX (cutbox-rows.mjs): the forced cells as the released guide's own fill.sh prints them over the translation a958348251868abe… (all of the seat's roots in one cut). By AI agents, Wed Nov 11 2026. No macro, syntax, notation, axiom, sorry.
-/
import Derived.Test.YtkmkeaeaalnbjaaDoorChecked
import GoSem.Claim
import GoSem.ClaimJoined
import GoSem.ClaimMapViews
import Derived.JoinedTies
import Derived.KernelRfl
namespace Go.Proofs.YtkmkeaeaalnbjaaDoor
/- THE CELL 'sum', in the pinned program and in every row, IS THE sha256 OF THE DUMP (.gsa) THAT YtkmkeaeaalnbjaaDoorProg.lean LOADS. Nothing in Lean hashes anything: it is a label: what it is worth is what the hold of that sum in a sandbox is worth. -/
noncomputable def Tryd.pinned : Pinned := { name := "ytkmkeaeaalnbjaadoor", sum := "a958348251868abe3e587da6817682798fec566475a0801a635a46020fead67c", checked := Tryd.checked }
namespace Rows
def none {H : Type} : Left H := { results := [], args := [] }

/- WHAT THE LISTED PACKAGE-LEVEL VARIABLES READ AS WHEN THE CALL BEGINS. Each datum BY PROGRAM (the guide's laid-datum.mjs) off the statement by which the dump's own 'gosem.cut.vars' lays the variable. In a bare row this is a premise. The card (YtkmkeaeaalnbjaaDoorCards.lean) ties it to the program's text. -/
def laid_marline_word_words {H : Type} : DataW H := .agg [.lit (.string [114, 101, 99]), .lit (.string [105, 115, 111]), .lit (.string [102, 117, 110]), .lit (.string [109, 101, 114, 103, 101]), .lit (.string [109, 97, 105, 110]), .lit (.string [118, 97, 114]), .lit (.string [105, 102]), .lit (.string [101, 108, 115, 101]), .lit (.string [119, 104, 105, 108, 101]), .lit (.string [114, 101, 116, 117, 114, 110]), .lit (.string [102, 111, 114, 107]), .lit (.string [106, 111, 105, 110]), .lit (.string [112, 114, 105, 110, 116]), .lit (.string [110, 101, 119]), .lit (.string [98, 121]), .lit (.string [105, 110, 116]), .lit (.string [98, 111, 111, 108]), .lit (.string [114, 101, 118]), .lit (.string [116, 114, 117, 101]), .lit (.string [102, 97, 108, 115, 101])]

/-- 'marlinelaw11.TreeTells': WHATEVER THE INPUT: true; the input reads as it did. -/
def treeTellsSpec : ChangeSpec := { name := "treeTells", fn := fun _ => fun
  | [d] => { results := [.lit (.bool true)], args := [d] }
  | _ => none }
def treeTellsRow : OpenClaim := { program := "ytkmkeaeaalnbjaadoor", sum := "a958348251868abe3e587da6817682798fec566475a0801a635a46020fead67c", func := "marline/marlinelaw11.TreeTells", spec := "treeTells", unfollowed := true, recurses := true, named := ["marline/word.words"], loops := true, apart := false, laid := [("marline/word.words", laid_marline_word_words)] }
def TreeTellsSaid : Prop := treeTellsRow.holds Tryd.pinned (OpenSpec.ofChange treeTellsSpec)

/-- ITS FALSE NEIGHBOUR: 'it returns false'. Refute it at one input. -/
def treeTellsWrong : ChangeSpec := { name := "treeTells", fn := fun _ => fun
  | [d] => { results := [.lit (.bool false)], args := [d] }
  | _ => none }
def TreeTellsWrongFalsely : Prop := treeTellsRow.holds Tryd.pinned (OpenSpec.ofChange treeTellsWrong)

/-- 'marlinelaw11.TreeGrows': WHATEVER THE INPUT: true; the input reads as it did. -/
def treeGrowsSpec : ChangeSpec := { name := "treeGrows", fn := fun _ => fun
  | [d1, d2, d3] => { results := [.lit (.bool true)], args := [d1, d2, d3] }
  | _ => none }
def treeGrowsRow : OpenClaim := { program := "ytkmkeaeaalnbjaadoor", sum := "a958348251868abe3e587da6817682798fec566475a0801a635a46020fead67c", func := "marline/marlinelaw11.TreeGrows", spec := "treeGrows", unfollowed := true, recurses := true, named := ["marline/word.words"], loops := true, apart := false, laid := [("marline/word.words", laid_marline_word_words)] }
def TreeGrowsSaid : Prop := treeGrowsRow.holds Tryd.pinned (OpenSpec.ofChange treeGrowsSpec)

/-- ITS FALSE NEIGHBOUR: 'it returns false'. Refute it at one input. -/
def treeGrowsWrong : ChangeSpec := { name := "treeGrows", fn := fun _ => fun
  | [d1, d2, d3] => { results := [.lit (.bool false)], args := [d1, d2, d3] }
  | _ => none }
def TreeGrowsWrongFalsely : Prop := treeGrowsRow.holds Tryd.pinned (OpenSpec.ofChange treeGrowsWrong)

/-- 'marlinelaw11.TreeWalks': WHATEVER THE INPUT: true; the input reads as it did. -/
def treeWalksSpec : ChangeSpec := { name := "treeWalks", fn := fun _ => fun
  | [d1, d2, d3] => { results := [.lit (.bool true)], args := [d1, d2, d3] }
  | _ => none }
def treeWalksRow : OpenClaim := { program := "ytkmkeaeaalnbjaadoor", sum := "a958348251868abe3e587da6817682798fec566475a0801a635a46020fead67c", func := "marline/marlinelaw11.TreeWalks", spec := "treeWalks", unfollowed := true, recurses := true, named := ["marline/word.words"], loops := true, apart := false, laid := [("marline/word.words", laid_marline_word_words)] }
def TreeWalksSaid : Prop := treeWalksRow.holds Tryd.pinned (OpenSpec.ofChange treeWalksSpec)

/-- ITS FALSE NEIGHBOUR: 'it returns false'. Refute it at one input. -/
def treeWalksWrong : ChangeSpec := { name := "treeWalks", fn := fun _ => fun
  | [d1, d2, d3] => { results := [.lit (.bool false)], args := [d1, d2, d3] }
  | _ => none }
def TreeWalksWrongFalsely : Prop := treeWalksRow.holds Tryd.pinned (OpenSpec.ofChange treeWalksWrong)

/-- 'marlinelaw11.TreeStops': WHATEVER THE INPUT: true; the input reads as it did. -/
def treeStopsSpec : ChangeSpec := { name := "treeStops", fn := fun _ => fun
  | [d1, d2] => { results := [.lit (.bool true)], args := [d1, d2] }
  | _ => none }
def treeStopsRow : OpenClaim := { program := "ytkmkeaeaalnbjaadoor", sum := "a958348251868abe3e587da6817682798fec566475a0801a635a46020fead67c", func := "marline/marlinelaw11.TreeStops", spec := "treeStops", unfollowed := true, recurses := true, named := ["marline/word.words"], apart := false, laid := [("marline/word.words", laid_marline_word_words)] }
def TreeStopsSaid : Prop := treeStopsRow.holds Tryd.pinned (OpenSpec.ofChange treeStopsSpec)

/-- ITS FALSE NEIGHBOUR: 'it returns false'. Refute it at one input. -/
def treeStopsWrong : ChangeSpec := { name := "treeStops", fn := fun _ => fun
  | [d1, d2] => { results := [.lit (.bool false)], args := [d1, d2] }
  | _ => none }
def TreeStopsWrongFalsely : Prop := treeStopsRow.holds Tryd.pinned (OpenSpec.ofChange treeStopsWrong)

/- THE SECOND FORM. 'bulk': how many values and letters a reading holds, each counted each time it is reached (what is shared counts as often as it is met; a slice's spare places count too). A statement '..UptoSaid' is the law's where the arguments, and the package variables that the reading takes, are together of bulk at most 1048576: NARROWER than '..Said'. Prove '..Said' where nothing that the law and all that it calls make is longer than what came in: it says more and counts as full. Else prove '..UptoSaid'. A law counts once. -/
mutual
def uptoBulk {H : Type} : DataW H → Nat
  | .lit (.string bytes) => bytes.length + 1
  | .lit _ => 1
  | .nil => 1
  | .ptr d => uptoBulk d + 1
  | .slice elems spare => uptoBulkAll elems + uptoBulkAll spare + 1
  | .agg parts => uptoBulkAll parts + 1
  | .iface _ d => uptoBulk d + 1
  | .map entries => uptoBulkEntries entries + 1
  | .held _ => 1
def uptoBulkAll {H : Type} : List (DataW H) → Nat
  | [] => 0
  | d :: r => uptoBulk d + uptoBulkAll r
def uptoBulkEntries {H : Type} : List (Lit × DataW H) → Nat
  | [] => 0
  | x :: r => uptoBulkEntry x + uptoBulkEntries r
def uptoBulkEntry {H : Type} : Lit × DataW H → Nat
  | (.string bytes, d) => bytes.length + uptoBulk d + 1
  | (_, d) => uptoBulk d + 1
 end
def uptoSmall : (H : Type) → List (DataW H) → Bool := fun _ ds => decide (uptoBulkAll ds ≤ 1048576)
def OpenSpec.upto (s : _root_.Go.ChangeSpec) : _root_.Go.OpenSpec := { _root_.Go.OpenSpec.ofChange s with cond := some uptoSmall }

/-- 'marlinelaw11.TreeTells', WHERE WHAT IT READS IS OF BULK AT MOST 1048576: true; the input reads as it did. -/
def treeTellsUptoRow : OpenClaim := { program := "ytkmkeaeaalnbjaadoor", sum := "a958348251868abe3e587da6817682798fec566475a0801a635a46020fead67c", func := "marline/marlinelaw11.TreeTells", spec := "treeTells", unfollowed := true, recurses := true, named := ["marline/word.words"], loops := true, apart := false, laid := [("marline/word.words", laid_marline_word_words)], narrowed := true }
def TreeTellsUptoSaid : Prop := treeTellsUptoRow.holds Tryd.pinned (OpenSpec.upto treeTellsSpec)

/-- 'marlinelaw11.TreeGrows', WHERE WHAT IT READS IS OF BULK AT MOST 1048576: true; the input reads as it did. -/
def treeGrowsUptoRow : OpenClaim := { program := "ytkmkeaeaalnbjaadoor", sum := "a958348251868abe3e587da6817682798fec566475a0801a635a46020fead67c", func := "marline/marlinelaw11.TreeGrows", spec := "treeGrows", unfollowed := true, recurses := true, named := ["marline/word.words"], loops := true, apart := false, laid := [("marline/word.words", laid_marline_word_words)], narrowed := true }
def TreeGrowsUptoSaid : Prop := treeGrowsUptoRow.holds Tryd.pinned (OpenSpec.upto treeGrowsSpec)

/-- 'marlinelaw11.TreeWalks', WHERE WHAT IT READS IS OF BULK AT MOST 1048576: true; the input reads as it did. -/
def treeWalksUptoRow : OpenClaim := { program := "ytkmkeaeaalnbjaadoor", sum := "a958348251868abe3e587da6817682798fec566475a0801a635a46020fead67c", func := "marline/marlinelaw11.TreeWalks", spec := "treeWalks", unfollowed := true, recurses := true, named := ["marline/word.words"], loops := true, apart := false, laid := [("marline/word.words", laid_marline_word_words)], narrowed := true }
def TreeWalksUptoSaid : Prop := treeWalksUptoRow.holds Tryd.pinned (OpenSpec.upto treeWalksSpec)

/-- 'marlinelaw11.TreeStops', WHERE WHAT IT READS IS OF BULK AT MOST 1048576: true; the input reads as it did. -/
def treeStopsUptoRow : OpenClaim := { program := "ytkmkeaeaalnbjaadoor", sum := "a958348251868abe3e587da6817682798fec566475a0801a635a46020fead67c", func := "marline/marlinelaw11.TreeStops", spec := "treeStops", unfollowed := true, recurses := true, named := ["marline/word.words"], apart := false, laid := [("marline/word.words", laid_marline_word_words)], narrowed := true }
def TreeStopsUptoSaid : Prop := treeStopsUptoRow.holds Tryd.pinned (OpenSpec.upto treeStopsSpec)

end Rows
end Go.Proofs.YtkmkeaeaalnbjaaDoor

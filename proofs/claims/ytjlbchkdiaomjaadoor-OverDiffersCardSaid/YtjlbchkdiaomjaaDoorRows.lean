/-
  NARROWER THAN 'FOR EVERY INPUT', by the rows' own cells (each row's printed sentence says how): TriePlays: laid · TrieStays: laid · TrieOf: laid · OverLays: laid · OverDiffers: laid · OverFolds: laid.
  DERIVED. THE GIVEN ROWS OF THIS SEAT. 6 by the template 'for every input the law returns true; each argument reads behind the call as it read before'; 0 by the template 'total and deterministic' (their statements: YtjlbchkdiaomjaaDoorTotals.lean).
  GIVEN WITH THE SEED: the statements are not yours to turn. If you find one false, say at which input.
  Laid BY PROGRAM, IN A SANDBOX (cutbox-rows.mjs): the forced cells as the released guide's own fill.sh prints them over the translation 88c3d04d039ef929… (all of the seat's roots in one cut). By AI agents, Wed Nov 11 2026. No macro, syntax, notation, axiom, sorry.
-/
import Derived.Test.YtjlbchkdiaomjaaDoorChecked
import GoSem.Claim
import GoSem.ClaimJoined
import GoSem.ClaimMapViews
import Derived.JoinedTies
import Derived.KernelRfl
namespace Go.Proofs.YtjlbchkdiaomjaaDoor
/- THE CELL 'sum', in the pinned program and in every row, IS THE sha256 OF THE DUMP (.gsa) THAT YtjlbchkdiaomjaaDoorProg.lean LOADS. Nothing in Lean hashes anything: it is a label: what it is worth is what the hold of that sum in a sandbox is worth. -/
noncomputable def Tryd.pinned : Pinned := { name := "ytjlbchkdiaomjaadoor", sum := "88c3d04d039ef9294aba1804f31340e11572765eb0ea55707469d2556b8dea23", checked := Tryd.checked }
namespace Rows
def none {H : Type} : Left H := { results := [], args := [] }

/- WHAT THE LISTED PACKAGE-LEVEL VARIABLES READ AS WHEN THE CALL BEGINS. Each datum BY PROGRAM (the guide's laid-datum.mjs) off the statement by which the dump's own 'gosem.cut.vars' lays the variable. In a bare row this is a premise. The card (YtjlbchkdiaomjaaDoorCards.lean) ties it to the program's text. -/
def laid_marline_mix_rounds {H : Type} : DataW H := .agg [.agg [.lit (.int .u64 30), .lit (.int .u64 13787848793156543929), .lit (.int .u64 10871156337175269513)], .agg [.lit (.int .u64 27), .lit (.int .u64 10723151780598845931), .lit (.int .u64 3573116690164977347)], .agg [.lit (.int .u64 31), .lit (.int .u64 1), .lit (.int .u64 1)]]

/-- 'marlinelaw04.TriePlays': WHATEVER THE INPUT: true; the input reads as it did. -/
def triePlaysSpec : ChangeSpec := { name := "triePlays", fn := fun _ => fun
  | [d1, d2] => { results := [.lit (.bool true)], args := [d1, d2] }
  | _ => none }
def triePlaysRow : OpenClaim := { program := "ytjlbchkdiaomjaadoor", sum := "88c3d04d039ef9294aba1804f31340e11572765eb0ea55707469d2556b8dea23", func := "marline/marlinelaw04.TriePlays", spec := "triePlays", unfollowed := true, recurses := true, named := ["marline/mix.rounds"], apart := false, laid := [("marline/mix.rounds", laid_marline_mix_rounds)] }
def TriePlaysSaid : Prop := triePlaysRow.holds Tryd.pinned (OpenSpec.ofChange triePlaysSpec)

/-- ITS FALSE NEIGHBOUR: 'it returns false'. Refute it at one input. -/
def triePlaysWrong : ChangeSpec := { name := "triePlays", fn := fun _ => fun
  | [d1, d2] => { results := [.lit (.bool false)], args := [d1, d2] }
  | _ => none }
def TriePlaysWrongFalsely : Prop := triePlaysRow.holds Tryd.pinned (OpenSpec.ofChange triePlaysWrong)

/-- 'marlinelaw04.TrieStays': WHATEVER THE INPUT: true; the input reads as it did. -/
def trieStaysSpec : ChangeSpec := { name := "trieStays", fn := fun _ => fun
  | [d] => { results := [.lit (.bool true)], args := [d] }
  | _ => none }
def trieStaysRow : OpenClaim := { program := "ytjlbchkdiaomjaadoor", sum := "88c3d04d039ef9294aba1804f31340e11572765eb0ea55707469d2556b8dea23", func := "marline/marlinelaw04.TrieStays", spec := "trieStays", unfollowed := true, recurses := true, named := ["marline/mix.rounds"], apart := false, laid := [("marline/mix.rounds", laid_marline_mix_rounds)] }
def TrieStaysSaid : Prop := trieStaysRow.holds Tryd.pinned (OpenSpec.ofChange trieStaysSpec)

/-- ITS FALSE NEIGHBOUR: 'it returns false'. Refute it at one input. -/
def trieStaysWrong : ChangeSpec := { name := "trieStays", fn := fun _ => fun
  | [d] => { results := [.lit (.bool false)], args := [d] }
  | _ => none }
def TrieStaysWrongFalsely : Prop := trieStaysRow.holds Tryd.pinned (OpenSpec.ofChange trieStaysWrong)

/-- 'marlinelaw04.TrieOf': WHATEVER THE INPUT: true; the input reads as it did. -/
def trieOfSpec : ChangeSpec := { name := "trieOf", fn := fun _ => fun
  | [d1, d2] => { results := [.lit (.bool true)], args := [d1, d2] }
  | _ => none }
def trieOfRow : OpenClaim := { program := "ytjlbchkdiaomjaadoor", sum := "88c3d04d039ef9294aba1804f31340e11572765eb0ea55707469d2556b8dea23", func := "marline/marlinelaw04.TrieOf", spec := "trieOf", unfollowed := true, recurses := true, named := ["marline/mix.rounds"], apart := false, laid := [("marline/mix.rounds", laid_marline_mix_rounds)] }
def TrieOfSaid : Prop := trieOfRow.holds Tryd.pinned (OpenSpec.ofChange trieOfSpec)

/-- ITS FALSE NEIGHBOUR: 'it returns false'. Refute it at one input. -/
def trieOfWrong : ChangeSpec := { name := "trieOf", fn := fun _ => fun
  | [d1, d2] => { results := [.lit (.bool false)], args := [d1, d2] }
  | _ => none }
def TrieOfWrongFalsely : Prop := trieOfRow.holds Tryd.pinned (OpenSpec.ofChange trieOfWrong)

/-- 'marlinelaw05.OverLays': WHATEVER THE INPUT: true; the input reads as it did. -/
def overLaysSpec : ChangeSpec := { name := "overLays", fn := fun _ => fun
  | [d1, d2] => { results := [.lit (.bool true)], args := [d1, d2] }
  | _ => none }
def overLaysRow : OpenClaim := { program := "ytjlbchkdiaomjaadoor", sum := "88c3d04d039ef9294aba1804f31340e11572765eb0ea55707469d2556b8dea23", func := "marline/marlinelaw05.OverLays", spec := "overLays", unfollowed := true, recurses := true, named := ["marline/mix.rounds"], apart := false, laid := [("marline/mix.rounds", laid_marline_mix_rounds)] }
def OverLaysSaid : Prop := overLaysRow.holds Tryd.pinned (OpenSpec.ofChange overLaysSpec)

/-- ITS FALSE NEIGHBOUR: 'it returns false'. Refute it at one input. -/
def overLaysWrong : ChangeSpec := { name := "overLays", fn := fun _ => fun
  | [d1, d2] => { results := [.lit (.bool false)], args := [d1, d2] }
  | _ => none }
def OverLaysWrongFalsely : Prop := overLaysRow.holds Tryd.pinned (OpenSpec.ofChange overLaysWrong)

/-- 'marlinelaw05.OverDiffers': WHATEVER THE INPUT: true; the input reads as it did. -/
def overDiffersSpec : ChangeSpec := { name := "overDiffers", fn := fun _ => fun
  | [d1, d2, d3] => { results := [.lit (.bool true)], args := [d1, d2, d3] }
  | _ => none }
def overDiffersRow : OpenClaim := { program := "ytjlbchkdiaomjaadoor", sum := "88c3d04d039ef9294aba1804f31340e11572765eb0ea55707469d2556b8dea23", func := "marline/marlinelaw05.OverDiffers", spec := "overDiffers", unfollowed := true, recurses := true, named := ["marline/mix.rounds"], apart := false, laid := [("marline/mix.rounds", laid_marline_mix_rounds)] }
def OverDiffersSaid : Prop := overDiffersRow.holds Tryd.pinned (OpenSpec.ofChange overDiffersSpec)

/-- ITS FALSE NEIGHBOUR: 'it returns false'. Refute it at one input. -/
def overDiffersWrong : ChangeSpec := { name := "overDiffers", fn := fun _ => fun
  | [d1, d2, d3] => { results := [.lit (.bool false)], args := [d1, d2, d3] }
  | _ => none }
def OverDiffersWrongFalsely : Prop := overDiffersRow.holds Tryd.pinned (OpenSpec.ofChange overDiffersWrong)

/-- 'marlinelaw05.OverFolds': WHATEVER THE INPUT: true; the input reads as it did. -/
def overFoldsSpec : ChangeSpec := { name := "overFolds", fn := fun _ => fun
  | [d] => { results := [.lit (.bool true)], args := [d] }
  | _ => none }
def overFoldsRow : OpenClaim := { program := "ytjlbchkdiaomjaadoor", sum := "88c3d04d039ef9294aba1804f31340e11572765eb0ea55707469d2556b8dea23", func := "marline/marlinelaw05.OverFolds", spec := "overFolds", unfollowed := true, recurses := true, named := ["marline/mix.rounds"], apart := false, laid := [("marline/mix.rounds", laid_marline_mix_rounds)] }
def OverFoldsSaid : Prop := overFoldsRow.holds Tryd.pinned (OpenSpec.ofChange overFoldsSpec)

/-- ITS FALSE NEIGHBOUR: 'it returns false'. Refute it at one input. -/
def overFoldsWrong : ChangeSpec := { name := "overFolds", fn := fun _ => fun
  | [d] => { results := [.lit (.bool false)], args := [d] }
  | _ => none }
def OverFoldsWrongFalsely : Prop := overFoldsRow.holds Tryd.pinned (OpenSpec.ofChange overFoldsWrong)

/- THE SECOND FORM. 'bulk': how many values and letters a reading holds, each counted each time it is reached (what is shared counts as often as it is met; a slice's spare places count too). A statement '..UptoSaid' is the law's where the arguments, and the package variables that the reading takes, are together of bulk at most 1048576: NARROWER than '..Said'. Prove '..Said' where nothing that the law and all that it calls make is longer than what came in: it says more and counts as full. Else prove '..UptoSaid'. A law counts once. -/
mutual
def uptoBulk {H : Type} : DataW H → Nat
  | .lit (.string bytes) => bytes.length + 1
  | .lit _ => 1
  | .nil => 1
  | .ptr d => uptoBulk d + 1
  | .slice elems spare => uptoBulkAll elems + uptoBulkAll spare + 1
  | .agg parts => uptoBulkAll parts + 1
  | .iface _ d => uptoBulk d + 1
  | .map entries => uptoBulkEntries entries + 1
  | .held _ => 1
def uptoBulkAll {H : Type} : List (DataW H) → Nat
  | [] => 0
  | d :: r => uptoBulk d + uptoBulkAll r
def uptoBulkEntries {H : Type} : List (Lit × DataW H) → Nat
  | [] => 0
  | x :: r => uptoBulkEntry x + uptoBulkEntries r
def uptoBulkEntry {H : Type} : Lit × DataW H → Nat
  | (.string bytes, d) => bytes.length + uptoBulk d + 1
  | (_, d) => uptoBulk d + 1
 end
def uptoSmall : (H : Type) → List (DataW H) → Bool := fun _ ds => decide (uptoBulkAll ds ≤ 1048576)
def OpenSpec.upto (s : _root_.Go.ChangeSpec) : _root_.Go.OpenSpec := { _root_.Go.OpenSpec.ofChange s with cond := some uptoSmall }

/-- 'marlinelaw04.TriePlays', WHERE WHAT IT READS IS OF BULK AT MOST 1048576: true; the input reads as it did. -/
def triePlaysUptoRow : OpenClaim := { program := "ytjlbchkdiaomjaadoor", sum := "88c3d04d039ef9294aba1804f31340e11572765eb0ea55707469d2556b8dea23", func := "marline/marlinelaw04.TriePlays", spec := "triePlays", unfollowed := true, recurses := true, named := ["marline/mix.rounds"], apart := false, laid := [("marline/mix.rounds", laid_marline_mix_rounds)], narrowed := true }
def TriePlaysUptoSaid : Prop := triePlaysUptoRow.holds Tryd.pinned (OpenSpec.upto triePlaysSpec)

/-- 'marlinelaw04.TrieStays', WHERE WHAT IT READS IS OF BULK AT MOST 1048576: true; the input reads as it did. -/
def trieStaysUptoRow : OpenClaim := { program := "ytjlbchkdiaomjaadoor", sum := "88c3d04d039ef9294aba1804f31340e11572765eb0ea55707469d2556b8dea23", func := "marline/marlinelaw04.TrieStays", spec := "trieStays", unfollowed := true, recurses := true, named := ["marline/mix.rounds"], apart := false, laid := [("marline/mix.rounds", laid_marline_mix_rounds)], narrowed := true }
def TrieStaysUptoSaid : Prop := trieStaysUptoRow.holds Tryd.pinned (OpenSpec.upto trieStaysSpec)

/-- 'marlinelaw04.TrieOf', WHERE WHAT IT READS IS OF BULK AT MOST 1048576: true; the input reads as it did. -/
def trieOfUptoRow : OpenClaim := { program := "ytjlbchkdiaomjaadoor", sum := "88c3d04d039ef9294aba1804f31340e11572765eb0ea55707469d2556b8dea23", func := "marline/marlinelaw04.TrieOf", spec := "trieOf", unfollowed := true, recurses := true, named := ["marline/mix.rounds"], apart := false, laid := [("marline/mix.rounds", laid_marline_mix_rounds)], narrowed := true }
def TrieOfUptoSaid : Prop := trieOfUptoRow.holds Tryd.pinned (OpenSpec.upto trieOfSpec)

/-- 'marlinelaw05.OverLays', WHERE WHAT IT READS IS OF BULK AT MOST 1048576: true; the input reads as it did. -/
def overLaysUptoRow : OpenClaim := { program := "ytjlbchkdiaomjaadoor", sum := "88c3d04d039ef9294aba1804f31340e11572765eb0ea55707469d2556b8dea23", func := "marline/marlinelaw05.OverLays", spec := "overLays", unfollowed := true, recurses := true, named := ["marline/mix.rounds"], apart := false, laid := [("marline/mix.rounds", laid_marline_mix_rounds)], narrowed := true }
def OverLaysUptoSaid : Prop := overLaysUptoRow.holds Tryd.pinned (OpenSpec.upto overLaysSpec)

/-- 'marlinelaw05.OverDiffers', WHERE WHAT IT READS IS OF BULK AT MOST 1048576: true; the input reads as it did. -/
def overDiffersUptoRow : OpenClaim := { program := "ytjlbchkdiaomjaadoor", sum := "88c3d04d039ef9294aba1804f31340e11572765eb0ea55707469d2556b8dea23", func := "marline/marlinelaw05.OverDiffers", spec := "overDiffers", unfollowed := true, recurses := true, named := ["marline/mix.rounds"], apart := false, laid := [("marline/mix.rounds", laid_marline_mix_rounds)], narrowed := true }
def OverDiffersUptoSaid : Prop := overDiffersUptoRow.holds Tryd.pinned (OpenSpec.upto overDiffersSpec)

/-- 'marlinelaw05.OverFolds', WHERE WHAT IT READS IS OF BULK AT MOST 1048576: true; the input reads as it did. -/
def overFoldsUptoRow : OpenClaim := { program := "ytjlbchkdiaomjaadoor", sum := "88c3d04d039ef9294aba1804f31340e11572765eb0ea55707469d2556b8dea23", func := "marline/marlinelaw05.OverFolds", spec := "overFolds", unfollowed := true, recurses := true, named := ["marline/mix.rounds"], apart := false, laid := [("marline/mix.rounds", laid_marline_mix_rounds)], narrowed := true }
def OverFoldsUptoSaid : Prop := overFoldsUptoRow.holds Tryd.pinned (OpenSpec.upto overFoldsSpec)

end Rows
end Go.Proofs.YtjlbchkdiaomjaaDoor

/- What package whole's functions that reckon return, for every input. -/
import Derived.Test.YtjppfnofceejhaaDoorProg
import Derived.Test.YtjppfnofceejhaaDoorWholeMath
import Derived.WalkKit
import Derived.BigQuiet
import Derived.Deep.QuietTactic
import Derived.Lib.Hide
namespace Go.Proofs.YtjppfnofceejhaaDoor.whole
open Go.RowKit wm

/-- what a pair of numbers is, as a call's end -/
abbrev ret2 (p : Int × Int) : Ending := .returned (.tuple #[.int .i64 p.1, .int .i64 p.2])



theorem neg_fits (b : Int) (hb : -9223372036854775808 ≤ b ∧ b ≤ 9223372036854775807) : (b != -9223372036854775808) = fitsB (-1 * b) := by
  unfold fitsB
  rw [Bool.eq_iff_iff]
  simp only [bne_iff_ne, decide_eq_true_eq]
  omega



end Go.Proofs.YtjppfnofceejhaaDoor.whole

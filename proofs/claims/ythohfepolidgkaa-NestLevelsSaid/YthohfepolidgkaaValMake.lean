/- What is made of numbers, flags and values; copies. -/
import Derived.Test.YthohfepolidgkaaValOwn
import Derived.Test.YthohfepolidgkaaValSize
import Derived.WalkSpells
namespace Go.Proofs.Ythohfepolidgkaa.vt
open Go.RowKit mem

def bit (b : Bool) : Int := if b then 1 else 0
theorem val_ret (k n : Int) (s : Value) (P : Ending → World → Prop) (w : World) (h : P (.returned (.agg #[.int .i64 k, .int .i64 n, s])) w) : P (.returned (.agg #[.int .i64 k, .int .i64 n, s])) w := h
end Go.Proofs.Ythohfepolidgkaa.vt

/- A value with another one where steps lead: the document's way. -/
import Derived.Test.YtlejcmojimkjeaaPathWithOne
import Derived.Test.YtlejcmojimkjeaaPathWithTwo
namespace Go.Proofs.Ytlejcmojimkjeaa.vt
open Go.RowKit mem

theorem rwith_any (l : List Way) : RWith l := by
  induction l with
  | nil => exact rwith_nil
  | cons wy r ih =>
    intro G G' t x s xs ws w hi hix hlen hat h hx hw
    obtain ⟨b, off, L, cap, rfl, hb, ⟨hL1, hL2, hL3⟩, hiy, c0, c1⟩ := ways_head hw
    by_cases hc1 : cap = 1
    · exact rwith_one wy r ih G G' t x s xs b off L cap w hb hL1 hL2 hL3 hc1 hi hix hlen hat h hx hw hiy c0 c1
    · exact rwith_two wy r ih G G' t x s xs b off L cap w hb hL1 hL2 hL3 hc1 hi hix hlen hat h hx hw hiy c0 c1
end Go.Proofs.Ytlejcmojimkjeaa.vt

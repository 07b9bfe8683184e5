/- The reader begins: what it does at any bytes. -/
import Derived.Test.YtnjcapenkoemlaaCellBegin1
import Derived.Test.YtnjcapenkoemlaaCellBegin2
namespace Go.Proofs.Ytnjcapenkoemlaa.vt.ce
open Go.RowKit mem vt

theorem begin_any (B rb : Nat) (s : List UInt8) (o : List Part) (d : List VT) (w : World) (h : Rdr B rb s o d w) (hd : d.length ≤ 1048576) (ho : o.length ≤ 1048576) :
    Calls Try.prog 27 #[.pointer (some ⟨rb, 0, none⟩)] w (BeginPost B rb s o d w) := by
  cases s with
  | nil => exact begin_nil B rb o d w h
  | cons c r =>
    by_cases h0 : c = 0
    · subst h0; exact begin_zero B rb r o d w h hd
    by_cases h1 : c = 1
    · subst h1; exact begin_one B rb r o d w h hd
    by_cases h2 : c = 2
    · subst h2; exact begin_two B rb r o d w h hd ho
    by_cases h3 : c = 3
    · subst h3; exact begin_three B rb r o d w h hd ho
    exact begin_none B rb c r o d w h h0 h1 (fun h => h.elim h2 h3)
end Go.Proofs.Ytnjcapenkoemlaa.vt.ce

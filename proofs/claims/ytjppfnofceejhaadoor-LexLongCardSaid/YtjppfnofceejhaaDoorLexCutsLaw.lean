/- LexCuts' law: any source's tokens, or its first error, and its place. -/
import Derived.Test.YtjppfnofceejhaaDoorLexWorks
namespace Go.Proofs.YtjppfnofceejhaaDoor.lx
open Go.RowKit mem vt wd

theorem from_b {f : Nat} {args : Array Value} {w w1 : World} {r : Ending} (h : Calls Tryd.prog f args w1 fun e w' => e = r ∧ Below w1.heap.size w1 w') (hb : Below w.heap.size w w1) : Calls Tryd.prog f args w1 fun e w' => e = r ∧ Below w.heap.size w w' :=
  h.mono fun e w' ⟨h1, h2⟩ => ⟨h1, hb.trans (h2.mono hb.size)⟩
theorem cuts_short (s : ByteArray) (w : World) (hs : s.size ≤ 500) (hL : LD w) : Calls Tryd.prog 3 #[.string s] w fun e w' => e = .returned (.bool true) ∧ Below w.heap.size w w' := by
  have hs2 : (s.size : Int) ≤ 500 := by omega
  have hl : s.data.toList.length = s.size := by simp
  have HW := Lib.hid (fun w' hb => from_b (w := w) (w1 := w') (works_any w' (hL.on hb)) hb)
  have HA := Lib.hid (fun w' (hb : Below w.heap.size w w') => lall_any s w' (by omega) (hL.on hb))
  have HR := Lib.hid (fun w' => rlall_any s w' (by omega))
  have hp := lex_place _ s.data.toList 0 (Nat.le_refl _)
  have hcnt := lex_count _ s.data.toList 0 (Nat.le_refl _)
  have hlex := lexA_in (l := s.data.toList) (by omega)
  unfold AllPost at HA
  rw [hlex] at HA
  obtain ⟨⟨er, at_, ts⟩, hr⟩ : ∃ r, r = lexW s.data.toList 0 := ⟨_, rfl⟩
  rw [← hr] at HA HR hp hcnt
  simp only at HA HR hp hcnt
  have hat : (at_ : Int) ≤ (s.size : Int) := by omega
  have hts : ts.length ≤ 1048576 := by omega
  clear hr hlex hp hcnt
  have hb0 : Below w.heap.size w w := Below.refl _ _
  go_enter Tryd.func3, Tryd.ntmps3
  go_wp2_with (fail)
  refine (HW.out _ hb0).mono ?_
  rintro e w1 ⟨rfl, hb1⟩
  go_wp2_with (fail)
  refine (HA.out _ hb1).mono ?_
  rintro e w2 ⟨v1, rfl, hg1⟩
  go_wp2_with (fail)
  refine (HR.out _).mono ?_
  rintro e w3 ⟨v2, rfl, hg2⟩
  have hs1 := TokS.of_got hg1
  have hs2' := TokS.of_got hg2
  have hb2 := hb1.trans (hg1.2.mono hb1.size)
  have hb3 := hb2.trans (hg2.2.mono hb2.size)
  have HSm := Lib.hid (rsame_any ts v1 v2 w3 w3.heap.size ((hs1.below hg2.2).more hg2.2.size) hs2' hts)
  have HB3 := Lib.hid hb3
  clear hb0 hb1 hb2 hb3 hg1 hg2 hs1 hs2'
  go_wp2_with (fail)
  refine HSm.out.mono ?_
  rintro e w4 ⟨rfl, q, rfl⟩
  go_wp2_with (fail)
  go_ret
  exact ⟨rfl, below_drewN HB3.out _⟩
theorem cuts_long (s : ByteArray) (w : World) (hs : 500 < s.size) (hm : s.size ≤ 9223372036854775807) (hL : LD w) : Calls Tryd.prog 3 #[.string s] w fun e w' => e = .returned (.bool true) ∧ Below w.heap.size w w' := by
  have hs2 : 500 < (s.size : Int) := by omega
  have HW := Lib.hid (fun w' hb => from_b (w := w) (w1 := w') (works_any w' (hL.on hb)) hb)
  have hb0 : Below w.heap.size w w := Below.refl _ _
  go_enter Tryd.func3, Tryd.ntmps3
  go_wp2_with (fail)
  refine (HW.out _ hb0).mono ?_
  rintro e w1 ⟨rfl, hb1⟩
  go_wp2_with (fail)
  refine (HW.out _ hb1).mono ?_
  rintro e w2 ⟨rfl, hb2⟩
  go_wp2_with (fail)
  go_ret
  exact ⟨rfl, hb2⟩
theorem cuts_any (s : ByteArray) (w : World) (hm : s.size ≤ 9223372036854775807) (hL : LD w) : Calls Tryd.prog 3 #[.string s] w fun e w' => e = .returned (.bool true) ∧ Below w.heap.size w w' := by
  by_cases h : 500 < s.size
  · exact cuts_long s w h hm hL
  · exact cuts_short s w (by omega) hL
end Go.Proofs.YtjppfnofceejhaaDoor.lx

/- PlaceTells, walked: it returns true, and of what was there nothing has turned. -/
import Derived.Test.YtoljheenijblmaaPlaceAt
import Derived.Test.YtoljheenijblmaaPlaceLine
namespace Go.Proofs.Ytoljheenijblmaa.place
open Go.RowKit pl mem

theorem at_lit (B g : Nat) (s : ByteArray) (off : Int) (w : World) (h : Ln B w g s) (hB : B ≤ w.heap.size) (hs : s.size ≤ 1048576) (n : Nat) (hns : n ≤ s.size) (hn : (off < 0 ∧ n = 0) ∨ (0 ≤ off ∧ off ≤ s.size ∧ off = n) ∨ ((s.size : Int) < off ∧ n = s.size))
    (a b : Int) (ha : ((begT s.data.toList n).length : Int) = a) (hb : (n : Int) - (lastT s.data.toList n : Nat) + 1 = b) :
    Calls Try.prog 7 #[.pointer (some ⟨g, 0, none⟩), .int .i64 off] w fun e w' => e = .returned (.tuple #[.int .i64 a, .int .i64 b]) ∧ Below w.heap.size w w' := by
  subst ha
  subst hb
  exact at_any B g s off w h hB hs n hns hn
theorem off_lit (B g : Nat) (s : ByteArray) (i : Nat) (a c r : Int) (w : World) (h : Ln B w g s) (hs : s.size ≤ 1048576) (hi : i < cnt s) (ha : a = (i : Int) + 1) (hc1 : 1 ≤ c) (hc2 : c ≤ ((segT s.data.toList s.size i).length : Int) + 1) (hr : r = ((begT s.data.toList s.size).getD i 0 : Nat) + c - 1) :
    Calls Try.prog 9 #[.pointer (some ⟨g, 0, none⟩), .int .i64 a, .int .i64 c] w fun e w' => e = .returned (.tuple #[.int .i64 r, .bool true]) ∧ ∃ q, w' = w.drewN q := by
  subst ha
  subst hr
  exact off_in B g s i c w h hs hi _ _ rfl rfl hc1 hc2
set_option maxHeartbeats 400000 in
theorem works_any (w : World) :
    Calls Try.prog 5 #[] w fun e w' => e = .returned (.bool true) ∧ Below w.heap.size w w' := by
  have c1 := Lib.hid (fun w => of_any { data := #[97, 98, 10, 99] } w (by decide))
  have c2 := Lib.hid (fun B g w h hB => at_lit B g { data := #[97, 98, 10, 99] } 2 w h hB (by decide) 2 (by decide) (by decide) 1 3 (by decide) (by decide))
  have c3 := Lib.hid (fun B g w h hB => at_lit B g { data := #[97, 98, 10, 99] } 3 w h hB (by decide) 3 (by decide) (by decide) 2 1 (by decide) (by decide))
  have hc : cnt { data := #[97, 98, 10, 99] } = 2 := by decide
  have c4 := Lib.hid (fun B g w h => count_any B g { data := #[97, 98, 10, 99] } w h)
  rw [hc] at c4
  clear hc
  go_enter Try.func5, Try.ntmps5
  go_wp2_with (fail)
  refine (c1.out _).mono ?_
  rintro e w1 ⟨g, rfl, hb1, hl1⟩
  have hl1 := Lib.hid hl1
  have hb1 := Lib.hid hb1
  go_wp2_with (fail)
  refine (c2.out _ g _ hl1.out (Nat.le_refl _)).mono ?_
  rintro e w2 ⟨rfl, hb2⟩
  have hb2 := Lib.hid hb2
  go_wp2_with (fail)
  refine (c3.out _ g _ (hl1.out.below hb2.out) hb2.out.size).mono ?_
  rintro e w3 ⟨rfl, hb3⟩
  have hb3 := Lib.hid (hb2.out.trans (hb3.mono hb2.out.size))
  go_wp2_with (fail)
  refine (c4.out _ g _ (hl1.out.below hb3.out)).mono ?_
  rintro e w4 ⟨rfl, rfl⟩
  go_wp2_with (fail)
  go_ret
  exact ⟨rfl, hb1.out.trans (hb3.out.mono hb1.out.size)⟩
theorem tells_long (s : ByteArray) (off : Int) (w : World) (hl : 400 < s.size) (hs : s.size ≤ 9223372036854775807) :
    Calls Try.prog 3 #[.string s, .int .i64 off] w fun e w' => e = .returned (.bool true) ∧ Below w.heap.size w w' := by
  go_enter Try.func3, Try.ntmps3
  go_wp2_with (fail)
  refine (works_any _).mono ?_
  rintro e w1 ⟨rfl, hb1⟩
  have hb1 := Lib.hid hb1
  go_wp2_with (fail)
  refine (works_any _).mono ?_
  rintro e w2 ⟨rfl, hb2⟩
  have hb2 := Lib.hid hb2
  go_wp2_with (fail)
  go_ret
  exact ⟨rfl, hb1.out.trans (hb2.out.mono hb1.out.size)⟩
set_option maxHeartbeats 1000000 in
theorem tells_short (s : ByteArray) (off r : Int) (n : Nat) (w : World) (hl : s.size ≤ 400) (hns : n ≤ s.size) (hr : r = n) (hn : (off < 0 ∧ n = 0) ∨ (0 ≤ off ∧ off ≤ s.size ∧ off = n) ∨ ((s.size : Int) < off ∧ n = s.size)) (hrn : (off < 0 ∧ r = 0) ∨ (off = 0 ∧ ¬ 0 < (s.size : Int) ∧ r = 0) ∨ (off = 0 ∧ 0 < (s.size : Int) ∧ r = 0) ∨ (0 < off ∧ off < s.size ∧ off = r) ∨ (off = s.size ∧ 0 < (s.size : Int) ∧ r = s.size) ∨ ((s.size : Int) < off ∧ ¬ 0 < (s.size : Int) ∧ r = 0) ∨ ((s.size : Int) < off ∧ 0 < (s.size : Int) ∧ r = s.size)) :
    Calls Try.prog 3 #[.string s, .int .i64 off] w fun e w' => e = .returned (.bool true) ∧ Below w.heap.size w w' := by
  have hat := atS_begT s.data.toList n (by simpa using hns)
  have hpl := place_in s.data.toList n (by simpa using hns)
  have hp := begT_pos s.data.toList n
  have hla := lastT_le s.data.toList n
  have hsg := segT_len s.data.toList s.size ((begT s.data.toList n).length - 1) (by simp)
  rw [show s.data.toList.length = s.size by simp] at hpl
  have cW := Lib.hid (fun w => works_any w)
  have cO := Lib.hid (fun w => of_any s w (by omega))
  have cA := Lib.hid (fun B g w h hB => at_lit B g s off w h hB (by omega) n hns hn (atS (s.data.toList.take n)).1 (atS (s.data.toList.take n)).2 (by rw [hat]) (by rw [hat]; simp only; omega))
  have cR := Lib.hid (fun w => rat_in s n w (by omega) hns off hn)
  have cF := Lib.hid (fun B g w h => off_lit B g s ((begT s.data.toList n).length - 1) (atS (s.data.toList.take n)).1 (atS (s.data.toList.take n)).2 r w h (by omega) (by unfold cnt; omega) (by rw [hat]; simp only; omega) (by rw [hat]; simp only; omega) (by rw [hat, hsg, hpl.1]; simp only; omega) (by rw [hat, hpl.1, hr]; simp only; omega))
  obtain ⟨a, ha⟩ : ∃ a, a = (atS (s.data.toList.take n)).1 := ⟨_, rfl⟩
  obtain ⟨b, hb⟩ : ∃ b, b = (atS (s.data.toList.take n)).2 := ⟨_, rfl⟩
  rw [← ha, ← hb] at cA cR cF
  have HN := Lib.hid hrn
  clear hat hpl hp hla hsg ha hb hr hn hns hrn
  go_enter Try.func3, Try.ntmps3
  go_wp2_with (fail)
  refine (cW.out _).mono ?_
  rintro e w1 ⟨rfl, hb1⟩
  have hb1 := Lib.hid hb1
  go_wp2_with (fail)
  refine (cO.out _).mono ?_
  rintro e w2 ⟨g, rfl, hb2, hl2⟩
  have hl2 := Lib.hid hl2
  have hb2 := Lib.hid (hb1.out.trans (hb2.mono hb1.out.size))
  go_wp2_with (fail)
  refine (cA.out _ g _ hl2.out (Nat.le_refl _)).mono ?_
  rintro e w3 ⟨rfl, hb3⟩
  have hl3 := Lib.hid (hl2.out.below hb3)
  have hb3 := Lib.hid (hb2.out.trans (hb3.mono hb2.out.size))
  go_wp2_with (fail)
  refine (cR.out _).mono ?_
  rintro e w' ⟨rfl, rfl⟩
  go_wp2_with (fail)
  refine (cF.out _ g _ hl3.out).mono ?_
  rintro e w' ⟨rfl, q, rfl⟩
  have hb5 := Lib.hid (below_drewN hb3.out q)
  rcases HN.out with ⟨x1, rfl⟩ | ⟨rfl, x1, rfl⟩ | ⟨rfl, x1, rfl⟩ | ⟨x1, x2, rfl⟩ | ⟨rfl, x1, rfl⟩ | ⟨x1, x2, rfl⟩ | ⟨x1, x2, rfl⟩
  · clear HN
    go_wp2_with (fail)
    refine (at_nil _ _).mono ?_
    rintro e w6 ⟨rfl, hb6⟩
    have hb6 := Lib.hid (hb5.out.trans (hb6.mono hb5.out.size))
    go_wp2_with (fail)
    refine (off_nil _ _ _).mono ?_
    rintro e w' ⟨rfl, rfl⟩
    go_wp2_with (fail)
    refine (line_nil _ _).mono ?_
    rintro e w' ⟨rfl, rfl⟩
    go_wp2_with (fail)
    refine (count_nil _).mono ?_
    rintro e w' ⟨rfl, rfl⟩
    go_wp2_with (fail)
    go_ret
    exact ⟨rfl, hb6.out⟩
  · clear HN
    go_wp2_with (fail)
    refine (at_nil _ _).mono ?_
    rintro e w6 ⟨rfl, hb6⟩
    have hb6 := Lib.hid (hb5.out.trans (hb6.mono hb5.out.size))
    go_wp2_with (fail)
    refine (off_nil _ _ _).mono ?_
    rintro e w' ⟨rfl, rfl⟩
    go_wp2_with (fail)
    refine (line_nil _ _).mono ?_
    rintro e w' ⟨rfl, rfl⟩
    go_wp2_with (fail)
    refine (count_nil _).mono ?_
    rintro e w' ⟨rfl, rfl⟩
    go_wp2_with (fail)
    go_ret
    exact ⟨rfl, hb6.out⟩
  · clear HN
    go_wp2_with (fail)
    refine (at_nil _ _).mono ?_
    rintro e w6 ⟨rfl, hb6⟩
    have hb6 := Lib.hid (hb5.out.trans (hb6.mono hb5.out.size))
    go_wp2_with (fail)
    refine (off_nil _ _ _).mono ?_
    rintro e w' ⟨rfl, rfl⟩
    go_wp2_with (fail)
    refine (line_nil _ _).mono ?_
    rintro e w' ⟨rfl, rfl⟩
    go_wp2_with (fail)
    refine (count_nil _).mono ?_
    rintro e w' ⟨rfl, rfl⟩
    go_wp2_with (fail)
    go_ret
    exact ⟨rfl, hb6.out⟩
  · clear HN
    go_wp2_with (fail)
    refine (at_nil _ _).mono ?_
    rintro e w6 ⟨rfl, hb6⟩
    have hb6 := Lib.hid (hb5.out.trans (hb6.mono hb5.out.size))
    go_wp2_with (fail)
    refine (off_nil _ _ _).mono ?_
    rintro e w' ⟨rfl, rfl⟩
    go_wp2_with (fail)
    refine (line_nil _ _).mono ?_
    rintro e w' ⟨rfl, rfl⟩
    go_wp2_with (fail)
    refine (count_nil _).mono ?_
    rintro e w' ⟨rfl, rfl⟩
    go_wp2_with (fail)
    go_ret
    exact ⟨rfl, hb6.out⟩
  · clear HN
    go_wp2_with (fail)
    refine (at_nil _ _).mono ?_
    rintro e w6 ⟨rfl, hb6⟩
    have hb6 := Lib.hid (hb5.out.trans (hb6.mono hb5.out.size))
    go_wp2_with (fail)
    refine (off_nil _ _ _).mono ?_
    rintro e w' ⟨rfl, rfl⟩
    go_wp2_with (fail)
    refine (line_nil _ _).mono ?_
    rintro e w' ⟨rfl, rfl⟩
    go_wp2_with (fail)
    refine (count_nil _).mono ?_
    rintro e w' ⟨rfl, rfl⟩
    go_wp2_with (fail)
    go_ret
    exact ⟨rfl, hb6.out⟩
  · clear HN
    go_wp2_with (fail)
    refine (at_nil _ _).mono ?_
    rintro e w6 ⟨rfl, hb6⟩
    have hb6 := Lib.hid (hb5.out.trans (hb6.mono hb5.out.size))
    go_wp2_with (fail)
    refine (off_nil _ _ _).mono ?_
    rintro e w' ⟨rfl, rfl⟩
    go_wp2_with (fail)
    refine (line_nil _ _).mono ?_
    rintro e w' ⟨rfl, rfl⟩
    go_wp2_with (fail)
    refine (count_nil _).mono ?_
    rintro e w' ⟨rfl, rfl⟩
    go_wp2_with (fail)
    go_ret
    exact ⟨rfl, hb6.out⟩
  · clear HN
    go_wp2_with (fail)
    refine (at_nil _ _).mono ?_
    rintro e w6 ⟨rfl, hb6⟩
    have hb6 := Lib.hid (hb5.out.trans (hb6.mono hb5.out.size))
    go_wp2_with (fail)
    refine (off_nil _ _ _).mono ?_
    rintro e w' ⟨rfl, rfl⟩
    go_wp2_with (fail)
    refine (line_nil _ _).mono ?_
    rintro e w' ⟨rfl, rfl⟩
    go_wp2_with (fail)
    refine (count_nil _).mono ?_
    rintro e w' ⟨rfl, rfl⟩
    go_wp2_with (fail)
    go_ret
    exact ⟨rfl, hb6.out⟩
/-- PlaceTells, whatever the input. -/
theorem tells_any (s : ByteArray) (off : Int) (w : World) (hs : s.size ≤ 9223372036854775807) :
    Calls Try.prog 3 #[.string s, .int .i64 off] w fun e w' => e = .returned (.bool true) ∧ Below w.heap.size w w' := by
  by_cases hl : s.size ≤ 400
  · exact tells_short s off (clampS s.size off : Nat) _ w hl (by unfold clampS; omega) rfl (by unfold clampS; omega) (by unfold clampS; omega)
  · exact tells_long s off w (by omega) hs
end Go.Proofs.Ytoljheenijblmaa.place

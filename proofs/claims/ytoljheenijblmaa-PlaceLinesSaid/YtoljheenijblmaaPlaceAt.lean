/- A place's line and column, as package place's At tells them. -/
import Derived.Test.YtoljheenijblmaaPlaceSeek
import Derived.StillTailTactics
namespace Go.Proofs.Ytoljheenijblmaa.place
open Go.RowKit pl mem

theorem at_nil (off : Int) (w : World) : Calls Try.prog 7 #[.pointer none, .int .i64 off] w fun e w' => e = .returned (.tuple #[.int .i64 0, .int .i64 0]) ∧ Below w.heap.size w w' := by
  go_enter Try.func7, Try.ntmps7
  go_wp2_with (go_at_call 11; refine (count_nil _).mono ?_; rintro e w' ⟨rfl, rfl⟩)
  go_ret2
  exact ⟨rfl, ((Below.refl _ _).alloc (Nat.le_refl _) _).alloc (by simp) _⟩
/-- the lines that begin ahead of a place, or at it -/
theorem sought (s : ByteArray) (n i : Nat) (hn : n ≤ s.size) (hi : i < cnt s) : decide ((n : Int) < ((begT s.data.toList s.size).getD i 0 : Nat)) = decide ((begT s.data.toList n).length ≤ i) := by
  obtain ⟨j, hj⟩ : ∃ j, s.size = n + j := ⟨s.size - n, by omega⟩
  unfold cnt at hi
  rw [hj] at hi ⊢
  rw [decide_eq_decide]
  constructor
  · intro h
    refine Nat.le_of_not_lt fun hc => ?_
    have h1 := (begT_stay s.data.toList n j i hc).1
    have h2 := begT_le s.data.toList n i
    omega
  · intro h
    have := begT_more s.data.toList n j i h hi
    omega
theorem last_at (s : ByteArray) (n m : Nat) (hn : n ≤ s.size) (hm : (begT s.data.toList n).length = m + 1) : (begT s.data.toList s.size).getD m 0 = lastT s.data.toList n ∧ m < cnt s := by
  have h := place_in s.data.toList n (by simpa using hn)
  rw [hm, show s.data.toList.length = s.size by simp] at h
  simp only [Nat.add_sub_cancel] at h
  exact ⟨h.1, by unfold cnt; omega⟩
set_option maxHeartbeats 1000000 in
theorem at_any (B g : Nat) (s : ByteArray) (off : Int) (w : World) (h : Ln B w g s) (hB : B ≤ w.heap.size) (hs : s.size ≤ 1048576) (n : Nat) (hns : n ≤ s.size) (hn : (off < 0 ∧ n = 0) ∨ (0 ≤ off ∧ off ≤ s.size ∧ off = n) ∨ ((s.size : Int) < off ∧ n = s.size)) :
    Calls Try.prog 7 #[.pointer (some ⟨g, 0, none⟩), .int .i64 off] w fun e w' => e = .returned (.tuple #[.int .i64 ((begT s.data.toList n).length : Nat), .int .i64 ((n : Int) - (lastT s.data.toList n : Nat) + 1)]) ∧ Below w.heap.size w w' := by
  have HL := Lib.hid h
  obtain ⟨c, hc⟩ : ∃ c, (begT s.data.toList n).length = c + 1 := ⟨_, (Nat.sub_add_cancel (begT_pos s.data.toList n)).symm⟩
  obtain ⟨hl, hcc⟩ := last_at s n c hns hc
  obtain ⟨z, hz⟩ : ∃ z, z = lastT s.data.toList n := ⟨_, rfl⟩
  have hzl := lastT_le s.data.toList n
  have hso := Lib.hid (fun i hi => sought s n i hns hi)
  rw [hc] at hso ⊢
  rw [← hz] at hl hzl ⊢
  have hl := Lib.hid hl
  clear hc hz
  obtain ⟨h1, h2, b, cap, h3, h4, h5⟩ := h
  change w.cell? ⟨g, 1, none⟩ = some (.slice (some ⟨b, 0, none⟩) (cnt s) cap) at h3
  clear h5
  have hg : g < w.heap.size := by omega
  have hp : 0 < cnt s := begT_pos _ _
  have hp2 : cnt s ≤ s.size + 1 := begT_len _ _
  have hp3 : ((cnt s : Int) == 0) = false := by rw [beq_eq_false_iff_ne]; omega
  have HN := Lib.hid hn
  clear hn
  go_enter Try.func7, Try.ntmps7
  go_wp2_with (go_at_call 11; refine (count_any B g s _ (HL.out.below (((Below.refl B w).alloc hB _).alloc (by simp; omega) _))).mono ?_; rintro e w' ⟨rfl, rfl⟩)
  obtain ⟨H, hH⟩ : ∃ H, H = w.heap.size := ⟨_, rfl⟩
  obtain ⟨W, hW⟩ : ∃ W, W = (w.alloc (.cells #[.pointer (some ⟨g, 0, none⟩)] 23)).alloc (.cells #[.int .i64 off] 3) := ⟨_, rfl⟩
  have c1 : W.cell? ⟨H, 0, none⟩ = some (.pointer (some ⟨g, 0, none⟩)) := by rw [hW, hH]; simp
  have c2 : W.cell? ⟨H + 1, 0, none⟩ = some (.int .i64 off) := by rw [hW, hH]; simp
  have c3 : W.frozen? ⟨H + 1, 0, none⟩ = false := by rw [hW, hH]; simp
  have c4 : W.heap.size = H + 2 := by rw [hW, hH]; simp
  have hb : Below w.heap.size w W := by rw [hW]; exact ((Below.refl _ _).alloc (Nat.le_refl _) _).alloc (by simp) _
  rw [← hW, ← hH]
  have HW := HL.out.below (hb.mono (Nat.le_trans hB (Nat.le_refl _)))
  have c5 := HW.2.1
  have HW := Lib.hid HW
  have HHW := Lib.hid hW
  have HHH := Lib.hid hH
  have hb := Lib.hid hb
  clear hW h2 h3 hH
  rcases HN.out with ⟨x1, rfl⟩ | ⟨x1, x2, rfl⟩ | ⟨x1, rfl⟩
  · go_still_tail 8, (by kernel_rfl)
    change wpList _ _ _ _ _ W.drew
    go_wp2_with (fail)
    obtain ⟨W2, hW2⟩ : ∃ W2, W2 = (W.setCell ⟨H + 1, 0, none⟩ (.int .i64 0)).drew := ⟨_, rfl⟩
    have d1 : W2.cell? ⟨H, 0, none⟩ = some (.pointer (some ⟨g, 0, none⟩)) := by
      rw [hW2]; show (W.setCell _ _).cell? _ = _
      rw [World.cell?_setCell_other _ _ _ _ (by simp)]; exact c1
    have d2 : W2.cell? ⟨H + 1, 0, none⟩ = some (.int .i64 (0 : Nat)) := by rw [hW2]; exact World.cell?_setCell_same _ _ _ c2
    have hb2 : Below w.heap.size w W2 := by rw [hW2]; exact (hb.out.setCell (by show w.heap.size ≤ H + 1; rw [HHH.out]; omega) _).drew
    rw [← hW2]
    clear c1 c2 c3 c4 c5 hW2 hb HHW
    have HL2 := Lib.hid (HL.out.below (hb2.mono hB))
    have HB2 := Lib.hid hb2
    clear hb2 HL HW
    have HF := Lib.hid (fun (m i : Nat) hi => (less_any B g H (H + 1) s (0 : Nat) i (W2.drewN m) HL2.out (by exact d1) (by exact d2) hi))
    have HS := Lib.hid (search_any H (H + 1) (cnt s) (c + 1) W2 (by omega) (by omega) (fun m i hi => by have h := HF.out m i hi; rw [hso.out i hi] at h; exact h))
    obtain ⟨_, b2, cap2, d4, _, d5⟩ := HL2.out.2
    have d5 := d5 c hcc
    rw [hl.out] at d5
    change W2.cell? ⟨g, 1, none⟩ = some (.slice (some ⟨b2, 0, none⟩) (cnt s) cap2) at d4
    have x3 : (c : Int) < (cnt s : Int) := by omega
    have x4 : (z : Int) ≤ (0 : Nat) := by omega
    have x5 := IntWalk.i64_in (c : Int) (by omega)
    have x6 := IntWalk.i64_in (((0 : Nat) : Int) - z) (by omega)
    have x7 := IntWalk.i64_in (((0 : Nat) : Int) - z + 1) (by omega)
    clear hl hso hcc HF
    refine (count_any B g s _ HL2.out).mono ?_
    rintro e w' ⟨rfl, rfl⟩
    go_wp2_with (fail)
    refine HS.out.mono ?_
    rintro e w' ⟨rfl, q, rfl⟩
    go_wp2_with (fail)
    go_quiet (fail)
    go_wp2
    go_ret2
    exact ⟨by first | rfl | (rw [show ((0 : Nat) : Int) - (z : Int) + 1 = -(z : Int) + 1 by omega]; rfl), below_drewN (below_drewN HB2.out _) _⟩
  · go_still_tail 8, (by kernel_rfl)
    change wpList _ _ _ _ _ W.drew
    go_wp2_with (fail)
    obtain ⟨W2, hW2⟩ : ∃ W2, W2 = (W.setCell ⟨H + 1, 0, none⟩ (.int .i64 n)).drew := ⟨_, rfl⟩
    have d1 : W2.cell? ⟨H, 0, none⟩ = some (.pointer (some ⟨g, 0, none⟩)) := by
      rw [hW2]; show (W.setCell _ _).cell? _ = _
      rw [World.cell?_setCell_other _ _ _ _ (by simp)]; exact c1
    have d2 : W2.cell? ⟨H + 1, 0, none⟩ = some (.int .i64 (n : Nat)) := by rw [hW2]; exact World.cell?_setCell_same _ _ _ c2
    have hb2 : Below w.heap.size w W2 := by rw [hW2]; exact (hb.out.setCell (by show w.heap.size ≤ H + 1; rw [HHH.out]; omega) _).drew
    rw [← hW2]
    clear c1 c2 c3 c4 c5 hW2 hb HHW
    have HL2 := Lib.hid (HL.out.below (hb2.mono hB))
    have HB2 := Lib.hid hb2
    clear hb2 HL HW
    have HF := Lib.hid (fun (m i : Nat) hi => (less_any B g H (H + 1) s (n : Nat) i (W2.drewN m) HL2.out (by exact d1) (by exact d2) hi))
    have HS := Lib.hid (search_any H (H + 1) (cnt s) (c + 1) W2 (by omega) (by omega) (fun m i hi => by have h := HF.out m i hi; rw [hso.out i hi] at h; exact h))
    obtain ⟨_, b2, cap2, d4, _, d5⟩ := HL2.out.2
    have d5 := d5 c hcc
    rw [hl.out] at d5
    change W2.cell? ⟨g, 1, none⟩ = some (.slice (some ⟨b2, 0, none⟩) (cnt s) cap2) at d4
    have x3 : (c : Int) < (cnt s : Int) := by omega
    have x4 : (z : Int) ≤ (n : Nat) := by omega
    have x5 := IntWalk.i64_in (c : Int) (by omega)
    have x6 := IntWalk.i64_in (((n : Nat) : Int) - z) (by omega)
    have x7 := IntWalk.i64_in (((n : Nat) : Int) - z + 1) (by omega)
    clear hl hso hcc HF
    refine (count_any B g s _ HL2.out).mono ?_
    rintro e w' ⟨rfl, rfl⟩
    go_wp2_with (fail)
    refine HS.out.mono ?_
    rintro e w' ⟨rfl, q, rfl⟩
    go_wp2_with (fail)
    go_quiet (fail)
    go_wp2
    go_ret2
    exact ⟨by first | rfl | (rw [show ((0 : Nat) : Int) - (z : Int) + 1 = -(z : Int) + 1 by omega]; rfl), below_drewN (below_drewN HB2.out _) _⟩
  · go_still_tail 8, (by kernel_rfl)
    change wpList _ _ _ _ _ W.drew
    go_wp2_with (fail)
    obtain ⟨W2, hW2⟩ : ∃ W2, W2 = (W.setCell ⟨H + 1, 0, none⟩ (.int .i64 s.size)).drew := ⟨_, rfl⟩
    have d1 : W2.cell? ⟨H, 0, none⟩ = some (.pointer (some ⟨g, 0, none⟩)) := by
      rw [hW2]; show (W.setCell _ _).cell? _ = _
      rw [World.cell?_setCell_other _ _ _ _ (by simp)]; exact c1
    have d2 : W2.cell? ⟨H + 1, 0, none⟩ = some (.int .i64 (s.size : Nat)) := by rw [hW2]; exact World.cell?_setCell_same _ _ _ c2
    have hb2 : Below w.heap.size w W2 := by rw [hW2]; exact (hb.out.setCell (by show w.heap.size ≤ H + 1; rw [HHH.out]; omega) _).drew
    rw [← hW2]
    clear c1 c2 c3 c4 c5 hW2 hb HHW
    have HL2 := Lib.hid (HL.out.below (hb2.mono hB))
    have HB2 := Lib.hid hb2
    clear hb2 HL HW
    have HF := Lib.hid (fun (m i : Nat) hi => (less_any B g H (H + 1) s (s.size : Nat) i (W2.drewN m) HL2.out (by exact d1) (by exact d2) hi))
    have HS := Lib.hid (search_any H (H + 1) (cnt s) (c + 1) W2 (by omega) (by omega) (fun m i hi => by have h := HF.out m i hi; rw [hso.out i hi] at h; exact h))
    obtain ⟨_, b2, cap2, d4, _, d5⟩ := HL2.out.2
    have d5 := d5 c hcc
    rw [hl.out] at d5
    change W2.cell? ⟨g, 1, none⟩ = some (.slice (some ⟨b2, 0, none⟩) (cnt s) cap2) at d4
    have x3 : (c : Int) < (cnt s : Int) := by omega
    have x4 : (z : Int) ≤ (s.size : Nat) := by omega
    have x5 := IntWalk.i64_in (c : Int) (by omega)
    have x6 := IntWalk.i64_in (((s.size : Nat) : Int) - z) (by omega)
    have x7 := IntWalk.i64_in (((s.size : Nat) : Int) - z + 1) (by omega)
    clear hl hso hcc HF
    refine (count_any B g s _ HL2.out).mono ?_
    rintro e w' ⟨rfl, rfl⟩
    go_wp2_with (fail)
    refine HS.out.mono ?_
    rintro e w' ⟨rfl, q, rfl⟩
    go_wp2_with (fail)
    go_quiet (fail)
    go_wp2
    go_ret2
    exact ⟨by first | rfl | (rw [show ((0 : Nat) : Int) - (z : Int) + 1 = -(z : Int) + 1 by omega]; rfl), below_drewN (below_drewN HB2.out _) _⟩
end Go.Proofs.Ytoljheenijblmaa.place

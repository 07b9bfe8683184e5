/- The document's own looks at a token: is it such a mark, such a word; its sign. -/
import Derived.Test.YtgohkmdepjmpaaaDoorCParTok
import Derived.Test.YtgohkmdepjmpaaaDoorCGWord
namespace Go.Proofs.YtgohkmdepjmpaaaDoor.pm
open Go.RowKit wd lx nt ne mem
open vt (I64)

theorem isM_of {l : List Tk} {i : Int} {m : List UInt8} (b : Bool) (h1 : b = decide ((tokAt l i).text = m)) (h2 : (tokAt l i).kind = 4) : isM l i m = b := by unfold isM; rw [h1, decide_eq_true h2]; rfl
theorem isM_no {l : List Tk} {i : Int} {m : List UInt8} (h2 : (tokAt l i).kind ≠ 4) : isM l i m = false := by unfold isM; rw [decide_eq_false h2]; rfl
theorem isW_of {l : List Tk} {i : Int} {m : List UInt8} (b : Bool) (h1 : b = decide ((tokAt l i).text = m)) (h2 : (tokAt l i).kind = 3) : isW l i m = b := by unfold isW; rw [h1, decide_eq_true h2]; rfl
theorem isW_no {l : List Tk} {i : Int} {m : List UInt8} (h2 : (tokAt l i).kind ≠ 3) : isW l i m = false := by unfold isW; rw [decide_eq_false h2]; rfl
set_option maxHeartbeats 1000000 in
theorem is_tok13 (l : List Tk) (v : Value) (i : Int) (m : List UInt8) (w : World) (B : Nat) (h : TksS B w l v) (hl : l.length ≤ 1048576) (hi : I64 i) :
    Calls Tryd.prog 28 #[v, .int .i64 i, .string ⟨m.toArray⟩] w fun e w' => e = .returned (.bool (isM l i m)) ∧ Below w.heap.size w w' := by
  have HC := Lib.hid (rtok_any l v i w B h hl hi)
  obtain ⟨R, hR⟩ : ∃ R, R = isM l i m := ⟨_, rfl⟩
  rw [← hR]
  have HY := Lib.hid (fun b h1 h2 => isM_of (l := l) (i := i) (m := m) b h1 h2)
  have HN := Lib.hid (fun h2 => isM_no (l := l) (i := i) (m := m) h2)
  rw [← hR] at HY HN
  unfold TokPost at HC
  obtain ⟨t, ht⟩ : ∃ t, t = tokAt l i := ⟨_, rfl⟩
  rw [← ht] at HC HY HN
  obtain ⟨k, a, n, s⟩ := t
  simp only [tkA] at HC HY HN
  clear hR ht h
  go_enter Tryd.func28, Tryd.ntmps28
  go_wp2_with (fail)
  refine HC.out.mono ?_
  rintro e w1 ⟨rfl, hb⟩
  obtain ⟨W, hW⟩ : ∃ W, W = w1.alloc (.cells #[.int .i64 0, .int .i64 0, .int .i64 0, .string ⟨#[]⟩] TkT) := ⟨_, rfl⟩
  have HW := Lib.hid hW
  have HB : Hid (Below w.heap.size w W) := Lib.hid (by rw [hW]; exact hb.alloc hb.size _)
  have BX : Box W w1.heap.size TkT #[.int .i64 0, .int .i64 0, .int .i64 0, .string ⟨#[]⟩] := by rw [hW]; exact Box.new _ _ _ _ rfl
  have HS := Lib.hid hb.size
  have f0 := BX.frozen 0
  have f1 := BX.frozen 1
  have f2 := BX.frozen 2
  have f3 := BX.frozen 3
  have y0 := BX.cell 0
  have y1 := BX.cell 1
  have y2 := BX.cell 2
  have y3 := BX.cell 3
  simp only [List.getElem?_toArray, List.getElem?_cons_zero, List.getElem?_cons_succ] at y0 y1 y2 y3
  clear hW BX hb HC
  by_cases hk : k = 4
  · by_cases hm : s = m
    · subst hk hm
      go_wp2_with (first | (rw [← HW.out]))
      go_ret
      exact ⟨by rw [HY.out true (by simp) (by simp)]; rfl, below_four HB.out HS.out _ _ _ _⟩
    · subst hk
      have e4 : (s == m) = false := beq_eq_false_iff_ne.2 hm
      have HM := Lib.hid hm
      clear hm
      go_wp2_with (first | (rw [← HW.out]))
      go_ret
      exact ⟨by rw [HY.out false (by simp [HM.out]) (by simp)]; rfl, below_four HB.out HS.out _ _ _ _⟩
  · have e4 : (k == 4) = false := beq_eq_false_iff_ne.2 hk
    have HK := Lib.hid hk
    clear hk
    go_wp2_with (first | (rw [← HW.out]))
    go_ret
    exact ⟨by rw [HN.out HK.out]; rfl, below_four HB.out HS.out _ _ _ _⟩
set_option maxHeartbeats 1000000 in
theorem says_tok13 (l : List Tk) (v : Value) (i : Int) (m : List UInt8) (w : World) (B : Nat) (h : TksS B w l v) (hl : l.length ≤ 1048576) (hi : I64 i) :
    Calls Tryd.prog 27 #[v, .int .i64 i, .string ⟨m.toArray⟩] w fun e w' => e = .returned (.bool (isW l i m)) ∧ Below w.heap.size w w' := by
  have HC := Lib.hid (rtok_any l v i w B h hl hi)
  obtain ⟨R, hR⟩ : ∃ R, R = isW l i m := ⟨_, rfl⟩
  rw [← hR]
  have HY := Lib.hid (fun b h1 h2 => isW_of (l := l) (i := i) (m := m) b h1 h2)
  have HN := Lib.hid (fun h2 => isW_no (l := l) (i := i) (m := m) h2)
  rw [← hR] at HY HN
  unfold TokPost at HC
  obtain ⟨t, ht⟩ : ∃ t, t = tokAt l i := ⟨_, rfl⟩
  rw [← ht] at HC HY HN
  obtain ⟨k, a, n, s⟩ := t
  simp only [tkA] at HC HY HN
  clear hR ht h
  go_enter Tryd.func27, Tryd.ntmps27
  go_wp2_with (fail)
  refine HC.out.mono ?_
  rintro e w1 ⟨rfl, hb⟩
  obtain ⟨W, hW⟩ : ∃ W, W = w1.alloc (.cells #[.int .i64 0, .int .i64 0, .int .i64 0, .string ⟨#[]⟩] TkT) := ⟨_, rfl⟩
  have HW := Lib.hid hW
  have HB : Hid (Below w.heap.size w W) := Lib.hid (by rw [hW]; exact hb.alloc hb.size _)
  have BX : Box W w1.heap.size TkT #[.int .i64 0, .int .i64 0, .int .i64 0, .string ⟨#[]⟩] := by rw [hW]; exact Box.new _ _ _ _ rfl
  have HS := Lib.hid hb.size
  have f0 := BX.frozen 0
  have f1 := BX.frozen 1
  have f2 := BX.frozen 2
  have f3 := BX.frozen 3
  have y0 := BX.cell 0
  have y1 := BX.cell 1
  have y2 := BX.cell 2
  have y3 := BX.cell 3
  simp only [List.getElem?_toArray, List.getElem?_cons_zero, List.getElem?_cons_succ] at y0 y1 y2 y3
  clear hW BX hb HC
  by_cases hk : k = 3
  · by_cases hm : s = m
    · subst hk hm
      go_wp2_with (first | (rw [← HW.out]))
      go_ret
      exact ⟨by rw [HY.out true (by simp) (by simp)]; rfl, below_four HB.out HS.out _ _ _ _⟩
    · subst hk
      have e4 : (s == m) = false := beq_eq_false_iff_ne.2 hm
      have HM := Lib.hid hm
      clear hm
      go_wp2_with (first | (rw [← HW.out]))
      go_ret
      exact ⟨by rw [HY.out false (by simp [HM.out]) (by simp)]; rfl, below_four HB.out HS.out _ _ _ _⟩
  · have e4 : (k == 3) = false := beq_eq_false_iff_ne.2 hk
    have HK := Lib.hid hk
    clear hk
    go_wp2_with (first | (rw [← HW.out]))
    go_ret
    exact ⟨by rw [HN.out HK.out]; rfl, below_four HB.out HS.out _ _ _ _⟩
end Go.Proofs.YtgohkmdepjmpaaaDoor.pm

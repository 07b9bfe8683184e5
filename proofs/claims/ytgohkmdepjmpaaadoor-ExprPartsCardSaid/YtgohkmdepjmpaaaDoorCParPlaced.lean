/- The document's own Placed: a node, read at two places, is the same one at the same places. -/
import Derived.Test.YtgohkmdepjmpaaaDoorCGSame
namespace Go.Proofs.YtgohkmdepjmpaaaDoor.nt
open Go.RowKit mem wd lx
open vt (I64 own_form)

def PlacedOf (G : Nat → Prop) (t : NT) : Prop := Hd t → ∀ (s s' : Value) (w : World), Kids G w t.kids s → Kids G w t.kids s' →
    Calls Tryd.prog 10 #[.agg #[.int .i64 t.kind, .int .i64 t.at_, .int .i64 t.num, .string ⟨t.name.toArray⟩, s], .agg #[.int .i64 t.kind, .int .i64 t.at_, .int .i64 t.num, .string ⟨t.name.toArray⟩, s']] w fun e w' => e = .returned (.bool true) ∧ Below w.heap.size w w'
def PlRel (W : World) (N : Nat) (i : Value) (wr : World) : Prop := ∃ k : Nat, k ≤ N ∧ i = .int .i64 k ∧ Below W.heap.size W wr
set_option maxHeartbeats 2000000 in
set_option maxRecDepth 100000 in
theorem rplaced_any {G : Nat → Prop} (t : NT) : PlacedOf G t := by
  induction t using NT.ind with
  | h k a n nm l ih =>
    intro hd s s' w h h'
    obtain ⟨_, _, _, hnm⟩ := hd
    change nm.length ≤ _ at hnm
    change Kids G w l s at h
    change Kids G w l s' at h'
    obtain ⟨A, cap, rfl, hl⟩ := h.form
    obtain ⟨A', cap', rfl, hl'⟩ := h'.form
    show Calls Tryd.prog 10 #[.agg #[.int .i64 k, .int .i64 a, .int .i64 n, .string ⟨nm.toArray⟩, .slice A l.length cap], .agg #[.int .i64 k, .int .i64 a, .int .i64 n, .string ⟨nm.toArray⟩, .slice A' l.length cap']] w _
    obtain ⟨H, hH⟩ : ∃ H, H = w.heap.size := ⟨_, rfl⟩
    obtain ⟨W0, hW0⟩ : ∃ W, W = w.alloc (.cells #[.int .i64 k, .int .i64 a, .int .i64 n, .string ⟨nm.toArray⟩, .slice A l.length cap] NodeT) := ⟨_, rfl⟩
    obtain ⟨hx, HB0, HHW0⟩ := boxed hH hW0
    obtain ⟨W, hW⟩ : ∃ W, W = W0.alloc (.cells #[.int .i64 k, .int .i64 a, .int .i64 n, .string ⟨nm.toArray⟩, .slice A' l.length cap'] NodeT) := ⟨_, rfl⟩
    obtain ⟨H2, hH2⟩ : ∃ H, H = W0.heap.size := ⟨_, rfl⟩
    obtain ⟨⟨y0, y1, y2, y3, y4⟩, HB1, HHW1⟩ := boxed hH2 hW
    obtain ⟨x0, x1, x2, x3, x4⟩ := boxed_on hx HHW0.out HB1.out
    have HBW : Hid (Below w.heap.size w W) := Lib.hid (HB0.out.trans (HB1.out.mono HB0.out.size))
    have hHW : H < W.heap.size := by have := HB1.out.size; have := HHW0.out; omega
    have hHW2 : H2 < W.heap.size := HHW1.out
    have HK := Lib.hid (h.below HBW.out)
    have HK' := Lib.hid (h'.below HBW.out)
    have IH := Lib.hid ih
    obtain ⟨N, hN⟩ : ∃ N, N = l.length := ⟨_, rfl⟩
    rw [← hN] at hl x4 y4 hW0 hW HK HK' ⊢
    have HX := Lib.hid (And.intro x4 y4)
    have HW0 := Lib.hid hW0
    have HW := Lib.hid hW
    have HHH := Lib.hid hH
    have HHH2 := Lib.hid hH2
    have HN := Lib.hid hN
    clear h h' ih hN hH hH2 hW hW0 hx HB0 HHW0 HB1 HHW1 hl'
    go_enter Tryd.func10, Tryd.ntmps10
    go_wp2_with (first | (rw [← HW0.out, ← HHH.out]) | (rw [← HW.out, ← HHH2.out]))
    go_loopw [5] (fun i wr => PlRel W N i wr) (fun i _ => N - (intOf i).toNat)
    case atStart => unfold PlRel; exact ⟨0, Nat.zero_le _, rfl, Below.refl _ _⟩
    case round =>
      obtain ⟨j, hj, rfl, hb⟩ := hrel
      have w4 := (hb.cell (p := ⟨H, 4, none⟩) hHW).trans HX.out.1
      have v4 := (hb.cell (p := ⟨H2, 4, none⟩) hHW2).trans HX.out.2
      by_cases hlt : j < N
      · have hjl : j < l.length := by have := HN.out; omega
        obtain ⟨b, off, cq, q, hs, hlt1, hd1, c0, c1, c2, c3, c4, hkk⟩ := HK.out.kid hb j hjl
        injection hs with hA hL hC
        subst hA
        subst hC
        clear hL
        obtain ⟨b2, off2, cq2, q2, hs, hlt2, hd2, d0, d1, d2, d3, d4, hkk2⟩ := HK'.out.kid hb j hjl
        injection hs with hA hL hC
        subst hA
        subst hC
        clear hL
        obtain ⟨Aq, cc, rfl, _⟩ := hkk.form
        obtain ⟨Aq2, cc2, rfl, _⟩ := hkk2.form
        have HI := Lib.hid (IH.out l[j] (List.getElem_mem hjl) hd1 _ _ wr.drew (hkk.keep (fun _ _ _ _ => rfl)) (hkk2.keep (fun _ _ _ _ => rfl)))
        obtain ⟨u, hu⟩ : ∃ u, u = l[j] := ⟨_, rfl⟩
        rw [← hu] at c0 c1 c2 c3 c4 d0 d1 d2 d3 d4 HI hkk hkk2
        obtain ⟨M, hM⟩ : ∃ M, M = u.kids.length := ⟨_, rfl⟩
        rw [← hM] at c4 d4 HI
        have HB := Lib.hid hb
        clear hkk hkk2 hM hd1 hd2 hu hb
        go_wp2_with (fail)
        go_still_tail 10, (by kernel_rfl)
        change wpList _ _ _ _ _ wr.drew
        go_wp2_with (go_at_call 10; refine HI.out.mono ?_; rintro e w1 ⟨rfl, hb1⟩)
        go_roundw
        case rel => unfold PlRel; exact ⟨j + 1, by omega, by go_num, HB.out.drew.trans (hb1.mono HB.out.size)⟩
        case measure => simp [intOf]; omega
      · have HB := Lib.hid hb
        clear hb
        go_wp2_with (fail)
        go_ret
        exact ⟨rfl, HBW.out.trans (HB.out.mono HBW.out.size)⟩
end Go.Proofs.YtgohkmdepjmpaaaDoor.nt

/- How great and how deep a value is: the document's reckoning, and the package's. -/
import Derived.Test.YtnjcapenkoemlaaValMem
import Derived.LoopTactic
import Derived.Outline
import Derived.StillTailTactics
namespace Go.Proofs.Ytnjcapenkoemlaa.vt
open Go.RowKit mem

def SizeRel (H : Nat) (W : World) (N : Nat) (l : List VT) (n i : Value) (wr : World) : Prop :=
  ∃ (k : Nat) (m : Int), k ≤ N ∧ i = .int .i64 k ∧ n = .int .i64 (wrap64 m) ∧ Hid (m = (sizeL (l.take k) : Int) + 1) ∧ Below H W wr
theorem one_wrap : Value.int .i64 1 = .int .i64 (wrap64 1) := by rw [show wrap64 1 = 1 by unfold wrap64; omega]
theorem wrap_ret {a b : Int} (h : a = b) : Ending.returned (.int .i64 (wrap64 a)) = .returned (.int .i64 (wrap64 b)) := by rw [h]
theorem wrap_sum {a b c : Int} (h : a + b = c) : Value.int .i64 (wrap64 (wrap64 a + wrap64 b)) = .int .i64 (wrap64 c) := by rw [wrap_add, h]
theorem size_step (l : List VT) (k : Nat) (hk : k < l.length) (m : Int) (h : m = (sizeL (l.take k) : Int) + 1) : m + (l[k].size : Int) = (sizeL (l.take (k + 1)) : Int) + 1 := by
  rw [sizeL_take l k hk, h]; omega
theorem size_end (l : List VT) (k : Nat) (hk : ¬ k < l.length) (m : Int) (h : m = (sizeL (l.take k) : Int) + 1) (kd nm : Int) : m = ((VT.mk kd nm l).size : Int) := by
  rw [size_mk, h, List.take_of_length_le (by omega)]; omega
set_option maxHeartbeats 1000000 in
theorem rsize_any {G : Nat → Prop} (t : VT) : ∀ (s : Value) (w : World), Kids G w t.kids s →
    Calls Try.prog 18 #[.agg #[.int .i64 t.kind, .int .i64 t.num, s]] w fun e w' => e = .returned (.int .i64 (wrap64 (t.size : Int))) ∧ Below w.heap.size w w' := by
  induction t using VT.ind with
  | h kd nm l ih =>
    intro s w h
    change Kids G w l s at h
    have HK := Lib.hid h
    have IH := Lib.hid ih
    obtain ⟨A, cap, hs, hl⟩ := h.form
    subst hs
    obtain ⟨N, hN⟩ : ∃ N, N = l.length := ⟨_, rfl⟩
    have HN := Lib.hid hN
    show Calls Try.prog 18 #[.agg #[.int .i64 kd, .int .i64 nm, .slice A l.length cap]] w _
    rw [← hN] at hl ⊢
    clear h ih hN
    go_enter Try.func18, Try.ntmps18
    go_wp2
    obtain ⟨H, hH⟩ : ∃ H, H = w.heap.size := ⟨_, rfl⟩
    obtain ⟨W, hW⟩ : ∃ W, W = w.alloc (.cells #[.int .i64 kd, .int .i64 nm, .slice A N cap] 24) := ⟨_, rfl⟩
    have HB0 : Hid (Below H w W) := Lib.hid (by rw [hW, hH]; exact (Below.refl _ _).alloc (Nat.le_refl _) _)
    have HC : Hid (W.cell? ⟨H, 2, none⟩ = some (.slice A N cap)) := Lib.hid (by rw [hW, hH]; simp)
    have hS : H < W.heap.size := by rw [hW, hH]; simp
    rw [← hW, ← hH]
    have HW := Lib.hid hW
    have HH := Lib.hid hH
    clear hW hH
    go_loopw [3, 4] (fun n i wr => SizeRel W.heap.size W N l n i wr) (fun _ i _ => N - (intOf i).toNat)
    case atStart => unfold SizeRel; exact ⟨0, 1, Nat.zero_le _, rfl, one_wrap, Lib.hid (by simp [sizeL]), Below.refl _ _⟩
    case round =>
      obtain ⟨k, m, hk, rfl, rfl, HM, hb⟩ := hrel
      have hc2 := (hb.cell (p := ⟨H, 2, none⟩) hS).trans HC.out
      by_cases hlt : k < N
      · have hkl : k < l.length := by have := HN.out; omega
        have hbw : Below w.heap.size w wr := by rw [← HH.out]; exact HB0.out.trans (hb.mono (by omega))
        obtain ⟨b, off, cap', s', hs, hlt', _, _, c0, c1, c2, hkk⟩ := HK.out.kid hbw k hkl
        injection hs with hA hL hC
        subst hA
        subst hC
        clear hL
        have HS := Lib.hid (size_step l k hkl m HM.out)
        obtain ⟨A', cc, rfl, _⟩ := hkk.form
        obtain ⟨u, hu⟩ : ∃ u, u = l[k] := ⟨_, rfl⟩
        rw [← hu] at c0 c1 c2 hkk
        obtain ⟨M, hM⟩ : ∃ M, M = u.kids.length := ⟨_, rfl⟩
        rw [← hM] at c2 hkk
        clear hM
        have HI := Lib.hid (IH.out u (by rw [hu]; exact List.getElem_mem hkl) _ wr hkk)
        have HU := Lib.hid hu
        clear hkk hu hbw
        have HB := Lib.hid hb
        clear hb
        go_wp2_with (go_at_call 18; refine HI.out.mono ?_; rintro e w1 ⟨rfl, hb1⟩)
        go_roundw
        case rel => unfold SizeRel; exact ⟨k + 1, _, by omega, by go_num, wrap_sum (by rw [HU.out]; exact HS.out), Lib.hid rfl, HB.out.trans (hb1.mono HB.out.size)⟩
        case measure => simp [intOf]; omega
      · have HE := Lib.hid (size_end l k (by have := HN.out; omega) m HM.out kd nm)
        go_wp2
        go_ret
        exact ⟨wrap_ret HE.out, by rw [← HH.out]; exact HB0.out.trans (hb.mono (by omega))⟩
def DeepRel (H : Nat) (W : World) (N : Nat) (l : List VT) (n i : Value) (wr : World) : Prop :=
  ∃ (k : Nat) (m : Int), k ≤ N ∧ i = .int .i64 k ∧ n = .int .i64 m ∧ (0 ≤ m ∧ m ≤ 9223372036854775807) ∧ Hid (m = deepL 0 (l.take k)) ∧ Below H W wr
theorem deep_step (l : List VT) (k : Nat) (hk : k < l.length) (m d r : Int) (h : m = deepL 0 (l.take k)) (hd : d = l[k].deepW) (hr : r = max m d) : r = deepL 0 (l.take (k + 1)) := by
  rw [deepL_take l k hk, hr, h, hd]
theorem deep_end (l : List VT) (k : Nat) (hk : ¬ k < l.length) (m : Int) (h : m = deepL 0 (l.take k)) (kd nm : Int) : wrap64 (m + 1) = (VT.mk kd nm l).deepW := by
  rw [deepW_mk, h, List.take_of_length_le (by omega)]
theorem int_ret {a b : Int} (h : a = b) : Ending.returned (.int .i64 a) = .returned (.int .i64 b) := by rw [h]
end Go.Proofs.Ytnjcapenkoemlaa.vt

/- What is left of room behind a value; a value, or a trap, if it is too great. -/
import Derived.Test.YtlejcmojimkjeaaPathMem
import Derived.Test.YtlejcmojimkjeaaValSize
namespace Go.Proofs.Ytlejcmojimkjeaa.vt
open Go.RowKit mem

def LeftRel (H : Nat) (W : World) (N : Nat) (l : List VT) (R : Int) (room i : Value) (wr : World) : Prop :=
  ∃ (k : Nat) (m : Int), k ≤ N ∧ i = .int .i64 k ∧ room = .int .i64 m ∧ (-1 ≤ m ∧ m ≤ 4096) ∧ Hid (m = leftI (sizeL (l.take k)) R) ∧ Below H W wr
theorem left_step (l : List VT) (k : Nat) (hk : k < l.length) (m R : Int) (h : m = leftI (sizeL (l.take k)) R) (h0 : ¬ m < 0) : leftI l[k].size m = leftI (sizeL (l.take (k + 1))) R := by
  rw [sizeL_take l k hk]
  unfold leftI at h ⊢
  split at h <;> (repeat' split) <;> omega
theorem left_end (l : List VT) (k : Nat) (hk : ¬ k < l.length) (m r : Int) (h : m = leftI (sizeL (l.take k)) (r - 1)) (kd nm : Int) : m = leftI (VT.mk kd nm l).size r := by
  rw [size_mk, h, List.take_of_length_le (by omega)]
  unfold leftI
  (repeat' split) <;> omega
theorem left_break (l : List VT) (k : Nat) (m r : Int) (h : m = leftI (sizeL (l.take k)) (r - 1)) (h0 : m < 0) (kd nm : Int) : m = leftI (VT.mk kd nm l).size r := by
  have := sizeL_take_le l k
  rw [size_mk]
  unfold leftI at h ⊢
  split at h <;> (repeat' split) <;> omega
theorem left_bd (n : Nat) (r : Int) (h : r ≤ 4096) : -1 ≤ leftI n r ∧ leftI n r ≤ 4096 := by
  unfold leftI; split <;> omega
set_option maxHeartbeats 1000000 in
theorem left_any {G : Nat → Prop} (t : VT) : ∀ (r : Int) (s : Value) (w : World), Kids G w t.kids s → 0 ≤ r → r ≤ 4096 →
    Calls Try.prog 31 #[.agg #[.int .i64 t.kind, .int .i64 t.num, s], .int .i64 r] w fun e w' => e = .returned (.int .i64 (leftI t.size r)) ∧ Below w.heap.size w w' := by
  induction t using VT.ind with
  | h kd nm l ih =>
    intro r s w h hr0 hr1
    change Kids G w l s at h
    have HK := Lib.hid h
    have IH := Lib.hid ih
    obtain ⟨A, cap, hs, hl⟩ := h.form
    subst hs
    obtain ⟨N, hN⟩ : ∃ N, N = l.length := ⟨_, rfl⟩
    have HN := Lib.hid hN
    show Calls Try.prog 31 #[.agg #[.int .i64 kd, .int .i64 nm, .slice A l.length cap], .int .i64 r] w _
    rw [← hN] at hl ⊢
    clear h ih hN
    go_enter Try.func31, Try.ntmps31
    go_wp2
    obtain ⟨H, hH⟩ : ∃ H, H = w.heap.size := ⟨_, rfl⟩
    obtain ⟨W, hW⟩ : ∃ W, W = w.alloc (.cells #[.int .i64 kd, .int .i64 nm, .slice A N cap] 24) := ⟨_, rfl⟩
    have HB0 : Hid (Below H w W) := Lib.hid (by rw [hW, hH]; exact (Below.refl _ _).alloc (Nat.le_refl _) _)
    have hS : H < W.heap.size := by rw [hW, hH]; simp
    rw [← hW, ← hH]
    have HW := Lib.hid hW
    have HH := Lib.hid hH
    clear hW hH
    go_loopw [1, 12] (fun n i wr => LeftRel W.heap.size W N l (r - 1) n i wr) (fun _ i _ => N - (intOf i).toNat)
    case atStart => unfold LeftRel; exact ⟨0, r - 1, Nat.zero_le _, rfl, rfl, by omega, Lib.hid (by simp [sizeL, leftI]; omega), Below.refl _ _⟩
    case round =>
      obtain ⟨k, m, hk, rfl, rfl, hm, HM, hb⟩ := hrel
      by_cases hlt : k < N
      · by_cases hm0 : m < 0
        · have HE := Lib.hid (left_break l k m r HM.out hm0 kd nm)
          have hkl : k < l.length := by have := HN.out; omega
          have hbw : Below w.heap.size w wr := by rw [← HH.out]; exact HB0.out.trans (hb.mono (by omega))
          obtain ⟨b, off, cap', s', hs, hlt', _, _, c0, c1, c2, hkk⟩ := HK.out.kid hbw k hkl
          injection hs with hA hL hC
          subst hA
          subst hC
          clear hL
          obtain ⟨A', cc, rfl, _⟩ := hkk.form
          obtain ⟨u, hu⟩ : ∃ u, u = l[k] := ⟨_, rfl⟩
          rw [← hu] at c0 c1 c2
          obtain ⟨M, hM⟩ : ∃ M, M = u.kids.length := ⟨_, rfl⟩
          rw [← hM] at c2
          have HB := Lib.hid hb
          clear hkk hM hu hb hbw
          go_wp2
          go_ret
          exact ⟨congrArg (fun x => Ending.returned (.int .i64 x)) HE.out, by rw [← HH.out]; exact (HB0.out.trans (HB.out.mono (by omega))).alloc (by have := HB.out.size; have := HB0.out.size; omega) _⟩
        · have hkl : k < l.length := by have := HN.out; omega
          have hbw : Below w.heap.size w wr := by rw [← HH.out]; exact HB0.out.trans (hb.mono (by omega))
          obtain ⟨b, off, cap', s', hs, hlt', _, _, c0, c1, c2, hkk⟩ := HK.out.kid hbw k hkl
          injection hs with hA hL hC
          subst hA
          subst hC
          clear hL
          have HS := Lib.hid (left_step l k hkl m (r - 1) HM.out hm0)
          obtain ⟨A', cc, rfl, _⟩ := hkk.form
          obtain ⟨u, hu⟩ : ∃ u, u = l[k] := ⟨_, rfl⟩
          rw [← hu] at c0 c1 c2 hkk HS
          obtain ⟨M, hM⟩ : ∃ M, M = u.kids.length := ⟨_, rfl⟩
          rw [← hM] at c2 hkk
          clear hM
          have HI := Lib.hid (fun w' (hb' : Below wr.heap.size wr w') => IH.out u (by rw [hu]; exact List.getElem_mem hkl) m _ w' (hkk.below hb') (by omega) (by omega))
          have HD := Lib.hid (left_bd u.size m (by omega))
          clear hkk hu hbw
          have HB := Lib.hid hb
          clear hb
          go_wp2_with (go_at_call 31; refine (HI.out _ ((Below.refl _ _).alloc (Nat.le_refl _) _)).mono ?_; rintro e w1 ⟨rfl, hb1⟩)
          go_roundw
          case rel => unfold LeftRel; exact ⟨k + 1, _, by omega, by go_num, rfl, HD.out, Lib.hid HS.out, HB.out.trans (((Below.refl _ _).alloc HB.out.size _).trans (hb1.mono (by simp; have := HB.out.size; omega)))⟩
          case measure => simp [intOf]; omega
      · have HE := Lib.hid (left_end l k (by have := HN.out; omega) m r HM.out kd nm)
        go_wp2
        go_ret
        exact ⟨congrArg (fun x => Ending.returned (.int .i64 x)) HE.out, by rw [← HH.out]; exact HB0.out.trans (hb.mono (by omega))⟩
/-- a value, and a number for its trap -/
def ValPost (G : Nat → Prop) (p : VT × Int) (w : World) (e : Ending) (w' : World) : Prop :=
  ∃ s, e = .returned (.tuple #[.agg #[.int .i64 p.1.kind, .int .i64 p.1.num, s], .int .i64 p.2]) ∧ Kids G w' p.1.kids s ∧ Below w.heap.size w w'
end Go.Proofs.Ytlejcmojimkjeaa.vt

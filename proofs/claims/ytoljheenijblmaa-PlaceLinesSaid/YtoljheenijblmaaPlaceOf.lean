/- What package place's Of lays in memory: the text, and where each of its lines begins. -/
import Derived.Test.YtoljheenijblmaaMem
import Derived.Test.YtoljheenijblmaaPlaceBegs
import Derived.Test.YtoljheenijblmaaPlaceRefLines
namespace Go.Proofs.Ytoljheenijblmaa.place
open Go.RowKit pl mem

/-- the begins, as cells -/
def begV (l : List UInt8) (k : Nat) : List Value := (begT l k).map fun x => Value.int .i64 (x : Nat)
/-- the lines of a text, behind a pointer to block g -/
def Ln (B : Nat) (w : World) (g : Nat) (s : ByteArray) : Prop :=
  g < B ∧ w.cell? ⟨g, 0, none⟩ = some (.string s) ∧ ∃ b cap, w.cell? ⟨g, 1, none⟩ = some (.slice (some ⟨b, 0, none⟩) (begT s.data.toList s.size).length cap) ∧ b < B ∧
    ∀ i, i < (begT s.data.toList s.size).length → w.cell? ⟨b, i, none⟩ = some (.int .i64 ((begT s.data.toList s.size).getD i 0 : Nat))
theorem Ln.keep {B g : Nat} {w w' : World} {s : ByteArray} (h : Ln B w g s) (hk : ∀ b o, b < B → w'.cell? ⟨b, o, none⟩ = w.cell? ⟨b, o, none⟩) : Ln B w' g s := by
  obtain ⟨h1, h2, b, cap, h3, h4, h5⟩ := h
  exact ⟨h1, (hk _ _ h1).trans h2, b, cap, (hk _ _ h1).trans h3, h4, fun i hi => (hk _ _ h4).trans (h5 i hi)⟩
theorem Ln.below {B g : Nat} {w w' : World} {s : ByteArray} (h : Ln B w g s) (hb : Below B w w') : Ln B w' g s :=
  h.keep fun b o hlt => hb.cell (p := ⟨b, o, none⟩) hlt
theorem Ln.more {B B' g : Nat} {w : World} {s : ByteArray} (h : Ln B w g s) (hB : B ≤ B') : Ln B' w g s := by
  obtain ⟨h1, h2, b, cap, h3, h4, h5⟩ := h
  exact ⟨by omega, h2, b, cap, h3, by omega, h5⟩
def OfPost (s : ByteArray) (w : World) (e : Ending) (w' : World) : Prop :=
  ∃ g, e = .returned (.pointer (some ⟨g, 0, none⟩)) ∧ Below w.heap.size w w' ∧ Ln w'.heap.size w' g s
theorem begV_succ (l : List UInt8) (k : Nat) (h : (l.getD k 0).toNat = 10) : begV l (k + 1) = begV l k ++ [.int .i64 ((k : Int) + 1)] := by
  unfold begV; rw [begT_succ, if_pos h, List.map_append]; simp
theorem begV_same (l : List UInt8) (k : Nat) (h : ¬ (l.getD k 0).toNat = 10) : begV l (k + 1) = begV l k ∧ (begT l (k + 1)).length = (begT l k).length := by
  unfold begV; rw [begT_succ, if_neg h]; exact ⟨rfl, rfl⟩
theorem begT_succ_len (l : List UInt8) (k : Nat) (h : (l.getD k 0).toNat = 10) : (begT l (k + 1)).length = (begT l k).length + 1 := by
  rw [begT_succ, if_pos h]; simp
theorem getD_byte (s : ByteArray) (k : Nat) (h : k < s.size) : s.data.toList.getD k 0 = s[k] := by
  rw [List.getD_eq_getElem?_getD, List.getElem?_eq_getElem (by simpa using h)]; rfl
theorem infoInt : (Try.prog.info? 3).map (fun i => (i.zero, i.size, i.bytes)) = some (some (.int .i64 0), 1, 8) := by kernel_rfl
/-- from the row that was made to the lines -/
theorem ln_made {B n : Nat} {v : Value} {s : ByteArray} {w0 w : World} (hn : n = (begT s.data.toList s.size).length) (h : Got B 3 1 n (begV s.data.toList s.size) v w0 w) (o : Obj) (hB : B ≤ w.heap.size)
    (hc0 : (w.alloc o).cell? ⟨w.heap.size, 0, none⟩ = some (.string s)) (hc1 : (w.alloc o).cell? ⟨w.heap.size, 1, none⟩ = some v) : Below B w0 (w.alloc o) ∧ Ln (w.alloc o).heap.size (w.alloc o) w.heap.size s := by
  refine ⟨h.2.alloc hB _, by simp, hc0, ?_⟩
  have hs := h.sees
  obtain ⟨hl, A, cap, rfl, hc⟩ := hs
  have hp := begT_pos s.data.toList s.size
  have hlt : n ≤ (begV s.data.toList s.size).length := by omega
  rcases h.1.2 with ⟨_, h0⟩ | ⟨g, cap', cur, hv, hb, hg, hnc, hcm, hcs, htake⟩
  · rw [h0] at hl; simp at hl; omega
  · injection hv with hA hL hC
    subst hA
    obtain ⟨b, off, hA2, hb2, hc⟩ := hc (by omega)
    injection hA2 with hA3
    injection hA3 with e1 e2
    subst e1
    subst e2
    refine ⟨g, cap, by rw [← hn]; exact hc1, by simp; omega, fun i hi => ?_⟩
    have hu : (begV s.data.toList s.size)[i]? = some (.int .i64 ((begT s.data.toList s.size).getD i 0 : Nat)) := by
      unfold begV
      rw [List.getElem?_map, List.getElem?_eq_getElem hi, List.getD_eq_getElem?_getD, List.getElem?_eq_getElem hi]; rfl
    have := hc i _ hu
    rw [Nat.zero_add] at this
    rw [World.cell?_alloc_lt] <;> first | exact this | omega

set_option maxHeartbeats 1000000 in
theorem of_any (s : ByteArray) (w : World) (hs : s.size ≤ 1048576) :
    Calls Try.prog 6 #[.string s] w (OfPost s w) := by
  obtain ⟨i0, hi, hz0, hz1, hz2⟩ := info_parts infoInt
  generalize hB : w.heap.size = B
  have HB := Lib.hid hB
  have hBw : B ≤ w.heap.size := by omega
  have h0 : Got B 3 1 1 (begV s.data.toList 0) (.slice (some ⟨B, 0, none⟩) 1 1) w (w.alloc (.cells #[.int .i64 0] 3)) := by
    refine ⟨?_, (Below.refl _ _).alloc (by omega) _⟩
    have h := World.ownsRow_lit (size := 1) (e := 3) w #[.int .i64 0] 1 (base := B) (by omega) (by decide) (by simp)
    rw [hB] at h
    exact h
  have H0 := Lib.hid h0
  clear h0
  go_enter Try.func6, Try.ntmps6
  go_wp2
  go_loopw [3, 8] (fun v i wr => ∃ k n : Nat, k ≤ s.size ∧ n ≤ k + 1 ∧ i = .int .i64 k ∧ Hid (n = (begT s.data.toList k).length) ∧ Hid (Got B 3 1 n (begV s.data.toList k) v w wr)) (fun _ i _ => s.size - (intOf i).toNat)
  case atStart => exact ⟨0, 1, Nat.zero_le _, by omega, rfl, Lib.hid rfl, H0⟩
  case round =>
    obtain ⟨k, n, hk, hnk, rfl, HN, HG⟩ := hrel
    by_cases hlt : k < s.size
    · have hgot := HG.out
      have hsz := hgot.2.size
      have HD := Lib.hid (getD_byte s k hlt)
      obtain ⟨_, A, cap, rfl, _⟩ := hgot.sees
      go_wp2_with (at_builtin; refine wpList_append_own _ rfl _ _ 37 rfl B 3 i0 (.int .i64 0) 1 8 Try.underlying37 hi hz0 hz1 hz2 rfl (by decide) _ _ _ rfl (hgot.1.alloc _) ⟨wr.heap.size, 0, none⟩ 1 1 [.int .i64 ((k : Int) + 1)] rfl rfl (new_one _ _ _) (one_int _ _) (by unfold maxLen; omega) (by omega) (by simp; omega) ?_; intro v' w1 hown' hgrow _; have hgot' := Lib.hid (hgot.app (by omega) hown' hgrow); clear hown' hgrow)
      · go_roundw
        case rel =>
          have h10 := is_ten (n := s[k].toNat) (by assumption)
          rw [← HD.out] at h10
          exact ⟨k + 1, n + 1, by omega, by omega, by go_num, Lib.hid (by rw [begT_succ_len _ _ h10, ← HN.out]), Lib.hid (by rw [begV_succ _ _ h10]; exact hgot'.out)⟩
        case measure => simp [intOf]; omega
      · go_roundw
        case rel =>
          have h10 := no_ten (n := s[k].toNat) (by assumption)
          rw [← HD.out] at h10
          exact ⟨k + 1, n, by omega, by omega, by go_num, Lib.hid (by rw [(begV_same _ _ h10).2]; exact HN.out), Lib.hid (by rw [(begV_same _ _ h10).1]; exact HG.out)⟩
        case measure => simp [intOf]; omega
    · obtain rfl : k = s.size := by omega
      have hgot := HG.out
      have hsz := hgot.2.size
      obtain ⟨_, A, cap, rfl, _⟩ := hgot.sees
      clear hgot
      go_wp2
      go_ret
      refine ⟨_, rfl, ?_⟩
      rw [HB.out]
      exact ln_made HN.out HG.out _ (by omega) (by simp) (by simp)
end Go.Proofs.Ytoljheenijblmaa.place

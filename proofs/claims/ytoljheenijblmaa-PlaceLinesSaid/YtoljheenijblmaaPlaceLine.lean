/- A line, and the place of a line and a column, as package place's Line and Off tell them. -/
import Derived.Test.YtoljheenijblmaaPlaceSeek
namespace Go.Proofs.Ytoljheenijblmaa.place
open Go.RowKit pl mem

theorem line_nil (n : Int) (w : World) : Calls Try.prog 10 #[.pointer none, .int .i64 n] w fun e w' => e = .returned (.tuple #[.string ⟨#[]⟩, .bool false]) ∧ w = w' := by
  by_cases h : n < 1
  · go_enter Try.func10, Try.ntmps10
    go_wp2_with (go_at_call 11; refine (count_nil _).mono ?_; rintro e w' ⟨rfl, rfl⟩)
    go_ret2
    exact ⟨rfl, rfl⟩
  · have h2 : 0 < n := by omega
    go_enter Try.func10, Try.ntmps10
    go_wp2_with (go_at_call 11; refine (count_nil _).mono ?_; rintro e w' ⟨rfl, rfl⟩)
    go_ret2
    exact ⟨rfl, rfl⟩
theorem off_nil (n c : Int) (w : World) : Calls Try.prog 9 #[.pointer none, .int .i64 n, .int .i64 c] w fun e w' => e = .returned (.tuple #[.int .i64 0, .bool false]) ∧ w = w' := by
  go_enter Try.func9, Try.ntmps9
  go_wp2_with (go_at_call 10; refine (line_nil _ _).mono ?_; rintro e w' ⟨rfl, rfl⟩)
  go_ret2
  exact ⟨rfl, rfl⟩
theorem line_no (B g : Nat) (s : ByteArray) (n : Int) (w : World) (h : Ln B w g s) (hn : n < 1 ∨ (cnt s : Int) < n) : Calls Try.prog 10 #[.pointer (some ⟨g, 0, none⟩), .int .i64 n] w fun e w' => e = .returned (.tuple #[.string ⟨#[]⟩, .bool false]) ∧ w = w' := by
  have HL := Lib.hid h
  clear h
  by_cases h : n < 1
  · clear hn
    go_enter Try.func10, Try.ntmps10
    go_wp2
    go_ret2
    exact ⟨rfl, rfl⟩
  · have h2 : (cnt s : Int) < n := by omega
    clear hn
    go_enter Try.func10, Try.ntmps10
    go_wp2_with (go_at_call 11; refine (count_any B g s _ HL.out).mono ?_; rintro e w' ⟨rfl, rfl⟩)
    go_ret2
    exact ⟨rfl, rfl⟩
theorem off_no (B g : Nat) (s : ByteArray) (n c : Int) (w : World) (h : Ln B w g s) (hn : n < 1 ∨ (cnt s : Int) < n) : Calls Try.prog 9 #[.pointer (some ⟨g, 0, none⟩), .int .i64 n, .int .i64 c] w fun e w' => e = .returned (.tuple #[.int .i64 0, .bool false]) ∧ w = w' := by
  have HL := Lib.hid h
  have HN := Lib.hid hn
  clear h hn
  go_enter Try.func9, Try.ntmps9
  go_wp2_with (go_at_call 10; refine (line_no B g s _ _ HL.out HN.out).mono ?_; rintro e w' ⟨rfl, rfl⟩)
  go_ret2
  exact ⟨rfl, rfl⟩
/-- a piece of a text -/
theorem piece (s : ByteArray) (a b : Nat) : s.extract a b = ⟨((s.data.toList.take b).drop a).toArray⟩ := by
  apply ByteArray.ext
  apply Array.ext'
  rw [Lib.extract_data, List.drop_take]
set_option maxHeartbeats 1000000 in
theorem line_in (B g : Nat) (s : ByteArray) (i : Nat) (w : World) (h : Ln B w g s) (hs : s.size ≤ 1048576) (hi : i < cnt s) : Calls Try.prog 10 #[.pointer (some ⟨g, 0, none⟩), .int .i64 ((i : Int) + 1)] w fun e w' => e = .returned (.tuple #[strV (segT s.data.toList s.size i), .bool true]) ∧ ∃ q, w' = w.drewN q := by
  have HL := Lib.hid h
  obtain ⟨h1, h2, b, cap, h3, h4, h5⟩ := h
  have hp2 : cnt s ≤ s.size + 1 := begT_len _ _
  have hc := h5 i hi
  have he := beg_end s.data.toList s.size i
  have hel := endT_le s.data.toList s.size i
  have hv : strV (segT s.data.toList s.size i) = .string (s.extract ((begT s.data.toList s.size).getD i 0) (endT s.data.toList s.size i)) := by
    rw [piece]; rfl
  rw [hv]
  have hee : endT s.data.toList s.size i = if i + 1 < cnt s then (begT s.data.toList s.size).getD (i + 1) 0 - 1 else s.size := rfl
  have hrise : i + 1 < cnt s → (begT s.data.toList s.size).getD i 0 < (begT s.data.toList s.size).getD (i + 1) 0 := begT_rise s.data.toList s.size i
  have hc2 := h5 (i + 1)
  generalize (begT s.data.toList s.size).getD i 0 = x at hc he hrise ⊢
  generalize (begT s.data.toList s.size).getD (i + 1) 0 = y at hee hrise hc2
  generalize endT s.data.toList s.size i = z at hee he hel ⊢
  change w.cell? ⟨g, 1, none⟩ = some (.slice (some ⟨b, 0, none⟩) (cnt s) cap) at h3
  change i + 1 < cnt s → _ at hc2
  clear h5 hv
  have x1 : (i : Int) < (cnt s : Int) := by omega
  have x2 : (x : Int) ≤ (z : Int) := by omega
  have x3 : (z : Int) ≤ (s.size : Int) := by omega
  have x5 := IntWalk.i64_in (i : Int) (by omega)
  by_cases hlt : i + 1 < cnt s
  · have hc2 := hc2 hlt
    rw [if_pos hlt] at hee
    obtain rfl : y = z + 1 := by have := hrise hlt; omega
    have x4 : (i : Int) + 1 < (cnt s : Int) := by omega
    clear hee hrise
    have x6 := IntWalk.i64_in (z : Int) (by omega)
    go_enter Try.func10, Try.ntmps10
    go_wp2_with (go_at_call 11; refine (count_any B g s _ HL.out).mono ?_; rintro e w' ⟨rfl, rfl⟩)
    go_quiet (fail)
    go_wp2
    go_ret2
    exact ⟨rfl, _, rfl⟩
  · rw [if_neg hlt] at hee
    subst hee
    clear hc2 hrise
    go_enter Try.func10, Try.ntmps10
    go_wp2_with (go_at_call 11; refine (count_any B g s _ HL.out).mono ?_; rintro e w' ⟨rfl, rfl⟩)
    go_quiet (fail)
    go_wp2
    go_ret2
    exact ⟨rfl, _, rfl⟩
set_option maxHeartbeats 1000000 in
theorem off_in (B g : Nat) (s : ByteArray) (i : Nat) (c : Int) (w : World) (h : Ln B w g s) (hs : s.size ≤ 1048576) (hi : i < cnt s) (n m : Nat) (hn : n = (begT s.data.toList s.size).getD i 0) (hm : m = (segT s.data.toList s.size i).length) (hc1 : 1 ≤ c) (hc2 : c ≤ (m : Int) + 1) :
    Calls Try.prog 9 #[.pointer (some ⟨g, 0, none⟩), .int .i64 ((i : Int) + 1), .int .i64 c] w fun e w' => e = .returned (.tuple #[.int .i64 ((n : Int) + c - 1), .bool true]) ∧ ∃ q, w' = w.drewN q := by
  have HL := Lib.hid h
  obtain ⟨h1, h2, b, cap, h3, h4, h5⟩ := h
  have hp2 : cnt s ≤ s.size + 1 := begT_len _ _
  have hc := h5 i hi
  change w.cell? ⟨g, 1, none⟩ = some (.slice (some ⟨b, 0, none⟩) (cnt s) cap) at h3
  have hnn := begT_le s.data.toList s.size i
  rw [← hn] at hc hnn
  have hsl := segT_len s.data.toList s.size i (by simp)
  have hel := endT_le s.data.toList s.size i
  rw [← hm] at hsl
  have hmm : m ≤ s.size := by omega
  have HS := Lib.hid (line_in B g s i w HL.out hs hi)
  generalize hseg : segT s.data.toList s.size i = seg at HS hm
  have hm := Lib.hid hm
  clear h5 hn hsl hel hseg
  have x1 : (i : Int) < (cnt s : Int) := by omega
  have x5 := IntWalk.i64_in (i : Int) (by omega)
  have x6 : (n : Int) ≤ (s.size : Int) := by omega
  have x7 : ¬ c < 1 := by omega
  have x8 : ¬ (m : Int) + 1 < c := by omega
  obtain ⟨k, rfl⟩ : ∃ k : Nat, c = (k : Int) + 1 := ⟨(c - 1).toNat, by omega⟩
  go_enter Try.func9, Try.ntmps9
  go_wp2_with (fail)
  refine HS.out.mono ?_
  rintro e w' ⟨rfl, q, rfl⟩
  unfold strV
  go_wp2_with (fail)
  go_ret2
  exact ⟨rfl, _, rfl⟩
set_option maxHeartbeats 1000000 in
theorem off_out (B g : Nat) (s : ByteArray) (i : Nat) (c : Int) (w : World) (h : Ln B w g s) (hs : s.size ≤ 1048576) (hi : i < cnt s) (n m : Nat) (hn : n = (begT s.data.toList s.size).getD i 0) (hm : m = (segT s.data.toList s.size i).length) (hc : c < 1 ∨ (m : Int) + 1 < c) :
    Calls Try.prog 9 #[.pointer (some ⟨g, 0, none⟩), .int .i64 ((i : Int) + 1), .int .i64 c] w fun e w' => e = .returned (.tuple #[.int .i64 0, .bool false]) ∧ ∃ q, w' = w.drewN q := by
  have HL := Lib.hid h
  obtain ⟨h1, h2, b, cap, h3, h4, h5⟩ := h
  have hp2 : cnt s ≤ s.size + 1 := begT_len _ _
  have hcc := h5 i hi
  change w.cell? ⟨g, 1, none⟩ = some (.slice (some ⟨b, 0, none⟩) (cnt s) cap) at h3
  have hnn := begT_le s.data.toList s.size i
  rw [← hn] at hcc hnn
  have hsl := segT_len s.data.toList s.size i (by simp)
  have hel := endT_le s.data.toList s.size i
  rw [← hm] at hsl
  have hmm : m ≤ s.size := by omega
  have HS := Lib.hid (line_in B g s i w HL.out hs hi)
  generalize hseg : segT s.data.toList s.size i = seg at HS hm
  have hm := Lib.hid hm
  clear h5 hn hsl hel hseg
  have x1 : (i : Int) < (cnt s : Int) := by omega
  have x5 := IntWalk.i64_in (i : Int) (by omega)
  have x6 : (n : Int) ≤ (s.size : Int) := by omega
  by_cases hlow : c < 1
  · clear hc
    go_enter Try.func9, Try.ntmps9
    go_wp2_with (fail)
    refine HS.out.mono ?_
    rintro e w' ⟨rfl, q, rfl⟩
    unfold strV
    go_wp2_with (fail)
    go_ret2
    exact ⟨rfl, _, rfl⟩
  · have x8 : (seg.length : Int) + 1 < c := by have := hm.out; omega
    clear hc
    go_enter Try.func9, Try.ntmps9
    go_wp2_with (fail)
    refine HS.out.mono ?_
    rintro e w' ⟨rfl, q, rfl⟩
    unfold strV
    go_wp2_with (fail)
    go_ret2
    exact ⟨rfl, _, rfl⟩
end Go.Proofs.Ytoljheenijblmaa.place

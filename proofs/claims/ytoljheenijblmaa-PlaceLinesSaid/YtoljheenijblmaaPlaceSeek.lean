/- How many lines there are, and which one a place belongs to: Count, the function that is sought with, and the search. -/
import Derived.Test.YtoljheenijblmaaPlaceOf
import Derived.BigQuiet
import Derived.Deep.QuietTactic
import Derived.Deep.LoopGhost
import Derived.Deep.Draws
import Derived.RegionTactic
import Derived.BigRegion
namespace Go.Proofs.Ytoljheenijblmaa.place
open Go.RowKit pl mem

theorem count_nil (w : World) : Calls Try.prog 11 #[.pointer none] w fun e w' => e = .returned (.int .i64 0) ∧ w = w' := by
  go_enter Try.func11, Try.ntmps11
  go_wp2
  go_ret
  exact ⟨rfl, rfl⟩
/-- how many lines -/
def cnt (s : ByteArray) : Nat := (begT s.data.toList s.size).length
theorem count_any (B g : Nat) (s : ByteArray) (w : World) (h : Ln B w g s) : Calls Try.prog 11 #[.pointer (some ⟨g, 0, none⟩)] w fun e w' => e = .returned (.int .i64 (cnt s : Nat)) ∧ w = w' := by
  obtain ⟨h1, h2, b, cap, h3, h4, h5⟩ := h
  change w.cell? ⟨g, 1, none⟩ = some (.slice (some ⟨b, 0, none⟩) (cnt s) cap) at h3
  clear h5
  go_enter Try.func11, Try.ntmps11
  go_wp2
  go_ret
  exact ⟨rfl, rfl⟩
theorem less_any (B g pl po : Nat) (s : ByteArray) (off : Int) (i : Nat) (w : World) (h : Ln B w g s) (hp : w.cell? ⟨pl, 0, none⟩ = some (.pointer (some ⟨g, 0, none⟩))) (ho : w.cell? ⟨po, 0, none⟩ = some (.int .i64 off)) (hi : i < cnt s) :
    Calls Try.prog 14 #[.int .i64 i, .pointer (some ⟨pl, 0, none⟩), .pointer (some ⟨po, 0, none⟩)] w fun e w' => e = .returned (.bool (decide (off < ((begT s.data.toList s.size).getD i 0 : Nat)))) ∧ ∃ q, w' = w.drewN q := by
  obtain ⟨h1, h2, b, cap, h3, h4, h5⟩ := h
  change w.cell? ⟨g, 1, none⟩ = some (.slice (some ⟨b, 0, none⟩) (cnt s) cap) at h3
  have hc := h5 i hi
  generalize (begT s.data.toList s.size).getD i 0 = x at hc ⊢
  have hiz : (i : Int) < (cnt s : Int) := by omega
  clear h5
  go_enter Try.func14, Try.ntmps14
  go_wp2
  go_quiet (fail)
  go_wp2
  go_ret
  exact ⟨rfl, _, rfl⟩
set_option maxHeartbeats 1000000 in
/-- the search, where the function says which numbers are at least c -/
theorem search_any (pl po n c : Nat) (w : World) (hn : n ≤ 1048577) (hc : c ≤ n)
    (hf : ∀ (m i : Nat), i < n → Calls Try.prog 14 #[.int .i64 i, .pointer (some ⟨pl, 0, none⟩), .pointer (some ⟨po, 0, none⟩)] (w.drewN m) fun e w' => e = .returned (.bool (decide (c ≤ i))) ∧ ∃ q, w' = (w.drewN m).drewN q) :
    Calls Try.prog 13 #[.int .i64 n, .func (.func 14) #[] #[.pointer (some ⟨pl, 0, none⟩), .pointer (some ⟨po, 0, none⟩)]] w fun e w' => e = .returned (.int .i64 c) ∧ ∃ q, w' = w.drewN q := by
  have HF := Lib.hid hf
  clear hf
  go_enter Try.func13, Try.ntmps13
  go_wp2
  go_loopg [5, 6] n (fun kx s5 s6 wr => ∃ (lo hi q : Nat), s5 = .int .i64 lo ∧ s6 = .int .i64 hi ∧ lo ≤ c ∧ c ≤ hi ∧ hi ≤ n ∧ hi - lo ≤ kx ∧ wr = w.drewN q)
  case atStart => exact ⟨0, n, 0, rfl, rfl, Nat.zero_le _, hc, Nat.le_refl _, by omega, rfl⟩
  case round =>
    obtain ⟨lo, hi, q, rfl, rfl, hlh, hch, hin, hg, rfl⟩ := hrel
    by_cases hlt : lo < hi
    · have hcl := HF.out q ((lo + hi) / 2) (by omega)
      rw [show (((lo + hi) / 2 : Nat) : Int) = ((lo : Int) + (hi : Int)) / 2 by omega] at hcl
      by_cases hp : c ≤ (lo + hi) / 2
      · rw [decide_eq_true hp] at hcl
        have HP := Lib.hid hp
        clear hp
        go_wp2_with (go_at_call 14; refine hcl.mono ?_; rintro e w' ⟨rfl, nq, rfl⟩)
        go_roundg ((lo + hi) / 2 - lo)
        case measure => omega
        case rel =>
          have hp := HP.out
          exact ⟨lo, (lo + hi) / 2, q + nq, rfl, by rw [show ((lo : Int) + (hi : Int)) / 2 = (((lo + hi) / 2 : Nat) : Int) by omega], hlh, hp, by omega, Nat.le_refl _, rfl⟩
      · rw [decide_eq_false hp] at hcl
        have HP := Lib.hid hp
        clear hp
        go_wp2_with (go_at_call 14; refine hcl.mono ?_; rintro e w' ⟨rfl, nq, rfl⟩)
        go_roundg (hi - ((lo + hi) / 2 + 1))
        case measure => omega
        case rel =>
          have hp := HP.out
          exact ⟨(lo + hi) / 2 + 1, hi, q + nq, by rw [show ((lo : Int) + (hi : Int)) / 2 + 1 = (((lo + hi) / 2 + 1 : Nat) : Int) by omega], rfl, by omega, by omega, hin, Nat.le_refl _, rfl⟩
    · obtain rfl : lo = c := by omega
      go_wp2
      go_ret
      exact ⟨rfl, q, rfl⟩
end Go.Proofs.Ytoljheenijblmaa.place

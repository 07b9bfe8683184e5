/- How great and how deep a value is: the document's reckoning, and the package's. -/
import Derived.Test.YthohfepolidgkaaValMem
import Derived.LoopTactic
import Derived.Outline
import Derived.StillTailTactics
namespace Go.Proofs.Ythohfepolidgkaa.vt
open Go.RowKit mem

def SizeRel (H : Nat) (W : World) (N : Nat) (l : List VT) (n i : Value) (wr : World) : Prop :=
  ∃ (k : Nat) (m : Int), k ≤ N ∧ i = .int .i64 k ∧ n = .int .i64 (wrap64 m) ∧ Hid (m = (sizeL (l.take k) : Int) + 1) ∧ Below H W wr
theorem one_wrap : Value.int .i64 1 = .int .i64 (wrap64 1) := by rw [show wrap64 1 = 1 by unfold wrap64; omega]
theorem wrap_ret {a b : Int} (h : a = b) : Ending.returned (.int .i64 (wrap64 a)) = .returned (.int .i64 (wrap64 b)) := by rw [h]
theorem wrap_sum {a b c : Int} (h : a + b = c) : Value.int .i64 (wrap64 (wrap64 a + wrap64 b)) = .int .i64 (wrap64 c) := by rw [wrap_add, h]
theorem size_step (l : List VT) (k : Nat) (hk : k < l.length) (m : Int) (h : m = (sizeL (l.take k) : Int) + 1) : m + (l[k].size : Int) = (sizeL (l.take (k + 1)) : Int) + 1 := by
  rw [sizeL_take l k hk, h]; omega
theorem size_end (l : List VT) (k : Nat) (hk : ¬ k < l.length) (m : Int) (h : m = (sizeL (l.take k) : Int) + 1) (kd nm : Int) : m = ((VT.mk kd nm l).size : Int) := by
  rw [size_mk, h, List.take_of_length_le (by omega)]; omega
def DeepRel (H : Nat) (W : World) (N : Nat) (l : List VT) (n i : Value) (wr : World) : Prop :=
  ∃ (k : Nat) (m : Int), k ≤ N ∧ i = .int .i64 k ∧ n = .int .i64 m ∧ (0 ≤ m ∧ m ≤ 9223372036854775807) ∧ Hid (m = deepL 0 (l.take k)) ∧ Below H W wr
theorem deep_step (l : List VT) (k : Nat) (hk : k < l.length) (m d r : Int) (h : m = deepL 0 (l.take k)) (hd : d = l[k].deepW) (hr : r = max m d) : r = deepL 0 (l.take (k + 1)) := by
  rw [deepL_take l k hk, hr, h, hd]
theorem deep_end (l : List VT) (k : Nat) (hk : ¬ k < l.length) (m : Int) (h : m = deepL 0 (l.take k)) (kd nm : Int) : wrap64 (m + 1) = (VT.mk kd nm l).deepW := by
  rw [deepW_mk, h, List.take_of_length_le (by omega)]
theorem int_ret {a b : Int} (h : a = b) : Ending.returned (.int .i64 a) = .returned (.int .i64 b) := by rw [h]
end Go.Proofs.Ythohfepolidgkaa.vt

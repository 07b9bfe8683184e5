/- The maps' own functions: how many keys, a key's value, the map with a key, the map without one. -/
import Derived.Test.YtjlbchkdiaomjaaDoorTrieDrop2
import Derived.Test.YtjlbchkdiaomjaaDoorTrieRep
import Derived.Test.YtjlbchkdiaomjaaDoorTrieShared
namespace Go.Proofs.YtjlbchkdiaomjaaDoor.trie
open Go.RowKit mem tri mix

/-- a map, as it is handed on -/
def mapV (t : Tr) (n : Nat) : Value := .agg #[ptr t, .int .i64 n]
theorem len_any (t : Tr) (n : Nat) (w : World) : Calls Tryd.prog 16 #[mapV t n] w fun e w' => e = .returned (.int .i64 n) ∧ Below w.heap.size w w' := by
  unfold mapV
  cases t <;> (
    unfold ptr
    go_enter Tryd.func16, Tryd.ntmps16
    go_wp2
    go_ret
    exact ⟨rfl, (Below.refl _ _).alloc (Nat.le_refl _) _⟩)
theorem ptr_is (t : Tr) : ∃ p, ptr t = .pointer p := by cases t <;> exact ⟨_, rfl⟩
set_option maxHeartbeats 1000000 in
theorem shared2_any (t u : Tr) (n m : Nat) (w : World) (ho : Ok t 0 0) (ht : Lies w.heap.size w t) (hu : Lies w.heap.size w u) :
    Calls Tryd.prog 19 #[mapV t n, mapV u m] w fun e w' => e = .returned (.int .i64 (sh t u : Nat)) ∧ Below w.heap.size w w' := by
  obtain ⟨p, hp⟩ := ptr_is t
  obtain ⟨q, hq⟩ := ptr_is u
  have H := fun W h1 h2 => shared_any t u 0 0 W ho h1 h2
  unfold ShPost at H
  unfold mapV
  rw [hp, hq] at H ⊢
  have hb : Below w.heap.size w ((w.alloc (.cells #[.pointer p, .int .i64 n] 26)).alloc (.cells #[.pointer q, .int .i64 m] 26)) := ((Below.refl _ w).alloc (Nat.le_refl _) _).alloc (by simp) _
  have HC := Lib.hid (H _ ((ht.below hb).more (by simp; omega)) ((hu.below hb).more (by simp; omega)))
  clear ho ht hu hp hq H
  obtain ⟨z, hz⟩ : ∃ z, z = sh t u := ⟨_, rfl⟩
  rw [← hz] at HC ⊢
  clear hz
  go_enter Tryd.func19, Tryd.ntmps19
  go_wp2_with (fail)
  refine HC.out.mono ?_
  rintro e w' ⟨rfl, hb2⟩
  go_wp2_with (fail)
  go_ret
  exact ⟨rfl, hb.trans (hb2.mono (by simp; omega))⟩
set_option maxHeartbeats 1000000 in
theorem nodes_any (t : Tr) (n : Nat) (w : World) (ho : Ok t 0 0) (ht : Lies w.heap.size w t) :
    Calls Tryd.prog 17 #[mapV t n] w fun e w' => e = .returned (.int .i64 (sh t t : Nat)) ∧ Below w.heap.size w w' := by
  obtain ⟨p, hp⟩ := ptr_is t
  have H := fun W h1 => shared2_any t t n n W ho h1 h1
  unfold mapV at H ⊢
  rw [hp] at H ⊢
  have hb : Below w.heap.size w (w.alloc (.cells #[.pointer p, .int .i64 n] 26)) := (Below.refl _ w).alloc (Nat.le_refl _) _
  have HC := Lib.hid (H _ ((ht.below hb).more (by simp)))
  clear ho ht hp H
  obtain ⟨z, hz⟩ : ∃ z, z = sh t t := ⟨_, rfl⟩
  rw [← hz] at HC ⊢
  clear hz
  go_enter Tryd.func17, Tryd.ntmps17
  go_wp2_with (fail)
  refine HC.out.mono ?_
  rintro e w' ⟨rfl, hb2⟩
  go_wp2_with (fail)
  go_ret
  exact ⟨rfl, hb.trans (hb2.mono (by simp))⟩
end Go.Proofs.YtjlbchkdiaomjaaDoor.trie

/- Seeds, of which the document's own trees grow: the next number, the next name. -/
import Derived.Test.YtgohkmdepjmpaaaDoorCGNode
import Derived.Test.YtgohkmdepjmpaaaDoorCGVal
import Derived.BigQuiet
import Derived.Test.YtgohkmdepjmpaaaDoorCGLex
import Derived.Test.YtgohkmdepjmpaaaDoorCGWord
namespace Go.Proofs.YtgohkmdepjmpaaaDoor.nt
open Go.RowKit mem wd lx
open vt (I64 own_base own_form own_below)

/-- a list of numbers that is read alone, apart from block p -/
def IntsAt (w : World) (sl : Value) (p : Nat) : Prop :=
  ∃ A n cap, sl = .slice A n cap ∧ n ≤ 4611686018427387904 ∧ ∀ i, i < n → ∃ b off x, A = some ⟨b, off, none⟩ ∧ b ≠ p ∧ w.cell? ⟨b, off + i, none⟩ = some (.int .i64 x) ∧ I64 x
theorem grow_trans {w w1 w2 : World} {p : Nat} (h : w.grownBy w1 (some p)) (h1 : w1.grownBy w2 (some p)) : w.grownBy w2 (some p) :=
  ⟨h1.os.trans h.os, h1.tape.trans h.tape, h1.output.trans h.output, Nat.le_trans h.size h1.size, fun k hk hn => (h1.block k (Nat.lt_of_lt_of_le hk h.size) hn).trans (h.block k hk hn)⟩
theorem grow_refl (w : World) (p : Nat) : w.grownBy w (some p) := ⟨rfl, rfl, rfl, Nat.le_refl _, fun _ _ _ => rfl⟩
theorem grow_below {w w1 w2 : World} {p : Nat} (h : w.grownBy w1 (some p)) (hb : Below w1.heap.size w1 w2) : w.grownBy w2 (some p) :=
  grow_trans h ⟨hb.os, hb.tape, hb.output, hb.size, fun k hk _ => hb.block k hk⟩
theorem grow_alloc (w : World) (p : Nat) (o : Obj) : w.grownBy (w.alloc o) (some p) := grow_below (grow_refl w p) ((Below.refl _ _).alloc (Nat.le_refl _) _)
theorem grow_drewN {w w1 : World} {p : Nat} (h : w.grownBy w1 (some p)) (q : Nat) : w.grownBy (w1.drewN q) (some p) := grow_below h (below_drewN (Below.refl _ _) q)
/-- a store to the seeds' own cell, or to a block that is new -/
theorem grow_set {w w1 : World} {p b i : Nat} (h : w.grownBy w1 (some p)) (hb : b = p ∨ w.heap.size ≤ b) (v : Value) : w.grownBy (w1.setCell ⟨b, i, none⟩ v) (some p) := by
  refine ⟨h.os, h.tape, h.output, by rw [World.size_setCell]; exact h.size, fun k hk hn => ?_⟩
  rw [Below.heap_setCell w1 ⟨b, i, none⟩ v k (by
    show k ≠ b
    rcases hb with rfl | hb
    · exact fun e => hn (by rw [e])
    · omega)]
  exact h.block k hk hn
theorem ints_keep {w w' : World} {sl : Value} {p : Nat} (h : IntsAt w sl p) (hg : w.grownBy w' (some p)) : IntsAt w' sl p := by
  obtain ⟨A, n, cap, hs, hn, hc⟩ := h
  refine ⟨A, n, cap, hs, hn, fun i hi => ?_⟩
  obtain ⟨b, off, x, hA, hb, hcell, hx⟩ := hc i hi
  refine ⟨b, off, x, hA, hb, ?_, hx⟩
  exact hg.cell (a := ⟨b, off + i, none⟩) hcell (by simpa using hb)
theorem rem_in (x n : Int) (hn : 1 ≤ n ∧ n ≤ 1000) : 0 ≤ wrap64 ((IntKind.u64.wrap x).tmod n) ∧ wrap64 ((IntKind.u64.wrap x).tmod n) < n := by
  have h0 : 0 ≤ IntKind.u64.wrap x := by show 0 ≤ x % 18446744073709551616; omega
  rw [Int.tmod_eq_emod_of_nonneg h0]
  have h1 := Int.emod_nonneg (IntKind.u64.wrap x) (show n ≠ 0 by omega)
  have h2 := Int.emod_lt_of_pos (IntKind.u64.wrap x) (show 0 < n by omega)
  unfold wrap64
  omega
/-! ### names -/
def tenW : List (List UInt8) := [[97], [98], [99, 49], [95, 120], [108, 101, 110], [102], [103], [80], [109], [81]]
theorem ten_named : ∀ s ∈ tenW, named s = true := by
  intro s hs
  have key : ∀ s ∈ tenW, (lexN 4 s 0) = (0, 0, [⟨1, 0, 0, s⟩, ⟨0, s.length, 0, []⟩]) := by
    intro s hs
    simp only [tenW, List.mem_cons, List.mem_nil_iff, or_false] at hs
    rcases hs with rfl | rfl | rfl | rfl | rfl | rfl | rfl | rfl | rfl | rfl <;> kernel_rfl
  have hl : s.length ≤ 4 := (by decide : ∀ s ∈ tenW, s.length ≤ 4) s hs
  have e : lexA s = (0, 0, [⟨1, 0, 0, s⟩, ⟨0, s.length, 0, []⟩]) := by
    rw [lexA_in (by omega), ← lexN_eq 4 s 0 hl]; exact key s hs
  unfold named
  rw [e]; simp
theorem ten_len : ∀ s ∈ tenW, s.length ≤ 3 := by decide
end Go.Proofs.YtgohkmdepjmpaaaDoor.nt

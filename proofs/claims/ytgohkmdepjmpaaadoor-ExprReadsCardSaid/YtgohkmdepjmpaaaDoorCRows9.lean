/- Rows of values of a call's own, beside other blocks: what stays where something else is written; a row cut in two. -/
import Derived.Test.YtgohkmdepjmpaaaDoorCGVal
namespace Go.Proofs.YtgohkmdepjmpaaaDoor.vt
open Go.RowKit mem

theorem own_step {w w' : World} {base size n : Nat} {e : TypeId} {v : Value} {xs : List Value} (h : w.ownsRow base e size v n xs) (hk : ∀ k, v.ownBlock = some k → w'.heap[k]? = w.heap[k]?) : w'.ownsRow base e size v n xs := by
  refine ⟨h.1, ?_⟩
  rcases h.2 with h' | ⟨g, cap, cur, hv, hg, hh, r⟩
  · exact .inl h'
  · subst hv; exact .inr ⟨g, cap, cur, rfl, hg, (hk g rfl).trans hh, r⟩
theorem set_same (w : World) (b i k : Nat) (u : Value) (h : k ≠ b) : (w.setCell ⟨b, i, none⟩ u).heap[k]? = w.heap[k]? := Below.heap_setCell w ⟨b, i, none⟩ u k h
theorem set_heap_at (w : World) (b i : Nat) (cs : Array Value) (t : TypeId) (fr : Nat × Nat) (u : Value) (h : w.heap[b]? = some (.cells cs t fr)) : (w.setCell ⟨b, i, none⟩ u).heap[b]? = some (.cells (cs.setIfInBounds i u) t fr) := by
  simp [World.setCell, Array.getElem?_modify, h]
theorem grown_alloc {w w1 : World} {o : Obj} {row : Option Nat} (h : ((w.alloc o).drew).grownBy w1 row) : w.grownBy w1 row :=
  ⟨h.os, h.tape, h.output, Nat.le_trans (by show _ ≤ (w.alloc o).heap.size; simp) h.size, fun k hk hr => (h.block k (by show k < (w.alloc o).heap.size; simp; omega) hr).trans (Below.heap_alloc w o k hk)⟩
theorem set_comm (w : World) {b c : Nat} (h : b ≠ c) (i j : Nat) (u v : Value) : (w.setCell ⟨b, i, none⟩ u).setCell ⟨c, j, none⟩ v = (w.setCell ⟨c, j, none⟩ v).setCell ⟨b, i, none⟩ u := by
  unfold World.setCell
  simp only
  congr 1
  apply Array.ext_getElem?
  intro k
  simp only [Array.getElem?_modify]
  by_cases h1 : b = k
  · subst h1
    simp [Ne.symm h]
  · by_cases h2 : c = k
    · subst h2
      simp [h1]
    · simp [h1, h2]
theorem set_comm3 (w : World) {g rb : Nat} (h : g ≠ rb) (i j k l : Nat) (x y z u : Value) :
    (((w.setCell ⟨rb, l, none⟩ u).setCell ⟨g, i, none⟩ x).setCell ⟨g, j, none⟩ y).setCell ⟨g, k, none⟩ z = (((w.setCell ⟨g, i, none⟩ x).setCell ⟨g, j, none⟩ y).setCell ⟨g, k, none⟩ z).setCell ⟨rb, l, none⟩ u := by
  rw [set_comm w h.symm, set_comm _ h.symm, set_comm _ h.symm]
/-- a block's place in a world that grew -/
theorem grown_set {w w1 : World} {row : Option Nat} {g i : Nat} (h : w.grownBy w1 row) (hg : row = some g ∨ w.heap.size ≤ g) (u : Value) : w.grownBy (w1.setCell ⟨g, i, none⟩ u) row :=
  ⟨h.os, h.tape, h.output, by rw [World.size_setCell]; exact h.size, fun k hk hr => by
    rw [Below.heap_setCell]
    · exact h.block k hk hr
    · intro e
      dsimp only at e
      subst e
      rcases hg with hg | hg
      · exact hr hg.symm
      · omega⟩
theorem sliced_form (A : Option Addr) (n D c : Nat) : ∃ A' c', sliced A n D c 3 = .slice A' (D - n) c' := ⟨_, _, rfl⟩
end Go.Proofs.YtgohkmdepjmpaaaDoor.vt

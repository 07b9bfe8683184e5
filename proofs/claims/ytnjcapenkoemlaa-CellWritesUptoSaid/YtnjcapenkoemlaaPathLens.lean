/- Values whose lists are none too long to be copied. -/
import Derived.Test.YtnjcapenkoemlaaPathTree
namespace Go.Proofs.Ytnjcapenkoemlaa.vt
open Go.RowKit

mutual
/-- no list in it takes more than 2^47 bytes -/
def VT.lens : VT → Prop
  | .mk _ _ l => l.length * 40 ≤ 140737488355328 ∧ lensL l
def lensL : List VT → Prop
  | [] => True
  | v :: r => v.lens ∧ lensL r
end
theorem lens_mk (k n : Int) (l : List VT) : (VT.mk k n l).lens ↔ l.length * 40 ≤ 140737488355328 ∧ lensL l := by rw [VT.lens]
theorem lensL_mem : ∀ {l : List VT}, lensL l → ∀ u ∈ l, u.lens
  | v :: r, h, u, hu => by
    rw [lensL] at h
    rcases List.mem_cons.1 hu with rfl | hu
    · exact h.1
    · exact lensL_mem h.2 u hu
theorem lensL_of : ∀ {l : List VT}, (∀ u ∈ l, u.lens) → lensL l
  | [], _ => by rw [lensL]; trivial
  | v :: r, h => by rw [lensL]; exact ⟨h v (by simp), lensL_of fun u hu => h u (by simp [hu])⟩
theorem lens_kids {t : VT} (h : t.lens) : t.kids.length * 40 ≤ 140737488355328 := by cases t; rw [lens_mk] at h; exact h.1
theorem lens_at : ∀ (l : List Way) (t u : VT), t.lens → atT t l = some u → u.lens
  | [], t, u, h, e => by rw [atT] at e; injection e with e; subst e; exact h
  | w :: r, t, u, h, e => by
    rw [atT] at e
    split at e
    · rename_i hl
      obtain ⟨hk, he⟩ := kid_get hl
      refine lens_at r _ u ?_ e
      rw [he]
      cases t
      rw [lens_mk] at h
      exact lensL_mem h.2 _ (List.getElem_mem hk)
    · cases e
theorem lens_small (t : VT) : t.size ≤ 1048576 → t.lens := by
  induction t using VT.ind with
  | h k n l ih =>
    intro h
    rw [size_mk] at h
    rw [lens_mk]
    have := len_le_sizeL l
    exact ⟨by omega, lensL_of fun u hu => ih u hu (by have := mem_sizeL hu; omega)⟩
end Go.Proofs.Ytnjcapenkoemlaa.vt

/- Steps into values, as plain trees: where they lead, the value with another one there, what is too great. Nothing of the program. -/
import Derived.Test.YtnjcapenkoemlaaValTree
namespace Go.Proofs.Ytnjcapenkoemlaa.vt
open Go.RowKit

/-- a step: into a record or not, and the number -/
abbrev Way := Bool × Int
def zeroT : VT := .mk 0 0 []
def fromK (b : Bool) : Int := if b then 3 else 2
def leadsB (t : VT) (w : Way) : Bool := decide (t.kind = fromK w.1) && (decide (0 ≤ w.2) && decide (w.2 < (t.kids.length : Int)))
def kidT (t : VT) (w : Way) : VT := t.kids[w.2.toNat]?.getD zeroT
def atT : VT → List Way → Option VT
  | t, [] => some t
  | t, w :: r => if leadsB t w = true then atT (kidT t w) r else none
def withT (x : VT) : VT → List Way → VT
  | _, [] => x
  | t, w :: r => .mk t.kind t.num (t.kids.set w.2.toNat (withT x (kidT t w) r))
/-- a value, or nought and a trap -/
def ended (o : Option VT) : VT × Int := match o with | some t => (t, 0) | none => (zeroT, 3)
def fitsT (t : VT) : VT × Int := if t.size ≤ 4096 then (t, 0) else (zeroT, 4)
def setT (t x : VT) (l : List Way) : VT × Int := match atT t l with | some _ => fitsT (withT x t l) | none => (zeroT, 3)

theorem leadsB_iff (t : VT) (w : Way) : leadsB t w = true ↔ t.kind = fromK w.1 ∧ 0 ≤ w.2 ∧ w.2 < (t.kids.length : Int) := by
  unfold leadsB; simp
theorem kidT_mk (k n : Int) (l : List VT) (w : Way) : kidT (.mk k n l) w = l[w.2.toNat]?.getD zeroT := rfl
theorem size_eq (t : VT) : t.size = sizeL t.kids + 1 := by cases t; exact size_mk _ _ _
theorem kid_get {t : VT} {w : Way} (h : leadsB t w = true) : ∃ hk : w.2.toNat < t.kids.length, kidT t w = t.kids[w.2.toNat] := by
  have h := (leadsB_iff t w).1 h
  refine ⟨by omega, ?_⟩
  unfold kidT
  rw [List.getElem?_eq_getElem (by omega)]; rfl
theorem atT_snoc : ∀ (l : List Way) (t : VT) (w : Way), atT t (l ++ [w]) = (atT t l).bind fun u => if leadsB u w = true then some (kidT u w) else none
  | [], t, w => by simp [atT]
  | v :: r, t, w => by
    rw [List.cons_append, atT, atT]
    split
    · exact atT_snoc r _ w
    · rfl
theorem withT_cons (x t : VT) (w : Way) (r : List Way) : withT x t (w :: r) = .mk t.kind t.num (t.kids.set w.2.toNat (withT x (kidT t w) r)) := by rw [withT]
theorem withT_snoc (x : VT) : ∀ (l : List Way) (t : VT) (w : Way) (u : VT), atT t l = some u → withT x t (l ++ [w]) = withT (.mk u.kind u.num (u.kids.set w.2.toNat x)) t l
  | [], t, w, u, h => by
    rw [atT] at h; injection h with h; subst h
    simp [withT]
  | v :: r, t, w, u, h => by
    rw [atT] at h
    split at h
    · rw [List.cons_append, withT_cons, withT_cons, withT_snoc x r _ w u h]
    · cases h
theorem atT_none_more : ∀ (l m : List Way) (t : VT), atT t l = none → atT t (l ++ m) = none
  | [], m, t, h => by rw [atT] at h; cases h
  | v :: r, m, t, h => by
    rw [List.cons_append]
    rw [atT] at h ⊢
    split at h
    · rename_i h1; rw [if_pos h1]; exact atT_none_more r m _ h
    · rename_i h1; rw [if_neg h1]
theorem at_with : ∀ (l : List Way) (t x u : VT), atT t l = some u → atT (withT x t l) l = some x
  | [], t, x, u, h => by rw [withT, atT]
  | w :: r, t, x, u, h => by
    rw [atT] at h
    split at h
    · rename_i hl
      obtain ⟨hk, he⟩ := kid_get hl
      rw [withT, atT, if_pos]
      · rw [kidT_mk, List.getElem?_set_self hk]
        exact at_with r _ x u h
      · rw [leadsB_iff] at hl ⊢
        simpa [VT.kind, VT.kids] using hl
    · cases h
/-- where two ways part, what is set on one of them leaves what lies on the other one -/
theorem at_beside : ∀ (a b : List Way) (t x u v : VT), (∃ i, ∃ (ha : i < a.length) (hb : i < b.length), a[i].2 ≠ b[i].2) → atT t a = some u → atT t b = some v → atT (withT x t a) b = some v
  | [], b, t, x, u, v, h, _, _ => by obtain ⟨i, ha, _⟩ := h; simp at ha
  | w :: a, [], t, x, u, v, h, _, _ => by obtain ⟨i, _, hb, _⟩ := h; simp at hb
  | w :: a, z :: b, t, x, u, v, h, h1, h2 => by
    rw [atT] at h1 h2
    split at h1
    · rename_i l1
      split at h2
      · rename_i l2
        have e1 := (leadsB_iff t w).1 l1
        have e2 := (leadsB_iff t z).1 l2
        rw [withT, atT, if_pos (by rw [leadsB_iff]; simpa [VT.kind, VT.kids] using e2)]
        by_cases hn : w.2 = z.2
        · have hz : kidT t w = kidT t z := by unfold kidT; rw [hn]
          have : kidT (VT.mk t.kind t.num (t.kids.set w.2.toNat (withT x (kidT t w) a))) z = withT x (kidT t z) a := by
            rw [kidT_mk, ← hn, List.getElem?_set_self (by omega), hz]; rfl
          rw [this]
          refine at_beside a b _ x u v ?_ (by rw [← hz]; exact h1) h2
          obtain ⟨i, ha, hb, hne⟩ := h
          match i, ha, hb, hne with
          | 0, _, _, hne => exact absurd hn (by simpa using hne)
          | i + 1, ha, hb, hne => exact ⟨i, by simpa using ha, by simpa using hb, by simpa using hne⟩
        · have : kidT (VT.mk t.kind t.num (t.kids.set w.2.toNat (withT x (kidT t w) a))) z = kidT t z := by
            rw [kidT_mk, List.getElem?_set_ne (by omega)]; rfl
          rw [this]; exact h2
      · cases h2
    · cases h1
theorem sizeL_set : ∀ (l : List VT) (k : Nat) (hk : k < l.length) (x : VT), sizeL (l.set k x) + l[k].size = sizeL l + x.size
  | v :: r, 0, _, x => by simp [sizeL]; omega
  | v :: r, k + 1, hk, x => by
    have := sizeL_set r k (by simpa using hk) x
    simp only [List.set_cons_succ, sizeL, List.getElem_cons_succ]
    omega
theorem kid_size {t : VT} {w : Way} (h : leadsB t w = true) : (kidT t w).size ≤ t.size := by
  obtain ⟨hk, he⟩ := kid_get h
  rw [he]
  have := mem_sizeL (List.getElem_mem hk)
  rw [size_eq t]
  omega
theorem with_size : ∀ (l : List Way) (t x u : VT), atT t l = some u → (withT x t l).size ≤ t.size + x.size
  | [], t, x, u, h => by rw [withT]; omega
  | w :: r, t, x, u, h => by
    rw [atT] at h
    split at h
    · rename_i hl
      obtain ⟨hk, he⟩ := kid_get hl
      have h1 := with_size r _ x u h
      have h2 := sizeL_set t.kids _ hk (withT x (kidT t w) r)
      rw [withT, size_mk]
      rw [he] at h1 h2
      have h3 := size_eq t
      rw [he]
      omega
    · cases h
/-- what is left of room behind a value -/
def leftI (n : Nat) (r : Int) : Int := if r < n then -1 else r - n
end Go.Proofs.Ytnjcapenkoemlaa.vt

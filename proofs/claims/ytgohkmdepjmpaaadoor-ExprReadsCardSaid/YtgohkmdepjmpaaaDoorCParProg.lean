/- Reading goes on, and ends. -/
import Derived.Test.YtgohkmdepjmpaaaDoorCParMath
namespace Go.Proofs.YtgohkmdepjmpaaaDoor.pm
open Go.RowKit wd lx nt ne

def Mode.lists : Mode → Bool
  | .args => true
  | .more _ => true
  | _ => false
def Mode.strict : Mode → Bool
  | .loop _ _ => false
  | .steps _ => false
  | _ => true
/-- where what is read ends -/
def Ends (len : Int) (m : Mode) (i : Int) : Res → Prop
  | .node _ j => m.lists = false ∧ i ≤ j ∧ (i ≤ len → j ≤ len) ∧ (m.strict = true → 0 ≤ i ∧ i < len ∧ i < j)
  | .list _ j => m.lists = true ∧ i ≤ j ∧ (i ≤ len → j ≤ len) ∧ (m.strict = true → 0 ≤ i ∧ i < len ∧ i < j)
  | .no j => i ≤ j ∧ (i ≤ len → j ≤ len)
theorem ends_step (l : List Tk) (R : Mode → Int → Option Res) (ih : ∀ m i r, R m i = some r → Ends l.length m i r) (m : Mode) (i : Int) (r : Res) (h : stepR l R m i = some r) : Ends l.length m i r := by
  cases m with
  | typ =>
    simp only [stepR] at h
    by_cases h1 : (tokAt l i).kind = 1
    · rw [if_pos h1] at h; cases h
      have := tok_in (l := l) (i := i) (by rw [h1]; decide)
      exact ⟨rfl, by omega, by omega, fun _ => by omega⟩
    rw [if_neg h1] at h
    by_cases h2 : isW l i sInt = true
    · rw [if_pos h2] at h; cases h
      have := isW_in h2
      exact ⟨rfl, by omega, by omega, fun _ => by omega⟩
    rw [if_neg h2] at h
    by_cases h3 : isW l i sBool = true
    · rw [if_pos h3] at h; cases h
      have := isW_in h3
      exact ⟨rfl, by omega, by omega, fun _ => by omega⟩
    rw [if_neg h3] at h
    by_cases h4 : isW l i sRev = true
    · rw [if_pos h4] at h; cases h
      have := isW_in h4
      exact ⟨rfl, by omega, by omega, fun _ => by omega⟩
    rw [if_neg h4] at h
    by_cases h5 : isM l i [91] = false
    · rw [if_pos h5] at h; cases h
      exact ⟨Int.le_refl _, fun h => h⟩
    rw [if_neg h5] at h
    have i5 := isM_in (by simpa using h5 : isM l i [91] = true)
    by_cases h6 : isM l (i + 1) [93] = false
    · rw [if_pos h6] at h; cases h
      exact ⟨by omega, by omega⟩
    rw [if_neg h6] at h
    have i6 := isM_in (by simpa using h6 : isM l (i + 1) [93] = true)
    rcases andN_some h with ⟨n, j, ho, hr⟩ | ⟨j, ho, rfl⟩
    · cases hr
      obtain ⟨_, e1, e2, e3⟩ := ih _ _ _ ho
      exact ⟨rfl, by omega, by omega, fun _ => by omega⟩
    · obtain ⟨e1, e2⟩ := ih _ _ _ ho
      exact ⟨by omega, by omega⟩
  | lev t =>
    simp only [stepR] at h
    by_cases h1 : 5 < t
    · rw [if_pos h1] at h
      have e := ih _ _ _ h
      cases r <;> exact e
    rw [if_neg h1] at h
    rcases andN_some h with ⟨n, j, ho, hr⟩ | ⟨j, ho, rfl⟩
    · obtain ⟨_, e1, e2, e3⟩ := ih _ _ _ ho
      have e3 := e3 rfl
      have e := ih _ _ _ hr
      cases r with
      | node n k => exact ⟨rfl, by have := e.2.1; omega, fun _ => e.2.2.1 (by omega), fun _ => by have := e.2.1; omega⟩
      | list n k => exact absurd e.1 (by simp [Mode.lists])
      | no k => exact ⟨by have := e.1; omega, fun _ => e.2 (by omega)⟩
    · obtain ⟨e1, e2⟩ := ih _ _ _ ho
      exact ⟨by omega, by omega⟩
  | loop t left =>
    simp only [stepR] at h
    by_cases h1 : signP l i t = 0
    · rw [if_pos h1] at h; cases h
      exact ⟨rfl, Int.le_refl _, fun h => h, fun h => by cases h⟩
    rw [if_neg h1] at h
    have i1 := (signP_in h1).1
    rcases andN_some h with ⟨n, j, ho, hr⟩ | ⟨j, ho, rfl⟩
    · obtain ⟨_, e1, e2, e3⟩ := ih _ _ _ ho
      by_cases h3 : t = 3
      · rw [if_pos h3] at hr; cases hr
        exact ⟨rfl, by omega, by omega, fun h => by cases h⟩
      · rw [if_neg h3] at hr
        have e := ih _ _ _ hr
        cases r with
        | node n k => exact ⟨rfl, by have := e.2.1; omega, fun _ => e.2.2.1 (by omega), fun h => by cases h⟩
        | list n k => exact absurd e.1 (by simp [Mode.lists])
        | no k => exact ⟨by have := e.1; omega, fun _ => e.2 (by omega)⟩
    · obtain ⟨e1, e2⟩ := ih _ _ _ ho
      exact ⟨by omega, by omega⟩
  | fac =>
    simp only [stepR] at h
    by_cases h1 : isM l i [45] = false ∧ isM l i [33] = false
    · rw [if_pos h1] at h
      have e := ih _ _ _ h
      cases r <;> exact e
    rw [if_neg h1] at h
    have i1 : 0 ≤ i ∧ i < (l.length : Int) := by
      by_cases h2 : isM l i [45] = true
      · exact isM_in h2
      · exact isM_in (by
          by_cases h3 : isM l i [33] = true
          · exact h3
          · exact absurd ⟨by simpa using h2, by simpa using h3⟩ h1)
    rcases andN_some h with ⟨n, j, ho, hr⟩ | ⟨j, ho, rfl⟩
    · cases hr
      obtain ⟨_, e1, e2, e3⟩ := ih _ _ _ ho
      exact ⟨rfl, by omega, by omega, fun _ => by omega⟩
    · obtain ⟨e1, e2⟩ := ih _ _ _ ho
      exact ⟨by omega, by omega⟩
  | part =>
    simp only [stepR] at h
    rcases andN_some h with ⟨n, j, ho, hr⟩ | ⟨j, ho, rfl⟩
    · obtain ⟨_, e1, e2, e3⟩ := ih _ _ _ ho
      have e3 := e3 rfl
      have e := ih _ _ _ hr
      cases r with
      | node n k => exact ⟨rfl, by have := e.2.1; omega, fun _ => e.2.2.1 (by omega), fun _ => by have := e.2.1; omega⟩
      | list n k => exact absurd e.1 (by simp [Mode.lists])
      | no k => exact ⟨by have := e.1; omega, fun _ => e.2 (by omega)⟩
    · obtain ⟨e1, e2⟩ := ih _ _ _ ho
      exact ⟨by omega, by omega⟩
  | steps n =>
    simp only [stepR] at h
    by_cases h1 : isM l i [46] = true
    · rw [if_pos h1] at h
      have i1 := isM_in h1
      by_cases h2 : (tokAt l (i + 1)).kind = 1
      · rw [if_pos h2] at h
        have i2 := tok_in (l := l) (i := i + 1) (by rw [h2]; decide)
        have e := ih _ _ _ h
        cases r with
        | node n k => exact ⟨rfl, by have := e.2.1; omega, fun _ => e.2.2.1 (by omega), fun h => by cases h⟩
        | list n k => exact absurd e.1 (by simp [Mode.lists])
        | no k => exact ⟨by have := e.1; omega, fun _ => e.2 (by omega)⟩
      · rw [if_neg h2] at h; cases h
        exact ⟨by omega, by omega⟩
    rw [if_neg h1] at h
    by_cases h2 : isM l i [91] = false
    · rw [if_pos h2] at h; cases h
      exact ⟨rfl, Int.le_refl _, fun h => h, fun h => by cases h⟩
    rw [if_neg h2] at h
    have i2 := isM_in (by simpa using h2 : isM l i [91] = true)
    rcases andN_some h with ⟨x, k, ho, hr⟩ | ⟨j, ho, rfl⟩
    · obtain ⟨_, e1, e2, e3⟩ := ih _ _ _ ho
      by_cases h3 : isM l k [93] = true
      · rw [if_pos h3] at hr
        have i3 := isM_in h3
        have e := ih _ _ _ hr
        cases r with
        | node n k => exact ⟨rfl, by have := e.2.1; omega, fun _ => e.2.2.1 (by omega), fun h => by cases h⟩
        | list n k => exact absurd e.1 (by simp [Mode.lists])
        | no k => exact ⟨by have := e.1; omega, fun _ => e.2 (by omega)⟩
      · rw [if_neg h3] at hr; cases hr
        exact ⟨by omega, by omega⟩
    · obtain ⟨e1, e2⟩ := ih _ _ _ ho
      exact ⟨by omega, by omega⟩
  | first =>
    simp only [stepR] at h
    by_cases h1 : (tokAt l i).kind = 2
    · rw [if_pos h1] at h; cases h
      have := tok_in (l := l) (i := i) (by rw [h1]; decide)
      exact ⟨rfl, by omega, by omega, fun _ => by omega⟩
    rw [if_neg h1] at h
    by_cases h2 : isW l i sTrue = true
    · rw [if_pos h2] at h; cases h
      have := isW_in h2
      exact ⟨rfl, by omega, by omega, fun _ => by omega⟩
    rw [if_neg h2] at h
    by_cases h3 : isW l i sFalse = true
    · rw [if_pos h3] at h; cases h
      have := isW_in h3
      exact ⟨rfl, by omega, by omega, fun _ => by omega⟩
    rw [if_neg h3] at h
    by_cases h4 : (tokAt l i).kind = 1
    · rw [if_pos h4] at h
      have i4 := tok_in (l := l) (i := i) (by rw [h4]; decide)
      by_cases h5 : isM l (i + 1) [40] = true
      · rw [if_pos h5] at h
        have e := ih _ _ _ h
        cases r <;> exact e
      · rw [if_neg h5] at h; cases h
        exact ⟨rfl, by omega, by omega, fun _ => by omega⟩
    rw [if_neg h4] at h
    by_cases h5 : isW l i sFork = true
    · rw [if_pos h5] at h
      have i5 := isW_in h5
      have e := ih _ _ _ h
      cases r with
      | node n k => exact ⟨rfl, by have := e.2.1; omega, fun _ => e.2.2.1 (by omega), fun _ => by have := e.2.1; omega⟩
      | list n k => exact absurd e.1 (by simp [Mode.lists])
      | no k => exact ⟨by have := e.1; omega, fun _ => e.2 (by omega)⟩
    rw [if_neg h5] at h
    by_cases h6 : isW l i sNew = true
    · rw [if_pos h6] at h
      have i6 := isW_in h6
      rcases andN_some h with ⟨n, j, ho, hr⟩ | ⟨j, ho, rfl⟩
      · obtain ⟨_, e1, e2, e3⟩ := ih _ _ _ ho
        rcases andL_some hr with ⟨ns, k, ho2, hr2⟩ | ⟨k, ho2, rfl⟩
        · cases hr2
          obtain ⟨_, g1, g2, g3⟩ := ih _ _ _ ho2
          exact ⟨rfl, by omega, by omega, fun _ => by omega⟩
        · obtain ⟨g1, g2⟩ := ih _ _ _ ho2
          exact ⟨by omega, by omega⟩
      · obtain ⟨e1, e2⟩ := ih _ _ _ ho
        exact ⟨by omega, by omega⟩
    rw [if_neg h6] at h
    by_cases h7 : isM l i [40] = false
    · rw [if_pos h7] at h; cases h
      exact ⟨Int.le_refl _, fun h => h⟩
    rw [if_neg h7] at h
    have i7 := isM_in (by simpa using h7 : isM l i [40] = true)
    rcases andN_some h with ⟨n, j, ho, hr⟩ | ⟨j, ho, rfl⟩
    · obtain ⟨_, e1, e2, e3⟩ := ih _ _ _ ho
      by_cases h8 : isM l j [41] = true
      · rw [if_pos h8] at hr; cases hr
        have i8 := isM_in h8
        exact ⟨rfl, by omega, by omega, fun _ => by omega⟩
      · rw [if_neg h8] at hr; cases hr
        exact ⟨by omega, by omega⟩
    · obtain ⟨e1, e2⟩ := ih _ _ _ ho
      exact ⟨by omega, by omega⟩
  | call k a =>
    simp only [stepR] at h
    by_cases h1 : (tokAt l i).kind = 1
    · rw [if_pos h1] at h
      have i1 := tok_in (l := l) (i := i) (by rw [h1]; decide)
      rcases andL_some h with ⟨ns, j, ho, hr⟩ | ⟨j, ho, rfl⟩
      · cases hr
        obtain ⟨_, e1, e2, e3⟩ := ih _ _ _ ho
        exact ⟨rfl, by omega, by omega, fun _ => by omega⟩
      · obtain ⟨e1, e2⟩ := ih _ _ _ ho
        exact ⟨by omega, by omega⟩
    · rw [if_neg h1] at h; cases h
      exact ⟨Int.le_refl _, fun h => h⟩
  | args =>
    simp only [stepR] at h
    by_cases h1 : isM l i [40] = false
    · rw [if_pos h1] at h; cases h
      exact ⟨Int.le_refl _, fun h => h⟩
    rw [if_neg h1] at h
    have i1 := isM_in (by simpa using h1 : isM l i [40] = true)
    by_cases h2 : isM l (i + 1) [41] = true
    · rw [if_pos h2] at h; cases h
      have i2 := isM_in h2
      exact ⟨rfl, by omega, by omega, fun _ => by omega⟩
    rw [if_neg h2] at h
    have e := ih _ _ _ h
    cases r with
    | node n k => exact absurd e.1 (by simp [Mode.lists])
    | list n k => exact ⟨rfl, by have := e.2.1; omega, fun _ => e.2.2.1 (by omega), fun _ => by have := e.2.1; omega⟩
    | no k => exact ⟨by have := e.1; omega, fun _ => e.2 (by omega)⟩
  | more ns =>
    simp only [stepR] at h
    rcases andN_some h with ⟨n, j, ho, hr⟩ | ⟨j, ho, rfl⟩
    · obtain ⟨_, e1, e2, e3⟩ := ih _ _ _ ho
      have e3 := e3 rfl
      by_cases h1 : isM l j [41] = true
      · rw [if_pos h1] at hr; cases hr
        have i1 := isM_in h1
        exact ⟨rfl, by omega, by omega, fun _ => by omega⟩
      rw [if_neg h1] at hr
      by_cases h2 : isM l j [44] = false
      · rw [if_pos h2] at hr; cases hr
        exact ⟨by omega, by omega⟩
      rw [if_neg h2] at hr
      have i2 := isM_in (by simpa using h2 : isM l j [44] = true)
      have e := ih _ _ _ hr
      cases r with
      | node n k => exact absurd e.1 (by simp [Mode.lists])
      | list n k => exact ⟨rfl, by have := e.2.1; omega, fun _ => e.2.2.1 (by omega), fun _ => by have := e.2.1; omega⟩
      | no k => exact ⟨by have := e.1; omega, fun _ => e.2 (by omega)⟩
    · obtain ⟨e1, e2⟩ := ih _ _ _ ho
      exact ⟨by omega, by omega⟩
theorem run_ends (l : List Tk) : ∀ (f : Nat) (m : Mode) (i : Int) (r : Res), run l f m i = some r → Ends l.length m i r
  | 0, m, i, r, h => by rw [run] at h; cases h
  | f + 1, m, i, r, h => by
    rw [run_succ] at h
    exact ends_step l (run l f) (run_ends l f) m i r h
end Go.Proofs.YtgohkmdepjmpaaaDoor.pm

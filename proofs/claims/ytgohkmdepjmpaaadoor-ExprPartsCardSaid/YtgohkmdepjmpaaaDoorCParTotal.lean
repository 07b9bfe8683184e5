/- Reading always ends: so much fuel is enough. -/
import Derived.Test.YtgohkmdepjmpaaaDoorCParProg
namespace Go.Proofs.YtgohkmdepjmpaaaDoor.pm
open Go.RowKit wd lx nt ne

def Mode.rank : Mode → Nat
  | .typ => 1
  | .steps _ => 1
  | .loop _ _ => 1
  | .args => 1
  | .call _ _ => 2
  | .first => 3
  | .part => 4
  | .fac => 5
  | .lev t => 6 + (7 - t)
  | .more _ => 14
def dist (l : List Tk) (i : Int) : Nat := ((l.length : Int) - i).toNat
def fuelP (l : List Tk) (m : Mode) (i : Int) : Nat := 20 * dist l i + m.rank
def Tot (l : List Tk) (m : Mode) (i : Int) : Prop := ∃ r, run l (fuelP l m i) m i = some r
theorem rank_le (m : Mode) : m.rank ≤ 14 := by cases m <;> simp [Mode.rank]; omega
theorem rank_pos (m : Mode) : 1 ≤ m.rank := by cases m <;> simp [Mode.rank]; omega
theorem andN_tot {o : Option Res} {f : NT → Int → Option Res} {len : Int} {m : Mode} {i : Int} (hm : m.lists = false) (he : ∀ r, o = some r → Ends len m i r) (h : ∃ r, o = some r) (h2 : ∀ n j, o = some (.node n j) → ∃ r, f n j = some r) : ∃ r, andN o f = some r := by
  obtain ⟨r, hr⟩ := h
  cases r with
  | node n j =>
    obtain ⟨r', h'⟩ := h2 n j hr
    exact ⟨r', by rw [hr]; exact h'⟩
  | list ns j => exact absurd (he _ hr).1 (by rw [hm]; decide)
  | no j => exact ⟨.no j, by rw [hr]; rfl⟩
theorem andL_tot {o : Option Res} {f : List NT → Int → Option Res} {len : Int} {m : Mode} {i : Int} (hm : m.lists = true) (he : ∀ r, o = some r → Ends len m i r) (h : ∃ r, o = some r) (h2 : ∀ n j, o = some (.list n j) → ∃ r, f n j = some r) : ∃ r, andL o f = some r := by
  obtain ⟨r, hr⟩ := h
  cases r with
  | node n j => exact absurd (he _ hr).1 (by rw [hm]; decide)
  | list ns j =>
    obtain ⟨r', h'⟩ := h2 ns j hr
    exact ⟨r', by rw [hr]; exact h'⟩
  | no j => exact ⟨.no j, by rw [hr]; rfl⟩
/-- one step, where all parts that it takes are there -/
theorem tot_step (l : List Tk) (m : Mode) (i : Int) (f : Nat) (hlow : ∀ m', m'.rank < m.rank → ∃ r, run l f m' i = some r) (hfar : ∀ m' i', 0 ≤ i → i < (l.length : Int) → i < i' → ∃ r, run l f m' i' = some r) : ∃ r, run l (f + 1) m i = some r := by
  have he := fun m i => run_ends l f m i
  rw [run_succ]
  cases m with
  | typ =>
    simp only [stepR]
    by_cases h1 : (tokAt l i).kind = 1
    · rw [if_pos h1]; exact ⟨_, rfl⟩
    rw [if_neg h1]
    by_cases h2 : isW l i sInt = true
    · rw [if_pos h2]; exact ⟨_, rfl⟩
    rw [if_neg h2]
    by_cases h3 : isW l i sBool = true
    · rw [if_pos h3]; exact ⟨_, rfl⟩
    rw [if_neg h3]
    by_cases h4 : isW l i sRev = true
    · rw [if_pos h4]; exact ⟨_, rfl⟩
    rw [if_neg h4]
    by_cases h5 : isM l i [91] = false
    · rw [if_pos h5]; exact ⟨_, rfl⟩
    rw [if_neg h5]
    have i5 := isM_in (by simpa using h5 : isM l i [91] = true)
    by_cases h6 : isM l (i + 1) [93] = false
    · rw [if_pos h6]; exact ⟨_, rfl⟩
    rw [if_neg h6]
    exact andN_tot (m := .typ) rfl (he _ _) (hfar _ _ i5.1 i5.2 (by omega)) fun n j _ => ⟨_, rfl⟩
  | lev t =>
    simp only [stepR]
    by_cases h1 : 5 < t
    · rw [if_pos h1]
      exact hlow .fac (by simp only [Mode.rank]; omega)
    rw [if_neg h1]
    refine andN_tot (m := .lev (t + 1)) rfl (he _ _) (hlow (.lev (t + 1)) (by simp only [Mode.rank]; omega)) fun n j hn => ?_
    obtain ⟨_, e1, e2, e3⟩ := he _ _ _ hn
    have e3 := e3 rfl
    exact hfar _ _ e3.1 e3.2.1 e3.2.2
  | loop t left =>
    simp only [stepR]
    by_cases h1 : signP l i t = 0
    · rw [if_pos h1]; exact ⟨_, rfl⟩
    rw [if_neg h1]
    have i1 := (signP_in h1).1
    refine andN_tot (m := .lev (t + 1)) rfl (he _ _) (hfar _ _ i1.1 i1.2 (by omega)) fun n k hn => ?_
    obtain ⟨_, e1, e2, e3⟩ := he _ _ _ hn
    by_cases h3 : t = 3
    · rw [if_pos h3]; exact ⟨_, rfl⟩
    rw [if_neg h3]
    exact hfar _ _ i1.1 i1.2 (by omega)
  | fac =>
    simp only [stepR]
    by_cases h1 : isM l i [45] = false ∧ isM l i [33] = false
    · rw [if_pos h1]; exact hlow .part (by simp [Mode.rank])
    rw [if_neg h1]
    have i1 : 0 ≤ i ∧ i < (l.length : Int) := by
      by_cases h2 : isM l i [45] = true
      · exact isM_in h2
      · exact isM_in (by
          by_cases h3 : isM l i [33] = true
          · exact h3
          · exact absurd ⟨by simpa using h2, by simpa using h3⟩ h1)
    exact andN_tot (m := .fac) rfl (he _ _) (hfar _ _ i1.1 i1.2 (by omega)) fun n j _ => ⟨_, rfl⟩
  | part =>
    simp only [stepR]
    refine andN_tot (m := .first) rfl (he _ _) (hlow .first (by simp [Mode.rank])) fun n j hn => ?_
    obtain ⟨_, e1, e2, e3⟩ := he _ _ _ hn
    have e3 := e3 rfl
    exact hfar _ _ e3.1 e3.2.1 e3.2.2
  | steps n =>
    simp only [stepR]
    by_cases h1 : isM l i [46] = true
    · rw [if_pos h1]
      have i1 := isM_in h1
      by_cases h2 : (tokAt l (i + 1)).kind = 1
      · rw [if_pos h2]; exact hfar _ _ i1.1 i1.2 (by omega)
      · rw [if_neg h2]; exact ⟨_, rfl⟩
    rw [if_neg h1]
    by_cases h2 : isM l i [91] = false
    · rw [if_pos h2]; exact ⟨_, rfl⟩
    rw [if_neg h2]
    have i2 := isM_in (by simpa using h2 : isM l i [91] = true)
    refine andN_tot (m := .lev 1) rfl (he _ _) (hfar _ _ i2.1 i2.2 (by omega)) fun x k hn => ?_
    obtain ⟨_, e1, e2, e3⟩ := he _ _ _ hn
    by_cases h3 : isM l k [93] = true
    · rw [if_pos h3]; exact hfar _ _ i2.1 i2.2 (by omega)
    · rw [if_neg h3]; exact ⟨_, rfl⟩
  | first =>
    simp only [stepR]
    by_cases h1 : (tokAt l i).kind = 2
    · rw [if_pos h1]; exact ⟨_, rfl⟩
    rw [if_neg h1]
    by_cases h2 : isW l i sTrue = true
    · rw [if_pos h2]; exact ⟨_, rfl⟩
    rw [if_neg h2]
    by_cases h3 : isW l i sFalse = true
    · rw [if_pos h3]; exact ⟨_, rfl⟩
    rw [if_neg h3]
    by_cases h4 : (tokAt l i).kind = 1
    · rw [if_pos h4]
      by_cases h5 : isM l (i + 1) [40] = true
      · rw [if_pos h5]; exact hlow _ (by simp [Mode.rank])
      · rw [if_neg h5]; exact ⟨_, rfl⟩
    rw [if_neg h4]
    by_cases h5 : isW l i sFork = true
    · rw [if_pos h5]
      have i5 := isW_in h5
      exact hfar _ _ i5.1 i5.2 (by omega)
    rw [if_neg h5]
    by_cases h6 : isW l i sNew = true
    · rw [if_pos h6]
      have i6 := isW_in h6
      refine andN_tot (m := .typ) rfl (he _ _) (hfar _ _ i6.1 i6.2 (by omega)) fun n j hn => ?_
      obtain ⟨_, e1, e2, e3⟩ := he _ _ _ hn
      exact andL_tot (m := .args) rfl (he _ _) (hfar _ _ i6.1 i6.2 (by omega)) fun ns k _ => ⟨_, rfl⟩
    rw [if_neg h6]
    by_cases h7 : isM l i [40] = false
    · rw [if_pos h7]; exact ⟨_, rfl⟩
    rw [if_neg h7]
    have i7 := isM_in (by simpa using h7 : isM l i [40] = true)
    refine andN_tot (m := .lev 1) rfl (he _ _) (hfar _ _ i7.1 i7.2 (by omega)) fun n j hn => ?_
    by_cases h8 : isM l j [41] = true
    · rw [if_pos h8]; exact ⟨_, rfl⟩
    · rw [if_neg h8]; exact ⟨_, rfl⟩
  | call k a =>
    simp only [stepR]
    by_cases h1 : (tokAt l i).kind = 1
    · rw [if_pos h1]
      have i1 := tok_in (l := l) (i := i) (by rw [h1]; decide)
      exact andL_tot (m := .args) rfl (he _ _) (hfar _ _ i1.1 i1.2 (by omega)) fun ns j _ => ⟨_, rfl⟩
    · rw [if_neg h1]; exact ⟨_, rfl⟩
  | args =>
    simp only [stepR]
    by_cases h1 : isM l i [40] = false
    · rw [if_pos h1]; exact ⟨_, rfl⟩
    rw [if_neg h1]
    have i1 := isM_in (by simpa using h1 : isM l i [40] = true)
    by_cases h2 : isM l (i + 1) [41] = true
    · rw [if_pos h2]; exact ⟨_, rfl⟩
    rw [if_neg h2]
    exact hfar _ _ i1.1 i1.2 (by omega)
  | more ns =>
    simp only [stepR]
    refine andN_tot (m := .lev 1) rfl (he _ _) (hlow (.lev 1) (by simp [Mode.rank])) fun n j hn => ?_
    obtain ⟨_, e1, e2, e3⟩ := he _ _ _ hn
    have e3 := e3 rfl
    by_cases h1 : isM l j [41] = true
    · rw [if_pos h1]; exact ⟨_, rfl⟩
    rw [if_neg h1]
    by_cases h2 : isM l j [44] = false
    · rw [if_pos h2]; exact ⟨_, rfl⟩
    rw [if_neg h2]
    exact hfar _ _ e3.1 e3.2.1 (by omega)
theorem run_total (l : List Tk) : ∀ (d : Nat) (m : Mode) (i : Int), dist l i ≤ d → Tot l m i := by
  intro d
  induction d using Nat.strongRecOn with
  | _ d ihd =>
    have main : ∀ (k : Nat) (m : Mode) (i : Int), m.rank ≤ k → dist l i ≤ d → Tot l m i := by
      intro k
      induction k with
      | zero => intro m i hk; have := rank_pos m; omega
      | succ k ihk =>
        intro m i hk hd
        by_cases hlt : m.rank ≤ k
        · exact ihk m i hlt hd
        have hr := rank_pos m
        have e : fuelP l m i = (20 * dist l i + (m.rank - 1)) + 1 := by unfold fuelP; omega
        unfold Tot
        rw [e]
        refine tot_step l m i _ (fun m' hm' => ?_) (fun m' i' h0 h1 h2 => ?_)
        · obtain ⟨r, h⟩ := ihk m' i (by omega) hd
          exact ⟨r, run_le l (by unfold fuelP; omega) m' i r h⟩
        · have hdi : dist l i' < dist l i := by unfold dist; omega
          obtain ⟨r, h⟩ := ihd (dist l i') (by omega) m' i' (Nat.le_refl _)
          have := rank_le m'
          exact ⟨r, run_le l (by unfold fuelP; omega) m' i' r h⟩
    intro m i h
    exact main 14 m i (rank_le m) h
theorem run_all (l : List Tk) (m : Mode) (i : Int) : ∃ r, run l (fuelP l m i) m i = some r := run_total l _ m i (Nat.le_refl _)
end Go.Proofs.YtgohkmdepjmpaaaDoor.pm

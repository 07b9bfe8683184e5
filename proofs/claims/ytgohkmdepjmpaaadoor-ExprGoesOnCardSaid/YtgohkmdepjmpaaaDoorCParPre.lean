/- What is read depends on the tokens up to its end alone. -/
import Derived.Test.YtgohkmdepjmpaaaDoorCParNode
namespace Go.Proofs.YtgohkmdepjmpaaaDoor.pm
open Go.RowKit wd lx nt ne

def Res.pos : Res → Int
  | .node _ j => j
  | .list _ j => j
  | .no j => j
theorem ends_pos {len : Int} {m : Mode} {i : Int} {r : Res} (h : Ends len m i r) : i ≤ r.pos := by
  cases r with
  | node n j => exact h.2.1
  | list n j => exact h.2.1
  | no j => exact h.1
def Agree (l l' : List Tk) (N : Int) : Prop := ∀ i, i < N → tokAt l' i = tokAt l i
theorem isM_ag {l l' : List Tk} {N i : Int} (h : Agree l l' N) (hi : i < N) (m : List UInt8) : isM l' i m = isM l i m := by unfold isM; rw [h i hi]
theorem isW_ag {l l' : List Tk} {N i : Int} (h : Agree l l' N) (hi : i < N) (m : List UInt8) : isW l' i m = isW l i m := by unfold isW; rw [h i hi]
theorem sign_ag {l l' : List Tk} {N i lv : Int} (h : Agree l l' N) (hi : i < N) : signP l' i lv = signP l i lv := by unfold signP; rw [h i hi]
/-- the same part, in both -/
theorem andN_ag {o o' : Option Res} {f f' : NT → Int → Option Res} {r : Res} {N : Int} (hr : r.pos < N) (h : andN o f = some r) (ho : ∀ x, o = some x → x.pos < N → o' = some x) (hp : ∀ n j, o = some (.node n j) → f n j = some r → j < N) (hf : ∀ n j, o = some (.node n j) → j < N → f n j = some r → f' n j = some r) : andN o' f' = some r := by
  rcases andN_some h with ⟨n, j, h1, h2⟩ | ⟨j, h1, rfl⟩
  · have hj := hp n j h1 h2
    rw [ho _ h1 hj]
    exact hf n j h1 hj h2
  · rw [ho _ h1 hr]; rfl
theorem andL_ag {o o' : Option Res} {f f' : List NT → Int → Option Res} {r : Res} {N : Int} (hr : r.pos < N) (h : andL o f = some r) (ho : ∀ x, o = some x → x.pos < N → o' = some x) (hp : ∀ n j, o = some (.list n j) → f n j = some r → j < N) (hf : ∀ n j, o = some (.list n j) → j < N → f n j = some r → f' n j = some r) : andL o' f' = some r := by
  rcases andL_some h with ⟨n, j, h1, h2⟩ | ⟨j, h1, rfl⟩
  · have hj := hp n j h1 h2
    rw [ho _ h1 hj]
    exact hf n j h1 hj h2
  · rw [ho _ h1 hr]; rfl
theorem pre_step (l l' : List Tk) (N : Int) (ag : Agree l l' N) (R R' : Mode → Int → Option Res) (he : ∀ m i r, R m i = some r → Ends l.length m i r) (hc : ∀ k a i r, R (.call k a) i = some r → (tokAt l i).kind = 1 → i + 1 ≤ r.pos) (ih : ∀ m i r, R m i = some r → r.pos < N → R' m i = some r) (m : Mode) (i : Int) (r : Res) (h : stepR l R m i = some r) (hr : r.pos < N) : stepR l' R' m i = some r := by
  have hE := ends_pos (ends_step l R he m i r h)
  have hi : i < N := by omega
  have hT := ag i hi
  have eN := fun m i n j (h : R m i = some (.node n j)) => ends_pos (he _ _ _ h)
  have eL := fun m i n j (h : R m i = some (.list n j)) => ends_pos (he _ _ _ h)
  have eA := fun m i r (h : R m i = some r) => ends_pos (he _ _ _ h)
  cases m with
  | typ =>
    simp only [stepR] at h ⊢
    simp only [isM_ag ag hi, isW_ag ag hi, hT]
    by_cases h1 : (tokAt l i).kind = 1
    · rw [if_pos h1] at h ⊢; exact h
    rw [if_neg h1] at h ⊢
    by_cases h2 : isW l i sInt = true
    · rw [if_pos h2] at h ⊢; exact h
    rw [if_neg h2] at h ⊢
    by_cases h3 : isW l i sBool = true
    · rw [if_pos h3] at h ⊢; exact h
    rw [if_neg h3] at h ⊢
    by_cases h4 : isW l i sRev = true
    · rw [if_pos h4] at h ⊢; exact h
    rw [if_neg h4] at h ⊢
    by_cases h5 : isM l i [91] = false
    · rw [if_pos h5] at h ⊢; exact h
    rw [if_neg h5] at h ⊢
    by_cases h6 : isM l (i + 1) [93] = false
    · rw [if_pos h6] at h
      cases h
      have hi1 : i + 1 < N := hr
      rw [if_pos (by rw [isM_ag ag hi1]; exact h6)]
    rw [if_neg h6] at h
    have hi2 : i + 2 ≤ r.pos := by
      rcases andN_some h with ⟨n, j, h1, h2⟩ | ⟨j, h1, rfl⟩
      · have := eN _ _ _ _ h1
        cases h2; exact this
      · exact eA _ _ _ h1
    rw [if_neg (by rw [isM_ag ag (by omega : i + 1 < N)]; exact h6)]
    exact andN_ag hr h (ih _ _) (fun n j _ h2 => by cases h2; exact hr) (fun n j _ _ h2 => h2)
  | lev t =>
    simp only [stepR] at h ⊢
    by_cases h1 : 5 < t
    · rw [if_pos h1] at h ⊢; exact ih _ _ _ h hr
    rw [if_neg h1] at h ⊢
    exact andN_ag hr h (ih _ _) (fun n j _ h2 => by have := eA _ _ _ h2; omega) (fun n j _ _ h2 => ih _ _ _ h2 hr)
  | loop t left =>
    simp only [stepR] at h ⊢
    simp only [sign_ag ag hi, hT]
    by_cases h1 : signP l i t = 0
    · rw [if_pos h1] at h ⊢; exact h
    rw [if_neg h1] at h ⊢
    refine andN_ag hr h (ih _ _) (fun n j _ h2 => ?_) (fun n j _ _ h2 => ?_)
    · by_cases h3 : t = 3
      · rw [if_pos h3] at h2; cases h2; exact hr
      · rw [if_neg h3] at h2; have := eA _ _ _ h2; omega
    · by_cases h3 : t = 3
      · rw [if_pos h3] at h2 ⊢; exact h2
      · rw [if_neg h3] at h2 ⊢; exact ih _ _ _ h2 hr
  | fac =>
    simp only [stepR] at h ⊢
    simp only [isM_ag ag hi, hT]
    by_cases h1 : isM l i [45] = false ∧ isM l i [33] = false
    · rw [if_pos h1] at h ⊢; exact ih _ _ _ h hr
    rw [if_neg h1] at h ⊢
    exact andN_ag hr h (ih _ _) (fun n j _ h2 => by cases h2; exact hr) (fun n j _ _ h2 => h2)
  | part =>
    simp only [stepR] at h ⊢
    exact andN_ag hr h (ih _ _) (fun n j _ h2 => by have := eA _ _ _ h2; omega) (fun n j _ _ h2 => ih _ _ _ h2 hr)
  | steps n =>
    simp only [stepR] at h ⊢
    simp only [isM_ag ag hi, hT]
    by_cases h1 : isM l i [46] = true
    · rw [if_pos h1] at h ⊢
      by_cases h2 : (tokAt l (i + 1)).kind = 1
      · rw [if_pos h2] at h
        have hi1 : i + 1 < N := by have := eA _ _ _ h; omega
        rw [ag _ hi1, if_pos h2]
        exact ih _ _ _ h hr
      · rw [if_neg h2] at h
        cases h
        rw [ag _ (show i + 1 < N from hr), if_neg h2]
    rw [if_neg h1] at h ⊢
    by_cases h2 : isM l i [91] = false
    · rw [if_pos h2] at h ⊢; exact h
    rw [if_neg h2] at h ⊢
    refine andN_ag hr h (ih _ _) (fun x k _ h2 => ?_) (fun x k _ hk h2 => ?_)
    · by_cases h3 : isM l k [93] = true
      · rw [if_pos h3] at h2; have := eA _ _ _ h2; omega
      · rw [if_neg h3] at h2; cases h2; exact hr
    · rw [isM_ag ag hk]
      by_cases h3 : isM l k [93] = true
      · rw [if_pos h3] at h2 ⊢; exact ih _ _ _ h2 hr
      · rw [if_neg h3] at h2 ⊢; exact h2
  | first =>
    simp only [stepR] at h ⊢
    simp only [isM_ag ag hi, isW_ag ag hi, hT]
    by_cases h1 : (tokAt l i).kind = 2
    · rw [if_pos h1] at h ⊢; exact h
    rw [if_neg h1] at h ⊢
    by_cases h2 : isW l i sTrue = true
    · rw [if_pos h2] at h ⊢; exact h
    rw [if_neg h2] at h ⊢
    by_cases h3 : isW l i sFalse = true
    · rw [if_pos h3] at h ⊢; exact h
    rw [if_neg h3] at h ⊢
    by_cases h4 : (tokAt l i).kind = 1
    · rw [if_pos h4] at h ⊢
      by_cases h5 : isM l (i + 1) [40] = true
      · rw [if_pos h5] at h
        have hi1 : i + 1 < N := by have := hc _ _ _ _ h h4; omega
        rw [isM_ag ag hi1, if_pos h5]
        exact ih _ _ _ h hr
      · rw [if_neg h5] at h
        cases h
        rw [isM_ag ag (show i + 1 < N from hr), if_neg h5]
    rw [if_neg h4] at h ⊢
    by_cases h5 : isW l i sFork = true
    · rw [if_pos h5] at h ⊢; exact ih _ _ _ h hr
    rw [if_neg h5] at h ⊢
    by_cases h6 : isW l i sNew = true
    · rw [if_pos h6] at h ⊢
      refine andN_ag hr h (ih _ _) (fun n j _ h2 => ?_) (fun n j _ hj h2 => ?_)
      · rcases andL_some h2 with ⟨ns, k, h3, h4⟩ | ⟨k, h3, rfl⟩
        · cases h4; have := eL _ _ _ _ h3; have h9 : k < N := hr; show j < N; exact Int.lt_of_le_of_lt this h9
        · have := eA _ _ _ h3; have h9 : k < N := hr; exact Int.lt_of_le_of_lt this h9
      · exact andL_ag hr h2 (ih _ _) (fun ns k _ h3 => by cases h3; exact hr) (fun ns k _ _ h3 => h3)
    rw [if_neg h6] at h ⊢
    by_cases h7 : isM l i [40] = false
    · rw [if_pos h7] at h ⊢; exact h
    rw [if_neg h7] at h ⊢
    refine andN_ag hr h (ih _ _) (fun n j _ h2 => ?_) (fun n j _ hj h2 => ?_)
    · by_cases h8 : isM l j [41] = true
      · rw [if_pos h8] at h2; cases h2; have h9 : j + 1 < N := hr; omega
      · rw [if_neg h8] at h2; cases h2; exact hr
    · rw [isM_ag ag hj]
      by_cases h8 : isM l j [41] = true
      · rw [if_pos h8] at h2 ⊢; exact h2
      · rw [if_neg h8] at h2 ⊢; exact h2
  | call k a =>
    simp only [stepR] at h ⊢
    simp only [hT]
    by_cases h1 : (tokAt l i).kind = 1
    · rw [if_pos h1] at h ⊢
      exact andL_ag hr h (ih _ _) (fun ns j _ h3 => by cases h3; exact hr) (fun ns j _ _ h3 => h3)
    · rw [if_neg h1] at h ⊢; exact h
  | args =>
    simp only [stepR] at h ⊢
    simp only [isM_ag ag hi]
    by_cases h1 : isM l i [40] = false
    · rw [if_pos h1] at h ⊢; exact h
    rw [if_neg h1] at h ⊢
    by_cases h2 : isM l (i + 1) [41] = true
    · rw [if_pos h2] at h
      cases h
      have h9 : i + 2 < N := hr
      rw [isM_ag ag (by omega : i + 1 < N), if_pos h2]
    rw [if_neg h2] at h
    have hi1 : i + 1 < N := by have := eA _ _ _ h; omega
    rw [isM_ag ag hi1, if_neg h2]
    exact ih _ _ _ h hr
  | more ns =>
    simp only [stepR] at h ⊢
    refine andN_ag hr h (ih _ _) (fun n j _ h2 => ?_) (fun n j _ hj h2 => ?_)
    · by_cases h3 : isM l j [41] = true
      · rw [if_pos h3] at h2; cases h2; have h9 : j + 1 < N := hr; omega
      · rw [if_neg h3] at h2
        by_cases h4 : isM l j [44] = false
        · rw [if_pos h4] at h2; cases h2; exact hr
        · rw [if_neg h4] at h2; have := eA _ _ _ h2; omega
    · rw [isM_ag ag hj, isM_ag ag hj]
      by_cases h3 : isM l j [41] = true
      · rw [if_pos h3] at h2 ⊢; exact h2
      · rw [if_neg h3] at h2 ⊢
        by_cases h4 : isM l j [44] = false
        · rw [if_pos h4] at h2 ⊢; exact h2
        · rw [if_neg h4] at h2 ⊢; exact ih _ _ _ h2 hr
theorem call_pos (l : List Tk) : ∀ (f : Nat) (k a : Int) (i : Int) (r : Res), run l f (.call k a) i = some r → (tokAt l i).kind = 1 → i + 1 ≤ r.pos
  | 0, k, a, i, r, h, _ => by rw [run] at h; cases h
  | f + 1, k, a, i, r, h, h1 => by
    rw [run_succ] at h
    simp only [stepR] at h
    rw [if_pos h1] at h
    rcases andL_some h with ⟨ns, j, ho, hr⟩ | ⟨j, ho, rfl⟩
    · have := ends_pos (run_ends l f _ _ _ ho)
      cases hr
      exact this
    · exact ends_pos (run_ends l f _ _ _ ho)
theorem run_pre (l l' : List Tk) (N : Int) (ag : Agree l l' N) : ∀ (f : Nat) (m : Mode) (i : Int) (r : Res), run l f m i = some r → r.pos < N → run l' f m i = some r
  | 0, m, i, r, h, _ => by rw [run] at h; cases h
  | f + 1, m, i, r, h, hr => by
    rw [run_succ] at h ⊢
    exact pre_step l l' N ag (run l f) (run l' f) (run_ends l f) (call_pos l f) (run_pre l l' N ag f) m i r h hr
end Go.Proofs.YtgohkmdepjmpaaaDoor.pm

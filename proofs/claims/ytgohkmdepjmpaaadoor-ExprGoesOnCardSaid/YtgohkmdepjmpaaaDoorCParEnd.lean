/- Reading ends behind a token that is there: never behind the end's own. -/
import Derived.Test.YtgohkmdepjmpaaaDoorCParProg
import Derived.Test.YtgohkmdepjmpaaaDoorCParLex
namespace Go.Proofs.YtgohkmdepjmpaaaDoor.pm
open Go.RowKit wd lx nt ne

def Real (l : List Tk) (m : Mode) (i : Int) : Res → Prop
  | .node _ j => (m.strict = false ∧ j = i) ∨ (tokAt l (j - 1)).kind ≠ 0
  | .list _ j => (m.strict = false ∧ j = i) ∨ (tokAt l (j - 1)).kind ≠ 0
  | .no _ => True
theorem isM_kind {l : List Tk} {i : Int} {m : List UInt8} (h : isM l i m = true) : (tokAt l i).kind ≠ 0 := by
  unfold isM at h
  simp only [Bool.and_eq_true, decide_eq_true_eq] at h
  rw [h.1]; decide
theorem isW_kind {l : List Tk} {i : Int} {m : List UInt8} (h : isW l i m = true) : (tokAt l i).kind ≠ 0 := by
  unfold isW at h
  simp only [Bool.and_eq_true, decide_eq_true_eq] at h
  rw [h.1]; decide
theorem back1 {l : List Tk} {k : Int} (h : (tokAt l k).kind ≠ 0) : (tokAt l (k + 1 - 1)).kind ≠ 0 := by rw [Int.add_sub_cancel]; exact h
theorem back2 {l : List Tk} {k : Int} (h : (tokAt l (k + 1)).kind ≠ 0) : (tokAt l (k + 2 - 1)).kind ≠ 0 := by rw [show k + 2 - 1 = k + 1 by omega]; exact h
/-- what goes on from a place behind a token that is there -/
theorem real_on {l : List Tk} {m m' : Mode} {i j : Int} {r : Res} (h : Real l m' j r) (hj : (tokAt l (j - 1)).kind ≠ 0) : Real l m i r := by
  cases r with
  | node n k =>
    rcases h with ⟨_, e⟩ | h
    · exact Or.inr (by rw [e]; exact hj)
    · exact Or.inr h
  | list ns k =>
    rcases h with ⟨_, e⟩ | h
    · exact Or.inr (by rw [e]; exact hj)
    · exact Or.inr h
  | no k => trivial
theorem real_strict {l : List Tk} {m m' : Mode} {i j : Int} {r : Res} (h : Real l m' j r) (hm : m'.strict = true) : Real l m i r := by
  cases r with
  | node n k =>
    rcases h with ⟨e, _⟩ | h
    · rw [hm] at e; cases e
    · exact Or.inr h
  | list ns k =>
    rcases h with ⟨e, _⟩ | h
    · rw [hm] at e; cases e
    · exact Or.inr h
  | no k => trivial
theorem real_kind {l : List Tk} {m : Mode} {i j : Int} {n : NT} (h : Real l m i (.node n j)) (hm : m.strict = true) : (tokAt l (j - 1)).kind ≠ 0 := by
  rcases h with ⟨e, _⟩ | h
  · rw [hm] at e; cases e
  · exact h
theorem real_kindL {l : List Tk} {m : Mode} {i j : Int} {ns : List NT} (h : Real l m i (.list ns j)) (hm : m.strict = true) : (tokAt l (j - 1)).kind ≠ 0 := by
  rcases h with ⟨e, _⟩ | h
  · rw [hm] at e; cases e
  · exact h
theorem real_step (l : List Tk) (R : Mode → Int → Option Res) (ih : ∀ m i r, R m i = some r → Real l m i r) (m : Mode) (i : Int) (r : Res) (h : stepR l R m i = some r) : Real l m i r := by
  cases m with
  | typ =>
    simp only [stepR] at h
    by_cases h1 : (tokAt l i).kind = 1
    · rw [if_pos h1] at h; cases h
      exact Or.inr (back1 (by rw [h1]; decide))
    rw [if_neg h1] at h
    by_cases h2 : isW l i sInt = true
    · rw [if_pos h2] at h; cases h; exact Or.inr (back1 (isW_kind h2))
    rw [if_neg h2] at h
    by_cases h3 : isW l i sBool = true
    · rw [if_pos h3] at h; cases h; exact Or.inr (back1 (isW_kind h3))
    rw [if_neg h3] at h
    by_cases h4 : isW l i sRev = true
    · rw [if_pos h4] at h; cases h; exact Or.inr (back1 (isW_kind h4))
    rw [if_neg h4] at h
    by_cases h5 : isM l i [91] = false
    · rw [if_pos h5] at h; cases h; trivial
    rw [if_neg h5] at h
    by_cases h6 : isM l (i + 1) [93] = false
    · rw [if_pos h6] at h; cases h; trivial
    rw [if_neg h6] at h
    rcases andN_some h with ⟨n, j, ho, hr⟩ | ⟨j, ho, rfl⟩
    · cases hr
      exact Or.inr (real_kind (ih _ _ _ ho) rfl)
    · trivial
  | lev t =>
    simp only [stepR] at h
    by_cases h1 : 5 < t
    · rw [if_pos h1] at h
      exact real_strict (ih _ _ _ h) rfl
    rw [if_neg h1] at h
    rcases andN_some h with ⟨n, j, ho, hr⟩ | ⟨j, ho, rfl⟩
    · exact real_on (ih _ _ _ hr) (real_kind (ih _ _ _ ho) rfl)
    · trivial
  | loop t left =>
    simp only [stepR] at h
    by_cases h1 : signP l i t = 0
    · rw [if_pos h1] at h; cases h; exact Or.inl ⟨rfl, rfl⟩
    rw [if_neg h1] at h
    rcases andN_some h with ⟨n, j, ho, hr⟩ | ⟨j, ho, rfl⟩
    · by_cases h2 : t = 3
      · rw [if_pos h2] at hr; cases hr
        exact Or.inr (real_kind (ih _ _ _ ho) rfl)
      · rw [if_neg h2] at hr
        exact real_on (ih _ _ _ hr) (real_kind (ih _ _ _ ho) rfl)
    · trivial
  | fac =>
    simp only [stepR] at h
    by_cases h1 : isM l i [45] = false ∧ isM l i [33] = false
    · rw [if_pos h1] at h
      exact real_strict (ih _ _ _ h) rfl
    rw [if_neg h1] at h
    rcases andN_some h with ⟨n, j, ho, hr⟩ | ⟨j, ho, rfl⟩
    · cases hr
      exact Or.inr (real_kind (ih _ _ _ ho) rfl)
    · trivial
  | part =>
    simp only [stepR] at h
    rcases andN_some h with ⟨n, j, ho, hr⟩ | ⟨j, ho, rfl⟩
    · exact real_on (ih _ _ _ hr) (real_kind (ih _ _ _ ho) rfl)
    · trivial
  | steps n =>
    simp only [stepR] at h
    by_cases h1 : isM l i [46] = true
    · rw [if_pos h1] at h
      by_cases h2 : (tokAt l (i + 1)).kind = 1
      · rw [if_pos h2] at h
        exact real_on (ih _ _ _ h) (back2 (by rw [h2]; decide))
      · rw [if_neg h2] at h; cases h; trivial
    rw [if_neg h1] at h
    by_cases h2 : isM l i [91] = false
    · rw [if_pos h2] at h; cases h; exact Or.inl ⟨rfl, rfl⟩
    rw [if_neg h2] at h
    rcases andN_some h with ⟨n, j, ho, hr⟩ | ⟨j, ho, rfl⟩
    · by_cases h3 : isM l j [93] = true
      · rw [if_pos h3] at hr
        exact real_on (ih _ _ _ hr) (back1 (isM_kind h3))
      · rw [if_neg h3] at hr; cases hr; trivial
    · trivial
  | first =>
    simp only [stepR] at h
    by_cases h1 : (tokAt l i).kind = 2
    · rw [if_pos h1] at h; cases h
      exact Or.inr (back1 (by rw [h1]; decide))
    rw [if_neg h1] at h
    by_cases h2 : isW l i sTrue = true
    · rw [if_pos h2] at h; cases h; exact Or.inr (back1 (isW_kind h2))
    rw [if_neg h2] at h
    by_cases h3 : isW l i sFalse = true
    · rw [if_pos h3] at h; cases h; exact Or.inr (back1 (isW_kind h3))
    rw [if_neg h3] at h
    by_cases h4 : (tokAt l i).kind = 1
    · rw [if_pos h4] at h
      by_cases h5 : isM l (i + 1) [40] = true
      · rw [if_pos h5] at h
        exact real_strict (ih _ _ _ h) rfl
      · rw [if_neg h5] at h; cases h
        exact Or.inr (back1 (by rw [h4]; decide))
    rw [if_neg h4] at h
    by_cases h5 : isW l i sFork = true
    · rw [if_pos h5] at h
      exact real_strict (ih _ _ _ h) rfl
    rw [if_neg h5] at h
    by_cases h6 : isW l i sNew = true
    · rw [if_pos h6] at h
      rcases andN_some h with ⟨n, j, ho, hr⟩ | ⟨j, ho, rfl⟩
      · rcases andL_some hr with ⟨ns, k, ho2, hr2⟩ | ⟨k, ho2, rfl⟩
        · cases hr2
          exact Or.inr (real_kindL (ih _ _ _ ho2) rfl)
        · trivial
      · trivial
    rw [if_neg h6] at h
    by_cases h7 : isM l i [40] = false
    · rw [if_pos h7] at h; cases h; trivial
    rw [if_neg h7] at h
    rcases andN_some h with ⟨n, j, ho, hr⟩ | ⟨j, ho, rfl⟩
    · by_cases h8 : isM l j [41] = true
      · rw [if_pos h8] at hr; cases hr
        exact Or.inr (back1 (isM_kind h8))
      · rw [if_neg h8] at hr; cases hr; trivial
    · trivial
  | call k a =>
    simp only [stepR] at h
    by_cases h1 : (tokAt l i).kind = 1
    · rw [if_pos h1] at h
      rcases andL_some h with ⟨ns, j, ho, hr⟩ | ⟨j, ho, rfl⟩
      · cases hr
        exact Or.inr (real_kindL (ih _ _ _ ho) rfl)
      · trivial
    · rw [if_neg h1] at h; cases h; trivial
  | args =>
    simp only [stepR] at h
    by_cases h1 : isM l i [40] = false
    · rw [if_pos h1] at h; cases h; trivial
    rw [if_neg h1] at h
    by_cases h2 : isM l (i + 1) [41] = true
    · rw [if_pos h2] at h; cases h
      exact Or.inr (back2 (isM_kind h2))
    rw [if_neg h2] at h
    exact real_strict (ih _ _ _ h) rfl
  | more ns =>
    simp only [stepR] at h
    rcases andN_some h with ⟨n, j, ho, hr⟩ | ⟨j, ho, rfl⟩
    · by_cases h1 : isM l j [41] = true
      · rw [if_pos h1] at hr; cases hr
        exact Or.inr (back1 (isM_kind h1))
      · rw [if_neg h1] at hr
        by_cases h2 : isM l j [44] = false
        · rw [if_pos h2] at hr; cases hr; trivial
        · rw [if_neg h2] at hr
          exact real_strict (ih _ _ _ hr) rfl
    · trivial
theorem run_real (l : List Tk) : ∀ (f : Nat) (m : Mode) (i : Int) (r : Res), run l f m i = some r → Real l m i r
  | 0, m, i, r, h => by rw [run] at h; cases h
  | f + 1, m, i, r, h => by
    rw [run_succ] at h
    exact real_step l _ (run_real l f) m i r h
/-- the last token of a source is its end -/
theorem toks_last : ∀ {ts : List Tok}, Toks ts → 0 < ts.length ∧ (tokAt (ts.map toTk) ((ts.length : Int) - 1)).kind = 0
  | [], h => absurd h (by unfold Toks; exact fun h => h)
  | [t], h => ⟨by simp, by unfold Toks at h; simp [tokAt, toTk, h.1]⟩
  | t :: u :: ts, h => by
    unfold Toks at h
    obtain ⟨h1, h2⟩ := toks_last h.2.2
    refine ⟨by simp, ?_⟩
    have e : tokAt ((t :: u :: ts).map toTk) (((t :: u :: ts).length : Int) - 1) = tokAt ((u :: ts).map toTk) (((u :: ts).length : Int) - 1) := by
      unfold tokAt
      have e1 : (((t :: u :: ts).length : Int) - 1).toNat = (((u :: ts).length : Int) - 1).toNat + 1 := by simp
      rw [e1, if_pos (by simp; omega), if_pos (by simp)]
      simp
    rw [e]
    exact h2
/-- so what is read ends within it -/
theorem node_in {ts : List Tok} (h : Toks ts) {f : Nat} {m : Mode} {i j : Int} {n : NT} (hm : m.strict = true) (hr : run (ts.map toTk) f m i = some (.node n j)) : i < j ∧ j < (ts.length : Int) := by
  have he := run_ends _ _ _ _ _ hr
  have hk := real_kind (run_real _ _ _ _ _ hr) hm
  obtain ⟨_, _, e2, e3⟩ := he
  have e3 := e3 hm
  rw [List.length_map] at e2 e3
  have hl := (toks_last h).2
  refine ⟨e3.2.2, ?_⟩
  have : j ≠ (ts.length : Int) := fun e => hk (by rw [e]; exact hl)
  have := e2 (by omega)
  omega
end Go.Proofs.YtgohkmdepjmpaaaDoor.pm

/- What is read is a type, an expression, expressions. -/
import Derived.Test.YtgohkmdepjmpaaaDoorCParTotal
namespace Go.Proofs.YtgohkmdepjmpaaaDoor.pm
open Go.RowKit wd lx nt ne

/-- the tokens of a source: names are right, numbers are none below 0 -/
def Good (l : List Tk) : Prop := ∀ i, ((tokAt l i).kind = 1 → named (tokAt l i).text = true) ∧ ((tokAt l i).kind = 2 → 0 ≤ (tokAt l i).n)
theorem pexpr_num {a n : Int} (h : 0 ≤ n) : (NT.mk 10 a n [] []).expr = true := by rw [expr_mk]; simp [exprL, exprHead, h]
theorem pexpr_flag {a n : Int} (h : 0 ≤ n) (h2 : n ≤ 1) : (NT.mk 11 a n [] []).expr = true := by rw [expr_mk]; simp [exprL, exprHead, h, h2]
theorem pexpr_name {a : Int} {s : List UInt8} (h : named s = true) : (NT.mk 12 a 0 s []).expr = true := by rw [expr_mk]; simp [exprL, exprHead, h]
theorem pexpr_index {a : Int} {t u : NT} (h : t.expr = true) (h2 : u.expr = true) : (NT.mk 13 a 0 [] [t, u]).expr = true := by rw [expr_mk]; simp [exprL, exprHead, h, h2, aloneN]
theorem pexpr_field {a : Int} {s : List UInt8} {t : NT} (h : t.expr = true) (h2 : named s = true) : (NT.mk 14 a 0 s [t]).expr = true := by rw [expr_mk]; simp [exprL, exprHead, h, h2]
theorem pexpr_un {a : Int} {t : NT} {n : Int} (h : t.expr = true) (h2 : n = 2 ∨ n = 14) : (NT.mk 15 a n [] [t]).expr = true := by rw [expr_mk]; simp [exprL, exprHead, h]; exact h2
theorem pexpr_call {a k : Int} {s : List UInt8} {l : List NT} (hk : k = 17 ∨ k = 18) (h : ∀ t ∈ l, t.expr = true) (h2 : named s = true) : (NT.mk k a 0 s l).expr = true := by
  have h3 : exprL l = true := by rw [exprL_all, List.all_eq_true]; exact h
  rw [expr_mk, h3]
  rcases hk with rfl | rfl <;> simp [exprHead, h2]
theorem pexpr_new {a : Int} {t : NT} {l : List NT} (h : t.typ = true) (h2 : ∀ t ∈ l, t.expr = true) : (NT.mk 19 a 0 [] (t :: l)).expr = true := by
  have h3 : exprL l = true := by rw [exprL_all, List.all_eq_true]; exact h2
  rw [expr_mk, if_pos rfl, newL, h, h3]; rfl
theorem pexpr_bin {a n : Int} {t u : NT} (h : t.expr = true) (h2 : u.expr = true) (h3 : 0 < bindF n) : (NT.mk 16 a n [] [t, u]).expr = true := by
  rw [expr_mk]; simp [exprL, exprHead, h, h2, h3]
theorem ptyp_small {a q : Int} (h1 : 1 ≤ q) (h2 : q ≤ 3) : (NT.mk q a 0 [] []).typ = true := by
  rw [typ_mk, if_neg (by simp), if_neg (by omega), if_neg (by simp), if_neg (by omega)]
  simp; omega
theorem ptyp_rec {a : Int} {s : List UInt8} (h : named s = true) : (NT.mk 4 a 0 s []).typ = true := by rw [typ_mk]; simp [h]
theorem ptyp_arr {a : Int} {t : NT} (h : t.typ = true) : (NT.mk 5 a 0 [] [t]).typ = true := by rw [typ_mk]; simp [typ1, h]
/-- what is asked of what is being read -/
def ModeOk : Mode → Prop
  | .lev t => 1 ≤ t
  | .loop t left => 1 ≤ t ∧ left.expr = true
  | .steps n => n.expr = true
  | .call k _ => k = 17 ∨ k = 18
  | .more ns => ∀ n ∈ ns, n.expr = true
  | _ => True
def ResOk (m : Mode) : Res → Prop
  | .node n _ => (match m with | .typ => n.typ = true | _ => n.expr = true)
  | .list ns _ => ∀ n ∈ ns, n.expr = true
  | .no _ => True
theorem ok_step (l : List Tk) (hg : Good l) (R : Mode → Int → Option Res) (he : ∀ m i r, R m i = some r → Ends l.length m i r) (ih : ∀ m i r, ModeOk m → R m i = some r → ResOk m r) (m : Mode) (i : Int) (r : Res) (hm : ModeOk m) (h : stepR l R m i = some r) : ResOk m r := by
  cases m with
  | typ =>
    simp only [stepR] at h
    by_cases h1 : (tokAt l i).kind = 1
    · rw [if_pos h1] at h; cases h
      exact ptyp_rec ((hg i).1 h1)
    rw [if_neg h1] at h
    by_cases h2 : isW l i sInt = true
    · rw [if_pos h2] at h; cases h
      exact ptyp_small (by omega) (by omega)
    rw [if_neg h2] at h
    by_cases h3 : isW l i sBool = true
    · rw [if_pos h3] at h; cases h
      exact ptyp_small (by omega) (by omega)
    rw [if_neg h3] at h
    by_cases h4 : isW l i sRev = true
    · rw [if_pos h4] at h; cases h
      exact ptyp_small (by omega) (by omega)
    rw [if_neg h4] at h
    by_cases h5 : isM l i [91] = false
    · rw [if_pos h5] at h; cases h; trivial
    rw [if_neg h5] at h
    by_cases h6 : isM l (i + 1) [93] = false
    · rw [if_pos h6] at h; cases h; trivial
    rw [if_neg h6] at h
    rcases andN_some h with ⟨n, j, ho, hr⟩ | ⟨j, ho, rfl⟩
    · cases hr
      exact ptyp_arr (ih .typ _ _ trivial ho)
    · trivial
  | lev t =>
    have hm' : 1 ≤ t := hm
    simp only [stepR] at h
    by_cases h1 : 5 < t
    · rw [if_pos h1] at h
      have e := ih .fac _ _ trivial h
      cases r <;> exact e
    rw [if_neg h1] at h
    rcases andN_some h with ⟨n, j, ho, hr⟩ | ⟨j, ho, rfl⟩
    · have e := ih (.lev (t + 1)) _ _ (show 1 ≤ t + 1 by omega) ho
      have e2 := ih (.loop t n) _ _ ⟨hm', e⟩ hr
      cases r <;> exact e2
    · trivial
  | loop t left =>
    obtain ⟨ht, hl⟩ : 1 ≤ t ∧ left.expr = true := hm
    simp only [stepR] at h
    by_cases h1 : signP l i t = 0
    · rw [if_pos h1] at h; cases h
      exact hl
    rw [if_neg h1] at h
    have i1 := signP_in h1
    rcases andN_some h with ⟨n, j, ho, hr⟩ | ⟨j, ho, rfl⟩
    · have e := ih (.lev (t + 1)) _ _ (show 1 ≤ t + 1 by omega) ho
      have eb : (NT.mk 16 (tokAt l i).at_ (signP l i t) [] [left, n]).expr = true := pexpr_bin hl e (by rw [i1.2.2.2]; omega)
      by_cases h3 : t = 3
      · rw [if_pos h3] at hr; cases hr
        exact eb
      · rw [if_neg h3] at hr
        have e2 := ih (.loop t _) _ _ ⟨ht, eb⟩ hr
        cases r <;> exact e2
    · trivial
  | fac =>
    simp only [stepR] at h
    by_cases h1 : isM l i [45] = false ∧ isM l i [33] = false
    · rw [if_pos h1] at h
      have e := ih .part _ _ trivial h
      cases r <;> exact e
    rw [if_neg h1] at h
    rcases andN_some h with ⟨n, j, ho, hr⟩ | ⟨j, ho, rfl⟩
    · cases hr
      exact pexpr_un (ih .fac _ _ trivial ho) (by split <;> simp)
    · trivial
  | part =>
    simp only [stepR] at h
    rcases andN_some h with ⟨n, j, ho, hr⟩ | ⟨j, ho, rfl⟩
    · have e := ih .first _ _ trivial ho
      have e2 := ih (.steps n) _ _ e hr
      cases r <;> exact e2
    · trivial
  | steps n =>
    have hn : n.expr = true := hm
    simp only [stepR] at h
    by_cases h1 : isM l i [46] = true
    · rw [if_pos h1] at h
      by_cases h2 : (tokAt l (i + 1)).kind = 1
      · rw [if_pos h2] at h
        have e2 := ih (.steps _) _ _ (pexpr_field hn ((hg (i + 1)).1 h2)) h
        cases r <;> exact e2
      · rw [if_neg h2] at h; cases h; trivial
    rw [if_neg h1] at h
    by_cases h2 : isM l i [91] = false
    · rw [if_pos h2] at h; cases h
      exact hn
    rw [if_neg h2] at h
    rcases andN_some h with ⟨x, k, ho, hr⟩ | ⟨j, ho, rfl⟩
    · have e := ih (.lev 1) _ _ (show 1 ≤ 1 by omega) ho
      by_cases h3 : isM l k [93] = true
      · rw [if_pos h3] at hr
        have e2 := ih (.steps _) _ _ (pexpr_index hn e) hr
        cases r <;> exact e2
      · rw [if_neg h3] at hr; cases hr; trivial
    · trivial
  | first =>
    simp only [stepR] at h
    by_cases h1 : (tokAt l i).kind = 2
    · rw [if_pos h1] at h; cases h
      exact pexpr_num ((hg i).2 h1)
    rw [if_neg h1] at h
    by_cases h2 : isW l i sTrue = true
    · rw [if_pos h2] at h; cases h
      exact pexpr_flag (by omega) (by omega)
    rw [if_neg h2] at h
    by_cases h3 : isW l i sFalse = true
    · rw [if_pos h3] at h; cases h
      exact pexpr_flag (by omega) (by omega)
    rw [if_neg h3] at h
    by_cases h4 : (tokAt l i).kind = 1
    · rw [if_pos h4] at h
      by_cases h5 : isM l (i + 1) [40] = true
      · rw [if_pos h5] at h
        have e := ih (.call 17 _) _ _ (Or.inl rfl) h
        cases r <;> exact e
      · rw [if_neg h5] at h; cases h
        exact pexpr_name ((hg i).1 h4)
    rw [if_neg h4] at h
    by_cases h5 : isW l i sFork = true
    · rw [if_pos h5] at h
      have e := ih (.call 18 _) _ _ (Or.inr rfl) h
      cases r <;> exact e
    rw [if_neg h5] at h
    by_cases h6 : isW l i sNew = true
    · rw [if_pos h6] at h
      rcases andN_some h with ⟨n, j, ho, hr⟩ | ⟨j, ho, rfl⟩
      · have e := ih .typ _ _ trivial ho
        rcases andL_some hr with ⟨ns, k, ho2, hr2⟩ | ⟨k, ho2, rfl⟩
        · cases hr2
          exact pexpr_new e (ih .args _ _ trivial ho2)
        · trivial
      · trivial
    rw [if_neg h6] at h
    by_cases h7 : isM l i [40] = false
    · rw [if_pos h7] at h; cases h; trivial
    rw [if_neg h7] at h
    rcases andN_some h with ⟨n, j, ho, hr⟩ | ⟨j, ho, rfl⟩
    · have e := ih (.lev 1) _ _ (show 1 ≤ 1 by omega) ho
      by_cases h8 : isM l j [41] = true
      · rw [if_pos h8] at hr; cases hr
        exact e
      · rw [if_neg h8] at hr; cases hr; trivial
    · trivial
  | call k a =>
    have hk : k = 17 ∨ k = 18 := hm
    simp only [stepR] at h
    by_cases h1 : (tokAt l i).kind = 1
    · rw [if_pos h1] at h
      rcases andL_some h with ⟨ns, j, ho, hr⟩ | ⟨j, ho, rfl⟩
      · cases hr
        exact pexpr_call hk (ih .args _ _ trivial ho) ((hg i).1 h1)
      · trivial
    · rw [if_neg h1] at h; cases h; trivial
  | args =>
    simp only [stepR] at h
    by_cases h1 : isM l i [40] = false
    · rw [if_pos h1] at h; cases h; trivial
    rw [if_neg h1] at h
    by_cases h2 : isM l (i + 1) [41] = true
    · rw [if_pos h2] at h; cases h
      intro n hn; cases hn
    rw [if_neg h2] at h
    have hne := he _ _ _ h
    have e := ih (.more []) _ _ (fun n hn => by cases hn) h
    cases r with
    | node n j => exact absurd hne.1 (by simp [Mode.lists])
    | list ns j => exact e
    | no j => trivial
  | more ns =>
    have hn : ∀ n ∈ ns, n.expr = true := hm
    simp only [stepR] at h
    rcases andN_some h with ⟨n, j, ho, hr⟩ | ⟨j, ho, rfl⟩
    · have e := ih (.lev 1) _ _ (show 1 ≤ 1 by omega) ho
      have hall : ∀ x ∈ ns ++ [n], x.expr = true := fun x hx => by
        rcases List.mem_append.1 hx with hx | hx
        · exact hn x hx
        · have : x = n := by simpa using hx
          rw [this]; exact e
      by_cases h1 : isM l j [41] = true
      · rw [if_pos h1] at hr; cases hr
        exact hall
      rw [if_neg h1] at hr
      by_cases h2 : isM l j [44] = false
      · rw [if_pos h2] at hr; cases hr; trivial
      rw [if_neg h2] at hr
      have hne := he _ _ _ hr
      have e2 := ih (.more _) _ _ hall hr
      cases r with
      | node n j => exact absurd hne.1 (by simp [Mode.lists])
      | list ns j => exact e2
      | no j => trivial
    · trivial
theorem run_ok (l : List Tk) (hg : Good l) : ∀ (f : Nat) (m : Mode) (i : Int) (r : Res), ModeOk m → run l f m i = some r → ResOk m r
  | 0, m, i, r, _, h => by rw [run] at h; cases h
  | f + 1, m, i, r, hm, h => by
    rw [run_succ] at h
    exact ok_step l hg (run l f) (run_ends l f) (run_ok l hg f) m i r hm h
end Go.Proofs.YtgohkmdepjmpaaaDoor.pm

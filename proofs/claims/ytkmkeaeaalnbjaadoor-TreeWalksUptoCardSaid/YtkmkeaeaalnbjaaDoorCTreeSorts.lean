/- What a node is, as the package's functions ask it: each sort by its kind, number, name and the row of sorts of its kids; plain trees. -/
import Derived.Test.YtkmkeaeaalnbjaaDoorCTreeSort1
import Derived.Test.YtkmkeaeaalnbjaaDoorCNodeProg
namespace Go.Proofs.YtkmkeaeaalnbjaaDoor.nt
open Go.RowKit wd lx

theorem named_nil : named [] = false := by rw [named_eq]; rfl
theorem nm_name {n : Int} {s : List UInt8} (h : nmN n s = true) : s ≠ [] := by
  intro e; subst e
  unfold nmN at h
  rw [named_nil, Bool.and_false] at h; cases h
theorem are_nil (l : List NT) : areP l [] = l.isEmpty := by cases l <;> rfl
theorem are_one (l : List NT) (p : NT → Bool) : areP l [p] = (match l with | [v] => p v | _ => false) := by
  match l with
  | [] => rfl
  | [v] => simp [areP]
  | _ :: _ :: _ => simp [areP]
theorem are_two (l : List NT) (p q : NT → Bool) : areP l [p, q] = (match l with | [u, v] => p u && q v | _ => false) := by
  match l with
  | [] => rfl
  | [v] => simp [areP]
  | [u, v] => simp [areP]
  | _ :: _ :: _ :: _ => simp [areP]
theorem are_three (l : List NT) (p q r : NT → Bool) : areP l [p, q, r] = (match l with | [u, v, x] => p u && (q v && r x) | _ => false) := by
  match l with
  | [] => rfl
  | [v] => simp [areP]
  | [u, v] => simp [areP]
  | [u, v, x] => simp [areP]
  | _ :: _ :: _ :: _ :: _ => simp [areP]
theorem are_four (l : List NT) (p q r o : NT → Bool) : areP l [p, q, r, o] = (match l with | [u, v, x, y] => p u && (q v && (r x && o y)) | _ => false) := by
  match l with
  | [] => rfl
  | [v] => simp [areP]
  | [u, v] => simp [areP]
  | [u, v, x] => simp [areP]
  | [u, v, x, y] => simp [areP]
  | _ :: _ :: _ :: _ :: _ :: _ => simp [areP]
/-! ### types -/
theorem typ_bare {k a n : Int} {s : List UInt8} {l : List NT} (hk : k = 1 ∨ k = 2 ∨ k = 3) : (NT.mk k a n s l).typ = (aloneN n s && areP l []) := by
  rw [typ_mk, are_nil]
  unfold aloneN
  have h4 : k ≠ 4 := by omega
  have h5 : k ≠ 5 := by omega
  have h6 : decide (1 ≤ k) = true := decide_eq_true (by omega)
  have h7 : decide (k ≤ 3) = true := decide_eq_true (by omega)
  by_cases hn : n = 0
  · cases s <;> simp [hn, h4, h5, h6, h7]
  · simp [hn]
theorem typ_4 {a n : Int} {s : List UInt8} {l : List NT} : (NT.mk 4 a n s l).typ = (nmN n s && areP l []) := by
  rw [typ_mk, are_nil]
  unfold nmN
  by_cases hn : n = 0 <;> simp [hn]
theorem typ_5 {a n : Int} {s : List UInt8} {l : List NT} : (NT.mk 5 a n s l).typ = (aloneN n s && areP l [NT.typ]) := by
  rw [typ_mk, are_one]
  unfold aloneN
  have : typ1 l = (match l with | [v] => v.typ | _ => false) := by
    match l with
    | [] => rw [typ1]; simp
    | [v] => rw [typ1]
    | _ :: _ :: _ => rw [typ1]; simp
  rw [this]
  by_cases hn : n = 0
  · cases s <;> simp [hn]
  · simp [hn]
theorem typ_no {k a n : Int} {s : List UInt8} {l : List NT} (h1 : k ≠ 1) (h2 : k ≠ 2) (h3 : k ≠ 3) (h4 : k ≠ 4) (h5 : k ≠ 5) : (NT.mk k a n s l).typ = false := by
  cases h : (NT.mk k a n s l).typ
  · rfl
  · have := typ_kind h
    change 1 ≤ k ∧ k ≤ 5 at this
    omega
/-! ### expressions -/
theorem expr_10 {a n : Int} {s : List UInt8} {l : List NT} : (NT.mk 10 a n s l).expr = (decide (0 ≤ n) && (s.isEmpty && areP l [])) := by
  rw [expr_mk, are_nil]
  unfold exprHead
  cases l <;> simp [exprL]
  exact Bool.and_comm _ _
theorem expr_11 {a n : Int} {s : List UInt8} {l : List NT} : (NT.mk 11 a n s l).expr = ((decide (n = 0) || decide (n = 1)) && (s.isEmpty && areP l [])) := by
  rw [expr_mk, are_nil]
  unfold exprHead
  cases l <;> simp [exprL]
  rw [Bool.eq_iff_iff]
  simp only [Bool.and_eq_true, Bool.or_eq_true, decide_eq_true_eq]
  constructor
  · rintro ⟨⟨h1, h2⟩, h3⟩; exact ⟨by omega, h1⟩
  · rintro ⟨h1, h2⟩; exact ⟨⟨h2, by omega⟩, by omega⟩
theorem expr_12 {a n : Int} {s : List UInt8} {l : List NT} : (NT.mk 12 a n s l).expr = (nmN n s && areP l []) := by
  rw [expr_mk, are_nil]
  unfold exprHead nmN
  cases l <;> simp [exprL]
theorem expr_13 {a n : Int} {s : List UInt8} {l : List NT} : (NT.mk 13 a n s l).expr = (aloneN n s && areP l [NT.expr, NT.expr]) := by
  rw [expr_mk, are_two]
  unfold exprHead
  match l with
  | [] => simp
  | [v] => simp
  | [u, v] => simp [exprL]; cases aloneN n s <;> simp
  | _ :: _ :: _ :: _ => simp
theorem expr_14 {a n : Int} {s : List UInt8} {l : List NT} : (NT.mk 14 a n s l).expr = (nmN n s && areP l [NT.expr]) := by
  rw [expr_mk, are_one]
  unfold exprHead nmN
  match l with
  | [] => simp
  | [v] => simp [exprL]; by_cases hn : n = 0 <;> cases hs : named s <;> simp [hn]
  | _ :: _ :: _ => simp
theorem expr_15 {a n : Int} {s : List UInt8} {l : List NT} : (NT.mk 15 a n s l).expr = ((decide (n = 2) || decide (n = 14)) && (s.isEmpty && areP l [NT.expr])) := by
  rw [expr_mk, are_one]
  unfold exprHead
  match l with
  | [] => simp
  | [v] => simp [exprL]; cases v.expr <;> cases s.isEmpty <;> simp
  | _ :: _ :: _ => simp
theorem expr_16 {a n : Int} {s : List UInt8} {l : List NT} : (NT.mk 16 a n s l).expr = (decide (0 < bindF n) && (s.isEmpty && areP l [NT.expr, NT.expr])) := by
  rw [expr_mk, are_two]
  unfold exprHead
  match l with
  | [] => simp
  | [v] => simp
  | [u, v] => simp [exprL]; cases u.expr <;> cases v.expr <;> cases s.isEmpty <;> simp
  | _ :: _ :: _ :: _ => simp
theorem expr_callC {k a n : Int} {s : List UInt8} {l : List NT} (hk : k = 17 ∨ k = 18) : (NT.mk k a n s l).expr = (nmN n s && l.all NT.expr) := by
  rw [expr_mk, exprL_all]
  unfold exprHead nmN
  have h1 : k ≠ 19 := by omega
  have h2 : ¬ (k = 10 ∨ k = 11) := by omega
  have h3 : k ≠ 15 := by omega
  have h4 : k ≠ 16 := by omega
  have h5 : k ≠ 13 := by omega
  have h6 : decide (k = 17) || decide (k = 18) = true := by rcases hk with h | h <;> simp [h]
  rw [if_neg h1, if_neg h2, if_neg h3, if_neg h4, if_neg h5, Bool.or_assoc, Bool.or_assoc]
  simp only [Bool.or_eq_true, decide_eq_true_eq] at h6
  cases l.all NT.expr <;> by_cases hn : n = 0 <;> cases hs : named s <;> simp [hn, hk]
theorem expr_19 {a n : Int} {s : List UInt8} {l : List NT} : (NT.mk 19 a n s l).expr = (aloneN n s && (match l with | [] => false | v :: r => v.typ && r.all NT.expr)) := by
  rw [expr_mk, if_pos rfl]
  congr 1
  cases l with
  | nil => rw [newL]
  | cons v r => rw [newL, exprL_all]
theorem expr_no {k a n : Int} {s : List UInt8} {l : List NT} (h1 : k ≠ 10) (h2 : k ≠ 11) (h3 : k ≠ 12) (h4 : k ≠ 13) (h5 : k ≠ 14) (h6 : k ≠ 15) (h7 : k ≠ 16) (h8 : k ≠ 17) (h9 : k ≠ 18) (h10 : k ≠ 19) : (NT.mk k a n s l).expr = false := by
  cases h : (NT.mk k a n s l).expr
  · rfl
  · have := expr_kind h
    change 10 ≤ k ∧ k ≤ 19 at this
    omega
/-! ### places -/
theorem place_exprC {t : NT} (h : t.place = true) : t.expr = true := by
  obtain ⟨k, a, n, s, l⟩ := t
  rw [place_mk, Bool.and_eq_true] at h
  exact h.1
theorem place_12 {a n : Int} {s : List UInt8} {l : List NT} : (NT.mk 12 a n s l).place = (nmN n s && areP l []) := by
  rw [place_mk, expr_12]; simp
theorem place_and (v : NT) : (v.expr && v.place) = v.place := by
  cases h : v.place
  · simp
  · rw [place_exprC h]; rfl
theorem place_13 {a n : Int} {s : List UInt8} {l : List NT} : (NT.mk 13 a n s l).place = (aloneN n s && areP l [NT.place, NT.expr]) := by
  rw [place_mk, expr_13, are_two, are_two]
  match l with
  | [] => simp
  | [v] => simp
  | [u, v] =>
    simp only [placeH]
    have := place_and u
    cases hu : u.place <;> rw [hu] at this <;> simp at this ⊢
    rw [this]; simp
  | _ :: _ :: _ :: _ => simp
theorem place_14 {a n : Int} {s : List UInt8} {l : List NT} : (NT.mk 14 a n s l).place = (nmN n s && areP l [NT.place]) := by
  rw [place_mk, expr_14, are_one, are_one]
  match l with
  | [] => simp
  | [u] =>
    simp only [placeH]
    have := place_and u
    cases hu : u.place <;> rw [hu] at this <;> simp at this ⊢
    rw [this]; simp
  | _ :: _ :: _ => simp
theorem place_no {k a n : Int} {s : List UInt8} {l : List NT} (h1 : k ≠ 12) (h2 : k ≠ 13) (h3 : k ≠ 14) : (NT.mk k a n s l).place = false := by
  rw [place_mk]; simp [h1, h2, h3]
/-! ### statements -/
def callN (t : NT) : Bool := decide (t.kind = 17) && t.expr
def elseN (t : NT) : Bool := (decide (t.kind = 33) && t.stmt) || t.blk
/-- a statement without a name, by its kids -/
def holdsN (t : NT) : Bool :=
  if t.kind = 30 then t.kids.all NT.stmt
  else if t.kind = 32 then areP t.kids [NT.place, NT.expr]
  else if t.kind = 33 then areP t.kids [NT.expr, NT.blk] || areP t.kids [NT.expr, NT.blk, elseN]
  else if t.kind = 34 then areP t.kids [NT.expr, NT.blk]
  else if t.kind = 35 then areP t.kids [] || areP t.kids [NT.expr]
  else if t.kind = 37 then areP t.kids [NT.expr]
  else if t.kind = 38 then areP t.kids [callN]
  else false
theorem expr1_are (l : List NT) : expr1 l = areP l [NT.expr] := by
  rw [are_one]
  match l with
  | [] => rfl
  | [v] => rfl
  | _ :: _ :: _ => rfl
theorem stmtC_31 {a n : Int} {s : List UInt8} {l : List NT} : (NT.mk 31 a n s l).stmt = (nmN n s && areP l [NT.expr]) := by
  rw [stmt_mk, ← expr1_are]
  unfold nmN
  by_cases hn : n = 0 <;> cases hs : named s <;> simp [hn]
theorem stmtC_36 {a n : Int} {s : List UInt8} {l : List NT} : (NT.mk 36 a n s l).stmt = (nmN n s && areP l []) := by
  rw [stmt_mk, are_nil]
  unfold nmN
  by_cases hn : n = 0 <;> cases hs : named s <;> simp [hn]
theorem stmt_holds {k a n : Int} {s : List UInt8} {l : List NT} (h1 : k ≠ 31) (h2 : k ≠ 36) : (NT.mk k a n s l).stmt = (aloneN n s && holdsN (.mk k a n s l)) := by
  rw [stmt_mk, if_neg (by omega)]
  cases ha : aloneN n s
  · simp
  · rw [if_neg (by simp), Bool.true_and]
    unfold holdsN
    show _ = if k = 30 then l.all NT.stmt else _
    by_cases c30 : k = 30
    · rw [if_pos c30, if_pos c30, stmtL_all]
    · rw [if_neg c30, if_neg c30]
      by_cases c32 : k = 32
      · subst c32
        show _ = areP l [NT.place, NT.expr]
        rw [are_two]
        simp
        match l with
        | [] => rfl
        | [v] => rfl
        | [u, v] => rfl
        | _ :: _ :: _ :: _ => rfl
      · show _ = if k = 32 then _ else if k = 33 then areP l [NT.expr, NT.blk] || areP l [NT.expr, NT.blk, elseN] else if k = 34 then areP l [NT.expr, NT.blk] else if k = 35 then areP l [] || areP l [NT.expr] else if k = 37 then areP l [NT.expr] else if k = 38 then areP l [callN] else false
        simp only [if_neg c32]
        by_cases c33 : k = 33
        · subst c33
          rw [are_two l NT.expr NT.blk, are_three l NT.expr NT.blk elseN]
          simp
          match l with
          | [] => simp [ifH]
          | [v] => simp [ifH, ifL]
          | [u, v] => simp [ifH, ifL, NT.blk]
          | [u, v, x] => simp [ifH, ifL, NT.blk, elseN]; cases (decide (x.kind = 30) && x.stmt) <;> cases (decide (x.kind = 33) && x.stmt) <;> cases u.expr <;> cases (decide (v.kind = 30) && v.stmt) <;> rfl
          | u :: v :: x :: y :: r => simp [ifH, ifL]
        · rw [if_neg c33]
          by_cases c34 : k = 34
          · subst c34
            rw [are_two]
            simp
            match l with
            | [] => simp [ifH]
            | [v] => simp [ifH, ifL]
            | [u, v] => simp [ifH, ifL, NT.blk]
            | [u, v, x] => simp [ifH, ifL]
            | u :: v :: x :: y :: r => simp [ifH, ifL]
          · rw [if_neg c34]
            by_cases c35 : k = 35
            · subst c35
              rw [are_nil, ← expr1_are]
              match l with
              | [] => simp
              | [v] => simp
              | u :: v :: r => simp
            · rw [if_neg c35]
              by_cases c37 : k = 37
              · subst c37; rw [← expr1_are]; simp
              · rw [if_neg c37]
                by_cases c38 : k = 38
                · subst c38
                  rw [are_one]
                  simp
                  match l with
                  | [] => rfl
                  | [v] => rfl
                  | u :: v :: r => rfl
                · simp [c35, c37, c38, c33, c34]
/-! ### declarations and programs -/
def paramC (t : NT) : Bool := decide (t.kind = 50) && (nmN t.num t.name && areP t.kids [NT.typ])
theorem param_eq (t : NT) : paramN t = paramC t := by
  obtain ⟨k, a, n, s, l⟩ := t
  unfold paramN paramC nmN
  show (decide (k = 50) && decide (n = 0) && named s && typ1 l) = (decide (k = 50) && (decide (n = 0) && named s && areP l [NT.typ]))
  rw [are_one]
  have : typ1 l = (match l with | [v] => v.typ | _ => false) := by
    match l with
    | [] => rw [typ1]; simp
    | [v] => rw [typ1]
    | _ :: _ :: _ => rw [typ1]; simp
  rw [this]
  simp only [Bool.and_assoc]
def mnameN (t : NT) : Bool := decide (t.kind = 12) && t.expr
def answerC (t : NT) : Bool := (decide (t.kind = 0) && (aloneN t.num t.name && areP t.kids [])) || t.typ
theorem answer_eq (t : NT) : t.answer = answerC t := by
  unfold NT.answer answerC
  rw [are_nil, Bool.or_comm, Bool.and_assoc]
theorem declC_51 {a n : Int} {s : List UInt8} {l : List NT} : declN (.mk 51 a n s l) = (nmN n s && (!l.isEmpty && l.all paramN)) := by
  rw [decl_mk]
  have : (declP 51 l).toNat = l.length := by unfold declP; simp
  rw [if_neg (by decide), this, List.take_length]
  have h2 : declE 51 l = true := rfl
  rw [h2]
  unfold nmN
  cases named s <;> cases decide (n = 0) <;> simp
theorem decl_52c {a n : Int} {s : List UInt8} {l : List NT} : declN (.mk 52 a n s l) = (decide (0 ≤ n) && (named s && (areP l [NT.typ] || areP l [NT.typ, mnameN]))) := by
  rw [decl_mk, if_pos rfl, are_one, are_two]
  unfold isoN
  match l with
  | [] => simp
  | [v] => cases named s <;> simp
  | [v, u] => simp [mnameN]; cases named s <;> simp
  | _ :: _ :: _ :: _ => simp
theorem declC_54 {a n : Int} {s : List UInt8} {l : List NT} : declN (.mk 54 a n s l) = (nmN n s && areP l [paramN, paramN, paramN, NT.blk]) := by
  rw [decl_mk, if_neg (by decide), are_four]
  unfold nmN
  have hE : declE 54 l = (decide (l.length = 4) && (match l.getLast? with | some b => b.blk | none => false)) := rfl
  have hP : (declP 54 l).toNat = l.length - 1 := by unfold declP; simp
  rw [hE, hP]
  match l with
  | [] => simp
  | [u] => simp
  | [u, v] => simp
  | [u, v, x] => simp
  | [u, v, x, y] =>
    simp
    cases named s <;> cases decide (n = 0) <;> cases paramN u <;> cases paramN v <;> cases paramN x <;> simp
  | u :: v :: x :: y :: z :: r => simp
theorem last_two {l : List NT} (h : 2 ≤ l.length) : ∃ u v, l.drop (l.length - 2) = [u, v] ∧ l[l.length - 2]? = some u ∧ l.getLast? = some v := by
  have h1 : (l.drop (l.length - 2)).length = 2 := by rw [List.length_drop]; omega
  match hd : l.drop (l.length - 2), h1 with
  | [u, v], _ =>
    refine ⟨u, v, rfl, ?_, ?_⟩
    · have : (l.drop (l.length - 2))[0]? = some u := by rw [hd]; rfl
      rw [List.getElem?_drop, Nat.add_zero] at this
      exact this
    · have : (l.drop (l.length - 2))[1]? = some v := by rw [hd]; rfl
      rw [List.getElem?_drop] at this
      rw [List.getLast?_eq_getElem?, ← this]
      congr 1
      omega
theorem decl_53c {a n : Int} {s : List UInt8} {l : List NT} : declN (.mk 53 a n s l) = (nmN n s && (decide (2 ≤ l.length) && ((l.take (l.length - 2)).all paramN && areP (l.drop (l.length - 2)) [NT.answer, NT.blk]))) := by
  rw [decl_mk, if_neg (by decide)]
  have hE : declE 53 l = (decide (2 ≤ l.length) && (match l.getLast? with | some b => b.blk | none => false) && (match l[l.length - 2]? with | some a => a.answer | none => false)) := rfl
  have hP : (declP 53 l).toNat = l.length - 2 := by unfold declP; simp; omega
  rw [hE, hP]
  unfold nmN
  by_cases h2 : 2 ≤ l.length
  · obtain ⟨u, v, e1, e2, e3⟩ := last_two h2
    have h3 : l.isEmpty = false := by cases l with | nil => simp at h2 | cons _ _ => rfl
    rw [e1, e2, e3, decide_eq_true h2, h3, are_two]
    simp only
    cases named s <;> cases decide (n = 0) <;> cases ((l.take (l.length - 2)).all paramN) <;> cases u.answer <;> cases v.blk <;> rfl
  · rw [decide_eq_false h2]
    simp
theorem decl_no {k a n : Int} {s : List UInt8} {l : List NT} (h1 : k ≠ 51) (h2 : k ≠ 52) (h3 : k ≠ 53) (h4 : k ≠ 54) : declN (.mk k a n s l) = false := by
  rw [decl_mk, if_neg h2]
  have : declE k l = false := by unfold declE; rw [if_neg h1, if_neg h4, if_neg h3]
  rw [this]
  simp
theorem prog_code {k a n : Int} {s : List UInt8} {l : List NT} : progN (.mk k a n s l) = (decide (k = 55) && (aloneN n s && (match l.getLast? with | some b => (l.take (l.length - 1)).all declN && b.blk | none => false))) := by
  rw [prog_mk]
  unfold lastB
  cases l.getLast? with
  | none => simp
  | some b =>
    simp only
    cases decide (k = 55) <;> cases aloneN n s <;> cases b.blk <;> simp
end Go.Proofs.YtkmkeaeaalnbjaaDoor.nt

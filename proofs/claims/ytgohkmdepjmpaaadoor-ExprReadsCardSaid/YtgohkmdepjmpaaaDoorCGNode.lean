import Derived.Test.YtgohkmdepjmpaaaDoorCGLex
import Derived.Lib.Hide
import Derived.Test.YtgohkmdepjmpaaaDoorCGVal
import Derived.KernelRfl
import Derived.LoopTactic
/- Nodes of programs as plain trees: how many, how deep, walked, compared, and what each is; nothing of the program. -/
namespace Go.Proofs.YtgohkmdepjmpaaaDoor.nt
open Go.RowKit wd lx

/-- a node: its kind, its place, its number, its name, its kids -/
inductive NT where
  | mk (k a n : Int) (s : List UInt8) (l : List NT)
def NT.kind : NT → Int | .mk k _ _ _ _ => k
def NT.at_ : NT → Int | .mk _ a _ _ _ => a
def NT.num : NT → Int | .mk _ _ n _ _ => n
def NT.name : NT → List UInt8 | .mk _ _ _ s _ => s
def NT.kids : NT → List NT | .mk _ _ _ _ l => l
theorem NT.eta (t : NT) : t = .mk t.kind t.at_ t.num t.name t.kids := by cases t; rfl
mutual
theorem NT.ind {P : NT → Prop} (h : ∀ k a n s l, (∀ u ∈ l, P u) → P (.mk k a n s l)) : ∀ t, P t
  | .mk k a n s l => h k a n s l (NT.indL h l)
theorem NT.indL {P : NT → Prop} (h : ∀ k a n s l, (∀ u ∈ l, P u) → P (.mk k a n s l)) : ∀ (l : List NT), ∀ u ∈ l, P u
  | [] => fun u hu => by cases hu
  | v :: r => List.forall_mem_cons.2 ⟨NT.ind h v, NT.indL h r⟩
end

/-! ### how many, and the walk -/
mutual
def NT.size : NT → Nat
  | .mk _ _ _ _ l => sizeL l + 1
def sizeL : List NT → Nat
  | [] => 0
  | v :: r => v.size + sizeL r
end
theorem size_mk (k a n : Int) (s : List UInt8) (l : List NT) : (NT.mk k a n s l).size = sizeL l + 1 := by rw [NT.size]
theorem size_pos (t : NT) : 0 < t.size := by cases t; rw [size_mk]; omega
theorem sizeL_append : ∀ a b, sizeL (a ++ b) = sizeL a + sizeL b
  | [], b => by simp [sizeL]
  | v :: r, b => by rw [List.cons_append, sizeL, sizeL, sizeL_append r b]; omega
theorem sizeL_take (l : List NT) (k : Nat) (h : k < l.length) : sizeL (l.take (k + 1)) = sizeL (l.take k) + l[k].size := by
  rw [List.take_succ_eq_append_getElem h, sizeL_append]; simp [sizeL]
theorem sizeL_take_le (l : List NT) (k : Nat) : sizeL (l.take k) ≤ sizeL l := by
  conv => rhs; rw [← List.take_append_drop k l, sizeL_append]
  omega
theorem mem_sizeL {u : NT} : ∀ {l : List NT}, u ∈ l → u.size ≤ sizeL l
  | v :: r, h => by
    rw [sizeL]
    rcases List.mem_cons.1 h with rfl | h
    · omega
    · have := mem_sizeL h; omega
theorem len_le_sizeL : ∀ l : List NT, l.length ≤ sizeL l
  | [] => Nat.le_refl _
  | v :: r => by rw [sizeL, List.length_cons]; have := size_pos v; have := len_le_sizeL r; omega
mutual
def NT.walk : NT → List NT
  | .mk k a n s l => .mk k a n s l :: walkL l
def walkL : List NT → List NT
  | [] => []
  | v :: r => v.walk ++ walkL r
end
theorem walk_mk (k a n : Int) (s : List UInt8) (l : List NT) : (NT.mk k a n s l).walk = .mk k a n s l :: walkL l := by rw [NT.walk]
theorem walk_eq (t : NT) : t.walk = t :: walkL t.kids := by cases t; rw [walk_mk]; rfl
theorem walkL_append : ∀ a b, walkL (a ++ b) = walkL a ++ walkL b
  | [], b => by simp [walkL]
  | v :: r, b => by rw [List.cons_append, walkL, walkL, walkL_append r b, List.append_assoc]
theorem walkL_take (l : List NT) (k : Nat) (h : k < l.length) : walkL (l.take (k + 1)) = walkL (l.take k) ++ l[k].walk := by
  rw [List.take_succ_eq_append_getElem h, walkL_append]; simp [walkL]
mutual
theorem walk_len : ∀ t : NT, t.walk.length = t.size
  | .mk k a n s l => by rw [walk_mk, size_mk, List.length_cons, walkL_len l]
theorem walkL_len : ∀ l : List NT, (walkL l).length = sizeL l
  | [] => by simp [walkL, sizeL]
  | v :: r => by rw [walkL, sizeL, List.length_append, walk_len v, walkL_len r]
end
theorem walk_sub : ∀ t : NT, ∀ u ∈ t.walk, u.size ≤ t.size := by
  intro t
  induction t using NT.ind with
  | h k a n s l ih =>
    intro u hu
    rw [walk_mk] at hu
    rcases List.mem_cons.1 hu with rfl | hu
    · exact Nat.le_refl _
    · rw [size_mk]
      have key : ∀ (l : List NT), (∀ v ∈ l, ∀ u ∈ v.walk, u.size ≤ v.size) → u ∈ walkL l → u.size ≤ sizeL l := by
        intro l
        induction l with
        | nil => intro _ h; simp [walkL] at h
        | cons v r ihr =>
          intro h1 h2
          rw [walkL] at h2
          rw [sizeL]
          rcases List.mem_append.1 h2 with h | h
          · have := h1 v (by simp) u h; omega
          · have := ihr (fun w hw => h1 w (by simp [hw])) h; omega
      have := key l ih hu
      omega
/-! ### how deep -/
mutual
def NT.deepW : NT → Int
  | .mk _ _ _ _ l => wrap64 (deepL 0 l + 1)
def deepL : Int → List NT → Int
  | m, [] => m
  | m, v :: r => deepL (max m v.deepW) r
end
theorem deepL_append : ∀ a b m, deepL m (a ++ b) = deepL (deepL m a) b
  | [], b, m => by simp [deepL]
  | v :: r, b, m => by rw [List.cons_append, deepL, deepL, deepL_append r b]
theorem deepW_mk (k a n : Int) (s : List UInt8) (l : List NT) : (NT.mk k a n s l).deepW = wrap64 (deepL 0 l + 1) := by rw [NT.deepW]
theorem deepL_take (l : List NT) (k : Nat) (h : k < l.length) : deepL 0 (l.take (k + 1)) = max (deepL 0 (l.take k)) l[k].deepW := by
  rw [List.take_succ_eq_append_getElem h, deepL_append]; simp [deepL]
theorem wrap_bd (n : Int) : -9223372036854775808 ≤ wrap64 n ∧ wrap64 n ≤ 9223372036854775807 := by unfold wrap64; omega
theorem deepW_bd (t : NT) : -9223372036854775808 ≤ t.deepW ∧ t.deepW ≤ 9223372036854775807 := by cases t; rw [deepW_mk]; exact wrap_bd _
theorem deepL_bd : ∀ (l : List NT) (m : Int), 0 ≤ m → m ≤ 9223372036854775807 → 0 ≤ deepL m l ∧ deepL m l ≤ 9223372036854775807
  | [], m, h0, h1 => by rw [deepL]; exact ⟨h0, h1⟩
  | v :: r, m, h0, h1 => by
    rw [deepL]
    have := deepW_bd v
    exact deepL_bd r _ (by omega) (by omega)
/-! ### without places -/
mutual
def NT.clean : NT → NT
  | .mk k _ n s l => .mk k 0 n s (cleanL l)
def cleanL : List NT → List NT
  | [] => []
  | v :: r => v.clean :: cleanL r
end
theorem clean_mk (k a n : Int) (s : List UInt8) (l : List NT) : (NT.mk k a n s l).clean = .mk k 0 n s (cleanL l) := by rw [NT.clean]
theorem cleanL_map : ∀ l : List NT, cleanL l = l.map NT.clean
  | [] => rfl
  | v :: r => by rw [cleanL, List.map_cons, cleanL_map r]
/-- the same, wherever they stand -/
noncomputable def sameN (a b : NT) : Bool := @decide (a.clean = b.clean) (Classical.propDecidable _)
theorem sameN_yes {a b : NT} (h : a.clean = b.clean) : sameN a b = true := by unfold sameN; exact @decide_eq_true _ (Classical.propDecidable _) h
theorem sameN_no {a b : NT} (h : a.clean ≠ b.clean) : sameN a b = false := by unfold sameN; exact @decide_eq_false _ (Classical.propDecidable _) h
theorem of_sameN {a b : NT} (h : sameN a b = true) : a.clean = b.clean := by unfold sameN at h; exact @of_decide_eq_true _ (Classical.propDecidable _) h
theorem not_sameN {a b : NT} (h : sameN a b = false) : a.clean ≠ b.clean := fun e => by rw [sameN_yes e] at h; cases h
theorem sameN_self (a : NT) : sameN a a = true := sameN_yes rfl
noncomputable def sameL (a b : List NT) : Bool := @decide (cleanL a = cleanL b) (Classical.propDecidable _)
theorem sameL_yes {a b : List NT} (h : cleanL a = cleanL b) : sameL a b = true := by unfold sameL; exact @decide_eq_true _ (Classical.propDecidable _) h
theorem sameL_no {a b : List NT} (h : cleanL a ≠ cleanL b) : sameL a b = false := by unfold sameL; exact @decide_eq_false _ (Classical.propDecidable _) h
theorem sameN_mk (k a n k' a' n' : Int) (s s' : List UInt8) (l l' : List NT) : sameN (.mk k a n s l) (.mk k' a' n' s' l') = (decide (k = k') && (decide (n = n') && (decide (s = s') && sameL l l'))) := by
  by_cases h1 : k = k'
  · by_cases h2 : n = n'
    · by_cases h3 : s = s'
      · subst h1; subst h2; subst h3
        simp only [decide_true, Bool.true_and]
        by_cases h : cleanL l = cleanL l'
        · rw [sameL_yes h, sameN_yes (by rw [clean_mk, clean_mk, h])]
        · rw [sameL_no h, sameN_no (by rw [clean_mk, clean_mk]; intro e; injection e with _ _ _ _ e; exact h e)]
      · rw [sameN_no (by rw [clean_mk, clean_mk]; intro e; injection e with _ _ _ e _; exact h3 e)]; simp [h3]
    · rw [sameN_no (by rw [clean_mk, clean_mk]; intro e; injection e with _ _ e _ _; exact h2 e)]; simp [h2]
  · rw [sameN_no (by rw [clean_mk, clean_mk]; intro e; injection e with e _ _ _ _; exact h1 e)]; simp [h1]
theorem clean_clean : ∀ t : NT, t.clean.clean = t.clean := by
  intro t
  induction t using NT.ind with
  | h k a n s l ih =>
    rw [clean_mk, clean_mk, cleanL_map, cleanL_map, List.map_map]
    congr 1
    exact List.map_congr_left fun u hu => ih u hu
theorem same_clean (t : NT) : sameN t t.clean = true := sameN_yes (clean_clean t).symm
mutual
theorem clean_size : ∀ t : NT, t.clean.size = t.size
  | .mk k a n s l => by rw [clean_mk, size_mk, size_mk, cleanL_size l]
theorem cleanL_size : ∀ l : List NT, sizeL (cleanL l) = sizeL l
  | [] => by simp [cleanL]
  | v :: r => by rw [cleanL, sizeL, sizeL, clean_size v, cleanL_size r]
end
theorem clean_at : ∀ t : NT, ∀ u ∈ t.clean.walk, u.at_ = 0 := by
  intro t
  induction t using NT.ind with
  | h k a n s l ih =>
    intro u hu
    rw [clean_mk, walk_mk] at hu
    rcases List.mem_cons.1 hu with rfl | hu
    · rfl
    · have key : ∀ (l : List NT), (∀ v ∈ l, ∀ u ∈ v.clean.walk, u.at_ = 0) → u ∈ walkL (cleanL l) → u.at_ = 0 := by
        intro l
        induction l with
        | nil => intro _ h; simp [walkL, cleanL] at h
        | cons v r ihr =>
          intro h1 h2
          rw [cleanL, walkL] at h2
          rcases List.mem_append.1 h2 with h | h
          · exact h1 v (by simp) u h
          · exact ihr (fun w hw => h1 w (by simp [hw])) h
      exact key l ih hu
/-! ### what a node is -/
/-- a right name: what is cut into one name, and the end -/
def named (s : List UInt8) : Bool :=
  match lexA s with
  | (e, _, ts) => decide (e = 0) && (match ts with | [t, _] => decide (t.kind = 1) && decide (t.text = s) | _ => false)
def aloneN (n : Int) (s : List UInt8) : Bool := decide (n = 0) && s.isEmpty
mutual
def NT.typ : NT → Bool
  | .mk k _ n s l => if n ≠ 0 then false else if k = 4 then named s && l.isEmpty else if s ≠ [] then false else if k = 5 then typ1 l else decide (1 ≤ k) && decide (k ≤ 3) && l.isEmpty
def typ1 : List NT → Bool
  | [v] => v.typ
  | _ => false
end
theorem typ_mk (k a n : Int) (s : List UInt8) (l : List NT) : (NT.mk k a n s l).typ = if n ≠ 0 then false else if k = 4 then named s && l.isEmpty else if s ≠ [] then false else if k = 5 then typ1 l else decide (1 ≤ k) && decide (k ≤ 3) && l.isEmpty := by rw [NT.typ]
/-- an expression but for its kids -/
def exprHead (k n : Int) (s : List UInt8) (many : Nat) : Bool :=
  if k = 10 ∨ k = 11 then decide (many = 0) && s.isEmpty && decide (0 ≤ n) && (decide (k = 10) || decide (n ≤ 1))
  else if k = 15 then decide (many = 1) && s.isEmpty && (decide (n = 2) || decide (n = 14))
  else if k = 16 then decide (many = 2) && s.isEmpty && decide (0 < bindF n)
  else if k = 13 then decide (many = 2) && aloneN n s
  else if n ≠ 0 ∨ named s = false then false
  else (decide (k = 12) && decide (many = 0)) || (decide (k = 14) && decide (many = 1)) || decide (k = 17) || decide (k = 18)
mutual
def NT.expr : NT → Bool
  | .mk k _ n s l => if k = 19 then aloneN n s && newL l else exprL l && exprHead k n s l.length
def exprL : List NT → Bool
  | [] => true
  | v :: r => v.expr && exprL r
def newL : List NT → Bool
  | [] => false
  | v :: r => v.typ && exprL r
end
theorem expr_mk (k a n : Int) (s : List UInt8) (l : List NT) : (NT.mk k a n s l).expr = if k = 19 then aloneN n s && newL l else exprL l && exprHead k n s l.length := by rw [NT.expr]
theorem exprL_all : ∀ l : List NT, exprL l = l.all NT.expr
  | [] => by rw [exprL]; rfl
  | v :: r => by rw [exprL, List.all_cons, exprL_all r]
mutual
def NT.place : NT → Bool
  | .mk k a n s l => (NT.mk k a n s l).expr && (decide (k = 12) || ((decide (k = 13) || decide (k = 14)) && placeH l))
def placeH : List NT → Bool
  | [] => false
  | v :: _ => v.place
end
theorem place_mk (k a n : Int) (s : List UInt8) (l : List NT) : (NT.mk k a n s l).place = ((NT.mk k a n s l).expr && (decide (k = 12) || ((decide (k = 13) || decide (k = 14)) && placeH l))) := by rw [NT.place]
def expr1 : List NT → Bool
  | [v] => v.expr
  | _ => false
def do1 : List NT → Bool
  | [v] => decide (v.kind = 17) && v.expr
  | _ => false
def set2 : List NT → Bool
  | [u, v] => u.place && v.expr
  | _ => false
mutual
def NT.stmt : NT → Bool
  | .mk k _ n s l =>
    if k = 31 ∨ k = 36 then (if n ≠ 0 ∨ named s = false then false else (decide (k = 36) && l.isEmpty) || (decide (k = 31) && expr1 l))
    else if aloneN n s = false then false
    else if k = 30 then stmtL l
    else if k = 35 ∧ l.length = 0 then true
    else if k = 35 ∨ k = 37 then expr1 l
    else if k = 38 then do1 l
    else if k = 32 then set2 l
    else if k = 33 ∨ k = 34 then ifH (decide (k = 33)) l
    else false
def stmtL : List NT → Bool
  | [] => true
  | v :: r => v.stmt && stmtL r
def ifH : Bool → List NT → Bool
  | _, [] => false
  | b, u :: r => u.expr && ifL b r
/-- behind an If's or a While's expression: a Block, and perhaps, of an If, a Block or an If -/
def ifL : Bool → List NT → Bool
  | _, [] => false
  | _, [v] => decide (v.kind = 30) && v.stmt
  | b, v :: u :: [] => decide (v.kind = 30) && v.stmt && (b && ((decide (u.kind = 30) && u.stmt) || (decide (u.kind = 33) && u.stmt)))
  | _, _ :: _ :: _ :: _ => false
end
theorem stmt_mk (k a n : Int) (s : List UInt8) (l : List NT) : (NT.mk k a n s l).stmt = if k = 31 ∨ k = 36 then (if n ≠ 0 ∨ named s = false then false else (decide (k = 36) && l.isEmpty) || (decide (k = 31) && expr1 l)) else if aloneN n s = false then false else if k = 30 then stmtL l else if k = 35 ∧ l.length = 0 then true else if k = 35 ∨ k = 37 then expr1 l else if k = 38 then do1 l else if k = 32 then set2 l else if k = 33 ∨ k = 34 then ifH (decide (k = 33)) l else false := by rw [NT.stmt]
theorem stmtL_all : ∀ l : List NT, stmtL l = l.all NT.stmt
  | [] => by rw [stmtL]; rfl
  | v :: r => by rw [stmtL, List.all_cons, stmtL_all r]
def paramN (t : NT) : Bool := decide (t.kind = 50) && decide (t.num = 0) && named t.name && typ1 t.kids
def NT.blk (t : NT) : Bool := decide (t.kind = 30) && t.stmt
/-- a function's answer: a type, or nothing -/
def NT.answer (t : NT) : Bool := t.typ || (decide (t.kind = 0) && aloneN t.num t.name && t.kids.isEmpty)
def NT.decl (t : NT) : Bool :=
  if named t.name = false ∨ t.kids = [] then false
  else if t.kind = 52 then (decide (0 ≤ t.num) && (match t.kids with | [v] => v.typ | [v, u] => v.typ && (decide (u.kind = 12) && u.expr) | _ => false))
  else if t.num ≠ 0 then false
  else if t.kind = 51 then t.kids.all paramN
  else if t.kind = 54 then (match t.kids with | [a, b, c, d] => paramN a && paramN b && paramN c && d.blk | _ => false)
  else if t.kind = 53 then decide (2 ≤ t.kids.length) && (t.kids.take (t.kids.length - 2)).all paramN && (match t.kids.drop (t.kids.length - 2) with | [a, b] => a.answer && b.blk | _ => false)
  else false
def NT.prog (t : NT) : Bool :=
  decide (t.kind = 55) && aloneN t.num t.name && (match t.kids.getLast? with | some b => b.blk | none => false) && (t.kids.dropLast).all NT.decl
/-! ### no node is two things -/
theorem typ_kind {t : NT} (h : t.typ = true) : 1 ≤ t.kind ∧ t.kind ≤ 5 := by
  obtain ⟨k, a, n, s, l⟩ := t
  rw [typ_mk] at h
  show 1 ≤ k ∧ k ≤ 5
  by_cases h1 : n ≠ 0
  · rw [if_pos h1] at h; cases h
  · rw [if_neg h1] at h
    by_cases h2 : k = 4
    · omega
    · rw [if_neg h2] at h
      by_cases h3 : s ≠ []
      · rw [if_pos h3] at h; cases h
      · rw [if_neg h3] at h
        by_cases h4 : k = 5
        · omega
        · rw [if_neg h4] at h
          simp only [Bool.and_eq_true, decide_eq_true_eq] at h
          omega
theorem expr_kind {t : NT} (h : t.expr = true) : 10 ≤ t.kind ∧ t.kind ≤ 19 := by
  obtain ⟨k, a, n, s, l⟩ := t
  rw [expr_mk] at h
  show 10 ≤ k ∧ k ≤ 19
  by_cases h0 : k = 19
  · omega
  · rw [if_neg h0, Bool.and_eq_true] at h
    have h := h.2
    unfold exprHead at h
    by_cases h1 : k = 10 ∨ k = 11
    · omega
    · rw [if_neg h1] at h
      by_cases h2 : k = 15
      · omega
      · rw [if_neg h2] at h
        by_cases h3 : k = 16
        · omega
        · rw [if_neg h3] at h
          by_cases h4 : k = 13
          · omega
          · rw [if_neg h4] at h
            by_cases h5 : n ≠ 0 ∨ named s = false
            · rw [if_pos h5] at h; cases h
            · rw [if_neg h5] at h
              simp only [Bool.or_eq_true, Bool.and_eq_true, decide_eq_true_eq] at h
              omega
theorem stmt_kind {t : NT} (h : t.stmt = true) : 30 ≤ t.kind ∧ t.kind ≤ 38 := by
  obtain ⟨k, a, n, s, l⟩ := t
  rw [stmt_mk] at h
  show 30 ≤ k ∧ k ≤ 38
  by_cases h0 : k = 31 ∨ k = 36
  · omega
  · rw [if_neg h0] at h
    by_cases h1 : aloneN n s = false
    · rw [if_pos h1] at h; cases h
    · rw [if_neg h1] at h
      by_cases h2 : k = 30
      · omega
      · rw [if_neg h2] at h
        by_cases h3 : k = 35 ∧ l.length = 0
        · omega
        · rw [if_neg h3] at h
          by_cases h4 : k = 35 ∨ k = 37
          · omega
          · rw [if_neg h4] at h
            by_cases h5 : k = 38
            · omega
            · rw [if_neg h5] at h
              by_cases h6 : k = 32
              · omega
              · rw [if_neg h6] at h
                by_cases h7 : k = 33 ∨ k = 34
                · omega
                · rw [if_neg h7] at h; cases h
end Go.Proofs.YtgohkmdepjmpaaaDoor.nt

/- Nodes in memory: a slice that reads as a list of plain trees. -/
namespace Go.Proofs.YtgohkmdepjmpaaaDoor.nt
open Go.RowKit mem
open vt (I64 cells_add bcell)

mutual
/-- every number in a tree fits -/
def NT.fits : NT → Prop
  | .mk k a n _ l => (I64 k ∧ I64 a ∧ I64 n) ∧ fitsL l
def fitsL : List NT → Prop
  | [] => True
  | v :: r => v.fits ∧ fitsL r
end
theorem fits_mk (k a n : Int) (s : List UInt8) (l : List NT) : (NT.mk k a n s l).fits ↔ (I64 k ∧ I64 a ∧ I64 n) ∧ fitsL l := by rw [NT.fits]
theorem fitsL_of : ∀ {l : List NT}, (∀ u ∈ l, u.fits) → fitsL l
  | [], _ => by rw [fitsL]; trivial
  | v :: r, h => by rw [fitsL]; exact ⟨h v (by simp), fitsL_of fun u hu => h u (by simp [hu])⟩
theorem fitsL_mem : ∀ {l : List NT}, fitsL l → ∀ u ∈ l, u.fits
  | v :: r, h, u, hu => by
    rw [fitsL] at h
    rcases List.mem_cons.1 hu with rfl | hu
    · exact h.1
    · exact fitsL_mem h.2 u hu
/-- the cells of one node ahead of its kids -/
def headV (t : NT) (s : Value) : List Value := [.int .i64 t.kind, .int .i64 t.at_, .int .i64 t.num, .string ⟨t.name.toArray⟩, s]
def NV (t : NT) (s : Value) : Value := .agg #[.int .i64 t.kind, .int .i64 t.at_, .int .i64 t.num, .string ⟨t.name.toArray⟩, s]
mutual
/-- the kids of a node lie so: in blocks of which G holds -/
def NT.Has (G : Nat → Prop) (w : World) : NT → Value → Prop
  | .mk _ _ _ _ l, s => ∃ A cap, s = .slice A l.length cap ∧ (l.length ≤ 9223372036854775807 ∧ (A = none → cap = 0) ∧ l.length ≤ cap) ∧ (0 < l.length → ∃ b off, A = some ⟨b, off, none⟩ ∧ G b ∧ Row G w b l off)
def Row (G : Nat → Prop) (w : World) (b : Nat) : List NT → Nat → Prop
  | [], _ => True
  | v :: r, off => ((I64 v.kind ∧ I64 v.at_ ∧ I64 v.num ∧ v.name.length ≤ 281474976710656) ∧ w.cell? ⟨b, off, none⟩ = some (.int .i64 v.kind) ∧ w.cell? ⟨b, off + 1, none⟩ = some (.int .i64 v.at_) ∧ w.cell? ⟨b, off + 2, none⟩ = some (.int .i64 v.num) ∧ w.cell? ⟨b, off + 3, none⟩ = some (.string ⟨v.name.toArray⟩) ∧ ∃ s, w.cell? ⟨b, off + 4, none⟩ = some s ∧ v.Has G w s) ∧ Row G w b r (off + 5)
end
/-- a slice that reads as a list of nodes -/
def Kids (G : Nat → Prop) (w : World) (l : List NT) (s : Value) : Prop :=
  ∃ A cap, s = .slice A l.length cap ∧ (l.length ≤ 9223372036854775807 ∧ (A = none → cap = 0) ∧ l.length ≤ cap) ∧ (0 < l.length → ∃ b off, A = some ⟨b, off, none⟩ ∧ G b ∧ Row G w b l off)
theorem has_kids {G : Nat → Prop} {w : World} {t : NT} {s : Value} : t.Has G w s ↔ Kids G w t.kids s := by cases t; rw [NT.Has]; rfl
/-- what is known of a node beside its kids -/
def Hd (v : NT) : Prop := I64 v.kind ∧ I64 v.at_ ∧ I64 v.num ∧ v.name.length ≤ 281474976710656
/-- one node, in its five cells -/
def Cells (G : Nat → Prop) (w : World) (b off : Nat) (v : NT) : Prop :=
  Hd v ∧ w.cell? ⟨b, off, none⟩ = some (.int .i64 v.kind) ∧ w.cell? ⟨b, off + 1, none⟩ = some (.int .i64 v.at_) ∧ w.cell? ⟨b, off + 2, none⟩ = some (.int .i64 v.num) ∧ w.cell? ⟨b, off + 3, none⟩ = some (.string ⟨v.name.toArray⟩) ∧ ∃ s, w.cell? ⟨b, off + 4, none⟩ = some s ∧ Kids G w v.kids s
theorem row_cons {G : Nat → Prop} {w : World} {b off : Nat} {v : NT} {r : List NT} : Row G w b (v :: r) off ↔ Cells G w b off v ∧ Row G w b r (off + 5) := by
  rw [Row]; unfold Cells Hd; simp only [has_kids]
theorem row_append {G : Nat → Prop} {w : World} {b : Nat} : ∀ {a r : List NT} {off : Nat}, Row G w b (a ++ r) off ↔ Row G w b a off ∧ Row G w b r (off + a.length * 5)
  | [], r, off => by simp [Row]
  | v :: a, r, off => by
    rw [List.cons_append, row_cons, row_cons, row_append, List.length_cons, show off + 5 + a.length * 5 = off + (a.length + 1) * 5 by omega, and_assoc]
theorem row_at {G : Nat → Prop} {w : World} {b : Nat} : ∀ {l : List NT} {off : Nat}, Row G w b l off → ∀ (k : Nat) (hk : k < l.length), Cells G w b (off + k * 5) l[k]
  | v :: r, off, h, 0, _ => by rw [row_cons] at h; simpa using h.1
  | v :: r, off, h, k + 1, hk => by
    rw [row_cons] at h
    have := row_at h.2 k (by simpa using hk)
    rw [show off + 5 + k * 5 = off + (k + 1) * 5 by omega] at this
    simpa using this
theorem row_of {G : Nat → Prop} {w : World} {b : Nat} : ∀ {l : List NT} {off : Nat}, (∀ (k : Nat) (hk : k < l.length), Cells G w b (off + k * 5) l[k]) → Row G w b l off
  | [], _, _ => by rw [Row]; trivial
  | v :: r, off, h => by
    rw [row_cons]
    refine ⟨h 0 (by simp), row_of fun k hk => ?_⟩
    have := h (k + 1) (by simpa using hk)
    rw [show off + (k + 1) * 5 = off + 5 + k * 5 by omega] at this
    simpa using this
theorem Kids.at_ {G : Nat → Prop} {w : World} {l : List NT} {s : Value} (h : Kids G w l s) (k : Nat) (hk : k < l.length) :
    ∃ b off cap, s = .slice (some ⟨b, off, none⟩) l.length cap ∧ G b ∧ Cells G w b (off + k * 5) l[k] := by
  obtain ⟨A, cap, hs, _, h⟩ := h
  obtain ⟨b, off, rfl, hb, h⟩ := h (by omega)
  exact ⟨b, off, cap, hs, hb, row_at h k hk⟩
theorem Kids.form {G : Nat → Prop} {w : World} {l : List NT} {s : Value} (h : Kids G w l s) : ∃ A cap, s = .slice A l.length cap ∧ l.length ≤ 9223372036854775807 := by
  obtain ⟨A, cap, hs, hl, _⟩ := h
  exact ⟨A, cap, hs, hl.1⟩
theorem Kids.nil_ (G : Nat → Prop) (w : World) : Kids G w [] (.slice none 0 0) := ⟨none, 0, rfl, ⟨by simp, fun _ => rfl, by simp⟩, fun h => absurd h (by simp)⟩

/-- from world to world, from blocks to blocks -/
theorem kids_carry {G G' : Nat → Prop} {w w' : World} (hc : ∀ b o v, G b → w.cell? ⟨b, o, none⟩ = some v → G' b ∧ w'.cell? ⟨b, o, none⟩ = some v) : ∀ (t : NT) (s : Value), Kids G w t.kids s → Kids G' w' t.kids s := by
  intro t
  induction t using NT.ind with
  | h k a n nm l ih =>
    intro s h
    obtain ⟨A, cap, hs, hl, h⟩ := h
    refine ⟨A, cap, hs, hl, fun h0 => ?_⟩
    obtain ⟨b, off, hA, hb, h⟩ := h h0
    have hcell : ∀ (k : Nat) (hk : k < l.length), G' b ∧ Cells G' w' b (off + k * 5) l[k] := by
      intro k hk
      obtain ⟨i1, c0, c1, c2, c3, s', c4, h3⟩ := row_at h k hk
      exact ⟨(hc _ _ _ hb c1).1, i1, (hc _ _ _ hb c0).2, (hc _ _ _ hb c1).2, (hc _ _ _ hb c2).2, (hc _ _ _ hb c3).2, s', (hc _ _ _ hb c4).2, ih _ (List.getElem_mem hk) s' h3⟩
    exact ⟨b, off, hA, (hcell 0 h0).1, row_of fun k hk => (hcell k hk).2⟩
theorem Kids.carry {G G' : Nat → Prop} {w w' : World} {l : List NT} {s : Value} (h : Kids G w l s) (hc : ∀ b o v, G b → w.cell? ⟨b, o, none⟩ = some v → G' b ∧ w'.cell? ⟨b, o, none⟩ = some v) : Kids G' w' l s :=
  kids_carry hc (.mk 0 0 0 [] l) s h
theorem Kids.mono {G G' : Nat → Prop} {w : World} {l : List NT} {s : Value} (h : Kids G w l s) (hg : ∀ b, G b → G' b) : Kids G' w l s := h.carry fun b _ _ hb hc => ⟨hg b hb, hc⟩
theorem Kids.keep {G : Nat → Prop} {w w' : World} {l : List NT} {s : Value} (h : Kids G w l s) (hk : ∀ b o, G b → b < w.heap.size → w'.cell? ⟨b, o, none⟩ = w.cell? ⟨b, o, none⟩) : Kids G w' l s :=
  h.carry fun b o _ hb hc => ⟨hb, (hk b o hb (World.block_lt_of_cell? _ _ hc)).trans hc⟩
theorem Kids.below {G : Nat → Prop} {w w' : World} {l : List NT} {s : Value} (h : Kids G w l s) (hb : Below w.heap.size w w') : Kids G w' l s :=
  h.keep fun b' o _ hlt => hb.cell (p := ⟨b', o, none⟩) hlt
theorem Kids.lt {G : Nat → Prop} {w : World} {l : List NT} {s : Value} (h : Kids G w l s) : Kids (fun b => G b ∧ b < w.heap.size) w l s :=
  h.carry fun _ _ _ hb hc => ⟨⟨hb, World.block_lt_of_cell? _ _ hc⟩, hc⟩
theorem Kids.drewN {G : Nat → Prop} {w : World} {l : List NT} {s : Value} (h : Kids G w l s) (q : Nat) : Kids G (w.drewN q) l s := h.keep fun _ _ _ _ => rfl
/-- one of the kids, told by a world behind -/
theorem Kids.kid {G : Nat → Prop} {w wr : World} {l : List NT} {s : Value} (h : Kids G w l s) (hb : Below w.heap.size w wr) (k : Nat) (hk : k < l.length) :
    ∃ b off cap s', s = .slice (some ⟨b, off, none⟩) l.length cap ∧ b < wr.heap.size ∧ Hd l[k] ∧ wr.cell? ⟨b, off + k * 5, none⟩ = some (.int .i64 l[k].kind) ∧ wr.cell? ⟨b, off + k * 5 + 1, none⟩ = some (.int .i64 l[k].at_) ∧ wr.cell? ⟨b, off + k * 5 + 2, none⟩ = some (.int .i64 l[k].num) ∧ wr.cell? ⟨b, off + k * 5 + 3, none⟩ = some (.string ⟨l[k].name.toArray⟩) ∧ wr.cell? ⟨b, off + k * 5 + 4, none⟩ = some s' ∧ Kids G wr l[k].kids s' := by
  obtain ⟨b, off, cap, hs, hG, i1, c0, c1, c2, c3, s', c4, h3⟩ := (h.below hb).at_ k hk
  exact ⟨b, off, cap, s', hs, World.block_lt_of_cell? _ _ c1, i1, c0, c1, c2, c3, c4, h3⟩
theorem Kids.head {G : Nat → Prop} {w : World} {l : List NT} {s : Value} (h : Kids G w l s) : ∀ u ∈ l, Hd u := by
  intro u hu
  obtain ⟨i, hi, rfl⟩ := List.getElem_of_mem hu
  obtain ⟨_, _, _, _, _, i1, _⟩ := Kids.at_ h i hi
  exact i1
theorem kids_fits {G : Nat → Prop} {w : World} : ∀ (t : NT) (s : Value), Kids G w t.kids s → fitsL t.kids := by
  intro t
  induction t using NT.ind with
  | h k a n nm l ih =>
    intro s h
    refine fitsL_of fun u hu => ?_
    obtain ⟨i, hi, rfl⟩ := List.getElem_of_mem hu
    obtain ⟨b, off, cap, hs, hb, i1, c0, c1, c2, c3, s', c4, h3⟩ := Kids.at_ h i hi
    have := ih _ hu s' h3
    rw [NT.eta (NT.mk k a n nm l).kids[i], fits_mk]
    exact ⟨⟨i1.1, i1.2.1, i1.2.2.1⟩, this⟩
theorem sizeN (w : World) : (sizeOf (Tryd.prog.elem 27)).run Tryd.prog w = .ok 5 w := by kernel_rfl
theorem elemN : Tryd.prog.underlying 27 = some (.slice (Tryd.prog.elem 27)) := by kernel_rfl
theorem slice_from (n D : Nat) (hn : n ≤ D) (A : Option Addr) (c : Nat) (w : World) :
    (Instr.slice 27 (.slice A D c) (some (.int .i64 n)) none none).run Tryd.prog w = .ok (sliced A n D c 5) w := by
  have h := run_slice_l (P := Tryd.prog) (w := w) 27 A D c elemN .i64 (n : Int) (by omega) (by omega)
  rw [h, sizeN, Int.toNat_natCast]
  rfl
theorem sliced_form (A : Option Addr) (n D c : Nat) : ∃ A' c', sliced A n D c 5 = .slice A' (D - n) c' := ⟨_, _, rfl⟩
/-- a tail of the kids: what a slice from the k-th on reads as -/
theorem Kids.drop {G : Nat → Prop} {w : World} {l : List NT} {A : Option Addr} {n cap : Nat} (h : Kids G w l (.slice A n cap)) (k : Nat) (hk : k ≤ l.length) : Kids G w (l.drop k) (sliced A k n cap 5) := by
  obtain ⟨A', cap', hs, hl, h⟩ := h
  injection hs with h1 h2 h3
  subst h1; subst h3; subst h2
  unfold sliced
  refine ⟨_, _, by rw [List.length_drop], ⟨by rw [List.length_drop]; omega, fun hA => ?_, by rw [List.length_drop]; omega⟩, fun h0 => ?_⟩
  · cases A with
    | none => have := hl.2.1 rfl; omega
    | some a => split at hA <;> cases hA
  · rw [List.length_drop] at h0
    obtain ⟨b, off, rfl, hb, h⟩ := h (by omega)
    refine ⟨b, off + k * 5, ?_, hb, row_of fun j hj => ?_⟩
    · rw [if_neg (by omega)]
      show some ((⟨b, off, none⟩ : Addr).add (k * 5)) = _
      rw [cells_add]
    · rw [List.length_drop] at hj
      have := row_at h (k + j) (by omega)
      rw [List.getElem_drop, show off + k * 5 + j * 5 = off + (k + j) * 5 by omega]
      exact this
end Go.Proofs.YtgohkmdepjmpaaaDoor.nt

/- The document's own right names. -/
namespace Go.Proofs.YtgohkmdepjmpaaaDoor.nt
open Go.RowKit mem wd lx
open vt (I64 own_form)

theorem rlallA_any (s : ByteArray) (w : World) (hs : s.size ≤ 9223372036854775807) : Calls Tryd.prog 7 #[.string s] w fun e w' => ∃ A c, e = .returned (.tuple #[.slice A (lexA s.data.toList).2.2.length c, .int .i64 (lexA s.data.toList).2.1, .int .i64 (lexA s.data.toList).1]) ∧ TokS w'.heap.size w' (lexA s.data.toList).2.2 (.slice A (lexA s.data.toList).2.2.length c) ∧ Below w.heap.size w w' := by
  have hl : s.data.toList.length = s.size := by simp
  by_cases h : s.size ≤ 16384
  · rw [lexA_in (by omega)]
    refine (rlall_any s w h).mono ?_
    rintro e w' ⟨v, h1, h2⟩
    obtain ⟨A, c, rfl⟩ := own_form h2.1
    exact ⟨A, c, h1, TokS.of_got h2, h2.2⟩
  · rw [lexA_out (by omega)]
    have h2 : 16384 < (s.size : Int) := by omega
    have HF : Hid (∃ A c, (Ending.returned (.tuple #[.slice none 0 0, .int .i64 16384, .int .i64 3])) = .returned (.tuple #[.slice A 0 c, .int .i64 (16384 : Nat), .int .i64 3]) ∧ TokS w.heap.size w [] (.slice A 0 c) ∧ Below w.heap.size w w) := Lib.hid ⟨none, 0, rfl, Sees.none_ _ _ _, Below.refl _ _⟩
    go_enter Tryd.func7, Tryd.ntmps7
    go_wp2_with (fail)
    go_ret3
    exact HF.out
theorem list_of3 (s : List UInt8) : (⟨s.toArray⟩ : ByteArray).data.toList = s := rfl
/-- one right name, told by its tokens -/
theorem named_bad {s : List UInt8} {e : Int} {p : Nat} {ts : List Tok} (h : lexA s = (e, p, ts)) (he : e ≠ 0 ∨ ts.length ≠ 2) : named s = false := by
  unfold named
  rw [h]
  rcases he with he | he
  · simp [he]
  · match ts, he with
    | [], _ => simp
    | [_], _ => simp
    | [_, _], he => simp at he
    | _ :: _ :: _ :: _, _ => simp
theorem named_two {s : List UInt8} {p : Nat} {t u : Tok} (h : lexA s = (0, p, [t, u])) : named s = (decide (t.kind = 1) && decide (t.text = s)) := by
  unfold named; rw [h]; simp
set_option maxHeartbeats 400000 in
theorem rnamed_any (s : List UInt8) (w : World) (hs : s.length ≤ 281474976710656) : Calls Tryd.prog 24 #[.string ⟨s.toArray⟩] w fun e w' => e = .returned (.bool (named s)) ∧ Below w.heap.size w w' := by
  have HA := Lib.hid (rlallA_any ⟨s.toArray⟩ w (by show s.length ≤ _; omega))
  obtain ⟨⟨er, p, ts⟩, hr⟩ : ∃ r, r = lexA s := ⟨_, rfl⟩
  rw [list_of3, ← hr] at HA
  simp only at HA
  by_cases h0 : er = 0
  · subst h0
    by_cases h2 : ts.length = 2
    · match ts, h2 with
      | [t, u], _ =>
        have HN := Lib.hid (named_two hr.symm)
        clear hr
        simp only [List.length_cons, List.length_nil, Nat.zero_add, Nat.reduceAdd] at HA
        by_cases h3 : t.kind = 1
        · by_cases h4 : t.text = s
          · have e4 : (t.text == s) = true := beq_iff_eq.2 h4
            have HR : Hid (named s = true) := Lib.hid (by rw [HN.out]; simp [h3, h4])
            have e3 : (t.kind == 1) = true := beq_iff_eq.2 h3
            have HT := Lib.hid h4
            clear h4 h3 HN
            go_enter Tryd.func24, Tryd.ntmps24
            go_wp2_with (fail)
            refine HA.out.mono ?_
            rintro e w1 ⟨A, c, rfl, ht, hb⟩
            obtain ⟨b, off, rfl, _, hc⟩ := TokS.cells ht (Nat.zero_lt_succ _)
            obtain ⟨x0, _, _, x3⟩ := hc 0 (Nat.zero_lt_succ _)
            change w1.cell? ⟨b, off + 0, none⟩ = some (.int .i64 t.kind) at x0
            change w1.cell? ⟨b, off + 0 + 3, none⟩ = some (.string ⟨t.text.toArray⟩) at x3
            rw [Nat.add_zero] at x0 x3
            have HB := Lib.hid hb
            clear ht hb hc HA
            go_wp2_with (fail)
            go_ret
            exact ⟨by rw [HR.out]; rfl, HB.out⟩
          · have e4 : (t.text == s) = false := beq_eq_false_iff_ne.2 h4
            have HR : Hid (named s = false) := Lib.hid (by rw [HN.out]; simp [h4])
            have e3 : (t.kind == 1) = true := beq_iff_eq.2 h3
            clear h4 h3 HN
            go_enter Tryd.func24, Tryd.ntmps24
            go_wp2_with (fail)
            refine HA.out.mono ?_
            rintro e w1 ⟨A, c, rfl, ht, hb⟩
            obtain ⟨b, off, rfl, _, hc⟩ := TokS.cells ht (Nat.zero_lt_succ _)
            obtain ⟨x0, _, _, x3⟩ := hc 0 (Nat.zero_lt_succ _)
            change w1.cell? ⟨b, off + 0, none⟩ = some (.int .i64 t.kind) at x0
            change w1.cell? ⟨b, off + 0 + 3, none⟩ = some (.string ⟨t.text.toArray⟩) at x3
            rw [Nat.add_zero] at x0 x3
            have HB := Lib.hid hb
            clear ht hb hc HA
            go_wp2_with (fail)
            go_ret
            exact ⟨by rw [HR.out]; rfl, HB.out⟩
        · have e3 : (t.kind == 1) = false := beq_eq_false_iff_ne.2 h3
          have HR : Hid (named s = false) := Lib.hid (by rw [HN.out]; simp [h3])
          clear h3 HN
          go_enter Tryd.func24, Tryd.ntmps24
          go_wp2_with (fail)
          refine HA.out.mono ?_
          rintro e w1 ⟨A, c, rfl, ht, hb⟩
          obtain ⟨b, off, rfl, _, hc⟩ := TokS.cells ht (Nat.zero_lt_succ _)
          obtain ⟨x0, _, _, x3⟩ := hc 0 (Nat.zero_lt_succ _)
          change w1.cell? ⟨b, off + 0, none⟩ = some (.int .i64 t.kind) at x0
          rw [Nat.add_zero] at x0
          have HB := Lib.hid hb
          clear ht hb hc HA x3
          go_wp2_with (fail)
          go_ret
          exact ⟨by rw [HR.out]; rfl, HB.out⟩
    · have HR := Lib.hid (named_bad hr.symm (Or.inr h2))
      have e2 : ((ts.length : Int) == 2) = false := beq_eq_false_iff_ne.2 (by omega)
      clear hr h2
      go_enter Tryd.func24, Tryd.ntmps24
      go_wp2_with (fail)
      refine HA.out.mono ?_
      rintro e w1 ⟨A, c, rfl, ht, hb⟩
      have HB := Lib.hid hb
      clear ht hb HA
      go_wp2_with (fail)
      go_ret
      exact ⟨by rw [HR.out]; rfl, HB.out⟩
  · have HR := Lib.hid (named_bad hr.symm (Or.inl h0))
    have e0 : (er == 0) = false := beq_eq_false_iff_ne.2 h0
    clear hr h0
    go_enter Tryd.func24, Tryd.ntmps24
    go_wp2_with (fail)
    refine HA.out.mono ?_
    rintro e w1 ⟨A, c, rfl, ht, hb⟩
    have HB := Lib.hid hb
    clear ht hb HA
    go_wp2_with (fail)
    go_ret
    exact ⟨by rw [HR.out]; rfl, HB.out⟩
end Go.Proofs.YtgohkmdepjmpaaaDoor.nt

/- The document's own answers: which nodes are types, expressions. -/
namespace Go.Proofs.YtgohkmdepjmpaaaDoor.nt
open Go.RowKit mem wd lx
open vt (I64 own_form)

/-- a function that tells a Bool of a node -/
def IsOf (G : Nat → Prop) (F : FuncId) (f : NT → Bool) (t : NT) : Prop := Hd t → ∀ (s : Value) (w : World), Kids G w t.kids s →
    Calls Tryd.prog F #[.agg #[.int .i64 t.kind, .int .i64 t.at_, .int .i64 t.num, .string ⟨t.name.toArray⟩, s]] w fun e w' => e = .returned (.bool (f t)) ∧ Below w.heap.size w w'
abbrev NodeT : TypeId := 29
/-- what is known behind the box of an argument -/
theorem boxed {w W : World} {H : Nat} {k a n : Int} {s : List UInt8} {v : Value} (hH : H = w.heap.size) (hW : W = w.alloc (.cells #[.int .i64 k, .int .i64 a, .int .i64 n, .string ⟨s.toArray⟩, v] NodeT)) :
    (W.cell? ⟨H, 0, none⟩ = some (.int .i64 k) ∧ W.cell? ⟨H, 1, none⟩ = some (.int .i64 a) ∧ W.cell? ⟨H, 2, none⟩ = some (.int .i64 n) ∧ W.cell? ⟨H, 3, none⟩ = some (.string ⟨s.toArray⟩) ∧ W.cell? ⟨H, 4, none⟩ = some v) ∧ Hid (Below w.heap.size w W) ∧ Hid (H < W.heap.size) := by
  have hb : Box W H NodeT #[.int .i64 k, .int .i64 a, .int .i64 n, .string ⟨s.toArray⟩, v] := by rw [hW]; exact Box.new _ _ _ _ hH
  refine ⟨⟨hb.cell 0, hb.cell 1, hb.cell 2, hb.cell 3, hb.cell 4⟩, Lib.hid ?_, Lib.hid hb.lt⟩
  rw [hW]; exact (Below.refl _ _).alloc (Nat.le_refl _) _
/-- the same cells behind more -/
theorem boxed_on {W w' : World} {H : Nat} {x0 x1 x2 x3 x4 : Value} (h : W.cell? ⟨H, 0, none⟩ = some x0 ∧ W.cell? ⟨H, 1, none⟩ = some x1 ∧ W.cell? ⟨H, 2, none⟩ = some x2 ∧ W.cell? ⟨H, 3, none⟩ = some x3 ∧ W.cell? ⟨H, 4, none⟩ = some x4) (hH : H < W.heap.size) (hb : Below W.heap.size W w') :
    w'.cell? ⟨H, 0, none⟩ = some x0 ∧ w'.cell? ⟨H, 1, none⟩ = some x1 ∧ w'.cell? ⟨H, 2, none⟩ = some x2 ∧ w'.cell? ⟨H, 3, none⟩ = some x3 ∧ w'.cell? ⟨H, 4, none⟩ = some x4 :=
  ⟨(hb.cell (p := ⟨H, 0, none⟩) hH).trans h.1, (hb.cell (p := ⟨H, 1, none⟩) hH).trans h.2.1, (hb.cell (p := ⟨H, 2, none⟩) hH).trans h.2.2.1, (hb.cell (p := ⟨H, 3, none⟩) hH).trans h.2.2.2.1, (hb.cell (p := ⟨H, 4, none⟩) hH).trans h.2.2.2.2⟩
theorem typ1_no {l : List NT} (h : l.length ≠ 1) : typ1 l = false := by
  match l, h with
  | [], _ => rw [typ1]; intro v hv; cases hv
  | [_], h => simp at h
  | _ :: _ :: _, _ => rw [typ1]; intro v hv; cases hv
theorem typ1_one (v : NT) : typ1 [v] = v.typ := by rw [typ1]
set_option maxHeartbeats 1000000 in
theorem rtyp_any {G : Nat → Prop} (t : NT) : IsOf G 14 NT.typ t := by
  induction t using NT.ind with
  | h k a n nm l ih =>
    intro hd s w h
    obtain ⟨_, _, _, hnm⟩ := hd
    change nm.length ≤ _ at hnm
    change Kids G w l s at h
    obtain ⟨A, cap, rfl, hl⟩ := h.form
    show Calls Tryd.prog 14 #[.agg #[.int .i64 k, .int .i64 a, .int .i64 n, .string ⟨nm.toArray⟩, .slice A l.length cap]] w fun e w' => e = .returned (.bool (NT.mk k a n nm l).typ) ∧ Below w.heap.size w w'
    have HT := Lib.hid (typ_mk k a n nm l)
    obtain ⟨H, hH⟩ : ∃ H, H = w.heap.size := ⟨_, rfl⟩
    obtain ⟨W, hW⟩ : ∃ W, W = w.alloc (.cells #[.int .i64 k, .int .i64 a, .int .i64 n, .string ⟨nm.toArray⟩, .slice A l.length cap] NodeT) := ⟨_, rfl⟩
    obtain ⟨⟨x0, x1, x2, x3, x4⟩, HB, HHW⟩ := boxed hH hW
    have HX := Lib.hid (And.intro x0 (And.intro x1 (And.intro x2 (And.intro x3 x4))))
    have HN := Lib.hid (rnamed_any nm W hnm)
    have HK : Hid (∀ w', Below W.heap.size W w' → Kids G w' l (.slice A l.length cap)) := Lib.hid fun w' hb => (h.below HB.out).below hb
    have IH := Lib.hid ih
    obtain ⟨N, hN⟩ : ∃ N, N = l.length := ⟨_, rfl⟩
    rw [← hN] at hl x4 hW HX HK ⊢
    have HW := Lib.hid hW
    have HHH := Lib.hid hH
    have HNN := Lib.hid hN
    clear h ih hN hW hH
    by_cases c1 : n ≠ 0
    · have e1 : (n == 0) = false := beq_eq_false_iff_ne.2 c1
      have HR : Hid ((NT.mk k a n nm l).typ = false) := Lib.hid (by rw [HT.out, if_pos c1])
      clear c1 HT
      go_enter Tryd.func14, Tryd.ntmps14
      go_wp2_with (first | (rw [← HW.out, ← HHH.out]))
      go_ret
      exact ⟨by rw [HR.out]; rfl, HB.out⟩
    · have c1 : n = 0 := by simpa using c1
      subst c1
      by_cases c2 : k = 4
      · subst c2
        have HR : Hid ((NT.mk 4 a 0 nm l).typ = (named nm && l.isEmpty)) := Lib.hid (by rw [HT.out]; simp)
        clear HT
        obtain ⟨B, hB⟩ : ∃ B, B = named nm := ⟨_, rfl⟩
        rw [← hB] at HN HR
        clear hB
        cases B
        · have HR : Hid ((NT.mk 4 a 0 nm l).typ = false) := Lib.hid (by rw [HR.out]; simp)
          go_enter Tryd.func14, Tryd.ntmps14
          go_wp2_with (first | (rw [← HW.out, ← HHH.out]))
          refine HN.out.mono ?_
          rintro e w1 ⟨rfl, hb1⟩
          have HB1 := Lib.hid (HB.out.trans (hb1.mono HB.out.size))
          clear hb1
          go_wp2_with (fail)
          go_ret
          exact ⟨by rw [HR.out]; rfl, HB1.out⟩
        · by_cases c3 : N = 0
          · have HR : Hid ((NT.mk 4 a 0 nm l).typ = true) := Lib.hid (by rw [HR.out, List.eq_nil_of_length_eq_zero (l := l) (by rw [← HNN.out]; exact c3)]; rfl)
            subst c3
            go_enter Tryd.func14, Tryd.ntmps14
            go_wp2_with (first | (rw [← HW.out, ← HHH.out]))
            refine HN.out.mono ?_
            rintro e w1 ⟨rfl, hb1⟩
            obtain ⟨y0, y1, y2, y3, y4⟩ := boxed_on HX.out HHW.out hb1
            have HB1 := Lib.hid (HB.out.trans (hb1.mono HB.out.size))
            clear hb1
            go_wp2_with (fail)
            go_ret
            exact ⟨by rw [HR.out]; rfl, HB1.out⟩
          · have HR : Hid ((NT.mk 4 a 0 nm l).typ = false) := Lib.hid (by
                rw [HR.out]
                cases hl0 : l with
                | nil => exact absurd (by rw [HNN.out, hl0]; rfl) c3
                | cons _ _ => rfl)
            have e3 : ((N : Int) == 0) = false := beq_eq_false_iff_ne.2 (by omega)
            go_enter Tryd.func14, Tryd.ntmps14
            go_wp2_with (first | (rw [← HW.out, ← HHH.out]))
            refine HN.out.mono ?_
            rintro e w1 ⟨rfl, hb1⟩
            obtain ⟨y0, y1, y2, y3, y4⟩ := boxed_on HX.out HHW.out hb1
            have HB1 := Lib.hid (HB.out.trans (hb1.mono HB.out.size))
            clear hb1
            go_wp2_with (fail)
            go_ret
            exact ⟨by rw [HR.out]; rfl, HB1.out⟩
      · have e2 : (k == 4) = false := beq_eq_false_iff_ne.2 c2
        by_cases c3 : nm ≠ []
        · have e3 : nm.isEmpty = false := by rw [List.isEmpty_eq_false_iff]; exact c3
          have HR : Hid ((NT.mk k a 0 nm l).typ = false) := Lib.hid (by rw [HT.out]; simp [c2, c3])
          clear HT c3 c2
          go_enter Tryd.func14, Tryd.ntmps14
          go_wp2_with (first | (rw [← HW.out, ← HHH.out]))
          go_ret
          exact ⟨by rw [HR.out]; rfl, HB.out⟩
        · have c3 : nm = [] := by simpa using c3
          subst c3
          by_cases c4 : k = 5
          · subst c4
            have HR : Hid ((NT.mk 5 a 0 [] l).typ = typ1 l) := Lib.hid (by rw [HT.out]; simp)
            clear HT
            by_cases c5 : N = 1
            · subst c5
              have hl0 : 0 < l.length := by rw [← HNN.out]; decide
              obtain ⟨b, off, cap2, s2, hs2, _, hd2, z0, z1, z2, z3, z4, hk2⟩ := (HK.out W (Below.refl _ _)).kid (Below.refl _ _) 0 hl0
              injection hs2 with hs2 hln hs3
              subst hs2
              subst hs3
              clear hln
              rw [Nat.zero_mul, Nat.add_zero] at z0 z1 z2 z3 z4
              have HI := Lib.hid (IH.out l[0] (List.getElem_mem hl0) hd2 s2 W hk2)
              obtain ⟨u, hu⟩ : ∃ u, u = l[0] := ⟨_, rfl⟩
              have HR2 : Hid ((NT.mk 5 a 0 [] l).typ = u.typ) := Lib.hid (by
                  rw [HR.out]
                  obtain ⟨v, hv⟩ : ∃ v, l = [v] := List.length_eq_one_iff.1 HNN.out.symm
                  subst hv
                  rw [typ1_one, hu]; rfl)
              rw [← hu] at z0 z1 z2 z3 HI hk2
              obtain ⟨A2, c2, rfl, _⟩ := hk2.form
              obtain ⟨M, hM⟩ : ∃ M, M = u.kids.length := ⟨_, rfl⟩
              rw [← hM] at z4 HI hk2
              clear hM
              obtain ⟨uk, ua, un, us, ul⟩ := u
              simp only [NT.kind, NT.at_, NT.num, NT.name] at z0 z1 z2 z3 z4 HI
              obtain ⟨B, hB⟩ : ∃ B, B = (NT.mk uk ua un us ul).typ := ⟨_, rfl⟩
              rw [← hB] at HR2 HI
              clear hu hB hk2 HR
              go_enter Tryd.func14, Tryd.ntmps14
              go_wp2_with (first | (rw [← HW.out, ← HHH.out]))
              refine HI.out.mono ?_
              rintro e w1 ⟨rfl, hb1⟩
              have HB1 := Lib.hid (HB.out.trans (hb1.mono HB.out.size))
              clear hb1
              go_wp2_with (fail)
              go_ret
              exact ⟨by rw [HR2.out]; rfl, HB1.out⟩
            · have HR2 : Hid ((NT.mk 5 a 0 [] l).typ = false) := Lib.hid (by rw [HR.out, typ1_no (by rw [← HNN.out]; exact c5)])
              have e5 : ((N : Int) == 1) = false := beq_eq_false_iff_ne.2 (by omega)
              go_enter Tryd.func14, Tryd.ntmps14
              go_wp2_with (first | (rw [← HW.out, ← HHH.out]))
              go_ret
              exact ⟨by rw [HR2.out]; rfl, HB.out⟩
          · have e4 : (k == 5) = false := beq_eq_false_iff_ne.2 c4
            have HR : Hid ((NT.mk k a 0 [] l).typ = (decide (1 ≤ k) && decide (k ≤ 3) && l.isEmpty)) := Lib.hid (by rw [HT.out]; simp [c2, c4])
            clear HT c4 c2
            by_cases c6 : k < 1
            · have d6 : decide (1 ≤ k) = false := decide_eq_false (by omega)
              have HR2 : Hid ((NT.mk k a 0 [] l).typ = false) := Lib.hid (by rw [HR.out, d6]; simp)
              go_enter Tryd.func14, Tryd.ntmps14
              go_wp2_with (first | (rw [← HW.out, ← HHH.out]))
              go_ret
              exact ⟨by rw [HR2.out]; rfl, HB.out⟩
            by_cases c7 : 3 < k
            · have d7 : decide (k ≤ 3) = false := decide_eq_false (by omega)
              have d6 : 1 ≤ k := by omega
              have HR2 : Hid ((NT.mk k a 0 [] l).typ = false) := Lib.hid (by rw [HR.out, d7]; simp)
              go_enter Tryd.func14, Tryd.ntmps14
              go_wp2_with (first | (rw [← HW.out, ← HHH.out]))
              go_ret
              exact ⟨by rw [HR2.out]; rfl, HB.out⟩
            have d6 : 1 ≤ k := by omega
            have d7 : k ≤ 3 := by omega
            by_cases c8 : N = 0
            · subst c8
              have HR2 : Hid ((NT.mk k a 0 [] l).typ = true) := Lib.hid (by rw [HR.out, List.eq_nil_of_length_eq_zero HNN.out.symm, decide_eq_true d6, decide_eq_true d7]; rfl)
              go_enter Tryd.func14, Tryd.ntmps14
              go_wp2_with (first | (rw [← HW.out, ← HHH.out]))
              go_ret
              exact ⟨by rw [HR2.out]; rfl, HB.out⟩
            · have e8 : ((N : Int) == 0) = false := beq_eq_false_iff_ne.2 (by omega)
              have HR2 : Hid ((NT.mk k a 0 [] l).typ = false) := Lib.hid (by
                  rw [HR.out]
                  cases hl0 : l with
                  | nil => exact absurd (by rw [HNN.out, hl0]; rfl) c8
                  | cons _ _ => simp)
              go_enter Tryd.func14, Tryd.ntmps14
              go_wp2_with (first | (rw [← HW.out, ← HHH.out]))
              go_ret
              exact ⟨by rw [HR2.out]; rfl, HB.out⟩
end Go.Proofs.YtgohkmdepjmpaaaDoor.nt

/- The document's own answers: nodes that are alone, lists of expressions. -/
namespace Go.Proofs.YtgohkmdepjmpaaaDoor.nt
open Go.RowKit mem wd lx
open vt (I64 own_form)

theorem ralone_any (t : NT) (s : Value) (w : World) : Calls Tryd.prog 21 #[.agg #[.int .i64 t.kind, .int .i64 t.at_, .int .i64 t.num, .string ⟨t.name.toArray⟩, s]] w fun e w' => e = .returned (.bool (aloneN t.num t.name)) ∧ Below w.heap.size w w' := by
  obtain ⟨k, a, n, nm, l⟩ := t
  show Calls Tryd.prog 21 #[.agg #[.int .i64 k, .int .i64 a, .int .i64 n, .string ⟨nm.toArray⟩, s]] w fun e w' => e = .returned (.bool (aloneN n nm)) ∧ Below w.heap.size w w'
  obtain ⟨H, hH⟩ : ∃ H, H = w.heap.size := ⟨_, rfl⟩
  obtain ⟨W, hW⟩ : ∃ W, W = w.alloc (.cells #[.int .i64 k, .int .i64 a, .int .i64 n, .string ⟨nm.toArray⟩, s] NodeT) := ⟨_, rfl⟩
  obtain ⟨⟨x0, x1, x2, x3, x4⟩, HB, HHW⟩ := boxed hH hW
  have HW := Lib.hid hW
  have HHH := Lib.hid hH
  clear hW hH
  by_cases c1 : n = 0
  · subst c1
    cases nm with
    | nil =>
      go_enter Tryd.func21, Tryd.ntmps21
      go_wp2_with (first | (rw [← HW.out, ← HHH.out]))
      go_ret
      exact ⟨rfl, HB.out⟩
    | cons c r =>
      go_enter Tryd.func21, Tryd.ntmps21
      go_wp2_with (first | (rw [← HW.out, ← HHH.out]))
      go_ret
      exact ⟨rfl, HB.out⟩
  · have e1 : (n == 0) = false := beq_eq_false_iff_ne.2 c1
    have HR : Hid (aloneN n nm = false) := Lib.hid (by unfold aloneN; simp [c1])
    clear c1
    go_enter Tryd.func21, Tryd.ntmps21
    go_wp2_with (first | (rw [← HW.out, ← HHH.out]))
    go_ret
    exact ⟨by rw [HR.out]; rfl, HB.out⟩
theorem exprL_take (l : List NT) (k : Nat) (h : k < l.length) : exprL (l.take (k + 1)) = (exprL (l.take k) && l[k].expr) := by
  rw [List.take_succ_eq_append_getElem h, exprL_all, exprL_all, List.all_append]; simp
theorem exprL_bad (l : List NT) (k : Nat) (h : k < l.length) (hr : l[k].expr = false) : exprL l = false := by
  rw [exprL_all, List.all_eq_false]; exact ⟨l[k], List.getElem_mem h, by simp [hr]⟩
def ExsRel (w : World) (N : Nat) (l : List NT) (i : Value) (wr : World) : Prop := ∃ k : Nat, k ≤ N ∧ i = .int .i64 k ∧ Hid (exprL (l.take k) = true) ∧ Below w.heap.size w wr
set_option maxHeartbeats 1000000 in
theorem rexprs_any {G : Nat → Prop} (l : List NT) (ih : ∀ u ∈ l, IsOf G 11 NT.expr u) (s : Value) (w : World) (h : Kids G w l s) :
    Calls Tryd.prog 22 #[s] w fun e w' => e = .returned (.bool (exprL l)) ∧ Below w.heap.size w w' := by
  have HK := Lib.hid h
  have IH := Lib.hid ih
  obtain ⟨A, cap, rfl, hl⟩ := h.form
  obtain ⟨N, hN⟩ : ∃ N, N = l.length := ⟨_, rfl⟩
  rw [← hN] at hl HK ⊢
  have HN := Lib.hid hN
  clear h ih hN
  go_enter Tryd.func22, Tryd.ntmps22
  go_wp2
  go_loopw [3] (fun i wr => ExsRel w N l i wr) (fun i _ => N - (intOf i).toNat)
  case atStart => unfold ExsRel; exact ⟨0, Nat.zero_le _, rfl, Lib.hid (by rw [List.take_zero, exprL]), Below.refl _ _⟩
  case round =>
    obtain ⟨k, hk, rfl, HM, hb⟩ := hrel
    by_cases hlt : k < N
    · have hkl : k < l.length := by have := HN.out; omega
      obtain ⟨b, off, cq, q, hs, hlt', hd, c0, c1, c2, c3, c4, hkk⟩ := HK.out.kid hb k hkl
      injection hs with hA hL hC
      subst hA
      subst hC
      clear hL
      obtain ⟨A2, cc, rfl, _⟩ := hkk.form
      have HI := Lib.hid (IH.out l[k] (List.getElem_mem hkl) hd _ wr hkk)
      have HU := Lib.hid (exprL_take l k hkl)
      have HU2 := Lib.hid (exprL_bad l k hkl)
      obtain ⟨u, hu⟩ : ∃ u, u = l[k] := ⟨_, rfl⟩
      rw [← hu] at c0 c1 c2 c3 c4 HI HU HU2 hkk
      obtain ⟨M, hM⟩ : ∃ M, M = u.kids.length := ⟨_, rfl⟩
      rw [← hM] at c4 HI
      obtain ⟨r, hr⟩ : ∃ r, r = u.expr := ⟨_, rfl⟩
      rw [← hr] at HI HU HU2
      have HB := Lib.hid hb
      clear hkk hM hr hd hu hb
      cases r
      · go_wp2_with (go_at_call 11; refine HI.out.mono ?_; rintro e w1 ⟨rfl, hb1⟩)
        go_ret
        exact ⟨by rw [HU2.out (by simp)]; rfl, HB.out.trans (hb1.mono HB.out.size)⟩
      · go_wp2_with (go_at_call 11; refine HI.out.mono ?_; rintro e w1 ⟨rfl, hb1⟩)
        go_roundw
        case rel => unfold ExsRel; exact ⟨k + 1, by omega, by go_num, Lib.hid (by rw [HU.out, HM.out]; rfl), HB.out.trans (hb1.mono HB.out.size)⟩
        case measure => simp [intOf]; omega
    · have HF : Hid (exprL l = true) := Lib.hid (by have h := HM.out; rw [List.take_of_length_le (by have := HN.out; omega)] at h; exact h)
      have HB := Lib.hid hb
      clear hb
      go_wp2
      go_ret
      exact ⟨by rw [HF.out]; rfl, HB.out⟩
end Go.Proofs.YtgohkmdepjmpaaaDoor.nt

/- Lists of nodes in rows of a call's own. -/
namespace Go.Proofs.YtgohkmdepjmpaaaDoor.nt
open Go.RowKit mem
open vt (I64 own_base own_form own_below wpList_append_mine)

/-- the cells of a list of nodes -/
def Nods (G : Nat → Prop) (w : World) : List NT → List Value → Prop
  | [], vs => vs = []
  | v :: r, vs => ∃ s rest, vs = .int .i64 v.kind :: .int .i64 v.at_ :: .int .i64 v.num :: .string ⟨v.name.toArray⟩ :: s :: rest ∧ Hd v ∧ Kids G w v.kids s ∧ Nods G w r rest
theorem Nods.len {G : Nat → Prop} {w : World} : ∀ {l : List NT} {vs : List Value}, Nods G w l vs → vs.length = l.length * 5
  | [], vs, h => by rw [Nods] at h; subst h; rfl
  | v :: r, vs, h => by
    rw [Nods] at h
    obtain ⟨s, rest, rfl, _, _, hr⟩ := h
    have := Nods.len hr
    simp only [List.length_cons]; omega
theorem Nods.one {G : Nat → Prop} {w : World} : ∀ {l : List NT} {vs : List Value}, Nods G w l vs → ∀ u ∈ vs, u.oneCell' = true
  | [], vs, h => by rw [Nods] at h; subst h; intro u hu; cases hu
  | v :: r, vs, h => by
    rw [Nods] at h
    obtain ⟨s, rest, rfl, _, hk, hr⟩ := h
    obtain ⟨A, cap, rfl, _⟩ := hk.form
    have := Nods.one hr
    intro u hu
    simp only [List.mem_cons] at hu
    rcases hu with rfl | rfl | rfl | rfl | rfl | hu
    · rfl
    · rfl
    · rfl
    · rfl
    · rfl
    · exact this u hu
theorem Nods.append {G : Nat → Prop} {w : World} : ∀ {a b : List NT} {xs ys : List Value}, Nods G w a xs → Nods G w b ys → Nods G w (a ++ b) (xs ++ ys)
  | [], b, xs, ys, h, h' => by rw [Nods] at h; subst h; exact h'
  | v :: r, b, xs, ys, h, h' => by
    rw [Nods] at h
    obtain ⟨s, rest, rfl, i1, hk, hr⟩ := h
    rw [List.cons_append, Nods]
    exact ⟨s, rest ++ ys, rfl, i1, hk, Nods.append hr h'⟩
theorem Nods.carry {G G' : Nat → Prop} {w w' : World} (hc : ∀ b o v, G b → w.cell? ⟨b, o, none⟩ = some v → G' b ∧ w'.cell? ⟨b, o, none⟩ = some v) : ∀ {l : List NT} {vs : List Value}, Nods G w l vs → Nods G' w' l vs
  | [], vs, h => h
  | v :: r, vs, h => by
    rw [Nods] at h ⊢
    obtain ⟨s, rest, rfl, i1, hk, hr⟩ := h
    exact ⟨s, rest, rfl, i1, hk.carry hc, Nods.carry hc hr⟩
theorem Nods.mono {G G' : Nat → Prop} {w : World} {l : List NT} {vs : List Value} (h : Nods G w l vs) (hg : ∀ b, G b → G' b) : Nods G' w l vs := h.carry fun b _ _ hb hc => ⟨hg b hb, hc⟩
theorem Nods.keep {G : Nat → Prop} {w w' : World} {l : List NT} {vs : List Value} (h : Nods G w l vs) (hk : ∀ b o, G b → b < w.heap.size → w'.cell? ⟨b, o, none⟩ = w.cell? ⟨b, o, none⟩) : Nods G w' l vs :=
  h.carry fun b o _ hb hc => ⟨hb, (hk b o hb (World.block_lt_of_cell? _ _ hc)).trans hc⟩
theorem Nods.below {G : Nat → Prop} {w w' : World} {l : List NT} {vs : List Value} (h : Nods G w l vs) (hb : Below w.heap.size w w') : Nods G w' l vs :=
  h.keep fun b' o _ hlt => hb.cell (p := ⟨b', o, none⟩) hlt
theorem Nods.lt {G : Nat → Prop} {w : World} {l : List NT} {vs : List Value} (h : Nods G w l vs) : Nods (fun b => G b ∧ b < w.heap.size) w l vs :=
  h.carry fun _ _ _ hb hc => ⟨⟨hb, World.block_lt_of_cell? _ _ hc⟩, hc⟩
theorem nods_row {G : Nat → Prop} {w : World} {b : Nat} : ∀ {l : List NT} {vs : List Value} {off : Nat}, Nods G w l vs → (∀ j u, vs[j]? = some u → w.cell? ⟨b, off + j, none⟩ = some u) → Row G w b l off
  | [], _, _, _, _ => by rw [Row]; trivial
  | v :: r, vs, off, h, hc => by
    rw [Nods] at h
    obtain ⟨s, rest, rfl, i1, hk, hr⟩ := h
    rw [row_cons]
    refine ⟨⟨i1, hc 0 _ rfl, hc 1 _ rfl, hc 2 _ rfl, hc 3 _ rfl, s, hc 4 _ rfl, hk⟩, nods_row hr fun j u hu => ?_⟩
    rw [show off + 5 + j = off + (j + 5) by omega]; exact hc (j + 5) u (by simpa using hu)
theorem row_nods {G : Nat → Prop} {w : World} {b : Nat} : ∀ {l : List NT} {off : Nat}, Row G w b l off → ∃ vs, Nods G w l vs ∧ ∀ j u, vs[j]? = some u → w.cell? ⟨b, off + j, none⟩ = some u
  | [], off, _ => ⟨[], by rw [Nods], fun j u h => by simp at h⟩
  | v :: r, off, h => by
    rw [row_cons] at h
    obtain ⟨⟨i1, c0, c1, c2, c3, s, c4, hk⟩, hr⟩ := h
    obtain ⟨vs, hv, hc⟩ := row_nods hr
    refine ⟨.int .i64 v.kind :: .int .i64 v.at_ :: .int .i64 v.num :: .string ⟨v.name.toArray⟩ :: s :: vs, by rw [Nods]; exact ⟨s, vs, rfl, i1, hk, hv⟩, fun j u hu => ?_⟩
    match j, hu with
    | 0, hu => simp at hu; subst hu; exact c0
    | 1, hu => simp at hu; subst hu; exact c1
    | 2, hu => simp at hu; subst hu; exact c2
    | 3, hu => simp at hu; subst hu; exact c3
    | 4, hu => simp at hu; subst hu; exact c4
    | j + 5, hu => rw [show off + (j + 5) = off + 5 + j by omega]; exact hc j u (by simpa using hu)
/-- a row of the call's own, from block B on, with these nodes, whose kids lie where G says -/
def Own (B : Nat) (G : Nat → Prop) (w : World) (l : List NT) (s : Value) : Prop := ∃ vs, Nods G w l vs ∧ w.ownsRow B NodeT 5 s l.length vs
theorem Own.kids {B : Nat} {G G' : Nat → Prop} {w : World} {l : List NT} {s : Value} (h : Own B G w l s) (hg : ∀ b, G b → G' b) (hB : ∀ b, B ≤ b → G' b) : Kids G' w l s := by
  obtain ⟨vs, hv, ho⟩ := h
  have h1 := ho.1
  rcases ho.2 with ⟨hs, hn⟩ | ⟨g, cap, cur, hs, hb, hg', hnc, hcm, hcs, htake⟩
  · exact ⟨none, 0, by rw [hs, hn], ⟨by omega, fun _ => rfl, by omega⟩, fun h => by omega⟩
  · refine ⟨_, cap, hs, ⟨by unfold maxLen at hcm; omega, (fun h => by cases h), hnc⟩, fun h => ⟨g, 0, rfl, hB g hb, nods_row (hv.mono hg) fun j u hu => ?_⟩⟩
    rw [Nat.zero_add, cell_of_row w g j cur NodeT (0, 0) hg']
    rw [← htake, List.getElem?_take] at hu
    split at hu
    · simpa using hu
    · cases hu
theorem Own.form {B : Nat} {G : Nat → Prop} {w : World} {l : List NT} {s : Value} (h : Own B G w l s) : ∃ A c, s = .slice A l.length c := own_form h.choose_spec.2
theorem Own.below {B : Nat} {G : Nat → Prop} {w w' : World} {l : List NT} {s : Value} (h : Own B G w l s) (hb : Below w.heap.size w w') : Own B G w' l s := by
  obtain ⟨vs, hv, ho⟩ := h
  exact ⟨vs, hv.below hb, own_below ho hb⟩
theorem Own.base {B B' : Nat} {G : Nat → Prop} {w : World} {l : List NT} {s : Value} (h : Own B G w l s) (hB : B' ≤ B) : Own B' G w l s := by
  obtain ⟨vs, hv, ho⟩ := h
  exact ⟨vs, hv, own_base ho hB⟩
theorem Own.nil_ (B : Nat) (G : Nat → Prop) (w : World) : Own B G w [] (.slice none 0 0) := ⟨[], by rw [Nods], World.ownsRow_nil _ _ _ _⟩
theorem infoN : (Tryd.prog.info? 29).map (fun i => (i.zero, i.size, i.bytes)) = some (some (.agg #[.int .i64 0, .int .i64 0, .int .i64 0, .string ⟨#[]⟩, .slice none 0 0]), 5, 64) := by kernel_rfl
/-- a row of the call's own as kids (no name of the value texts in it, so that texts above may use it) -/
theorem rows_kids {B : Nat} {w : World} {l : List NT} {v : Value} (vs : List Value) (hv : Nods (fun b => B ≤ b) w l vs) (ho : w.ownsRow B NodeT 5 v l.length vs) : Kids (fun b => B ≤ b) w l v :=
  (show Own B (fun b => B ≤ b) w l v from ⟨vs, hv, ho⟩).kids (fun _ hb => hb) (fun _ hb => hb)
/-- the append of a row of nodes, met in a walk: w0 is where the row that grows began -/
theorem wpList_nodes {G : Nat → Prop} {w0 w : World} {ops : Array Oper} {rest : List Oper} {o : Oper} {a : Act} {Q : Exit → Act → World → Prop} (hgd : o.guard = none) (s x : Operand)
    (ho : o.op = .call { callee := .builtin .append, args := #[s, x], argTypes := #[27, 27] }) (l m : List NT) (v : Value) (A : Option Addr) (n c : Nat)
    (hs : a.eval s = v) (hx : a.eval x = .slice A n c) (hl : Own w0.heap.size (fun b => G b ∧ b < w0.heap.size) w l v) (hm : Kids (fun _ => True) w m (.slice A n c)) (hmv : ∃ vs, Nods (fun b => G b ∧ b < w0.heap.size) w m vs ∧ ∀ b off, A = some ⟨b, off, none⟩ → ∀ j u, vs[j]? = some u → w.cell? ⟨b, off + j, none⟩ = some u)
    (hpos : 0 < m.length) (hn : n = m.length) (hb : Below w0.heap.size w0 w) (hlen : l.length + m.length ≤ 1099511627776)
    (h : ∀ A' c' w', Own w0.heap.size (fun b => G b ∧ b < w0.heap.size) w' (l ++ m) (.slice A' (l ++ m).length c') → Below w0.heap.size w0 w' → wpList Tryd.prog ops Q rest (a.put o.dst (.slice A' (l ++ m).length c')) w') :
    wpList Tryd.prog ops Q (o :: rest) a w := by
  obtain ⟨i0, hi, hz0, hz1, hz2⟩ := info_parts infoN
  obtain ⟨vs, hv, hown⟩ := hl
  obtain ⟨A', c', hA, _, hc⟩ := hm
  obtain ⟨b, off, rfl, _, _⟩ := hc hpos
  injection hA with hA hnn hcc
  subst hA
  obtain ⟨ms, hms, hcell⟩ := hmv
  refine wpList_append_mine hgd s x 27 ho w0.heap.size NodeT i0 (.agg #[.int .i64 0, .int .i64 0, .int .i64 0, .string ⟨#[]⟩, .slice none 0 0]) 5 64 Tryd.underlying27 hi hz0 hz1 hz2 rfl (by decide) v l.length vs hs hown ⟨b, off, none⟩ n c ms hx (by rw [hms.len, hn]) (fun j u hu => ?_) hms.one (by unfold maxLen; omega) (by omega) hb.size ?_
  · rw [vt.cells_add]; exact hcell b off rfl j u hu
  · intro v' w' h1 h2 h3
    obtain ⟨A2, c2, rfl⟩ := own_form h1
    rw [show l.length + n = (l ++ m).length by rw [List.length_append, hn]] at h1 ⊢
    refine h A2 c2 w' ⟨vs ++ ms, ?_, h1⟩ (hb.grown h2 hb.size (fun k hk => (hown.lt k hk).1))
    refine (hv.append hms).carry fun b' o' u' hG hc' => ⟨hG, ?_⟩
    exact h2.cell (a := ⟨b', o', none⟩) hc' (fun e => by have := (hown.lt b' e.symm).1; omega)
end Go.Proofs.YtgohkmdepjmpaaaDoor.nt

/- Types and expressions read from tokens: over plain lists, counted down. -/
import Derived.Test.YtgohkmdepjmpaaaDoorCGNode
import Derived.Test.YtgohkmdepjmpaaaDoorCNestMath
namespace Go.Proofs.YtgohkmdepjmpaaaDoor.pm
open Go.RowKit wd lx nt ne

/-- the i-th token; of none one of the kind 0 -/
def tokAt (l : List Tk) (i : Int) : Tk := if 0 ≤ i then l.getD i.toNat ⟨0, 0, 0, []⟩ else ⟨0, 0, 0, []⟩
/-- is the i-th token such a mark -/
def isM (l : List Tk) (i : Int) (m : List UInt8) : Bool := decide ((tokAt l i).kind = 4) && decide ((tokAt l i).text = m)
/-- is it such a word -/
def isW (l : List Tk) (i : Int) (m : List UInt8) : Bool := decide ((tokAt l i).kind = 3) && decide ((tokAt l i).text = m)
/-- what is read: a node, or nodes, and the number of the token behind; or the number of the token with which it can't go on -/
inductive Res where
  | node (n : NT) (j : Int)
  | list (ns : List NT) (j : Int)
  | no (j : Int)
/-- what is being read -/
inductive Mode where
  | typ
  | lev (t : Nat)
  | loop (t : Nat) (left : NT)
  | fac
  | part
  | steps (n : NT)
  | first
  | call (k : Int) (a : Int)
  | args
  | more (ns : List NT)
def sInt : List UInt8 := [105, 110, 116]
def sBool : List UInt8 := [98, 111, 111, 108]
def sRev : List UInt8 := [114, 101, 118]
def sTrue : List UInt8 := [116, 114, 117, 101]
def sFalse : List UInt8 := [102, 97, 108, 115, 101]
def sFork : List UInt8 := [102, 111, 114, 107]
def sNew : List UInt8 := [110, 101, 119]
/-- the sign of a token that binds so tightly: 0 for none -/
def signOf (t : Tk) (lv : Int) : Nat → Int
  | 0 => 0
  | s + 1 => if t.kind = 4 ∧ spellF ((14 - s : Nat) : Int) = t.text ∧ bindF ((14 - s : Nat) : Int) = lv then ((14 - s : Nat) : Int) else signOf t lv s
def signP (l : List Tk) (i : Int) (lv : Int) : Int := signOf (tokAt l i) lv 14
def andN (o : Option Res) (f : NT → Int → Option Res) : Option Res :=
  match o with
  | some (.node n j) => f n j
  | some (.no j) => some (.no j)
  | _ => none
def andL (o : Option Res) (f : List NT → Int → Option Res) : Option Res :=
  match o with
  | some (.list n j) => f n j
  | some (.no j) => some (.no j)
  | _ => none
/-- one step, of what the parts come to -/
def stepR (l : List Tk) (R : Mode → Int → Option Res) : Mode → Int → Option Res
  | .typ, i =>
    if (tokAt l i).kind = 1 then some (.node (.mk 4 (tokAt l i).at_ 0 (tokAt l i).text []) (i + 1))
    else if isW l i sInt = true then some (.node (.mk 1 (tokAt l i).at_ 0 [] []) (i + 1))
    else if isW l i sBool = true then some (.node (.mk 2 (tokAt l i).at_ 0 [] []) (i + 1))
    else if isW l i sRev = true then some (.node (.mk 3 (tokAt l i).at_ 0 [] []) (i + 1))
    else if isM l i [91] = false then some (.no i)
    else if isM l (i + 1) [93] = false then some (.no (i + 1))
    else andN (R .typ (i + 2)) fun n j => some (.node (.mk 5 (tokAt l i).at_ 0 [] [n]) j)
  | .lev t, i => if 5 < t then R .fac i else andN (R (.lev (t + 1)) i) fun n j => R (.loop t n) j
  | .loop t left, j =>
    if signP l j t = 0 then some (.node left j)
    else andN (R (.lev (t + 1)) (j + 1)) fun n k => if t = 3 then some (.node (.mk 16 (tokAt l j).at_ (signP l j t) [] [left, n]) k) else R (.loop t (.mk 16 (tokAt l j).at_ (signP l j t) [] [left, n])) k
  | .fac, i =>
    if isM l i [45] = false ∧ isM l i [33] = false then R .part i
    else andN (R .fac (i + 1)) fun n j => some (.node (.mk 15 (tokAt l i).at_ (if isM l i [33] = true then 14 else 2) [] [n]) j)
  | .part, i => andN (R .first i) fun n j => R (.steps n) j
  | .steps n, j =>
    if isM l j [46] = true then
      (if (tokAt l (j + 1)).kind = 1 then R (.steps (.mk 14 (tokAt l j).at_ 0 (tokAt l (j + 1)).text [n])) (j + 2) else some (.no (j + 1)))
    else if isM l j [91] = false then some (.node n j)
    else andN (R (.lev 1) (j + 1)) fun x k => if isM l k [93] = true then R (.steps (.mk 13 (tokAt l j).at_ 0 [] [n, x])) (k + 1) else some (.no k)
  | .first, i =>
    if (tokAt l i).kind = 2 then some (.node (.mk 10 (tokAt l i).at_ (tokAt l i).n [] []) (i + 1))
    else if isW l i sTrue = true then some (.node (.mk 11 (tokAt l i).at_ 1 [] []) (i + 1))
    else if isW l i sFalse = true then some (.node (.mk 11 (tokAt l i).at_ 0 [] []) (i + 1))
    else if (tokAt l i).kind = 1 then
      (if isM l (i + 1) [40] = true then R (.call 17 (tokAt l i).at_) i else some (.node (.mk 12 (tokAt l i).at_ 0 (tokAt l i).text []) (i + 1)))
    else if isW l i sFork = true then R (.call 18 (tokAt l i).at_) (i + 1)
    else if isW l i sNew = true then andN (R .typ (i + 1)) fun n j => andL (R .args j) fun ns k => some (.node (.mk 19 (tokAt l i).at_ 0 [] (n :: ns)) k)
    else if isM l i [40] = false then some (.no i)
    else andN (R (.lev 1) (i + 1)) fun n j => if isM l j [41] = true then some (.node n (j + 1)) else some (.no j)
  | .call k a, i =>
    if (tokAt l i).kind = 1 then andL (R .args (i + 1)) fun ns j => some (.node (.mk k a 0 (tokAt l i).text ns) j)
    else some (.no i)
  | .args, i =>
    if isM l i [40] = false then some (.no i)
    else if isM l (i + 1) [41] = true then some (.list [] (i + 2))
    else R (.more []) (i + 1)
  | .more ns, i =>
    andN (R (.lev 1) i) fun n j => if isM l j [41] = true then some (.list (ns ++ [n]) (j + 1)) else if isM l j [44] = false then some (.no j) else R (.more (ns ++ [n])) (j + 1)
def run (l : List Tk) : Nat → Mode → Int → Option Res
  | 0, _, _ => none
  | f + 1, m, i => stepR l (run l f) m i
theorem run_succ (l : List Tk) (f : Nat) (m : Mode) (i : Int) : run l (f + 1) m i = stepR l (run l f) m i := by rw [run]
/-! ### more fuel changes nothing -/
def Le (o o' : Option Res) : Prop := ∀ r, o = some r → o' = some r
theorem Le.rfl {o : Option Res} : Le o o := fun _ h => h
theorem le_andN {o o' : Option Res} {f f' : NT → Int → Option Res} (h : Le o o') (h2 : ∀ n j, Le (f n j) (f' n j)) : Le (andN o f) (andN o' f') := by
  intro r hr
  cases o with
  | none => simp [andN] at hr
  | some x =>
    rw [h x (Eq.refl _)]
    cases x with
    | node n j => exact h2 n j r hr
    | list ns j => simp [andN] at hr
    | no j => exact hr
theorem le_andL {o o' : Option Res} {f f' : List NT → Int → Option Res} (h : Le o o') (h2 : ∀ n j, Le (f n j) (f' n j)) : Le (andL o f) (andL o' f') := by
  intro r hr
  cases o with
  | none => simp [andL] at hr
  | some x =>
    rw [h x (Eq.refl _)]
    cases x with
    | node n j => simp [andL] at hr
    | list ns j => exact h2 ns j r hr
    | no j => exact hr
theorem le_ite {c : Prop} [Decidable c] {a a' b b' : Option Res} (h : Le a a') (h2 : Le b b') : Le (if c then a else b) (if c then a' else b') := by
  by_cases hc : c
  · rw [if_pos hc, if_pos hc]; exact h
  · rw [if_neg hc, if_neg hc]; exact h2
theorem le_step (l : List Tk) {R R' : Mode → Int → Option Res} (h : ∀ m i, Le (R m i) (R' m i)) (m : Mode) (i : Int) : Le (stepR l R m i) (stepR l R' m i) := by
  cases m <;> simp only [stepR]
  case typ => exact le_ite .rfl (le_ite .rfl (le_ite .rfl (le_ite .rfl (le_ite .rfl (le_ite .rfl (le_andN (h _ _) fun _ _ => .rfl))))))
  case lev t => exact le_ite (h _ _) (le_andN (h _ _) fun _ _ => h _ _)
  case loop t left => exact le_ite .rfl (le_andN (h _ _) fun _ _ => le_ite .rfl (h _ _))
  case fac => exact le_ite (h _ _) (le_andN (h _ _) fun _ _ => .rfl)
  case part => exact le_andN (h _ _) fun _ _ => h _ _
  case steps n => exact le_ite (le_ite (h _ _) .rfl) (le_ite .rfl (le_andN (h _ _) fun _ _ => le_ite (h _ _) .rfl))
  case first => exact le_ite .rfl (le_ite .rfl (le_ite .rfl (le_ite (le_ite (h _ _) .rfl) (le_ite (h _ _) (le_ite (le_andN (h _ _) fun _ _ => le_andL (h _ _) fun _ _ => .rfl) (le_ite .rfl (le_andN (h _ _) fun _ _ => le_ite .rfl .rfl)))))))
  case call k a => exact le_ite (le_andL (h _ _) fun _ _ => .rfl) .rfl
  case args => exact le_ite .rfl (le_ite .rfl (h _ _))
  case more ns => exact le_andN (h _ _) fun _ _ => le_ite .rfl (le_ite .rfl (h _ _))
theorem run_more (l : List Tk) : ∀ (f : Nat) (m : Mode) (i : Int), Le (run l f m i) (run l (f + 1) m i)
  | 0, m, i => fun r h => by rw [run] at h; cases h
  | f + 1, m, i => by
    rw [run_succ, run_succ l (f + 1)]
    exact le_step l (run_more l f) m i
theorem run_le (l : List Tk) {f f' : Nat} (hf : f ≤ f') (m : Mode) (i : Int) : Le (run l f m i) (run l f' m i) := by
  obtain ⟨d, rfl⟩ : ∃ d, f' = f + d := ⟨f' - f, by omega⟩
  clear hf
  induction d with
  | zero => exact .rfl
  | succ d ih => exact fun r h => run_more l (f + d) m i r (ih r h)
theorem run_one (l : List Tk) {f f' : Nat} {m : Mode} {i : Int} {r r' : Res} (h : run l f m i = some r) (h' : run l f' m i = some r') : r = r' := by
  have h1 := run_le l (Nat.le_max_left f f') m i r h
  have h2 := run_le l (Nat.le_max_right f f') m i r' h'
  rw [h1] at h2
  exact Option.some.inj h2
/-! ### what a step came to -/
theorem andN_some {o : Option Res} {f : NT → Int → Option Res} {r : Res} (h : andN o f = some r) : (∃ n j, o = some (.node n j) ∧ f n j = some r) ∨ ∃ j, o = some (.no j) ∧ r = .no j := by
  cases o with
  | none => simp [andN] at h
  | some x =>
    cases x with
    | node n j => exact Or.inl ⟨n, j, rfl, h⟩
    | list ns j => simp [andN] at h
    | no j => exact Or.inr ⟨j, rfl, (Option.some.inj h).symm⟩
theorem andL_some {o : Option Res} {f : List NT → Int → Option Res} {r : Res} (h : andL o f = some r) : (∃ n j, o = some (.list n j) ∧ f n j = some r) ∨ ∃ j, o = some (.no j) ∧ r = .no j := by
  cases o with
  | none => simp [andL] at h
  | some x =>
    cases x with
    | node n j => simp [andL] at h
    | list ns j => exact Or.inl ⟨ns, j, rfl, h⟩
    | no j => exact Or.inr ⟨j, rfl, (Option.some.inj h).symm⟩
/-! ### tokens that are there -/
theorem tok_in {l : List Tk} {i : Int} (h : (tokAt l i).kind ≠ 0) : 0 ≤ i ∧ i < (l.length : Int) := by
  unfold tokAt at h
  by_cases h0 : 0 ≤ i
  · rw [if_pos h0] at h
    by_cases h1 : i.toNat < l.length
    · omega
    · rw [List.getD_eq_getElem?_getD, List.getElem?_eq_none (by omega)] at h
      exact absurd rfl h
  · rw [if_neg h0] at h
    exact absurd rfl h
theorem isM_in {l : List Tk} {i : Int} {m : List UInt8} (h : isM l i m = true) : 0 ≤ i ∧ i < (l.length : Int) := by
  unfold isM at h
  simp only [Bool.and_eq_true, decide_eq_true_eq] at h
  exact tok_in (by rw [h.1]; decide)
theorem isW_in {l : List Tk} {i : Int} {m : List UInt8} (h : isW l i m = true) : 0 ≤ i ∧ i < (l.length : Int) := by
  unfold isW at h
  simp only [Bool.and_eq_true, decide_eq_true_eq] at h
  exact tok_in (by rw [h.1]; decide)
theorem sign_of_in {t : Tk} {lv : Int} : ∀ s : Nat, signOf t lv s ≠ 0 → t.kind = 4 ∧ s ≤ 14 → 1 ≤ signOf t lv s ∧ signOf t lv s ≤ 14 ∧ bindF (signOf t lv s) = lv ∧ spellF (signOf t lv s) = t.text
  | 0, h, _ => absurd rfl h
  | s + 1, h, hk => by
    unfold signOf at h ⊢
    by_cases hc : t.kind = 4 ∧ spellF ((14 - s : Nat) : Int) = t.text ∧ bindF ((14 - s : Nat) : Int) = lv
    · rw [if_pos hc]
      exact ⟨by omega, by omega, hc.2.2, hc.2.1⟩
    · rw [if_neg hc] at h ⊢
      exact sign_of_in s h ⟨hk.1, by omega⟩
theorem sign_kind {t : Tk} {lv : Int} : ∀ s : Nat, signOf t lv s ≠ 0 → t.kind = 4
  | 0, h => absurd rfl h
  | s + 1, h => by
    unfold signOf at h
    by_cases hc : t.kind = 4 ∧ spellF ((14 - s : Nat) : Int) = t.text ∧ bindF ((14 - s : Nat) : Int) = lv
    · exact hc.1
    · rw [if_neg hc] at h
      exact sign_kind s h
theorem signP_in {l : List Tk} {i lv : Int} (h : signP l i lv ≠ 0) : (0 ≤ i ∧ i < (l.length : Int)) ∧ 1 ≤ signP l i lv ∧ signP l i lv ≤ 14 ∧ bindF (signP l i lv) = lv := by
  have hk := sign_kind 14 h
  have h2 := sign_of_in 14 h ⟨hk, by omega⟩
  exact ⟨tok_in (by rw [hk]; decide), h2.1, h2.2.1, h2.2.2.1⟩
end Go.Proofs.YtgohkmdepjmpaaaDoor.pm

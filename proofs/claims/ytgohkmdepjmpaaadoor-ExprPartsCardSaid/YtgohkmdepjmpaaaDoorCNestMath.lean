/- How many brackets are open, and how many signs stand in a row: over plain lists of tokens. -/
import Derived.Test.YtgohkmdepjmpaaaDoorCGVal
import Derived.Lib.Hide
namespace Go.Proofs.YtgohkmdepjmpaaaDoor.ne
open Go.RowKit mem

/-- a token: kind, place, number, text -/
structure Tk where
  kind : Int
  at_ : Int
  n : Int
  text : List UInt8
/-- 1 opens, 2 shuts, 3 a sign of a row, 0 others -/
def markN (t : Tk) : Nat :=
  if t.kind ≠ 4 then 0
  else if t.text = [40] ∨ t.text = [91] ∨ t.text = [123] then 1
  else if t.text = [41] ∨ t.text = [93] ∨ t.text = [125] then 2
  else if t.text = [45] ∨ t.text = [33] then 3 else 0
def stepN (s : Nat × Nat) (t : Tk) : Nat × Nat :=
  (if markN t = 1 then s.1 + 1 else if markN t = 2 then s.1 - 1 else s.1, if markN t = 3 then s.2 + 1 else 0)
/-- behind the first k tokens -/
def stN (l : List Tk) (k : Nat) : Nat × Nat := (l.take k).foldl stepN (0, 0)
theorem st_zero (l : List Tk) : stN l 0 = (0, 0) := by unfold stN; rw [List.take_zero]; rfl
theorem st_succ (l : List Tk) (k : Nat) (h : k < l.length) : stN l (k + 1) = stepN (stN l k) l[k] := by
  unfold stN
  rw [List.take_succ_eq_append_getElem h, List.foldl_append]; rfl
theorem step_le (s : Nat × Nat) (t : Tk) : (stepN s t).1 ≤ s.1 + 1 ∧ (stepN s t).2 ≤ s.2 + 1 := by
  unfold stepN
  constructor
  · dsimp only
    split
    · omega
    · split <;> omega
  · dsimp only
    split <;> omega
theorem st_le (l : List Tk) : ∀ k, k ≤ l.length → (stN l k).1 ≤ k ∧ (stN l k).2 ≤ k
  | 0, _ => by rw [st_zero]; exact ⟨Nat.le_refl _, Nat.le_refl _⟩
  | k + 1, h => by
    have ih := st_le l k (by omega)
    have hs := step_le (stN l k) (l[k]'(by omega))
    rw [st_succ l k (by omega)]
    omega
/-- the greatest numbers at the first k tokens -/
def mostN (l : List Tk) : Nat → Nat × Nat
  | 0 => (0, 0)
  | k + 1 => (max (mostN l k).1 (stN l (k + 1)).1, max (mostN l k).2 (stN l (k + 1)).2)
theorem most_succ (l : List Tk) (k : Nat) : mostN l (k + 1) = (max (mostN l k).1 (stN l (k + 1)).1, max (mostN l k).2 (stN l (k + 1)).2) := rfl
theorem most_le (l : List Tk) : ∀ k, k ≤ l.length → (mostN l k).1 ≤ k ∧ (mostN l k).2 ≤ k
  | 0, _ => ⟨Nat.le_refl _, Nat.le_refl _⟩
  | k + 1, h => by
    have ih := most_le l k (by omega)
    have hs := st_le l (k + 1) h
    rw [most_succ]
    dsimp only
    omega
theorem most_up (l : List Tk) (i : Nat) : ∀ k, i ≤ k → 0 < i → (stN l i).1 ≤ (mostN l k).1 ∧ (stN l i).2 ≤ (mostN l k).2
  | 0, h, h0 => by omega
  | k + 1, h, h0 => by
    rw [most_succ]
    dsimp only
    by_cases e : i = k + 1
    · subst e; omega
    · have := most_up l i k (by omega) h0
      omega
theorem most_at (l : List Tk) : ∀ k, (60 < (mostN l k).1 ∨ 60 < (mostN l k).2) → ∃ i, i < k ∧ (60 < (stN l (i + 1)).1 ∨ 60 < (stN l (i + 1)).2)
  | 0, h => by rcases h with h | h <;> exact absurd h (by show ¬ 60 < 0; omega)
  | k + 1, h => by
    rw [most_succ] at h
    dsimp only at h
    by_cases e : 60 < (stN l (k + 1)).1 ∨ 60 < (stN l (k + 1)).2
    · exact ⟨k, by omega, e⟩
    · obtain ⟨i, hi, h2⟩ := most_at l k (by omega)
      exact ⟨i, by omega, h2⟩
/-- nothing is too deep at the first k tokens -/
def fineN (l : List Tk) (k : Nat) : Prop := ∀ i, i < k → (stN l (i + 1)).1 ≤ 60 ∧ (stN l (i + 1)).2 ≤ 60
theorem fine_zero (l : List Tk) : fineN l 0 := fun i h => by omega
theorem fine_succ {l : List Tk} {k : Nat} (h : fineN l k) (h1 : (stN l (k + 1)).1 ≤ 60) (h2 : (stN l (k + 1)).2 ≤ 60) : fineN l (k + 1) := fun i hi => by
  by_cases e : i = k
  · subst e; exact ⟨h1, h2⟩
  · exact h i (by omega)
theorem fine_most {l : List Tk} {k : Nat} (h : fineN l k) : (mostN l k).1 ≤ 60 ∧ (mostN l k).2 ≤ 60 := by
  by_cases e : 60 < (mostN l k).1 ∨ 60 < (mostN l k).2
  · obtain ⟨i, hi, h2⟩ := most_at l k e
    have := h i hi
    omega
  · omega
/-- what Check tells: where it is too deep first, and the error's number -/
def deepAt (l : List Tk) : Nat → Option Nat
  | 0 => none
  | k + 1 => match deepAt l k with
    | some i => some i
    | none => if 60 < (stN l (k + 1)).1 ∨ 60 < (stN l (k + 1)).2 then some k else none
def checkN (l : List Tk) : Int × Int :=
  match deepAt l l.length with
  | some i => ((l.getD i ⟨0, 0, 0, []⟩).at_, 4)
  | none => (0, 0)
theorem deep_none {l : List Tk} : ∀ {k}, fineN l k → deepAt l k = none
  | 0, _ => rfl
  | k + 1, h => by
    rw [deepAt, deep_none (fun i hi => h i (by omega))]
    have := h k (by omega)
    simp only
    rw [if_neg (by omega)]
theorem deep_some {l : List Tk} {i : Nat} (h : fineN l i) (h2 : 60 < (stN l (i + 1)).1 ∨ 60 < (stN l (i + 1)).2) : ∀ k, i < k → deepAt l k = some i
  | 0, hk => by omega
  | k + 1, hk => by
    rw [deepAt]
    by_cases e : i = k
    · subst e
      rw [deep_none h]
      simp only
      rw [if_pos h2]
    · rw [deep_some h h2 k (by omega)]
theorem check_fine {l : List Tk} (h : fineN l l.length) : checkN l = (0, 0) := by
  unfold checkN; rw [deep_none h]
theorem check_deep {l : List Tk} {i : Nat} (hi : i < l.length) (h : fineN l i) (h2 : 60 < (stN l (i + 1)).1 ∨ 60 < (stN l (i + 1)).2) : checkN l = (l[i].at_, 4) := by
  unfold checkN
  rw [deep_some h h2 l.length hi]
  simp only
  rw [List.getD_eq_getElem?_getD, List.getElem?_eq_getElem hi, Option.getD_some]
/-! ### tokens in memory -/
def tkV (t : Tk) : List Value := [.int .i64 t.kind, .int .i64 t.at_, .int .i64 t.n, .string ⟨t.text.toArray⟩]
def tksV (l : List Tk) : List Value := l.flatMap tkV
theorem tksV_cons (t : Tk) (l : List Tk) : tksV (t :: l) = tkV t ++ tksV l := rfl
theorem tksV_append (a b : List Tk) : tksV (a ++ b) = tksV a ++ tksV b := by unfold tksV; rw [List.flatMap_append]
theorem tksV_one (t : Tk) : tksV [t] = tkV t := by unfold tksV; simp
theorem tksV_len (l : List Tk) : (tksV l).length = l.length * 4 := by
  induction l with
  | nil => rfl
  | cons t l ih => rw [tksV_cons, List.length_append, ih, List.length_cons]; show 4 + _ = _; omega
theorem tksV_at : ∀ (l : List Tk) (k j : Nat) (h : k < l.length), j < 4 → (tksV l)[k * 4 + j]? = (tkV l[k])[j]?
  | t :: l, 0, j, _, hj => by
    rw [tksV_cons, List.getElem?_append_left (by show _ < 4; omega)]
    simp
  | t :: l, k + 1, j, h, hj => by
    rw [tksV_cons, List.getElem?_append_right (by show 4 ≤ _; omega), show (k + 1) * 4 + j - (tkV t).length = k * 4 + j by show _ - 4 = _; omega]
    exact tksV_at l k j (by simpa using h) hj
/-- a slice that reads as these tokens, all below block B -/
def TksS (B : Nat) (w : World) (l : List Tk) (v : Value) : Prop := Sees B 4 w v l.length (tksV l)
theorem TksS.below {B : Nat} {w w' : World} {l : List Tk} {v : Value} (h : TksS B w l v) (hb : Below B w w') : TksS B w' l v := Sees.below h hb
theorem TksS.more {B B' : Nat} {w : World} {l : List Tk} {v : Value} (h : TksS B w l v) (hB : B ≤ B') : TksS B' w l v := Sees.more h hB
theorem TksS.form {B : Nat} {w : World} {l : List Tk} {v : Value} (h : TksS B w l v) : ∃ A c, v = .slice A l.length c := by
  obtain ⟨_, A, c, hv, _⟩ := h; exact ⟨A, c, hv⟩
theorem TksS.cells {B : Nat} {w : World} {l : List Tk} {A : Option Addr} {n c : Nat} (h : TksS B w l (.slice A n c)) (h0 : 0 < l.length) : ∃ b off, A = some ⟨b, off, none⟩ ∧ b < B ∧ ∀ k (hk : k < l.length),
    w.cell? ⟨b, off + k * 4, none⟩ = some (.int .i64 l[k].kind) ∧ w.cell? ⟨b, off + k * 4 + 1, none⟩ = some (.int .i64 l[k].at_) ∧ w.cell? ⟨b, off + k * 4 + 2, none⟩ = some (.int .i64 l[k].n) ∧ w.cell? ⟨b, off + k * 4 + 3, none⟩ = some (.string ⟨l[k].text.toArray⟩) := by
  obtain ⟨_, A', c', hv, hc⟩ := h
  injection hv with hA hn hcc
  subst hA
  obtain ⟨b, off, hA, hb, hcc⟩ := hc h0
  refine ⟨b, off, hA, hb, fun k hk => ⟨?_, ?_, ?_, ?_⟩⟩
  · exact hcc (k * 4) _ ((tksV_at l k 0 hk (by omega)).trans rfl)
  · have := hcc (k * 4 + 1) _ ((tksV_at l k 1 hk (by omega)).trans rfl); rw [← Nat.add_assoc] at this; exact this
  · have := hcc (k * 4 + 2) _ ((tksV_at l k 2 hk (by omega)).trans rfl); rw [← Nat.add_assoc] at this; exact this
  · have := hcc (k * 4 + 3) _ ((tksV_at l k 3 hk (by omega)).trans rfl); rw [← Nat.add_assoc] at this; exact this
end Go.Proofs.YtgohkmdepjmpaaaDoor.ne

import Derived.Test.YtgohkmdepjmpaaaDoorCGNode
import Derived.LoopTactic
import Derived.Outline
import Derived.StillTailTactics
import Derived.Deep.RegionHeld3
/- The document's own walk of a node: the row of all nodes. -/
namespace Go.Proofs.YtgohkmdepjmpaaaDoor.nt
open Go.RowKit mem wd lx
open vt (I64 own_base own_form own_below)

/-- what a walk leaves: a row of all nodes, whose kids lie where they lay -/
def WalkPost (G : Nat → Prop) (t : NT) (w : World) (e : Ending) (w' : World) : Prop :=
  ∃ s, e = .returned s ∧ Own w.heap.size (fun b => G b ∧ b < w.heap.size) w' t.walk s ∧ Below w.heap.size w w'
def WkRel (G : Nat → Prop) (w W : World) (N : Nat) (t : NT) (o i : Value) (wr : World) : Prop :=
  ∃ k : Nat, k ≤ N ∧ i = .int .i64 k ∧ Hid (Own W.heap.size (fun b => (G b ∧ b < w.heap.size) ∧ b < W.heap.size) wr (t :: walkL (t.kids.take k)) o) ∧ Below W.heap.size W wr
theorem walk_step (k a n : Int) (nm : List UInt8) (l : List NT) (j : Nat) (h : j < l.length) : NT.mk k a n nm l :: walkL ((NT.mk k a n nm l).kids.take (j + 1)) = (NT.mk k a n nm l :: walkL ((NT.mk k a n nm l).kids.take j)) ++ l[j].walk := by
  show _ :: walkL (l.take (j + 1)) = _
  rw [walkL_take l j h]; rfl
theorem own_at {B : Nat} {G : Nat → Prop} {w : World} {l : List NT} {A : Option Addr} {n c : Nat} (h : Own B G w l (.slice A n c)) :
    ∃ vs, Nods G w l vs ∧ ∀ b off, A = some ⟨b, off, none⟩ → ∀ j u, vs[j]? = some u → w.cell? ⟨b, off + j, none⟩ = some u := by
  obtain ⟨vs, hv, ho⟩ := h
  refine ⟨vs, hv, fun b off hA j u hu => ?_⟩
  rcases ho.2 with ⟨hs, hn⟩ | ⟨g, cap, cur, hs, hb, hg', hnc, hcm, hcs, htake⟩
  · injection hs with hs _ _
    rw [hs] at hA; cases hA
  · injection hs with hs _ _
    rw [hA] at hs
    injection hs with hs
    injection hs with h1 h2 _
    subst h1; subst h2
    rw [Nat.zero_add, cell_of_row w b j cur NodeT (0, 0) hg']
    rw [← htake, List.getElem?_take] at hu
    split at hu
    · simpa using hu
    · cases hu
end Go.Proofs.YtgohkmdepjmpaaaDoor.nt

/- The document's own answers: whether two nodes are the same, how deep one is. -/
namespace Go.Proofs.YtgohkmdepjmpaaaDoor.nt
open Go.RowKit mem wd lx
open vt (I64 own_form)

theorem cleanL_append (a b : List NT) : cleanL (a ++ b) = cleanL a ++ cleanL b := by simp only [cleanL_map, List.map_append]
theorem cleanL_take (l : List NT) (k : Nat) (h : k < l.length) : cleanL (l.take (k + 1)) = cleanL (l.take k) ++ [l[k].clean] := by
  rw [List.take_succ_eq_append_getElem h, cleanL_append]; simp [cleanL]
theorem same_more {a b : List NT} (k : Nat) (ha : k < a.length) (hb : k < b.length) (h : cleanL (a.take k) = cleanL (b.take k)) (e : sameN a[k] b[k] = true) : cleanL (a.take (k + 1)) = cleanL (b.take (k + 1)) := by
  rw [cleanL_take a k ha, cleanL_take b k hb, h, of_sameN e]
theorem same_bad {a b : List NT} (k : Nat) (ha : k < a.length) (hb : k < b.length) (e : sameN a[k] b[k] = false) : sameL a b = false :=
  sameL_no fun h => not_sameN e (by
    rw [cleanL_map, cleanL_map] at h
    have := congrArg (fun l => l[k]?) h
    simp only [List.getElem?_map, List.getElem?_eq_getElem ha, List.getElem?_eq_getElem hb, Option.map_some] at this
    exact Option.some.inj this)
theorem same_len {a b : List NT} (h : a.length ≠ b.length) : sameL a b = false :=
  sameL_no fun e => h (by have := congrArg List.length e; rw [cleanL_map, cleanL_map, List.length_map, List.length_map] at this; exact this)
theorem same_all {a b : List NT} (N : Nat) (ha : N = a.length) (hb : N = b.length) (h : cleanL (a.take N) = cleanL (b.take N)) : sameL a b = true :=
  sameL_yes (by rwa [List.take_of_length_le (by omega), List.take_of_length_le (by omega)] at h)
def SameOf (G : Nat → Prop) (F : FuncId) (t : NT) : Prop := Hd t → ∀ (u : NT) (s s' : Value) (w : World), Hd u → Kids G w t.kids s → Kids G w u.kids s' →
    Calls Tryd.prog F #[.agg #[.int .i64 t.kind, .int .i64 t.at_, .int .i64 t.num, .string ⟨t.name.toArray⟩, s], .agg #[.int .i64 u.kind, .int .i64 u.at_, .int .i64 u.num, .string ⟨u.name.toArray⟩, s']] w fun e w' => e = .returned (.bool (sameN t u)) ∧ Below w.heap.size w w'
def SmRel (W : World) (N : Nat) (l m : List NT) (i : Value) (wr : World) : Prop := ∃ k : Nat, k ≤ N ∧ i = .int .i64 k ∧ Hid (cleanL (l.take k) = cleanL (m.take k)) ∧ Below W.heap.size W wr
/-! ### how deep -/
def DpRel (W : World) (N : Nat) (l : List NT) (n i : Value) (wr : World) : Prop :=
  ∃ (k : Nat) (m : Int), k ≤ N ∧ i = .int .i64 k ∧ n = .int .i64 m ∧ (0 ≤ m ∧ m ≤ 9223372036854775807) ∧ Hid (m = deepL 0 (l.take k)) ∧ Below W.heap.size W wr
theorem deep_step (l : List NT) (k : Nat) (hk : k < l.length) (m d r : Int) (h : m = deepL 0 (l.take k)) (hd : d = l[k].deepW) (hr : r = max m d) : r = deepL 0 (l.take (k + 1)) := by
  rw [deepL_take l k hk, hr, h, hd]
end Go.Proofs.YtgohkmdepjmpaaaDoor.nt

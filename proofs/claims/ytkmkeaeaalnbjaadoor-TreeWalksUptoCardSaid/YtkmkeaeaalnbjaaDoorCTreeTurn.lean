/- The law's function turn: a tree with one of its nodes turned. -/
import Derived.Test.YtkmkeaeaalnbjaaDoorCTreeWorks
import Derived.Test.YtkmkeaeaalnbjaaDoorCGApart
import Derived.Deep.RegionLaw
namespace Go.Proofs.YtkmkeaeaalnbjaaDoor.nt
open Go.RowKit mem wd lx
open vt (I64 own_base own_form own_below)

mutual
def turnT : NT → Int → NT → NT
  | .mk kd a n s l, k, to => .mk (if k = 0 then to.kind else kd) a (if k = 0 then to.num else n) (if k = 0 then to.name else s) (turnL l (k - 1) to)
def turnL : List NT → Int → NT → List NT
  | [], _, _ => []
  | v :: r, k, to => turnT v k to :: turnL r (k - v.size) to
end
theorem turn_mk (kd a n : Int) (s : List UInt8) (l : List NT) (k : Int) (to : NT) : turnT (.mk kd a n s l) k to = .mk (if k = 0 then to.kind else kd) a (if k = 0 then to.num else n) (if k = 0 then to.name else s) (turnL l (k - 1) to) := by rw [turnT]
theorem turnL_append (to : NT) : ∀ (a b : List NT) (k : Int), turnL (a ++ b) k to = turnL a k to ++ turnL b (k - sizeL a) to
  | [], b, k => by rw [turnL, sizeL]; simp
  | v :: r, b, k => by
    rw [List.cons_append, turnL, turnL, turnL_append to r b, List.cons_append, sizeL]
    rw [show k - (v.size : Int) - (sizeL r : Int) = k - ((v.size + sizeL r : Nat) : Int) by omega]
theorem turnL_take (to : NT) (l : List NT) (j : Nat) (h : j < l.length) (k : Int) : turnL (l.take (j + 1)) k to = turnL (l.take j) k to ++ [turnT l[j] (k - sizeL (l.take j)) to] := by
  rw [List.take_succ_eq_append_getElem h, turnL_append, turnL, turnL]
mutual
theorem turn_size : ∀ (t : NT) (k : Int) (to : NT), (turnT t k to).size = t.size
  | .mk kd a n s l, k, to => by rw [turn_mk, size_mk, size_mk, turnL_size l]
theorem turnL_size : ∀ (l : List NT) (k : Int) (to : NT), sizeL (turnL l k to) = sizeL l
  | [], k, to => by rw [turnL]
  | v :: r, k, to => by rw [turnL, sizeL, sizeL, turn_size v, turnL_size r]
end
theorem turn_hd {t to : NT} (h : Hd t) (h2 : Hd to) (k : Int) : Hd (turnT t k to) := by
  obtain ⟨kd, a, n, s, l⟩ := t
  obtain ⟨i1, i2, i3, i4⟩ := h
  obtain ⟨j1, j2, j3, j4⟩ := h2
  rw [turn_mk]
  by_cases hk : k = 0
  · simp only [if_pos hk]; exact ⟨j1, i2, j3, j4⟩
  · simp only [if_neg hk]; exact ⟨i1, i2, i3, i4⟩
abbrev nodeC (t : NT) (s : Value) : Array Value := #[.int .i64 t.kind, .int .i64 t.at_, .int .i64 t.num, .string ⟨t.name.toArray⟩, s]
/-- in the world wi of a call that began in w: the node in block Kn, the other one in Kt, the result's block R, the new node in O, its kids -/
structure TSt (w : World) (Kn Kt R O : Nat) (t to : NT) (s st : Value) (kd a num : Int) (nm : List UInt8) (wi : World) (l : List NT) (v : Value) : Prop where
  hR : R < O
  hK : Kn < R ∧ Kt < R ∧ w.heap.size ≤ Kn ∧ w.heap.size ≤ R
  hn : Box wi Kn NodeT (nodeC t s)
  ht : Box wi Kt NodeT (nodeC to st)
  hr : Box wi R NodeT ZN
  ho : Box wi O NodeT #[.int .i64 kd, .int .i64 a, .int .i64 num, .string ⟨nm.toArray⟩, v]
  hl : Own2 (O + 1) wi l v
  hb : Below w.heap.size w wi
section
variable {w wi : World} {Kn Kt R O : Nat} {t to : NT} {s st v : Value} {kd a num : Int} {nm : List UInt8} {l : List NT}
theorem TSt.size (h : TSt w Kn Kt R O t to s st kd a num nm wi l v) : O + 1 ≤ wi.heap.size := h.ho.lt
theorem TSt.below (h : TSt w Kn Kt R O t to s st kd a num nm wi l v) {w2 : World} (hb : Below wi.heap.size wi w2) : TSt w Kn Kt R O t to s st kd a num nm w2 l v :=
  { h with hn := h.hn.on hb, ht := h.ht.on hb, hr := h.hr.on hb, ho := h.ho.on hb, hl := h.hl.below hb, hb := h.hb.trans (hb.mono h.hb.size) }
theorem TSt.grow (h : TSt w Kn Kt R O t to s st kd a num nm wi l v) : w.grownBy wi (some O) := ⟨h.hb.os, h.hb.tape, h.hb.output, h.hb.size, fun k hk _ => h.hb.block k hk⟩
/-- behind an append: ahead of the store -/
theorem TSt.app (h : TSt w Kn Kt R O t to s st kd a num nm wi l v) {w4 : World} {l' : List NT} {v' : Value} (hl' : Own2 (O + 1) w4 l' v') (hg : w.grownBy w4 (some O)) (hk : ∀ j, j < wi.heap.size → some j ≠ v.ownBlock → w4.heap[j]? = wi.heap[j]?) :
    Box w4 O NodeT #[.int .i64 kd, .int .i64 a, .int .i64 num, .string ⟨nm.toArray⟩, v] ∧ TSt w Kn Kt R O t to s st kd a num nm (w4.setCell ⟨O, 4, none⟩ v') l' v' := by
  have hK := h.hK
  have hR := h.hR
  have hko := h.hl.lt
  have key : ∀ j, j < wi.heap.size → j < O + 1 → w4.heap[j]? = wi.heap[j]? := fun j h1 h2 => hk j h1 fun e => by have := (hko j e.symm).1; omega
  have ho4 : Box w4 O NodeT #[.int .i64 kd, .int .i64 a, .int .i64 num, .string ⟨nm.toArray⟩, v] := (key O h.ho.lt (by omega)).trans h.ho
  have hn4 : Box w4 Kn NodeT (nodeC t s) := (key Kn h.hn.lt (by omega)).trans h.hn
  have ht4 : Box w4 Kt NodeT (nodeC to st) := (key Kt h.ht.lt (by omega)).trans h.ht
  have hr4 : Box w4 R NodeT ZN := (key R h.hr.lt (by omega)).trans h.hr
  have hb4 : Below w.heap.size w w4 := ⟨hg.os, hg.tape, hg.output, hg.size, fun k hk => hg.block k hk (fun e => by injection e with e; omega)⟩
  have n1 : Kn ≠ O := by omega
  have n2 : Kt ≠ O := by omega
  have n3 : R ≠ O := by omega
  exact ⟨ho4, { h with hn := hn4.far n1 v', ht := ht4.far n2 v', hr := hr4.far n3 v', ho := ho4.set 4 _, hl := own2_set hl' (by omega) v', hb := hb4.setCell (by dsimp only; omega) _ }⟩
/-- a store into the new node -/
theorem TSt.put (h : TSt w Kn Kt R O t to s st kd a num nm wi l v) (i : Nat) (x : Value) {kd' num' : Int} {nm' : List UInt8} (he : (#[.int .i64 kd, .int .i64 a, .int .i64 num, .string ⟨nm.toArray⟩, v] : Array Value).setIfInBounds i x = #[.int .i64 kd', .int .i64 a, .int .i64 num', .string ⟨nm'.toArray⟩, v]) :
    TSt w Kn Kt R O t to s st kd' a num' nm' (wi.setCell ⟨O, i, none⟩ x) l v := by
  have hK := h.hK
  have hR := h.hR
  have n1 : Kn ≠ O := by omega
  have n2 : Kt ≠ O := by omega
  have n3 : R ≠ O := by omega
  exact { h with hn := h.hn.far n1 x, ht := h.ht.far n2 x, hr := h.hr.far n3 x, ho := by rw [← he]; exact h.ho.set i x, hl := own2_set h.hl (by omega) x, hb := h.hb.setCell (by dsimp only; omega) _ }
/-- the kids of a node that a call made lie apart from the row -/
theorem TSt.apart (h : TSt w Kn Kt R O t to s st kd a num nm wi l v) {w2 : World} {u : List NT} {sk : Value} (hk : Kids (fun b => wi.drew.heap.size ≤ b) w2 u sk) : Kids (fun b => O + 1 ≤ b ∧ some b ≠ v.ownBlock) w2 u sk :=
  hk.mono fun b hb => ⟨by have hb2 : wi.heap.size ≤ b := hb; have := h.size; omega, fun e => by have hb2 : wi.heap.size ≤ b := hb; have := (h.hl.lt b e.symm).2; omega⟩
end
def TurnPost (t to : NT) (k : Int) (w : World) (e : Ending) (w' : World) : Prop :=
  ∃ s', e = .returned (.tuple #[.agg #[.int .i64 (turnT t k to).kind, .int .i64 (turnT t k to).at_, .int .i64 (turnT t k to).num, .string ⟨(turnT t k to).name.toArray⟩, s'], .int .i64 (t.size : Nat)]) ∧ Kids (fun b => w.heap.size ≤ b) w' (turnT t k to).kids s' ∧ Below w.heap.size w w'
theorem turn_ret {tm : Array Value} {w2 : World} {R : Nat} {a b c d x : Value} {e : Int} (h4 : tm.getD 6 undef = .pointer (some ⟨R, 0, none⟩)) (h5 : tm.getD 7 undef = .int .i64 e) (hb : Box w2 R NodeT #[a, b, c, d, x]) :
    (results Tryd.f15 tm).run Tryd.prog w2 = .ok (.tuple #[.agg #[a, b, c, d, x], .int .i64 e]) w2 := by
  have x0 := hb.cell 0
  have x1 := hb.cell 1
  have x2 := hb.cell 2
  have x3 := hb.cell 3
  have x4 := hb.cell 4
  simp only [List.getElem?_toArray, List.getElem?_cons_zero, List.getElem?_cons_succ] at x0 x1 x2 x3 x4
  have h4' : tm[6]?.getD undef = .pointer (some ⟨R, 0, none⟩) := by simpa using h4
  have h5' : tm[7]?.getD undef = .int .i64 e := by simpa using h5
  simp [results, Tryd.results15, go_sem, h4', h5', x0, x1, x2, x3, x4]
theorem TSt.tell {w wi : World} {Kn Kt R O : Nat} {t to : NT} {s st v : Value} {kd a num : Int} {nm : List UInt8} {l : List NT} (h : TSt w Kn Kt R O t to s st kd a num nm wi l v) {k : Int} (he : turnT t k to = .mk kd a num nm l) {m : Nat} (hm : m = t.size) :
    Box (five wi R (.int .i64 kd) (.int .i64 a) (.int .i64 num) (.string ⟨nm.toArray⟩) v) R NodeT #[.int .i64 kd, .int .i64 a, .int .i64 num, .string ⟨nm.toArray⟩, v] ∧ TurnPost t to k w (.returned (.tuple #[.agg #[.int .i64 kd, .int .i64 a, .int .i64 num, .string ⟨nm.toArray⟩, v], .int .i64 m])) (five wi R (.int .i64 kd) (.int .i64 a) (.int .i64 num) (.string ⟨nm.toArray⟩) v) := by
  have hK := h.hK
  have hR := h.hR
  refine ⟨box_five h.hr _ _ _ _ _, v, by rw [he, hm]; rfl, ?_, ?_⟩
  · rw [he]
    exact (kids_five h.hl.kids (fun b hb => by have hb2 : O + 1 ≤ b := hb; omega) _ _ _ _ _).mono fun b hb => by have hb2 : O + 1 ≤ b := hb; omega
  · exact ((((h.hb.setCell (by dsimp only; omega) _).setCell (by dsimp only; omega) _).setCell (by dsimp only; omega) _).setCell (by dsimp only; omega) _).setCell (by dsimp only; omega) _
end Go.Proofs.YtkmkeaeaalnbjaaDoor.nt

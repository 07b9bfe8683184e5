/- The document's own looks at a token: which one, is it such a mark, such a word. -/
import Derived.Test.YtgohkmdepjmpaaaDoorCParLex
import Derived.Test.YtgohkmdepjmpaaaDoorCGVal
namespace Go.Proofs.YtgohkmdepjmpaaaDoor.pm
open Go.RowKit wd lx nt ne mem
open vt (I64)

abbrev TkT : TypeId := 44
def tkA (t : Tk) : Value := .agg #[.int .i64 t.kind, .int .i64 t.at_, .int .i64 t.n, .string ⟨t.text.toArray⟩]
abbrev tkC (t : Tk) : Array Value := #[.int .i64 t.kind, .int .i64 t.at_, .int .i64 t.n, .string ⟨t.text.toArray⟩]
theorem tok_at {l : List Tk} {k : Nat} (h : k < l.length) : tokAt l (k : Int) = l[k] := by
  unfold tokAt
  rw [if_pos (by omega), List.getD_eq_getElem?_getD, Int.toNat_natCast, List.getElem?_eq_getElem h]
  rfl
theorem tok_out {l : List Tk} {i : Int} (h : i < 0 ∨ (l.length : Int) ≤ i) : tokAt l i = ⟨0, 0, 0, []⟩ := by
  unfold tokAt
  by_cases h0 : 0 ≤ i
  · rw [if_pos h0, List.getD_eq_getElem?_getD, List.getElem?_eq_none (by omega)]
    rfl
  · rw [if_neg h0]
theorem tok_ret {tm : Array Value} {w2 : World} {R : Nat} {a b c d : Value} (h4 : tm.getD 4 undef = .pointer (some ⟨R, 0, none⟩)) (hb : Box w2 R TkT #[a, b, c, d]) :
    (results Tryd.f26 tm).run Tryd.prog w2 = .ok (.agg #[a, b, c, d]) w2 := by
  have x0 := hb.cell 0
  have x1 := hb.cell 1
  have x2 := hb.cell 2
  have x3 := hb.cell 3
  simp only [List.getElem?_toArray, List.getElem?_cons_zero, List.getElem?_cons_succ] at x0 x1 x2 x3
  have h4' : tm[4]?.getD undef = .pointer (some ⟨R, 0, none⟩) := by simpa using h4
  simp [results, Tryd.results26, go_sem, h4', x0, x1, x2, x3]
theorem box_four {w : World} {g : Nat} {t : TypeId} {x y z u : Value} (h : Box w g t #[x, y, z, u]) (a b c d : Value) : Box ((((w.setCell ⟨g, 0, none⟩ a).setCell ⟨g, 1, none⟩ b).setCell ⟨g, 2, none⟩ c).setCell ⟨g, 3, none⟩ d) g t #[a, b, c, d] := (((h.set 0 a).set 1 b).set 2 c).set 3 d
theorem below_four {B g : Nat} {w0 w : World} (h : Below B w0 w) (hg : B ≤ g) (a b c d : Value) : Below B w0 ((((w.setCell ⟨g, 0, none⟩ a).setCell ⟨g, 1, none⟩ b).setCell ⟨g, 2, none⟩ c).setCell ⟨g, 3, none⟩ d) := (((h.setCell hg a).setCell hg b).setCell hg c).setCell hg d
def TokPost (l : List Tk) (i : Int) (w : World) (e : Ending) (w' : World) : Prop := e = .returned (tkA (tokAt l i)) ∧ Below w.heap.size w w'
set_option maxHeartbeats 1000000 in
theorem rtok_any (l : List Tk) (v : Value) (i : Int) (w : World) (B : Nat) (h : TksS B w l v) (hl : l.length ≤ 1048576) (hi : I64 i) :
    Calls Tryd.prog 26 #[v, .int .i64 i] w (TokPost l i w) := by
  obtain ⟨A, c, rfl⟩ := h.form
  obtain ⟨W, hW⟩ : ∃ W, W = w.alloc (.cells #[.int .i64 0, .int .i64 0, .int .i64 0, .string ⟨#[]⟩] TkT) := ⟨_, rfl⟩
  have HW := Lib.hid hW
  have HB : Hid (Below w.heap.size w W) := Lib.hid (by rw [hW]; exact (Below.refl _ _).alloc (Nat.le_refl _) _)
  have BX : Box W w.heap.size TkT #[.int .i64 0, .int .i64 0, .int .i64 0, .string ⟨#[]⟩] := by rw [hW]; exact Box.new _ _ _ _ rfl
  have HX := Lib.hid BX
  have f0 := BX.frozen 0
  have f1 := BX.frozen 1
  have f2 := BX.frozen 2
  have f3 := BX.frozen 3
  have y0 := BX.cell 0
  have y1 := BX.cell 1
  have y2 := BX.cell 2
  have y3 := BX.cell 3
  simp only [List.getElem?_toArray, List.getElem?_cons_zero, List.getElem?_cons_succ] at y0 y1 y2 y3
  have HS : Hid (TksS w.heap.size w l (.slice A l.length c)) := Lib.hid (by
    obtain ⟨h1, A', c', hv, hc⟩ := h
    refine ⟨h1, A', c', hv, fun h0 => ?_⟩
    obtain ⟨b, off, hA, hb, hcc⟩ := hc h0
    have : 0 < (tksV l).length := by rw [tksV_len]; omega
    refine ⟨b, off, hA, ?_, hcc⟩
    obtain ⟨u, hu⟩ : ∃ u, (tksV l)[0]? = some u := ⟨_, List.getElem?_eq_getElem this⟩
    exact World.block_lt_of_cell? _ _ (hcc 0 u hu))
  unfold I64 at hi
  obtain ⟨N, hN⟩ : ∃ N, N = l.length := ⟨_, rfl⟩
  rw [← hN] at hl ⊢
  have HN := Lib.hid hN
  clear hW BX h hN
  by_cases hin : 0 ≤ i ∧ i < (N : Int)
  · obtain ⟨k, rfl⟩ : ∃ k : Nat, i = k := ⟨i.toNat, by omega⟩
    have hk : k < l.length := by rw [← HN.out]; omega
    obtain ⟨b, off, rfl, _, x⟩ := TksS.cells (HS.out.below HB.out) (by omega)
    obtain ⟨x0, x1, x2, x3⟩ := x k hk
    have HT := Lib.hid (tok_at hk)
    obtain ⟨t, ht⟩ : ∃ t, t = l[k] := ⟨_, rfl⟩
    rw [← ht] at x0 x1 x2 x3 HT
    have h1 : ¬ (k : Int) < 0 := by omega
    have h2 : decide ((N : Int) ≤ (k : Int)) = false := by rw [decide_eq_false_iff_not]; omega
    have h3 : (k : Int) < (N : Int) := hin.2
    have h4 : (0 : Int) ≤ (k : Int) := hin.1
    clear ht x hin
    go_enter Tryd.func26, Tryd.ntmps26
    go_wp2_with (first | (rw [← HW.out]))
    try simp only [Exit.inBlock, Exit.then]
    refine bodyPost_ret (tok_ret rfl (box_four HX.out _ _ _ _)) rfl ?_
    exact ⟨by rw [HT.out]; rfl, below_four HB.out (Nat.le_refl _) _ _ _ _⟩
  · have HT := Lib.hid (tok_out (l := l) (i := i) (by rw [← HN.out]; omega))
    by_cases h1 : i < 0
    · clear hin
      go_enter Tryd.func26, Tryd.ntmps26
      go_wp2_with (first | (rw [← HW.out]))
      try simp only [Exit.inBlock, Exit.then]
      refine bodyPost_ret (tok_ret rfl (box_four HX.out _ _ _ _)) rfl ?_
      exact ⟨by rw [HT.out]; rfl, below_four HB.out (Nat.le_refl _) _ _ _ _⟩
    · have h2 : (N : Int) ≤ i := by omega
      clear hin
      go_enter Tryd.func26, Tryd.ntmps26
      go_wp2_with (first | (rw [← HW.out]))
      try simp only [Exit.inBlock, Exit.then]
      refine bodyPost_ret (tok_ret rfl (box_four HX.out _ _ _ _)) rfl ?_
      exact ⟨by rw [HT.out]; rfl, below_four HB.out (Nat.le_refl _) _ _ _ _⟩
end Go.Proofs.YtgohkmdepjmpaaaDoor.pm

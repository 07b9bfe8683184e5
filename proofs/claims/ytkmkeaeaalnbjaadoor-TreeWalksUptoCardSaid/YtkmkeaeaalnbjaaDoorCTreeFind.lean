/- The package's Find: the nodes of some kinds, in a row of its own. -/
import Derived.Test.YtkmkeaeaalnbjaaDoorCTreeRound
import Derived.Test.YtkmkeaeaalnbjaaDoorCTreeWalk
namespace Go.Proofs.YtkmkeaeaalnbjaaDoor.nt
open Go.RowKit Go.Shelf mem wd lx
open vt (I64 own_form own_base own_below)

attribute [local go_sem] Oper.semAt_some

/-- a row of numbers that is read alone -/
def IntsIn (w : World) (ks : List Int) (v : Value) : Prop := ∃ A c, v = .slice A ks.length c ∧ (0 < ks.length → ∃ b off, A = some ⟨b, off, none⟩ ∧ ∀ (i : Nat) (hi : i < ks.length), w.cell? ⟨b, off + i, none⟩ = some (.int .i64 ks[i]))
theorem IntsIn.below {w w' : World} {ks : List Int} {v : Value} (h : IntsIn w ks v) (hb : Below w.heap.size w w') : IntsIn w' ks v := by
  obtain ⟨A, c, hv, h⟩ := h
  refine ⟨A, c, hv, fun h0 => ?_⟩
  obtain ⟨b, off, hA, hc⟩ := h h0
  exact ⟨b, off, hA, fun i hi => (hb.cell (p := ⟨b, off + i, none⟩) (World.block_lt_of_cell? _ _ (hc i hi))).trans (hc i hi)⟩
def OfRel (W : World) (N : Nat) (ks : List Int) (x : Int) (i : Value) (wr : World) : Prop := ∃ k : Nat, k ≤ N ∧ i = .int .i64 k ∧ Hid ((ks.take k).contains x = false) ∧ wr = W
theorem contains_more {ks : List Int} {x : Int} {k : Nat} (hk : k < ks.length) (h : (ks.take k).contains x = false) (h1 : ks[k] ≠ x) : (ks.take (k + 1)).contains x = false := by
  rw [List.take_succ_eq_append_getElem hk]
  simp only [List.contains_eq_mem, List.mem_append, List.mem_cons, List.not_mem_nil, or_false, decide_eq_false_iff_not, not_or] at h ⊢
  exact ⟨h, fun e => h1 e.symm⟩
theorem contains_hit {ks : List Int} {x : Int} {k : Nat} (hk : k < ks.length) (h1 : ks[k] = x) : ks.contains x = true := by
  rw [← h1]; simp
theorem poneof_any (x : Int) (ks : List Int) (kv : Value) (w : World) (hk : IntsIn w ks kv) (hn : ks.length ≤ 1048576) : Calls Tryd.prog 43 #[.int .i64 x, kv] w fun e w' => e = .returned (.bool (ks.contains x)) ∧ w = w' := by
  obtain ⟨A, c, rfl, hc⟩ := hk
  have HC := Lib.hid hc
  obtain ⟨N, hN⟩ : ∃ N, N = ks.length := ⟨_, rfl⟩
  rw [← hN] at hn ⊢
  have HN := Lib.hid hN
  clear hc hN
  go_enter Tryd.func43, Tryd.ntmps43
  go_wp2_with (fail)
  go_loopw [9] (fun i wr => OfRel w N ks x i wr) (fun i _ => N - (intOf i).toNat)
  case atStart => unfold OfRel; exact ⟨0, Nat.zero_le _, rfl, Lib.hid rfl, rfl⟩
  case round =>
    unfold OfRel at hrel
    obtain ⟨k, hk, rfl, HM, rfl⟩ := hrel
    by_cases hlt : k < N
    · have hkl : k < ks.length := by have := HN.out; omega
      obtain ⟨b, off, rfl, hcc⟩ := HC.out (by omega)
      have h0 := hcc k hkl
      have HU := Lib.hid (fun h => contains_more hkl HM.out (x := x) h)
      have HH := Lib.hid (fun h => contains_hit hkl (x := x) h)
      obtain ⟨y, hy⟩ : ∃ y, y = ks[k] := ⟨_, rfl⟩
      rw [← hy] at h0 HU HH
      clear hy hcc
      by_cases he : y = x
      · subst he
        have HF := Lib.hid (HH.out rfl)
        clear HU HH
        go_wp2_with (fail)
        go_ret
        exact ⟨by rw [HF.out]; rfl, rfl⟩
      · have he2 : (y == x) = false := beq_eq_false_iff_ne.2 he
        have HF := Lib.hid (HU.out he)
        clear HU HH he
        go_wp2_with (fail)
        go_roundw
        case rel => unfold OfRel; exact ⟨k + 1, by omega, by go_num, HF, rfl⟩
        case measure => simp [intOf]; omega
    · have HF : Hid (ks.contains x = false) := Lib.hid (by have h := HM.out; rw [List.take_of_length_le (by have := HN.out; omega)] at h; exact h)
      go_wp2_with (fail)
      go_ret
      exact ⟨by rw [HF.out]; rfl, rfl⟩
/-! ### what a loop gathers: a box that holds a row of the call's own -/
abbrev RowT : TypeId := 22
/-- the box, and the block of the row that it holds -/
def SRow (R : Nat) (W : World) (b : Nat) : Prop := b = R ∨ ∃ v, Boxed W R RowT v ∧ v.ownBlock = some b
theorem srow_alloc {R : Nat} : ∀ W o b, Wf (SRow R) W → SRow R (W.alloc o) b → SRow R W b := fun W o b hw h => by
  rcases h with h | ⟨v, h1, h2⟩
  · exact .inl h
  · refine .inr ⟨v, ?_, h2⟩
    have hR : R < W.heap.size := hw R (.inl rfl)
    unfold Boxed at h1 ⊢
    rw [Below.heap_alloc W o R hR] at h1
    exact h1
theorem boxed_inj {W : World} {R : Nat} {t : TypeId} {v v' : Value} (h : Boxed W R t v) (h' : Boxed W R t v') : v = v' := by
  have h1 := h.cell
  rw [h'.cell] at h1
  exact (Option.some.inj h1).symm
theorem kps_alloc {R B : Nat} {W : World} (hB : B ≤ W.heap.size) (o : Obj) (hw : Wf (SRow R) W) : KpS (SRow R) B W (W.alloc o) :=
  ⟨fun b cs t fr hc hs => ⟨Below.heap_alloc W o b (Array.getElem?_eq_some_iff.1 hc).1, fun h => hs (srow_alloc W o b hw h)⟩, fun _ b h => by
    have := hw b (srow_alloc W o b hw h)
    rw [World.size_alloc]; omega, (Below.refl B W).alloc hB o⟩
theorem own_noncells {B : Nat} {G : Nat → Prop} {A A' : World} {row : Option Nat} {l : List NT} {v : Value} (h : Own B G A l v) (hg : A.grownBy A' row) (hr : ∀ r, row = some r → ∃ o : Obj, A.heap[r]? = some o ∧ o.isCells = false) : Own B G A' l v := by
  obtain ⟨vs, hv, ho⟩ := h
  refine ⟨vs, hv.carry fun b o' u hb hc => ⟨hb, cell_kept hc hg hr⟩, ho.1, ?_⟩
  rcases ho.2 with h' | ⟨g, cap, cur, hv, hg', hh, r⟩
  · exact .inl h'
  · exact .inr ⟨g, cap, cur, hv, hg', (grownBy_keeps_cells hg hr hh rfl).trans hh, r⟩
abbrev ZL : List Value := [.int .i64 0, .int .i64 0, .int .i64 0, .string ⟨#[]⟩, .slice none 0 0]
/-- what an append of one node leaves, ahead of its store -/
structure AppOut (B n g cap : Nat) (vs : List Value) (v : Value) (W w4 : World) : Prop where
  own : w4.ownsRow B NodeT 5 (.slice (some ⟨g, 0, none⟩) (n + 1) cap) (n + 1) (vs ++ ZL)
  same : ∀ k, k < W.heap.size → some k ≠ v.ownBlock → w4.heap[k]? = W.heap[k]?
  os : w4.os = W.os
  tape : w4.tape = W.tape
  output : w4.output = W.output
  size : W.heap.size ≤ w4.heap.size
  row : v.ownBlock = some g ∨ W.heap.size ≤ g
  lt : g < w4.heap.size
theorem app_out {B n g cap : Nat} {vs : List Value} {v : Value} {W w4 : World} {o : Obj} (h1 : w4.ownsRow B NodeT 5 (.slice (some ⟨g, 0, none⟩) (n + 1) cap) (n + 1) (vs ++ ZL)) (h2 : (W.alloc o).drew.grownBy w4 v.ownBlock) (h3 : v.ownBlock = some g ∨ g = W.heap.size + 1) (h4 : g < w4.heap.size) : AppOut B n g cap vs v W w4 :=
  ⟨h1, fun k hk hne => (h2.block k (by show k < (W.alloc o).heap.size; rw [World.size_alloc]; omega) hne).trans (Below.heap_alloc W o k hk), h2.os, h2.tape, h2.output, by have := h2.size; have e : (W.alloc o).drew.heap.size = W.heap.size + 1 := World.size_alloc _ _; omega, h3.imp id (fun e => by omega), h4⟩
theorem AppOut.cells {B n g cap : Nat} {vs : List Value} {v : Value} {W w4 : World} (h : AppOut B n g cap vs v W w4) (hn : vs.length = n * 5) :
    (w4.cell? ⟨g, n * 5, none⟩ = some (.int .i64 0) ∧ w4.cell? ⟨g, n * 5 + 1, none⟩ = some (.int .i64 0) ∧ w4.cell? ⟨g, n * 5 + 2, none⟩ = some (.int .i64 0) ∧ w4.cell? ⟨g, n * 5 + 3, none⟩ = some (.string ⟨#[]⟩) ∧ w4.cell? ⟨g, n * 5 + 4, none⟩ = some (.slice none 0 0)) ∧ ∀ j, w4.frozen? ⟨g, j, none⟩ = false := by
  obtain ⟨_, h2⟩ := h.own
  rcases h2 with ⟨hv, _⟩ | ⟨g', cap', cur, hv, hg, hh, h1, h2, h3, h4⟩
  · cases hv
  · injection hv with e1 _ e3
    injection e1 with e1
    injection e1 with e1
    subst e1; subst e3
    have key : ∀ (j : Nat) (u : Value), (vs ++ ZL)[j]? = some u → w4.cell? ⟨g, j, none⟩ = some u := fun j u hu => by
      rw [cell_of_row w4 g j cur NodeT (0, 0) hh]
      rw [← h4, List.getElem?_take] at hu
      split at hu
      · simpa using hu
      · cases hu
    have at5 : ∀ (j : Nat), (vs ++ ZL)[n * 5 + j]? = ZL[j]? := fun j => by
      rw [← hn, List.getElem?_append_right (by omega)]
      congr 1
      omega
    refine ⟨⟨key (n * 5) _ (at5 0), key _ _ (at5 1), key _ _ (at5 2), key _ _ (at5 3), key _ _ (at5 4)⟩, fun j => ?_⟩
    unfold World.frozen?; rw [hh]; simp
abbrev fiveAt (w : World) (g n : Nat) (a b c d e : Value) : World := ((((w.setCell ⟨g, n * 5, none⟩ a).setCell ⟨g, n * 5 + 1, none⟩ b).setCell ⟨g, n * 5 + 2, none⟩ c).setCell ⟨g, n * 5 + 3, none⟩ d).setCell ⟨g, n * 5 + 4, none⟩ e
theorem fiveAt_heap (w : World) (g n : Nat) (a b c d e : Value) (k : Nat) (h : k ≠ g) : (fiveAt w g n a b c d e).heap[k]? = w.heap[k]? := by
  unfold fiveAt
  rw [Below.heap_setCell _ _ _ _ h, Below.heap_setCell _ _ _ _ h, Below.heap_setCell _ _ _ _ h, Below.heap_setCell _ _ _ _ h, Below.heap_setCell _ _ _ _ h]
theorem fiveAt_size (w : World) (g n : Nat) (a b c d e : Value) : (fiveAt w g n a b c d e).heap.size = w.heap.size := by
  unfold fiveAt
  rw [World.size_setCell, World.size_setCell, World.size_setCell, World.size_setCell, World.size_setCell]
/-- what both stores leave -/
structure FinW (B n g cap R : Nat) (vs : List Value) (a b c d e : Value) (w4 w5 : World) : Prop where
  box : Boxed w5 R RowT (.slice (some ⟨g, 0, none⟩) (n + 1) cap)
  own : w5.ownsRow B NodeT 5 (.slice (some ⟨g, 0, none⟩) (n + 1) cap) (n + 1) (vs ++ [a, b, c, d, e])
  same : ∀ k, k ≠ R → k ≠ g → w5.heap[k]? = w4.heap[k]?
  size : w5.heap.size = w4.heap.size
  os : w5.os = w4.os
  tape : w5.tape = w4.tape
  output : w5.output = w4.output
theorem setCell_rest (w : World) (p : Addr) (v : Value) : (w.setCell p v).os = w.os ∧ (w.setCell p v).tape = w.tape ∧ (w.setCell p v).output = w.output := by
  have h := (Below.refl 0 w).setCell (p := p) (Nat.zero_le _) v
  exact ⟨h.os, h.tape, h.output⟩
theorem fiveAt_rest (w : World) (g n : Nat) (a b c d e : Value) : (fiveAt w g n a b c d e).os = w.os ∧ (fiveAt w g n a b c d e).tape = w.tape ∧ (fiveAt w g n a b c d e).output = w.output := by
  have h := (((((Below.refl 0 w).setCell (p := ⟨g, n * 5, none⟩) (Nat.zero_le _) a).setCell (p := ⟨g, n * 5 + 1, none⟩) (Nat.zero_le _) b).setCell (p := ⟨g, n * 5 + 2, none⟩) (Nat.zero_le _) c).setCell (p := ⟨g, n * 5 + 3, none⟩) (Nat.zero_le _) d).setCell (p := ⟨g, n * 5 + 4, none⟩) (Nat.zero_le _) e
  exact ⟨h.os, h.tape, h.output⟩
theorem fin_a {B n g cap R : Nat} {vs : List Value} {v v0 : Value} {a b c d e : Value} {W w4 : World} (h : AppOut B n g cap vs v W w4) (hn : vs.length = n * 5) (hR : Boxed w4 R RowT v0) (hne : R ≠ g) :
    FinW B n g cap R vs a b c d e w4 ((fiveAt w4 g n a b c d e).setCell ⟨R, 0, none⟩ (.slice (some ⟨g, 0, none⟩) (n + 1) cap)) := by
  have h5 := owns_five a b c d e hn h.own
  have hb : Boxed (fiveAt w4 g n a b c d e) R RowT v0 := (fiveAt_heap w4 g n a b c d e R hne).trans hR
  have r1 := setCell_rest (fiveAt w4 g n a b c d e) ⟨R, 0, none⟩ (.slice (some ⟨g, 0, none⟩) (n + 1) cap)
  refine ⟨hb.set _, ownsRow_setCell_other h5 (fun e => ?_) _, fun k h1 h2 => (Below.heap_setCell _ _ _ _ h1).trans (fiveAt_heap w4 g n a b c d e k h2), by rw [World.size_setCell]; exact fiveAt_size w4 g n a b c d e, r1.1.trans (fiveAt_rest w4 g n a b c d e).1, r1.2.1.trans (fiveAt_rest w4 g n a b c d e).2.1, r1.2.2.trans (fiveAt_rest w4 g n a b c d e).2.2⟩
  exact hne (Option.some.inj e).symm
theorem fin_b {B n g cap R : Nat} {vs : List Value} {v v0 : Value} {a b c d e : Value} {W w4 : World} (h : AppOut B n g cap vs v W w4) (hn : vs.length = n * 5) (hR : Boxed w4 R RowT v0) (hne : R ≠ g) :
    FinW B n g cap R vs a b c d e w4 (fiveAt (w4.setCell ⟨R, 0, none⟩ (.slice (some ⟨g, 0, none⟩) (n + 1) cap)) g n a b c d e) := by
  have h5 := owns_five a b c d e hn (ownsRow_setCell_other h.own (a := ⟨R, 0, none⟩) (fun e => hne (Option.some.inj e).symm) (.slice (some ⟨g, 0, none⟩) (n + 1) cap))
  refine ⟨(fiveAt_heap _ g n a b c d e R hne).trans (hR.set _), h5, fun k h1 h2 => (fiveAt_heap _ g n a b c d e k h2).trans (Below.heap_setCell _ _ _ _ h1), (fiveAt_size _ g n a b c d e).trans (World.size_setCell _ _ _), (fiveAt_rest _ g n a b c d e).1.trans (setCell_rest w4 _ _).1, (fiveAt_rest _ g n a b c d e).2.1.trans (setCell_rest w4 _ _).2.1, (fiveAt_rest _ g n a b c d e).2.2.trans (setCell_rest w4 _ _).2.2⟩
theorem fin_says {B n g cap R K : Nat} {G : Nat → Prop} {vs : List Value} {v : Value} {l : List NT} {u : NT} {q : Value} {w W w4 w5 : World} {kv : Value} {tk : TypeId} (h : AppOut B n g cap vs v W w4) (hf : FinW B n g cap R vs (.int .i64 u.kind) (.int .i64 u.at_) (.int .i64 u.num) (.string ⟨u.name.toArray⟩) q w4 w5)
    (hv : Boxed W R RowT v) (ho : W.ownsRow B NodeT 5 v n vs) (hvs : Nods (fun b => G b ∧ b < w.heap.size) W l vs) (hl : n = l.length) (hd : Hd u) (hk : Kids G w u.kids q) (hbk : Boxed W K tk kv) (hB : Below w.heap.size w W) (hwR : w.heap.size ≤ R) (hRB : R < B) (hKB : K < B) (hKR : K ≠ R) (_ : w.heap.size ≤ B) (hBW : B ≤ W.heap.size) :
    KeepsFrom B W w5 ∧ KpS (SRow R) w.heap.size W w5 ∧ (∃ v', Boxed w5 R RowT v' ∧ Own B (fun b => G b ∧ b < w.heap.size) w5 (l ++ [u]) v') ∧ Boxed w5 K tk kv ∧ Below w.heap.size w w5 ∧ B ≤ w5.heap.size := by
  have hz : W.heap.size ≤ w5.heap.size := by rw [hf.size]; exact h.size
  have hgB : B ≤ g := by
    rcases h.row with e | e
    · exact (ho.lt g e).1
    · omega
  have key : ∀ k, k < W.heap.size → k ≠ R → some k ≠ v.ownBlock → w5.heap[k]? = W.heap[k]? := fun k h1 h2 h3 => (hf.same k h2 (fun e => by
    rcases h.row with e2 | e2
    · exact h3 (by rw [e2, e])
    · omega)).trans (h.same k h1 h3)
  have low : ∀ k, k < B → k ≠ R → w5.heap[k]? = W.heap[k]? := fun k h1 h2 => key k (by omega) h2 (fun e => by have := (ho.lt k e.symm).1; omega)
  have hBlow : Below w.heap.size W w5 := ⟨by rw [hf.os, h.os], by rw [hf.tape, h.tape], by rw [hf.output, h.output], hz, fun k hk => low k (by omega) (by omega)⟩
  refine ⟨⟨hz, fun k o h0 h1 h2 => ?_⟩, ⟨fun b cs t fr hc hs => ?_, fun _ b hb => ?_, hBlow⟩, ⟨_, hf.box, ?_⟩, (low K hKB hKR).trans hbk, hB.trans hBlow, by omega⟩
  · have hlt := (Array.getElem?_eq_some_iff.1 h1).1
    refine (key k hlt (by omega) (fun e => ?_)).trans h1
    rcases ho.2 with ⟨hv0, _⟩ | ⟨g', cap', cur, hv0, _, hh, _⟩
    · rw [hv0] at e; cases e
    · rw [hv0] at e
      have e := Option.some.inj e
      have e : k = g' := e
      subst e
      rw [h1] at hh
      have hh := Option.some.inj hh
      subst hh
      simp [Obj.isCells] at h2
  · have hlt := (Array.getElem?_eq_some_iff.1 hc).1
    have n1 : b ≠ R := fun e => hs (.inl e)
    have n2 : some b ≠ v.ownBlock := fun e => hs (.inr ⟨v, hv, e.symm⟩)
    refine ⟨key b hlt n1 n2, fun h5 => ?_⟩
    rcases h5 with h5 | ⟨v5, b5, o5⟩
    · exact n1 h5
    · obtain rfl := boxed_inj hf.box b5
      have e5 : g = b := Option.some.inj o5
      rcases h.row with e2 | e2
      · exact n2 (by rw [e2, e5])
      · omega
  · rcases hb with rfl | ⟨v5, b5, o5⟩
    · omega
    · obtain rfl := boxed_inj hf.box b5
      have e5 : g = b := Option.some.inj o5
      have := h.lt
      rw [hf.size]; omega
  · refine ⟨vs ++ [.int .i64 u.kind, .int .i64 u.at_, .int .i64 u.num, .string ⟨u.name.toArray⟩, q], Nods.append ?_ ?_, ?_⟩
    · exact hvs.keep fun b o hb hlt => World.cell?_of_block (low b (by omega) (by omega))
    · rw [Nods]
      exact ⟨q, [], rfl, hd, (hk.lt.below hB).keep (fun b o hb hlt => World.cell?_of_block (low b (by omega) (by omega))), by rw [Nods]⟩
    · rw [List.length_append, ← hl]
      exact hf.own
def findL {G : Nat → Prop} {w0 : World} (ks : List Int) (pre : List (NE G w0)) : List NT := (pre.map NE.t).filter fun u => ks.contains u.kind
theorem findL_snoc {G : Nat → Prop} {w0 : World} (ks : List Int) (pre : List (NE G w0)) (x : NE G w0) : findL ks (pre ++ [x]) = findL ks pre ++ (if ks.contains x.t.kind then [x.t] else []) := by
  unfold findL
  rw [List.map_append, List.filter_append]
  congr 1
  simp only [List.map_cons, List.map_nil, List.filter_cons, List.filter_nil]
def findN (t : NT) (ks : List Int) : List NT := t.walk.filter fun u => ks.contains u.kind
theorem kps_refl {R B : Nat} (W : World) : KpS (SRow R) B W W := ⟨fun _ _ _ _ _ hs => ⟨rfl, hs⟩, fun h => h, Below.refl _ _⟩
theorem srow_wf {R B : Nat} {G : Nat → Prop} {W : World} {l : List NT} {v : Value} (hv : Boxed W R RowT v) (ho : Own B G W l v) : Wf (SRow R) W := fun b h => by
  rcases h with rfl | ⟨v', h1, h2⟩
  · exact hv.lt
  · obtain rfl := boxed_inj hv h1
    exact (ho.choose_spec.2.lt b h2).2
set_option maxRecDepth 100000 in
set_option maxHeartbeats 4000000 in
theorem pfind_of (G : Nat → Prop) (t : NT) (hd : Hd t) (hz : t.size ≤ 1073741824) (ks : List Int) (s kv : Value) (w : World) (h : Kids G w t.kids s) (hk : IntsIn w ks kv) (hn : ks.length ≤ 1048576) :
    Calls Tryd.prog 19 #[.agg #[.int .i64 t.kind, .int .i64 t.at_, .int .i64 t.num, .string ⟨t.name.toArray⟩, s], kv] w fun e w' => ∃ v, e = .returned v ∧ Kids (fun _ => True) w' (findN t ks) v ∧ Below w.heap.size w w' := by
  have h1 : 1 ≤ 9 := by decide
  have hf : Fence.wide.fn 19 := trivial
  have hf2 : Fence.wide.fn 17 := trivial
  have hf3 : Fence.wide.fn 41 := trivial
  obtain ⟨Ak, ck, rfl, hkc⟩ := hk
  have HKC := Lib.hid hkc
  obtain ⟨M, hM⟩ : ∃ M, M = ks.length := ⟨_, rfl⟩
  rw [← hM] at hn ⊢
  have HM := Lib.hid hM
  clear hkc hM
  obtain ⟨H, hH⟩ : ∃ H, H = w.heap.size := ⟨_, rfl⟩
  obtain ⟨W0, hW0⟩ : ∃ W, W = w.alloc (.cells #[.int .i64 t.kind, .int .i64 t.at_, .int .i64 t.num, .string ⟨t.name.toArray⟩, s] NodeT) := ⟨_, rfl⟩
  obtain ⟨hx, HB0, HHW0⟩ := boxed hH hW0
  obtain ⟨H1, hH1⟩ : ∃ H1, H1 = W0.heap.size := ⟨_, rfl⟩
  obtain ⟨W1, hW1⟩ : ∃ W, W = W0.alloc (.cells #[.slice Ak M ck] 29) := ⟨_, rfl⟩
  have hb1 : Below W0.heap.size W0 W1 := by rw [hW1]; exact (Below.refl _ _).alloc (Nat.le_refl _) _
  have hbk : Boxed W1 H1 29 (.slice Ak M ck) := by rw [hW1, hH1]; exact Boxed.new _ _ _
  have hb2 : Below W1.heap.size W1 (W1.alloc (.cells #[.slice none 0 0] RowT)) := (Below.refl _ _).alloc (Nat.le_refl _) _
  have hbR : Boxed (W1.alloc (.cells #[.slice none 0 0] RowT)) W1.heap.size RowT (.slice none 0 0) := Boxed.new _ _ _
  obtain ⟨x0, x1, x2, x3, x4⟩ := boxed_on (boxed_on hx HHW0.out hb1) (by have := hb1.size; have := HHW0.out; omega) hb2
  have y0 : (W1.alloc (.cells #[.slice none 0 0] RowT)).cell? ⟨H1, 0, none⟩ = some (.slice Ak M ck) := (hbk.alloc _).cell
  have HWK := Lib.hid (pwalk_any t s (W1.alloc (.cells #[.slice none 0 0] RowT)))
  have hb01 : Below w.heap.size w W1 := HB0.out.trans (hb1.mono HB0.out.size)
  have HB01 := Lib.hid (hb01.trans (hb2.mono hb01.size))
  have HBR := Lib.hid hbR
  have HBK := Lib.hid hbk
  have hRw : w.heap.size + 2 = W1.heap.size ∧ H1 = w.heap.size + 1 := by
    have e0 : W0.heap.size = w.heap.size + 1 := by rw [hW0]; simp
    have e1 : W1.heap.size = W0.heap.size + 1 := by rw [hW1]; simp
    omega
  have HHK := Lib.hid h
  have hwl := walk_len t
  obtain ⟨A, cap, rfl, hl⟩ := h.form
  obtain ⟨N, hN⟩ : ∃ N, N = t.kids.length := ⟨_, rfl⟩
  have HKN := Lib.hid hN
  rw [← hN] at hW0 x4 HWK
  have HW0 := Lib.hid hW0
  have HHH := Lib.hid hH
  have HW1 := Lib.hid hW1
  have HH1 := Lib.hid hH1
  clear hW0 hH hx hb1 hbR hb01 h hN hl hW1 hH1 hbk hb2
  refine (callsIn_wide (n := 9)).1 ?_
  refine callsIn_of_wp_marks Tryd.func19 rfl hf ?_ rfl
  simp only [Tryd.ntmps19, List.size_toArray, List.length_cons, List.length_nil, Nat.reduceAdd, Nat.reduceSub, Array.replicate_succ, Array.replicate_zero, List.push_toArray, List.append_toArray, List.nil_append, List.cons_append]
  rw [← HKN.out]
  gi_wp2_with (first | (rw [← HW0.out, ← HHH.out]) | (rw [← HW1.out, ← HH1.out]) | (gi_at_call 17; refine (callsIn_wide.2 HWK.out).mono ?_; rintro e w2 ⟨rfl, hw2⟩))
  obtain ⟨R, hR⟩ : ∃ R, R = W1.heap.size := ⟨_, rfl⟩
  obtain ⟨w2, hw2⟩ : ∃ w2, w2 = ((W1.alloc (.cells #[.slice none 0 0] RowT)).alloc (.cells #[.int .i64 t.kind, .int .i64 t.at_, .int .i64 t.num, .string ⟨t.name.toArray⟩, .slice A N cap] NodeT)) := ⟨_, rfl⟩
  have hb2 : Below w.heap.size w w2 := by rw [hw2]; exact HB01.out.alloc HB01.out.size _
  have hbx2 : Box w2 (R + 1) NodeT #[.int .i64 t.kind, .int .i64 t.at_, .int .i64 t.num, .string ⟨t.name.toArray⟩, .slice A t.kids.length cap] := by
    rw [hw2, ← HKN.out]; exact Box.new _ _ _ _ (by simp [hR])
  have hbR2 : Boxed w2 R RowT (.slice none 0 0) := by rw [hw2, hR]; exact HBR.out.alloc _
  have hbK2 : Boxed w2 (w.heap.size + 1) 29 (.slice Ak M ck) := by rw [hw2, ← hRw.2]; exact (HBK.out.alloc _).alloc _
  have hz2 : w2.heap.size = R + 2 := by rw [hw2, hR]; simp
  have hRw1 : w.heap.size + 2 = R := by rw [hR]; exact hRw.1
  rw [← hw2, ← hR]
  clear hw2 hR
  refine wpIn_rangeFunc_ownH rfl h1 (gf := 41) (lb := #[.pointer (some ⟨R + 1, 0, none⟩)]) rfl hf3 (enters_of Tryd.func41 (by kernel_rfl) rfl)
    (walk_stops (G := G) 8 (R + 1) (SRow R) t _ w w2 hb2 hd HHK.out hbx2 srow_alloc (fun W hb b h => ?wf))
    (fun h1 h2 => KpS.trans h1 h2) (kps_put hb2.size ?put) (Below.refl _ _) (fun _ => rfl)
    (fun (pre : List (NE G w)) (W : World) => (∃ v, Boxed W R RowT v ∧ Own w2.heap.size (fun b => G b ∧ b < w.heap.size) W (findL ks pre) v) ∧ Boxed W (w.heap.size + 1) 29 (.slice Ak M ck) ∧ Below w.heap.size w W ∧ w2.heap.size ≤ W.heap.size)
    (fun _ _ _ => False) ?own
    (fun _ _ _ _ _ hs _ _ => hs)
    ⟨⟨_, hbR2, Own.nil_ _ _ _⟩, hbK2, hb2, Nat.le_refl _⟩
    (fun x a' W => ∃ Bx, Box W Bx NodeT #[.int .i64 x.1.1.kind, .int .i64 x.1.1.at_, .int .i64 x.1.1.num, .string ⟨x.1.1.name.toArray⟩, x.1.2] ∧ (∃ v, Boxed W R RowT v ∧ some Bx ≠ v.ownBlock) ∧ w2.heap.size ≤ Bx ∧ a' = { tmps := #[.agg #[.int .i64 t.kind, .int .i64 t.at_, .int .i64 t.num, .string ⟨t.name.toArray⟩, .slice A N cap], .slice Ak M ck, .pointer (some ⟨H, 0, none⟩), .pointer (some ⟨w.heap.size + 1, 0, none⟩), .slice none 0 0, .pointer (some ⟨R, 0, none⟩), .pointer (some ⟨Bx, 0, none⟩), .agg #[.int .i64 t.kind, .int .i64 t.at_, .int .i64 t.num, .string ⟨t.name.toArray⟩, .slice A N cap], .func (.func 41) #[] #[.pointer (some ⟨R + 1, 0, none⟩)], .agg #[.int .i64 x.1.1.kind, .int .i64 x.1.1.at_, .int .i64 x.1.1.num, .string ⟨x.1.1.name.toArray⟩, x.1.2], undef, undef, undef, undef, undef, undef, undef, undef, undef, undef, undef], defers := [] }) ?ax ?assign ?body ?done ?stop
  case wf =>
    rcases h with rfl | ⟨v', h1, h2⟩
    · have := hb.size; omega
    · obtain rfl := boxed_inj (show Boxed W R RowT _ from (hb.block R (by omega)).trans hbR2) h1
      cases h2
  case put =>
    intro W l o o' b hl hlo hc h
    rcases h with h | ⟨v', h1, h2⟩
    · exact .inl h
    · refine .inr ⟨v', ?_, h2⟩
      unfold Boxed at h1 ⊢
      rw [World.putObj_heap_other (by omega)] at h1
      exact h1
  case own =>
    rintro pre W W' row ⟨⟨v, hv, ho⟩, hbk, hB, hsz⟩ hg hr
    exact ⟨⟨v, (boxed_own R RowT (fun _ : Unit => v)) () W W' row hv hg (fun r e => (hr r e).2), own_noncells ho hg (fun r e => (hr r e).2)⟩, (boxed_own (w.heap.size + 1) 29 (fun _ : Unit => .slice Ak M ck)) () W W' row hbk hg (fun r e => (hr r e).2), hB.grown hg hB.size (fun k e => by have := (hr k e).1; have := hb2.size; omega), Nat.le_trans hsz hg.size⟩
  case ax =>
    rintro x a' _ W W' row ⟨Bx, hbx, ⟨v, hv, hne⟩, hlt, rfl⟩ hg hr
    exact ⟨Bx, (grownBy_keeps_cells hg (fun r e => (hr r e).2) hbx rfl).trans hbx, ⟨v, (boxed_own R RowT (fun _ : Unit => v)) () W W' row hv hg (fun r e => (hr r e).2), hne⟩, hlt, rfl⟩
  case assign =>
    rintro l pre x W K ⟨⟨v, hv, ho⟩, hbk, hB, hsz⟩ hK
    have hwf := srow_wf hv ho
    have HV := Lib.hid hv
    have HO := Lib.hid ho
    have HBK2 := Lib.hid hbk
    have HBW := Lib.hid hB
    obtain ⟨⟨u, q⟩, hdx, hkx⟩ := x
    change Kids G w u.kids q at hkx
    obtain ⟨Aq, cq, rfl, _⟩ := hkx.form
    clear hv ho hbk hB
    unfold encN
    dsimp only at hK ⊢
    gi_wp2
    exact hK _ _ ((KeepsOthers.alloc _ _).from _) (kps_alloc HBW.out.size _ hwf) ⟨⟨v, HV.out.alloc _, HO.out.below ((Below.refl _ W).alloc (Nat.le_refl _) _)⟩, HBK2.out.alloc _, HBW.out.alloc HBW.out.size _, by rw [World.size_alloc]; omega⟩ ⟨W.heap.size, Box.new _ _ _ _ rfl, ⟨v, HV.out.alloc _, fun e => by have := (HO.out.choose_spec.2.lt _ e.symm).2; omega⟩, hsz, rfl⟩
  case body =>
    rintro l pre x a' W hl _ ⟨⟨v, hv, ho⟩, hbk, hB, hsz⟩ ⟨Bx, hbx, ⟨v', hv', hne⟩, hBx, rfl⟩ hlt
    obtain rfl := boxed_inj hv hv'
    have HS := Lib.hid (findL_snoc ks pre x)
    obtain ⟨⟨u, q⟩, hdx, hkx⟩ := x
    change Kids G w u.kids q at hkx
    obtain ⟨Aq, cq, rfl, _⟩ := hkx.form
    dsimp only at hbx ⊢
    have HOF := Lib.hid (poneof_any u.kind ks (.slice Ak M ck) W ((show IntsIn w ks (.slice Ak M ck) from ⟨Ak, ck, by rw [HM.out], HKC.out⟩).below hB) (by have := HM.out; omega))
    have b0 := hbx.cell 0
    have b1 := hbx.cell 1
    have b2 := hbx.cell 2
    have b3 := hbx.cell 3
    have b4 := hbx.cell 4
    simp only [List.getElem?_toArray, List.getElem?_cons_zero, List.getElem?_cons_succ] at b0 b1 b2 b3 b4
    have bk := hbk.cell
    have hf5 : Fence.wide.fn 43 := trivial
    have HV := Lib.hid hv
    have HO := Lib.hid ho
    have HBK2 := Lib.hid hbk
    have HBW := Lib.hid hB
    have HBX := Lib.hid hbx
    obtain ⟨A0, c0, rfl⟩ := ho.form
    obtain ⟨cc, hcc⟩ : ∃ cc, cc = ks.contains u.kind := ⟨_, rfl⟩
    have HS2 : Hid (findL ks (pre ++ [⟨(u, Value.slice Aq u.kids.length cq), hdx, hkx⟩]) = findL ks pre ++ (if cc = true then [u] else [])) := Lib.hid (by rw [HS.out, hcc]; rfl)
    rw [← hcc] at HOF
    clear hv ho hbk hB hbx hv' HS hcc
    cases cc
    · gi_wp2_with (gi_at_call 43; refine (CallsIn.inRound l (callsIn_wide.2 HOF.out)).mono ?_; rintro e w1 ⟨rfl, rfl⟩)
      refine ⟨KeepsFrom.refl _ _, kps_refl _, ⟨_, HV.out, ?_⟩, HBK2.out, HBW.out, hsz⟩
      rw [HS2.out]
      simpa using HO.out
    · gi_wp2_with (gi_at_call 43; refine (CallsIn.inRound l (callsIn_wide.2 HOF.out)).mono ?_; rintro e w1 ⟨rfl, rfl⟩)
      obtain ⟨n, hnn⟩ : ∃ n, n = (findL ks pre).length := ⟨_, rfl⟩
      rw [← hnn] at HV hne HO
      have HNN := Lib.hid hnn
      have hr0 : W.drew.cell? ⟨R, 0, none⟩ = some (.slice A0 n c0) := HV.out.cell
      have hrz : (W.alloc (.cells #[.int .i64 0, .int .i64 0, .int .i64 0, .string ⟨#[]⟩, .slice none 0 0] NodeT)).drew.cell? ⟨R, 0, none⟩ = some (.slice A0 n c0) := (HV.out.alloc _).cell
      clear hnn b0 b1 b2 b3 b4 bk HOF
      refine region_round (S := fun w' => w'.cell? ⟨Bx, 0, none⟩ = some (.int .i64 u.kind) ∧ w'.cell? ⟨Bx, 1, none⟩ = some (.int .i64 u.at_) ∧ w'.cell? ⟨Bx, 2, none⟩ = some (.int .i64 u.num) ∧ w'.cell? ⟨Bx, 3, none⟩ = some (.string ⟨u.name.toArray⟩) ∧ w'.cell? ⟨Bx, 4, none⟩ = some (.slice Aq u.kids.length cq)) (by kernel_rfl) (no_defer (by kernel_rfl)) ⟨HBX.out.cell 0, HBX.out.cell 1, HBX.out.cell 2, HBX.out.cell 3, HBX.out.cell 4⟩ (fun hHeld => ?_)
      refine wpAnyH_take (i := 1) (v := .agg #[.int .i64 u.kind, .int .i64 u.at_, .int .i64 u.num, .string ⟨u.name.toArray⟩, .slice Aq u.kids.length cq]) rfl (by kernel_rfl) (by kernel_rfl) (by kernel_rfl) (fun _ _ _ h => h) (Or.inl ⟨by rfl, fun w hSw => ?_⟩) hHeld ?_
      · obtain ⟨q0, q1, q2, q3, q4⟩ := hSw
        go_simp
      refine wpAnyH_ready (rs := [0, 3]) (by kernel_rfl) (by simp) ?_
      obtain ⟨i0, hi, hz0, hz1, hz2⟩ := info_parts infoN
      obtain ⟨vs, hvs, hown⟩ := HO.out
      rw [← HNN.out] at hown
      have HVS := Lib.hid hvs
      have HOV : Hid ((W.alloc (.cells #[.int .i64 0, .int .i64 0, .int .i64 0, .string ⟨#[]⟩, .slice none 0 0] NodeT)).drew.ownsRow w2.heap.size NodeT 5 (.slice A0 n c0) n vs) := Lib.hid (hown.alloc _)
      have hlen : n ≤ 1073741824 := by
        have := HNN.out
        have h2 : (findL ks pre).length ≤ pre.length := by unfold findL; exact Nat.le_trans (List.length_filter_le _ _) (by rw [List.length_map]; omega)
        omega
      have hbz : Box (W.alloc (.cells #[.int .i64 0, .int .i64 0, .int .i64 0, .string ⟨#[]⟩, .slice none 0 0] NodeT)) W.heap.size NodeT _ := Box.new _ _ _ _ rfl
      have hnews : ∀ (j : Nat) (u : Value), ZL[j]? = some u → (W.alloc (.cells #[.int .i64 0, .int .i64 0, .int .i64 0, .string ⟨#[]⟩, .slice none 0 0] NodeT)).drew.cell? ((⟨W.heap.size, 0, none⟩ : Addr).add j) = some u := fun j u hu => by
        rw [vt.cells_add, Nat.zero_add]
        exact (hbz.cell j).trans (by simpa using hu)
      have hone : ∀ u ∈ ZL, u.oneCell' = true := by
        intro u hu
        simp only [List.mem_cons, List.not_mem_nil, or_false] at hu
        rcases hu with rfl | rfl | rfl | rfl | rfl <;> rfl
      have hbase : w2.heap.size ≤ (W.alloc (.cells #[.int .i64 0, .int .i64 0, .int .i64 0, .string ⟨#[]⟩, .slice none 0 0] NodeT)).drew.heap.size := by
        show _ ≤ (W.alloc _).heap.size
        rw [World.size_alloc]; omega
      have hkeep : ∀ (g cp : Nat) (w4 : World), Hid (AppOut w2.heap.size n g cp vs (.slice A0 n c0) W w4) → w4.cell? ⟨Bx, 0, none⟩ = some (.int .i64 u.kind) ∧ w4.cell? ⟨Bx, 1, none⟩ = some (.int .i64 u.at_) ∧ w4.cell? ⟨Bx, 2, none⟩ = some (.int .i64 u.num) ∧ w4.cell? ⟨Bx, 3, none⟩ = some (.string ⟨u.name.toArray⟩) ∧ w4.cell? ⟨Bx, 4, none⟩ = some (.slice Aq u.kids.length cq) := fun g cp w4 hao => by
        have hbb : Box w4 Bx NodeT _ := (hao.out.same Bx HBX.out.lt hne).trans HBX.out
        exact ⟨hbb.cell 0, hbb.cell 1, hbb.cell 2, hbb.cell 3, hbb.cell 4⟩
      have heldz : ∀ (w' : World), (w'.cell? ⟨Bx, 0, none⟩ = some (.int .i64 u.kind) ∧ w'.cell? ⟨Bx, 1, none⟩ = some (.int .i64 u.at_) ∧ w'.cell? ⟨Bx, 2, none⟩ = some (.int .i64 u.num) ∧ w'.cell? ⟨Bx, 3, none⟩ = some (.string ⟨u.name.toArray⟩) ∧ w'.cell? ⟨Bx, 4, none⟩ = some (.slice Aq u.kids.length cq)) → (W.alloc (.cells #[.int .i64 0, .int .i64 0, .int .i64 0, .string ⟨#[]⟩, .slice none 0 0] NodeT)).drew.cell? ⟨Bx, 0, none⟩ = some (.int .i64 u.kind) ∧ (W.alloc (.cells #[.int .i64 0, .int .i64 0, .int .i64 0, .string ⟨#[]⟩, .slice none 0 0] NodeT)).drew.cell? ⟨Bx, 1, none⟩ = some (.int .i64 u.at_) ∧ (W.alloc (.cells #[.int .i64 0, .int .i64 0, .int .i64 0, .string ⟨#[]⟩, .slice none 0 0] NodeT)).drew.cell? ⟨Bx, 2, none⟩ = some (.int .i64 u.num) ∧ (W.alloc (.cells #[.int .i64 0, .int .i64 0, .int .i64 0, .string ⟨#[]⟩, .slice none 0 0] NodeT)).drew.cell? ⟨Bx, 3, none⟩ = some (.string ⟨u.name.toArray⟩) ∧ (W.alloc (.cells #[.int .i64 0, .int .i64 0, .int .i64 0, .string ⟨#[]⟩, .slice none 0 0] NodeT)).drew.cell? ⟨Bx, 4, none⟩ = some (.slice Aq u.kids.length cq) := fun _ _ => by
        have hbb := HBX.out.alloc (.cells #[.int .i64 0, .int .i64 0, .int .i64 0, .string ⟨#[]⟩, .slice none 0 0] NodeT)
        exact ⟨hbb.cell 0, hbb.cell 1, hbb.cell 2, hbb.cell 3, hbb.cell 4⟩
      have hRo : some R ≠ (Value.slice A0 n c0).ownBlock := fun e => by have := (hown.lt R e.symm).1; omega
      clear hvs hbz
      refine AllReadyH.cons rfl (fun K' hK' => ?_) (AllReadyH.cons rfl (fun K' hK' => ?_) AllReadyH.nil)
      · go_simp
        refine hK'.out _ _ hHeld (fun hHeld => ?_)
        clear hK' K'
        (try simp only [Act.put, List.getElem_toArray, List.getElem_cons_zero, List.getElem_cons_succ, List.setIfInBounds_toArray, List.set_cons_zero, List.set_cons_succ])
        refine wpAnyH_take (i := 2) (v := .int .i64 n) rfl (by kernel_rfl) (by kernel_rfl) (by kernel_rfl) (fun _ _ _ h => h) (Or.inl ⟨by rfl, fun w hSw => ?_⟩) hHeld ?_
        · go_simp
        (try simp only [Act.put, List.getElem_toArray, List.getElem_cons_zero, List.getElem_cons_succ, List.setIfInBounds_toArray, List.set_cons_zero, List.set_cons_succ])
        refine wpAnyH_ready (rs := [3]) (by kernel_rfl) (by simp) ?_
        refine AllReadyH.cons rfl (fun K' hK' => ?_) AllReadyH.nil
        go_simp
        refine hK'.out _ _ (heldz _ hHeld) (fun hHeld => ?_)
        clear hK' K'
        (try simp only [Act.put, List.getElem_toArray, List.getElem_cons_zero, List.getElem_cons_succ, List.setIfInBounds_toArray, List.set_cons_zero, List.set_cons_succ])
        refine wpAnyH_ready (rs := [4]) (by kernel_rfl) (by simp) ?_
        refine AllReadyH.cons rfl (fun K' hK' => ?_) AllReadyH.nil
        refine step_append_lies _ rfl (.tmp 14) (.tmp 17) RowT rfl w2.heap.size NodeT i0 (.agg #[.int .i64 0, .int .i64 0, .int .i64 0, .string ⟨#[]⟩, .slice none 0 0]) 5 64 Tryd.underlying22 hi hz0 hz1 hz2 rfl (by decide) (.slice A0 n c0) n vs rfl HOV.out ⟨W.heap.size, 0, none⟩ 1 1 ZL rfl rfl hnews hone (by decide) (by unfold maxLen; omega) (by omega) hbase (W.heap.size + 1) (World.size_alloc _ _) ?_
        intro g cp w4 ho4 hg4 hr4 hl4
        have HAO := Lib.hid (app_out ho4 hg4 hr4 hl4)
        clear ho4 hg4 hr4 hl4
        refine hK'.out _ _ (hkeep _ _ _ HAO) (fun hHeld => ?_)
        clear hK' K'
        (try simp only [Act.put, List.getElem_toArray, List.getElem_cons_zero, List.getElem_cons_succ, List.setIfInBounds_toArray, List.set_cons_zero, List.set_cons_succ])
        have hn1 : (n : Int) < (n : Int) + 1 := by omega
        obtain ⟨⟨q0, q1, q2, q3, q4⟩, qf⟩ := HAO.out.cells hown.1
        have hrw : Boxed w4 R RowT (.slice A0 n c0) := (HAO.out.same R HV.out.lt hRo).trans HV.out
        have qr := hrw.cell
        have qrf := hrw.frozen
        have qfa := qf (n * 5)
        have qfb := qf (n * 5 + 1)
        have qfc := qf (n * 5 + 2)
        have qfd := qf (n * 5 + 3)
        have qfe := qf (n * 5 + 4)
        refine wpAnyH_take (i := 5) (v := .pointer (some ⟨g, n * 5, none⟩)) rfl (by kernel_rfl) (by kernel_rfl) (by kernel_rfl) (fun _ _ _ h => h) (Or.inl ⟨by rfl, fun w hSw => ?_⟩) hHeld ?_
        · go_simp
        (try simp only [Act.put, List.getElem_toArray, List.getElem_cons_zero, List.getElem_cons_succ, List.setIfInBounds_toArray, List.set_cons_zero, List.set_cons_succ])
        refine wpAnyH_ready (rs := [6, 7]) (by kernel_rfl) (by simp) ?_
        have hBg : Bx ≠ g := fun e => by
          rcases HAO.out.row with e2 | e2
          · exact hne (by rw [e2, e])
          · have := HBX.out.lt; omega
        have hRg : R ≠ g := fun e => by
          rcases HAO.out.row with e2 | e2
          · exact hRo (by rw [e2, e])
          · have := HV.out.lt; omega
        have hBR : Bx ≠ R := by omega
        have held : ∀ w' : World, w'.heap[Bx]? = w4.heap[Bx]? → w'.cell? ⟨Bx, 0, none⟩ = some (.int .i64 u.kind) ∧ w'.cell? ⟨Bx, 1, none⟩ = some (.int .i64 u.at_) ∧ w'.cell? ⟨Bx, 2, none⟩ = some (.int .i64 u.num) ∧ w'.cell? ⟨Bx, 3, none⟩ = some (.string ⟨u.name.toArray⟩) ∧ w'.cell? ⟨Bx, 4, none⟩ = some (.slice Aq u.kids.length cq) := fun w' hw => by
          have hbb : Box w' Bx NodeT _ := hw.trans ((HAO.out.same Bx HBX.out.lt hne).trans HBX.out)
          exact ⟨hbb.cell 0, hbb.cell 1, hbb.cell 2, hbb.cell 3, hbb.cell 4⟩
        have hfa := fin_a (a := .int .i64 u.kind) (b := .int .i64 u.at_) (c := .int .i64 u.num) (d := .string ⟨u.name.toArray⟩) (e := .slice Aq u.kids.length cq) HAO.out hown.1 hrw hRg
        have hfb := fin_b (a := .int .i64 u.kind) (b := .int .i64 u.at_) (c := .int .i64 u.num) (d := .string ⟨u.name.toArray⟩) (e := .slice Aq u.kids.length cq) HAO.out hown.1 hrw hRg
        have HSA := Lib.hid (fin_says (G := G) HAO.out hfa HV.out hown HVS.out HNN.out hdx hkx HBK2.out HBW.out (by omega) (by omega) (by omega) (by omega) (by omega) hsz)
        have HSB := Lib.hid (fin_says (G := G) HAO.out hfb HV.out hown HVS.out HNN.out hdx hkx HBK2.out HBW.out (by omega) (by omega) (by omega) (by omega) (by omega) hsz)
        have HS3 : Hid (_ = findL ks pre ++ [u]) := Lib.hid (HS2.out.trans (by simp))
        clear hfa hfb HS2
        refine AllReadyH.cons rfl (fun K' hK' => ?_) (AllReadyH.cons rfl (fun K' hK' => ?_) AllReadyH.nil)
        · go_simp
          refine hK'.out _ _ (held _ (fiveAt_heap _ _ _ _ _ _ _ _ _ hBg)) (fun hHeld => ?_)
          clear hK' K'
          have hb5 : Boxed (fiveAt w4 g n (.int .i64 u.kind) (.int .i64 u.at_) (.int .i64 u.num) (.string ⟨u.name.toArray⟩) (.slice Aq u.kids.length cq)) R RowT (.slice A0 n c0) := (fiveAt_heap _ _ _ _ _ _ _ _ _ hRg).trans hrw
          have qr := hb5.cell
          have qrf := hb5.frozen
          unfold fiveAt at qr qrf
          (try simp only [Act.put, List.getElem_toArray, List.getElem_cons_zero, List.getElem_cons_succ, List.setIfInBounds_toArray, List.set_cons_zero, List.set_cons_succ])
          refine wpAnyH_ready (rs := [7]) (by kernel_rfl) (by simp) ?_
          refine AllReadyH.cons rfl (fun K' hK' => ?_) AllReadyH.nil
          go_simp
          refine hK'.out _ _ (held _ ((Below.heap_setCell _ _ _ _ hBR).trans (fiveAt_heap _ _ _ _ _ _ _ _ _ hBg))) (fun hHeld => ?_)
          clear hK' K'
          (try simp only [Act.put, List.getElem_toArray, List.getElem_cons_zero, List.getElem_cons_succ, List.setIfInBounds_toArray, List.set_cons_zero, List.set_cons_succ])
          refine wpAnyH_done (by kernel_rfl) ?_ _
          show Exit.inBlock 1 _ .normal _ _
          gi_wp2
          obtain ⟨s1, s2, ⟨v5, s3, s4⟩, s5, s6, s7⟩ := HSA.out
          exact ⟨s1, s2, ⟨v5, s3, by rw [HS3.out]; exact s4⟩, s5, s6, s7⟩
        · go_simp
          refine hK'.out _ _ (held _ (Below.heap_setCell _ _ _ _ hBR)) (fun hHeld => ?_)
          clear hK' K'
          have fz : ∀ (o : Nat), (w4.setCell ⟨R, 0, none⟩ (.slice (some ⟨g, 0, none⟩) (n + 1) cp)).cell? ⟨g, o, none⟩ = w4.cell? ⟨g, o, none⟩ := fun o => World.cell?_of_block (Below.heap_setCell _ _ _ _ (Ne.symm hRg))
          have ff : ∀ (o : Nat), (w4.setCell ⟨R, 0, none⟩ (.slice (some ⟨g, 0, none⟩) (n + 1) cp)).frozen? ⟨g, o, none⟩ = w4.frozen? ⟨g, o, none⟩ := fun o => World.frozen?_of_block (Below.heap_setCell _ _ _ _ (Ne.symm hRg))
          have q0 := (fz (n * 5)).trans q0
          have q1 := (fz (n * 5 + 1)).trans q1
          have q2 := (fz (n * 5 + 2)).trans q2
          have q3 := (fz (n * 5 + 3)).trans q3
          have q4 := (fz (n * 5 + 4)).trans q4
          have qfa := (ff (n * 5)).trans qfa
          have qfb := (ff (n * 5 + 1)).trans qfb
          have qfc := (ff (n * 5 + 2)).trans qfc
          have qfd := (ff (n * 5 + 3)).trans qfd
          have qfe := (ff (n * 5 + 4)).trans qfe
          clear fz ff
          (try simp only [Act.put, List.getElem_toArray, List.getElem_cons_zero, List.getElem_cons_succ, List.setIfInBounds_toArray, List.set_cons_zero, List.set_cons_succ])
          refine wpAnyH_ready (rs := [6]) (by kernel_rfl) (by simp) ?_
          refine AllReadyH.cons rfl (fun K' hK' => ?_) AllReadyH.nil
          go_simp
          refine hK'.out _ _ (held _ ((fiveAt_heap _ _ _ _ _ _ _ _ _ hBg).trans (Below.heap_setCell _ _ _ _ hBR))) (fun hHeld => ?_)
          clear hK' K'
          (try simp only [Act.put, List.getElem_toArray, List.getElem_cons_zero, List.getElem_cons_succ, List.setIfInBounds_toArray, List.set_cons_zero, List.set_cons_succ])
          refine wpAnyH_done (by kernel_rfl) ?_ _
          show Exit.inBlock 1 _ .normal _ _
          gi_wp2
          obtain ⟨s1, s2, ⟨v5, s3, s4⟩, s5, s6, s7⟩ := HSB.out
          exact ⟨s1, s2, ⟨v5, s3, by rw [HS3.out]; exact s4⟩, s5, s6, s7⟩
      · go_simp
        refine hK'.out _ _ (heldz _ hHeld) (fun hHeld => ?_)
        clear hK' K'
        (try simp only [Act.put, List.getElem_toArray, List.getElem_cons_zero, List.getElem_cons_succ, List.setIfInBounds_toArray, List.set_cons_zero, List.set_cons_succ])
        refine wpAnyH_ready (rs := [0]) (by kernel_rfl) (by simp) ?_
        refine AllReadyH.cons rfl (fun K' hK' => ?_) AllReadyH.nil
        go_simp
        refine hK'.out _ _ hHeld (fun hHeld => ?_)
        clear hK' K'
        (try simp only [Act.put, List.getElem_toArray, List.getElem_cons_zero, List.getElem_cons_succ, List.setIfInBounds_toArray, List.set_cons_zero, List.set_cons_succ])
        refine wpAnyH_take (i := 2) (v := .int .i64 n) rfl (by kernel_rfl) (by kernel_rfl) (by kernel_rfl) (fun _ _ _ h => h) (Or.inl ⟨by rfl, fun w hSw => ?_⟩) hHeld ?_
        · go_simp
        (try simp only [Act.put, List.getElem_toArray, List.getElem_cons_zero, List.getElem_cons_succ, List.setIfInBounds_toArray, List.set_cons_zero, List.set_cons_succ])
        refine wpAnyH_ready (rs := [4]) (by kernel_rfl) (by simp) ?_
        refine AllReadyH.cons rfl (fun K' hK' => ?_) AllReadyH.nil
        refine step_append_lies _ rfl (.tmp 14) (.tmp 17) RowT rfl w2.heap.size NodeT i0 (.agg #[.int .i64 0, .int .i64 0, .int .i64 0, .string ⟨#[]⟩, .slice none 0 0]) 5 64 Tryd.underlying22 hi hz0 hz1 hz2 rfl (by decide) (.slice A0 n c0) n vs rfl HOV.out ⟨W.heap.size, 0, none⟩ 1 1 ZL rfl rfl hnews hone (by decide) (by unfold maxLen; omega) (by omega) hbase (W.heap.size + 1) (World.size_alloc _ _) ?_
        intro g cp w4 ho4 hg4 hr4 hl4
        have HAO := Lib.hid (app_out ho4 hg4 hr4 hl4)
        clear ho4 hg4 hr4 hl4
        refine hK'.out _ _ (hkeep _ _ _ HAO) (fun hHeld => ?_)
        clear hK' K'
        (try simp only [Act.put, List.getElem_toArray, List.getElem_cons_zero, List.getElem_cons_succ, List.setIfInBounds_toArray, List.set_cons_zero, List.set_cons_succ])
        have hn1 : (n : Int) < (n : Int) + 1 := by omega
        obtain ⟨⟨q0, q1, q2, q3, q4⟩, qf⟩ := HAO.out.cells hown.1
        have hrw : Boxed w4 R RowT (.slice A0 n c0) := (HAO.out.same R HV.out.lt hRo).trans HV.out
        have qr := hrw.cell
        have qrf := hrw.frozen
        have qfa := qf (n * 5)
        have qfb := qf (n * 5 + 1)
        have qfc := qf (n * 5 + 2)
        have qfd := qf (n * 5 + 3)
        have qfe := qf (n * 5 + 4)
        refine wpAnyH_take (i := 5) (v := .pointer (some ⟨g, n * 5, none⟩)) rfl (by kernel_rfl) (by kernel_rfl) (by kernel_rfl) (fun _ _ _ h => h) (Or.inl ⟨by rfl, fun w hSw => ?_⟩) hHeld ?_
        · go_simp
        (try simp only [Act.put, List.getElem_toArray, List.getElem_cons_zero, List.getElem_cons_succ, List.setIfInBounds_toArray, List.set_cons_zero, List.set_cons_succ])
        refine wpAnyH_ready (rs := [6, 7]) (by kernel_rfl) (by simp) ?_
        have hBg : Bx ≠ g := fun e => by
          rcases HAO.out.row with e2 | e2
          · exact hne (by rw [e2, e])
          · have := HBX.out.lt; omega
        have hRg : R ≠ g := fun e => by
          rcases HAO.out.row with e2 | e2
          · exact hRo (by rw [e2, e])
          · have := HV.out.lt; omega
        have hBR : Bx ≠ R := by omega
        have held : ∀ w' : World, w'.heap[Bx]? = w4.heap[Bx]? → w'.cell? ⟨Bx, 0, none⟩ = some (.int .i64 u.kind) ∧ w'.cell? ⟨Bx, 1, none⟩ = some (.int .i64 u.at_) ∧ w'.cell? ⟨Bx, 2, none⟩ = some (.int .i64 u.num) ∧ w'.cell? ⟨Bx, 3, none⟩ = some (.string ⟨u.name.toArray⟩) ∧ w'.cell? ⟨Bx, 4, none⟩ = some (.slice Aq u.kids.length cq) := fun w' hw => by
          have hbb : Box w' Bx NodeT _ := hw.trans ((HAO.out.same Bx HBX.out.lt hne).trans HBX.out)
          exact ⟨hbb.cell 0, hbb.cell 1, hbb.cell 2, hbb.cell 3, hbb.cell 4⟩
        have hfa := fin_a (a := .int .i64 u.kind) (b := .int .i64 u.at_) (c := .int .i64 u.num) (d := .string ⟨u.name.toArray⟩) (e := .slice Aq u.kids.length cq) HAO.out hown.1 hrw hRg
        have hfb := fin_b (a := .int .i64 u.kind) (b := .int .i64 u.at_) (c := .int .i64 u.num) (d := .string ⟨u.name.toArray⟩) (e := .slice Aq u.kids.length cq) HAO.out hown.1 hrw hRg
        have HSA := Lib.hid (fin_says (G := G) HAO.out hfa HV.out hown HVS.out HNN.out hdx hkx HBK2.out HBW.out (by omega) (by omega) (by omega) (by omega) (by omega) hsz)
        have HSB := Lib.hid (fin_says (G := G) HAO.out hfb HV.out hown HVS.out HNN.out hdx hkx HBK2.out HBW.out (by omega) (by omega) (by omega) (by omega) (by omega) hsz)
        have HS3 : Hid (_ = findL ks pre ++ [u]) := Lib.hid (HS2.out.trans (by simp))
        clear hfa hfb HS2
        refine AllReadyH.cons rfl (fun K' hK' => ?_) (AllReadyH.cons rfl (fun K' hK' => ?_) AllReadyH.nil)
        · go_simp
          refine hK'.out _ _ (held _ (fiveAt_heap _ _ _ _ _ _ _ _ _ hBg)) (fun hHeld => ?_)
          clear hK' K'
          have hb5 : Boxed (fiveAt w4 g n (.int .i64 u.kind) (.int .i64 u.at_) (.int .i64 u.num) (.string ⟨u.name.toArray⟩) (.slice Aq u.kids.length cq)) R RowT (.slice A0 n c0) := (fiveAt_heap _ _ _ _ _ _ _ _ _ hRg).trans hrw
          have qr := hb5.cell
          have qrf := hb5.frozen
          unfold fiveAt at qr qrf
          (try simp only [Act.put, List.getElem_toArray, List.getElem_cons_zero, List.getElem_cons_succ, List.setIfInBounds_toArray, List.set_cons_zero, List.set_cons_succ])
          refine wpAnyH_ready (rs := [7]) (by kernel_rfl) (by simp) ?_
          refine AllReadyH.cons rfl (fun K' hK' => ?_) AllReadyH.nil
          go_simp
          refine hK'.out _ _ (held _ ((Below.heap_setCell _ _ _ _ hBR).trans (fiveAt_heap _ _ _ _ _ _ _ _ _ hBg))) (fun hHeld => ?_)
          clear hK' K'
          (try simp only [Act.put, List.getElem_toArray, List.getElem_cons_zero, List.getElem_cons_succ, List.setIfInBounds_toArray, List.set_cons_zero, List.set_cons_succ])
          refine wpAnyH_done (by kernel_rfl) ?_ _
          show Exit.inBlock 1 _ .normal _ _
          gi_wp2
          obtain ⟨s1, s2, ⟨v5, s3, s4⟩, s5, s6, s7⟩ := HSA.out
          exact ⟨s1, s2, ⟨v5, s3, by rw [HS3.out]; exact s4⟩, s5, s6, s7⟩
        · go_simp
          refine hK'.out _ _ (held _ (Below.heap_setCell _ _ _ _ hBR)) (fun hHeld => ?_)
          clear hK' K'
          have fz : ∀ (o : Nat), (w4.setCell ⟨R, 0, none⟩ (.slice (some ⟨g, 0, none⟩) (n + 1) cp)).cell? ⟨g, o, none⟩ = w4.cell? ⟨g, o, none⟩ := fun o => World.cell?_of_block (Below.heap_setCell _ _ _ _ (Ne.symm hRg))
          have ff : ∀ (o : Nat), (w4.setCell ⟨R, 0, none⟩ (.slice (some ⟨g, 0, none⟩) (n + 1) cp)).frozen? ⟨g, o, none⟩ = w4.frozen? ⟨g, o, none⟩ := fun o => World.frozen?_of_block (Below.heap_setCell _ _ _ _ (Ne.symm hRg))
          have q0 := (fz (n * 5)).trans q0
          have q1 := (fz (n * 5 + 1)).trans q1
          have q2 := (fz (n * 5 + 2)).trans q2
          have q3 := (fz (n * 5 + 3)).trans q3
          have q4 := (fz (n * 5 + 4)).trans q4
          have qfa := (ff (n * 5)).trans qfa
          have qfb := (ff (n * 5 + 1)).trans qfb
          have qfc := (ff (n * 5 + 2)).trans qfc
          have qfd := (ff (n * 5 + 3)).trans qfd
          have qfe := (ff (n * 5 + 4)).trans qfe
          clear fz ff
          (try simp only [Act.put, List.getElem_toArray, List.getElem_cons_zero, List.getElem_cons_succ, List.setIfInBounds_toArray, List.set_cons_zero, List.set_cons_succ])
          refine wpAnyH_ready (rs := [6]) (by kernel_rfl) (by simp) ?_
          refine AllReadyH.cons rfl (fun K' hK' => ?_) AllReadyH.nil
          go_simp
          refine hK'.out _ _ (held _ ((fiveAt_heap _ _ _ _ _ _ _ _ _ hBg).trans (Below.heap_setCell _ _ _ _ hBR))) (fun hHeld => ?_)
          clear hK' K'
          (try simp only [Act.put, List.getElem_toArray, List.getElem_cons_zero, List.getElem_cons_succ, List.setIfInBounds_toArray, List.set_cons_zero, List.set_cons_succ])
          refine wpAnyH_done (by kernel_rfl) ?_ _
          show Exit.inBlock 1 _ .normal _ _
          gi_wp2
          obtain ⟨s1, s2, ⟨v5, s3, s4⟩, s5, s6, s7⟩ := HSB.out
          exact ⟨s1, s2, ⟨v5, s3, by rw [HS3.out]; exact s4⟩, s5, s6, s7⟩
  case done =>
    rintro D ys W hD hys ⟨⟨v, hv, ho⟩, hbk, hB, hsz⟩ hK
    have hc := hv.cell
    have HF : Hid (findL ks ys = findN t ks) := Lib.hid (by unfold findL findN; rw [show ys.map NE.t = t.walk from hys])
    have HO := Lib.hid ho
    have HBW := Lib.hid hB
    clear ho hbk hB hys
    gi_wp2
    refine ⟨by simp, .inl ⟨_, _, rfl, run_takeDeferred hK, ?_⟩⟩
    refine ⟨_, results_tmp rfl _ _ _, v, rfl, ?_, HBW.out.trans (belowK_b (w := w) (Nat.le_refl _) W D _ _ (by omega) hK rfl rfl)⟩
    have h := own_noncells HO.out (grownBy_putObj' W D (.deferred none)) (fun r e => by cases e; exact ⟨_, hK, rfl⟩)
    rw [← HF.out]
    exact h.kids (fun _ _ => trivial) (fun _ _ => trivial)
  case stop =>
    rintro D c pre W _ _ h _
    exact h.elim
end Go.Proofs.YtkmkeaeaalnbjaaDoor.nt

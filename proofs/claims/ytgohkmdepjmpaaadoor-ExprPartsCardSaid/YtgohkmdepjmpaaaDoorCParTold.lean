/- What the document's own readers tell, and what they stand on. -/
import Derived.Test.YtgohkmdepjmpaaaDoorCParSign
import Derived.Test.YtgohkmdepjmpaaaDoorCParPre
import Derived.Test.YtgohkmdepjmpaaaDoorCGrowRow
namespace Go.Proofs.YtgohkmdepjmpaaaDoor.pm
open Go.RowKit wd lx nt ne mem
open vt (I64)

/-- the tokens that are read: they lie there, their numbers fit -/
structure Src (l : List Tk) (v : Value) (w : World) : Prop where
  lies : TksS w.heap.size w l v
  len : l.length ≤ 1048576
  fair : ∀ i, I64 (tokAt l i).at_ ∧ I64 (tokAt l i).n ∧ (tokAt l i).text.length ≤ 281474976710656
theorem Src.on {l : List Tk} {v : Value} {w w' : World} (h : Src l v w) (hb : Below w.heap.size w w') : Src l v w' := ⟨(h.lies.below hb).more hb.size, h.len, h.fair⟩
abbrev ZZ : Array Value := #[.int .i64 0, .int .i64 0, .int .i64 0, .string ⟨#[]⟩, .slice none 0 0]
/-- what a reader of a node tells -/
def Told (r : Res) (w : World) (e : Ending) (w' : World) : Prop :=
  match r with
  | .node n j => ∃ s, e = .returned (.tuple #[.agg #[.int .i64 n.kind, .int .i64 n.at_, .int .i64 n.num, .string ⟨n.name.toArray⟩, s], .int .i64 j, .bool true]) ∧ nt.Kids (fun b => w.heap.size ≤ b) w' n.kids s ∧ Hd n ∧ Below w.heap.size w w'
  | .no j => e = .returned (.tuple #[.agg ZZ, .int .i64 j, .bool false]) ∧ Below w.heap.size w w'
  | .list _ _ => False
/-- what a reader of nodes tells -/
def ToldL (r : Res) (w : World) (e : Ending) (w' : World) : Prop :=
  match r with
  | .list ns j => ∃ s, e = .returned (.tuple #[s, .int .i64 j, .bool true]) ∧ nt.Own2 w.heap.size w' ns s ∧ (ns = [] → s = .slice none 0 0) ∧ Below w.heap.size w w'
  | .no j => e = .returned (.tuple #[.slice none 0 0, .int .i64 j, .bool false]) ∧ Below w.heap.size w w'
  | .node _ _ => False
theorem node_ret3 {fn : Func} {p q s : Nat} (hr : fn.results = #[ResultVar.cell p NodeT, ResultVar.tmp q, ResultVar.tmp s]) {tm : Array Value} {w2 : World} {R : Nat} {a b c d e x y : Value} (h4 : tm.getD p undef = .pointer (some ⟨R, 0, none⟩)) (h5 : tm.getD q undef = x) (h6 : tm.getD s undef = y) (hb : Box w2 R NodeT #[a, b, c, d, e]) :
    (results fn tm).run Tryd.prog w2 = .ok (.tuple #[.agg #[a, b, c, d, e], x, y]) w2 := by
  have x0 := hb.cell 0
  have x1 := hb.cell 1
  have x2 := hb.cell 2
  have x3 := hb.cell 3
  have x4 := hb.cell 4
  simp only [List.getElem?_toArray, List.getElem?_cons_zero, List.getElem?_cons_succ] at x0 x1 x2 x3 x4
  have h4' : tm[p]?.getD undef = .pointer (some ⟨R, 0, none⟩) := by simpa using h4
  have h5' : tm[q]?.getD undef = x := by simpa using h5
  have h6' : tm[s]?.getD undef = y := by simpa using h6
  simp [results, hr, go_sem, h4', h5', h6', x0, x1, x2, x3, x4]
theorem below_five {B R : Nat} {w0 w : World} (h : Below B w0 w) (hR : B ≤ R) (a b c d e : Value) : Below B w0 (five w R a b c d e) := ((((h.setCell hR a).setCell hR b).setCell hR c).setCell hR d).setCell hR e
theorem node_end {w w2 : World} {R : Nat} {t : NT} {s : Value} {j : Int} {x y z q v : Value} (hR : R = w.heap.size) (hbx : Box w2 R NodeT #[x, y, z, q, v]) (hd : Hd t) (hk : nt.Kids (fun b => w.heap.size < b) w2 t.kids s) (hb : Below w.heap.size w w2) :
    Box (five w2 R (.int .i64 t.kind) (.int .i64 t.at_) (.int .i64 t.num) (.string ⟨t.name.toArray⟩) s) R NodeT #[.int .i64 t.kind, .int .i64 t.at_, .int .i64 t.num, .string ⟨t.name.toArray⟩, s] ∧ Told (.node t j) w (.returned (.tuple #[.agg #[.int .i64 t.kind, .int .i64 t.at_, .int .i64 t.num, .string ⟨t.name.toArray⟩, s], .int .i64 j, .bool true])) (five w2 R (.int .i64 t.kind) (.int .i64 t.at_) (.int .i64 t.num) (.string ⟨t.name.toArray⟩) s) := by
  refine ⟨box_five hbx _ _ _ _ _, s, rfl, ?_, hd, below_five hb (by omega) _ _ _ _ _⟩
  exact (kids_five hk (fun b hb => by omega) _ _ _ _ _).mono fun b hb => by omega
theorem no_end {w w2 : World} {R : Nat} {j : Int} {x y z q v : Value} (hR : R = w.heap.size) (hbx : Box w2 R NodeT #[x, y, z, q, v]) (hb : Below w.heap.size w w2) :
    Box (five w2 R (.int .i64 0) (.int .i64 0) (.int .i64 0) (.string ⟨#[]⟩) (.slice none 0 0)) R NodeT ZZ ∧ Told (.no j) w (.returned (.tuple #[.agg ZZ, .int .i64 j, .bool false])) (five w2 R (.int .i64 0) (.int .i64 0) (.int .i64 0) (.string ⟨#[]⟩) (.slice none 0 0)) :=
  ⟨box_five hbx _ _ _ _ _, rfl, below_five hb (by omega) _ _ _ _ _⟩
/-- the looks, chained: from a world Z on, in which blocks below B are fixed -/
theorem is_src {l : List Tk} {v : Value} {Z w' : World} {B : Nat} (h : Src l v w') (hb : Below B Z w') (hB : B ≤ w'.heap.size) (m : List UInt8) (i : Int) (hi : I64 i) :
    Calls Tryd.prog 28 #[v, .int .i64 i, .string ⟨m.toArray⟩] w' fun e w2 => e = .returned (.bool (isM l i m)) ∧ Below B Z w2 :=
  (is_tok13 l v i m w' _ h.lies h.len hi).mono fun _ _ q => ⟨q.1, hb.trans (q.2.mono hB)⟩
theorem says_src {l : List Tk} {v : Value} {Z w' : World} {B : Nat} (h : Src l v w') (hb : Below B Z w') (hB : B ≤ w'.heap.size) (m : List UInt8) (i : Int) (hi : I64 i) :
    Calls Tryd.prog 27 #[v, .int .i64 i, .string ⟨m.toArray⟩] w' fun e w2 => e = .returned (.bool (isW l i m)) ∧ Below B Z w2 :=
  (says_tok13 l v i m w' _ h.lies h.len hi).mono fun _ _ q => ⟨q.1, hb.trans (q.2.mono hB)⟩
end Go.Proofs.YtgohkmdepjmpaaaDoor.pm

/- The package's functions. -/
import Derived.Test.YtkmkeaeaalnbjaaDoorCNodeProg
import Derived.Test.YtkmkeaeaalnbjaaDoorCGSame
import Derived.Test.YtkmkeaeaalnbjaaDoorCTreeDecl
import Derived.Test.YtkmkeaeaalnbjaaDoorCTreeSame
import Derived.Test.YtkmkeaeaalnbjaaDoorCTreeFind
namespace Go.Proofs.YtkmkeaeaalnbjaaDoor.nt
open Go.RowKit mem wd lx

/-- what the call finds laid: the words' table -/
def LD (w : World) : Prop := wd.LD w
theorem LD.on {w w' : World} (h : LD w) (hb : Below w.heap.size w w') : LD w' := wd.LD.on h hb
/-- a function that tells a Bool of a node -/
def IsP (F : FuncId) (f : NT → Bool) : Prop := ∀ (G : Nat → Prop) (t : NT), Hd t → t.size ≤ 1073741824 → ∀ (s : Value) (w : World), LD w → Kids G w t.kids s →
    Calls Tryd.prog F #[.agg #[.int .i64 t.kind, .int .i64 t.at_, .int .i64 t.num, .string ⟨t.name.toArray⟩, s]] w fun e w' => e = .returned (.bool (f t)) ∧ Below w.heap.size w w'
theorem ptyp_any : IsP 10 NT.typ := fun G t hd _ s w hL h => ptyp_of t G hd s w hL h
theorem pexpr_any : IsP 11 NT.expr := fun G t hd _ s w hL h => pexpr_of t G hd s w hL h
theorem pstmt_any : IsP 12 NT.stmt := fun G t hd _ s w hL h => pstmt_of t G hd s w hL h
theorem pdecl_any : IsP 34 declN := fun G t hd _ s w hL h => pdecl_of t G hd s w hL h
theorem pprog_any : IsP 16 progN := fun G t hd _ s w hL h => pprog_of t G hd s w hL h
theorem pcount_any (G : Nat → Prop) (t : NT) (hd : Hd t) (hz : t.size ≤ 1073741824) (s : Value) (w : World) (_ : LD w) (h : Kids G w t.kids s) :
    Calls Tryd.prog 22 #[.agg #[.int .i64 t.kind, .int .i64 t.at_, .int .i64 t.num, .string ⟨t.name.toArray⟩, s]] w fun e w' => e = .returned (.int .i64 (t.size : Nat)) ∧ Below w.heap.size w w' := pcount_of G t hd hz s w h
theorem pdeep_any (G : Nat → Prop) (t : NT) (hd : Hd t) (_ : t.size ≤ 1073741824) (s : Value) (w : World) (_ : LD w) (h : Kids G w t.kids s) :
    Calls Tryd.prog 23 #[.agg #[.int .i64 t.kind, .int .i64 t.at_, .int .i64 t.num, .string ⟨t.name.toArray⟩, s]] w fun e w' => e = .returned (.int .i64 t.deepW) ∧ Below w.heap.size w w' := pdeep_of t hd s w h
theorem psame_any (G : Nat → Prop) (t u : NT) (hd : Hd t) (hd' : Hd u) (s s' : Value) (w : World) (_ : LD w) (h : Kids G w t.kids s) (h' : Kids G w u.kids s') :
    Calls Tryd.prog 21 #[.agg #[.int .i64 t.kind, .int .i64 t.at_, .int .i64 t.num, .string ⟨t.name.toArray⟩, s], .agg #[.int .i64 u.kind, .int .i64 u.at_, .int .i64 u.num, .string ⟨u.name.toArray⟩, s']] w fun e w' => e = .returned (.bool (sameN t u)) ∧ Below w.heap.size w w' := psame_of t hd u s s' w hd' h h'
/-- in new memory -/
theorem pclean_any (G : Nat → Prop) (t : NT) (hd : Hd t) (hz : t.size ≤ 1073741824) (s : Value) (w : World) (_ : LD w) (h : Kids G w t.kids s) :
    Calls Tryd.prog 20 #[.agg #[.int .i64 t.kind, .int .i64 t.at_, .int .i64 t.num, .string ⟨t.name.toArray⟩, s]] w fun e w' => ∃ s', e = .returned (.agg #[.int .i64 t.kind, .int .i64 0, .int .i64 t.num, .string ⟨t.name.toArray⟩, s']) ∧ Kids (fun b => w.heap.size ≤ b) w' (cleanL t.kids) s' ∧ Below w.heap.size w w' := pclean_of t G hd hz s w h
theorem pfind_any (G : Nat → Prop) (t : NT) (hd : Hd t) (hz : t.size ≤ 1073741824) (ks : List Int) (s kv : Value) (w : World) (_ : LD w) (h : Kids G w t.kids s) (hk : IntsIn w ks kv) (hn : ks.length ≤ 1048576) :
    Calls Tryd.prog 19 #[.agg #[.int .i64 t.kind, .int .i64 t.at_, .int .i64 t.num, .string ⟨t.name.toArray⟩, s], kv] w fun e w' => ∃ v, e = .returned v ∧ Kids (fun _ => True) w' (findN t ks) v ∧ Below w.heap.size w w' := pfind_of G t hd hz ks s kv w h hk hn
end Go.Proofs.YtkmkeaeaalnbjaaDoor.nt

/- What grows of seeds: types. -/
import Derived.Test.YtgohkmdepjmpaaaDoorCGrowSeed
namespace Go.Proofs.YtgohkmdepjmpaaaDoor.nt
open Go.RowKit mem wd lx
open vt (I64 own_base own_form own_below)

theorem node_ret {fn : Func} (hr : fn.results = #[ResultVar.cell 4 NodeT]) {tm : Array Value} {w2 : World} {R : Nat} {a b c d e : Value} (h4 : tm.getD 4 undef = .pointer (some ⟨R, 0, none⟩)) (hb : Box w2 R NodeT #[a, b, c, d, e]) :
    (results fn tm).run Tryd.prog w2 = .ok (.agg #[a, b, c, d, e]) w2 := by
  have x0 := hb.cell 0
  have x1 := hb.cell 1
  have x2 := hb.cell 2
  have x3 := hb.cell 3
  have x4 := hb.cell 4
  simp only [List.getElem?_toArray, List.getElem?_cons_zero, List.getElem?_cons_succ] at x0 x1 x2 x3 x4
  have h4' : tm[4]?.getD undef = .pointer (some ⟨R, 0, none⟩) := by simpa using h4
  simp [results, hr, go_sem, h4', x0, x1, x2, x3, x4]
abbrev five (w : World) (R : Nat) (a b c d e : Value) : World := ((((w.setCell ⟨R, 0, none⟩ a).setCell ⟨R, 1, none⟩ b).setCell ⟨R, 2, none⟩ c).setCell ⟨R, 3, none⟩ d).setCell ⟨R, 4, none⟩ e
theorem box_five {w : World} {R : Nat} {x y z u v : Value} (h : Box w R NodeT #[x, y, z, u, v]) (a b c d e : Value) : Box (five w R a b c d e) R NodeT #[a, b, c, d, e] := ((((h.set 0 a).set 1 b).set 2 c).set 3 d).set 4 e
theorem grow_five {w w1 : World} {p R : Nat} (h : w.grownBy w1 (some p)) (hR : w.heap.size ≤ R) (a b c d e : Value) : w.grownBy (five w1 R a b c d e) (some p) :=
  grow_set (grow_set (grow_set (grow_set (grow_set h (Or.inr hR) a) (Or.inr hR) b) (Or.inr hR) c) (Or.inr hR) d) (Or.inr hR) e
theorem five_cell (w : World) (R : Nat) (a b c d e : Value) (g o : Nat) (h : g ≠ R) : (five w R a b c d e).cell? ⟨g, o, none⟩ = w.cell? ⟨g, o, none⟩ := by
  unfold five
  rw [vt.cell_set_other _ _ _ _ _ _ h, vt.cell_set_other _ _ _ _ _ _ h, vt.cell_set_other _ _ _ _ _ _ h, vt.cell_set_other _ _ _ _ _ _ h, vt.cell_set_other _ _ _ _ _ _ h]
theorem kids_five {G : Nat → Prop} {w : World} {l : List NT} {s : Value} {R : Nat} (h : Kids G w l s) (hR : ∀ b, G b → b ≠ R) (a b c d e : Value) : Kids G (five w R a b c d e) l s :=
  h.keep fun b' o hG _ => five_cell w R a b c d e b' o (hR b' hG)
theorem nil_kids (G : Nat → Prop) (w : World) : Kids G w [] (.slice none 0 0) := Kids.nil_ G w
theorem hd_of (k a n : Int) (s : List UInt8) (l : List NT) (h1 : I64 k) (h2 : I64 a) (h3 : I64 n) (h4 : s.length ≤ 3) : Hd (.mk k a n s l) := ⟨h1, h2, h3, by show s.length ≤ _; omega⟩
/-- one node in a row of one, which is new -/
theorem row_one {w : World} {G : Nat → Prop} {t : NT} {s : Value} {N : Nat} (hN : N = w.heap.size) (hd : Hd t) (hk : Kids G w t.kids s) (hG : G N) :
    Kids G (w.alloc (.cells #[.int .i64 t.kind, .int .i64 t.at_, .int .i64 t.num, .string ⟨t.name.toArray⟩, s] NodeT)) [t] (.slice (some ⟨N, 0, none⟩) 1 1) := by
  have hbx : Box (w.alloc (.cells #[.int .i64 t.kind, .int .i64 t.at_, .int .i64 t.num, .string ⟨t.name.toArray⟩, s] NodeT)) N NodeT _ := Box.new _ _ _ _ hN
  refine ⟨_, _, rfl, ⟨by simp, (fun h => by cases h), by simp⟩, fun _ => ⟨N, 0, rfl, hG, row_of fun k hk2 => ?_⟩⟩
  obtain rfl : k = 0 := by simpa using hk2
  exact ⟨hd, hbx.cell 0, hbx.cell 1, hbx.cell 2, hbx.cell 3, s, hbx.cell 4, hk.below ((Below.refl _ _).alloc (Nat.le_refl _) _)⟩
theorem typ_small {q : Int} (h1 : 1 ≤ q) (h2 : q ≤ 3) : (NT.mk q 0 0 [] []).typ = true := by
  rw [typ_mk, if_neg (by simp), if_neg (by omega), if_neg (by simp), if_neg (by omega)]
  simp; omega
end Go.Proofs.YtgohkmdepjmpaaaDoor.nt

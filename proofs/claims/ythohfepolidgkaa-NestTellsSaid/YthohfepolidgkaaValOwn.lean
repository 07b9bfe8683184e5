/- Lists of values in rows of a call's own. -/
import Derived.Test.YthohfepolidgkaaValMem
import Derived.Laws.OwnMore
import Derived.Laws.AppendOwnNone
namespace Go.Proofs.Ythohfepolidgkaa.vt
open Go.RowKit mem

/-- the cells of a list of values -/
def Vals (G : Nat → Prop) (w : World) : List VT → List Value → Prop
  | [], vs => vs = []
  | v :: r, vs => ∃ s rest, vs = .int .i64 v.kind :: .int .i64 v.num :: s :: rest ∧ I64 v.kind ∧ I64 v.num ∧ Kids G w v.kids s ∧ Vals G w r rest
theorem Vals.len {G : Nat → Prop} {w : World} : ∀ {l : List VT} {vs : List Value}, Vals G w l vs → vs.length = l.length * 3
  | [], vs, h => by rw [Vals] at h; subst h; rfl
  | v :: r, vs, h => by
    rw [Vals] at h
    obtain ⟨s, rest, rfl, _, _, _, hr⟩ := h
    have := Vals.len hr
    simp only [List.length_cons]; omega
theorem Vals.one {G : Nat → Prop} {w : World} : ∀ {l : List VT} {vs : List Value}, Vals G w l vs → ∀ u ∈ vs, u.oneCell' = true
  | [], vs, h => by rw [Vals] at h; subst h; intro u hu; cases hu
  | v :: r, vs, h => by
    rw [Vals] at h
    obtain ⟨s, rest, rfl, _, _, hk, hr⟩ := h
    obtain ⟨A, cap, rfl, _⟩ := hk.form
    have := Vals.one hr
    intro u hu
    simp only [List.mem_cons] at hu
    rcases hu with rfl | rfl | rfl | hu
    · rfl
    · rfl
    · rfl
    · exact this u hu
theorem Vals.append {G : Nat → Prop} {w : World} : ∀ {a b : List VT} {xs ys : List Value}, Vals G w a xs → Vals G w b ys → Vals G w (a ++ b) (xs ++ ys)
  | [], b, xs, ys, h, h' => by rw [Vals] at h; subst h; exact h'
  | v :: r, b, xs, ys, h, h' => by
    rw [Vals] at h
    obtain ⟨s, rest, rfl, i1, i2, hk, hr⟩ := h
    rw [List.cons_append, Vals]
    exact ⟨s, rest ++ ys, rfl, i1, i2, hk, Vals.append hr h'⟩
theorem Vals.split {G : Nat → Prop} {w : World} : ∀ {a b : List VT} {vs : List Value}, Vals G w (a ++ b) vs → ∃ xs ys, vs = xs ++ ys ∧ Vals G w a xs ∧ Vals G w b ys
  | [], b, vs, h => ⟨[], vs, rfl, by rw [Vals], h⟩
  | v :: r, b, vs, h => by
    rw [List.cons_append, Vals] at h
    obtain ⟨s, rest, rfl, i1, i2, hk, hr⟩ := h
    obtain ⟨xs, ys, rfl, h1, h2⟩ := Vals.split hr
    exact ⟨.int .i64 v.kind :: .int .i64 v.num :: s :: xs, ys, rfl, by rw [Vals]; exact ⟨s, xs, rfl, i1, i2, hk, h1⟩, h2⟩
theorem Vals.carry {G G' : Nat → Prop} {w w' : World} (hc : ∀ b o v, G b → w.cell? ⟨b, o, none⟩ = some v → G' b ∧ w'.cell? ⟨b, o, none⟩ = some v) : ∀ {l : List VT} {vs : List Value}, Vals G w l vs → Vals G' w' l vs
  | [], vs, h => h
  | v :: r, vs, h => by
    rw [Vals] at h ⊢
    obtain ⟨s, rest, rfl, i1, i2, hk, hr⟩ := h
    exact ⟨s, rest, rfl, i1, i2, hk.carry hc, Vals.carry hc hr⟩
theorem Vals.mono {G G' : Nat → Prop} {w : World} {l : List VT} {vs : List Value} (h : Vals G w l vs) (hg : ∀ b, G b → G' b) : Vals G' w l vs := h.carry fun b _ _ hb hc => ⟨hg b hb, hc⟩
theorem Vals.keep {G : Nat → Prop} {w w' : World} {l : List VT} {vs : List Value} (h : Vals G w l vs) (hk : ∀ b o, G b → b < w.heap.size → w'.cell? ⟨b, o, none⟩ = w.cell? ⟨b, o, none⟩) : Vals G w' l vs :=
  h.carry fun b o _ hb hc => ⟨hb, (hk b o hb (World.block_lt_of_cell? _ _ hc)).trans hc⟩
theorem Vals.below {G : Nat → Prop} {w w' : World} {l : List VT} {vs : List Value} (h : Vals G w l vs) (hb : Below w.heap.size w w') : Vals G w' l vs :=
  h.keep fun b' o _ hlt => hb.cell (p := ⟨b', o, none⟩) hlt
theorem Vals.lt {G : Nat → Prop} {w : World} {l : List VT} {vs : List Value} (h : Vals G w l vs) : Vals (fun b => G b ∧ b < w.heap.size) w l vs :=
  h.carry fun _ _ _ hb hc => ⟨⟨hb, World.block_lt_of_cell? _ _ hc⟩, hc⟩
theorem row_vals {G : Nat → Prop} {w : World} {b : Nat} : ∀ {l : List VT} {off : Nat}, Row G w b l off → ∃ vs, Vals G w l vs ∧ ∀ j u, vs[j]? = some u → w.cell? ⟨b, off + j, none⟩ = some u
  | [], off, _ => ⟨[], by rw [Vals], fun j u h => by simp at h⟩
  | v :: r, off, h => by
    rw [row_cons] at h
    obtain ⟨⟨i1, i2, c0, c1, s, c2, hk⟩, hr⟩ := h
    obtain ⟨vs, hv, hc⟩ := row_vals hr
    refine ⟨.int .i64 v.kind :: .int .i64 v.num :: s :: vs, by rw [Vals]; exact ⟨s, vs, rfl, i1, i2, hk, hv⟩, fun j u hu => ?_⟩
    match j, hu with
    | 0, hu => simp at hu; subst hu; exact c0
    | 1, hu => simp at hu; subst hu; exact c1
    | 2, hu => simp at hu; subst hu; exact c2
    | j + 3, hu => rw [show off + (j + 3) = off + 3 + j by omega]; exact hc j u (by simpa using hu)
theorem vals_row {G : Nat → Prop} {w : World} {b : Nat} : ∀ {l : List VT} {vs : List Value} {off : Nat}, Vals G w l vs → (∀ j u, vs[j]? = some u → w.cell? ⟨b, off + j, none⟩ = some u) → Row G w b l off
  | [], _, _, _, _ => by rw [Row]; trivial
  | v :: r, vs, off, h, hc => by
    rw [Vals] at h
    obtain ⟨s, rest, rfl, i1, i2, hk, hr⟩ := h
    rw [row_cons]
    refine ⟨⟨i1, i2, hc 0 _ rfl, hc 1 _ rfl, s, hc 2 _ rfl, hk⟩, vals_row hr fun j u hu => ?_⟩
    rw [show off + 3 + j = off + (j + 3) by omega]; exact hc (j + 3) u (by simpa using hu)
theorem below_grown {w w' : World} (h : w.grownBy w' none) : Below w.heap.size w w' := (Below.refl _ _).grown h (Nat.le_refl _) (fun k h => by cases h)
theorem heap_new (w : World) (N : Nat) (h : N = w.heap.size) (o : Obj) : (w.alloc o).heap[N]? = some o := by subst h; exact heap_alloc_new w o
theorem cell_new (w : World) (N : Nat) (h : N = w.heap.size) (cs : Array Value) (t : TypeId) (i : Nat) : (w.alloc (.cells cs t)).cell? ⟨N, i, none⟩ = cs[i]? := by
  subst h; exact cell_of_row _ _ i cs t (0, 0) (heap_new w _ rfl _)
theorem frozen_new (w : World) (N : Nat) (h : N = w.heap.size) (cs : Array Value) (t : TypeId) (i : Nat) : (w.alloc (.cells cs t)).frozen? ⟨N, i, none⟩ = false := by
  subst h; unfold World.frozen?; rw [heap_new w _ rfl _]; simp
/-- a cell of a block that was new, behind all that came since -/
theorem cell_since {w w' : World} {N : Nat} {cs : Array Value} {t : TypeId} (h : N = w.heap.size) (hb : Below (N + 1) (w.alloc (.cells cs t)) w') (i : Nat) : w'.cell? ⟨N, i, none⟩ = cs[i]? ∧ w'.frozen? ⟨N, i, none⟩ = false :=
  ⟨(hb.cell (p := ⟨N, i, none⟩) (Nat.lt_succ_self _)).trans (cell_new w N h cs t i), (hb.frozen (p := ⟨N, i, none⟩) (Nat.lt_succ_self _)).trans (frozen_new w N h cs t i)⟩
theorem cell_set_other (w : World) (b i c o : Nat) (u : Value) (h : c ≠ b) : (w.setCell ⟨b, i, none⟩ u).cell? ⟨c, o, none⟩ = w.cell? ⟨c, o, none⟩ :=
  World.cell?_of_block (Below.heap_setCell w ⟨b, i, none⟩ u c h)
theorem own_set {w : World} {base : Nat} {e : TypeId} {size n b i : Nat} {v u : Value} {xs : List Value} (h : w.ownsRow base e size v n xs) (hb : b < base) : (w.setCell ⟨b, i, none⟩ u).ownsRow base e size v n xs := by
  refine ⟨h.1, ?_⟩
  rcases h.2 with h' | ⟨g, cap, cur, hv, hg, hh, r⟩
  · exact .inl h'
  · exact .inr ⟨g, cap, cur, hv, hg, by rw [Below.heap_setCell _ _ _ _ (by dsimp only; omega)]; exact hh, r⟩
theorem own_base {w : World} {base base' : Nat} {e : TypeId} {size n : Nat} {v : Value} {xs : List Value} (h : w.ownsRow base e size v n xs) (hb : base' ≤ base) : w.ownsRow base' e size v n xs := by
  refine ⟨h.1, ?_⟩
  rcases h.2 with h' | ⟨g, cap, cur, hv, hg, r⟩
  · exact .inl h'
  · exact .inr ⟨g, cap, cur, hv, by omega, r⟩
theorem own_form {w : World} {base : Nat} {e : TypeId} {size n : Nat} {v : Value} {xs : List Value} (h : w.ownsRow base e size v n xs) : ∃ A c, v = .slice A n c := by
  rcases h.2 with ⟨h', hn⟩ | ⟨g, cap, cur, hv, _⟩
  · exact ⟨none, 0, by rw [h', hn]⟩
  · exact ⟨_, cap, hv⟩
theorem Vals.set {G : Nat → Prop} {w : World} {l : List VT} {vs : List Value} (h : Vals G w l vs) {b i : Nat} {u : Value} (hb : ∀ c, G c → c < w.heap.size → c ≠ b) : Vals G (w.setCell ⟨b, i, none⟩ u) l vs :=
  h.keep fun c o hc hlt => cell_set_other w b i c o u (hb c hc hlt)
theorem Kids.set {G : Nat → Prop} {w : World} {l : List VT} {s : Value} (h : Kids G w l s) {b i : Nat} {u : Value} (hb : ∀ c, G c → c < w.heap.size → c ≠ b) : Kids G (w.setCell ⟨b, i, none⟩ u) l s :=
  h.keep fun c o hc hlt => cell_set_other w b i c o u (hb c hc hlt)
theorem set_heap (w : World) (b i : Nat) (u : Value) : (w.setCell ⟨b, i, none⟩ u).heap.size = w.heap.size := World.size_setCell _ _ _
theorem below_told {B b : Nat} {w w1 : World} {x y z : Value} (h : Below B w w1) (hb : B ≤ b) : Below B w (((w1.setCell ⟨b, 0, none⟩ x).setCell ⟨b, 1, none⟩ y).setCell ⟨b, 2, none⟩ z) :=
  ((h.setCell (p := ⟨b, 0, none⟩) hb x).setCell (p := ⟨b, 1, none⟩) hb y).setCell (p := ⟨b, 2, none⟩) hb z
end Go.Proofs.Ythohfepolidgkaa.vt

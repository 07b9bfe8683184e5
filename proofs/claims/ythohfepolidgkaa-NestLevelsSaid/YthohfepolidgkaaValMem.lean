/- Values in memory: a slice that reads as a list of plain trees. -/
import Derived.Test.YthohfepolidgkaaValTree
import Derived.Test.YthohfepolidgkaaMem
namespace Go.Proofs.Ythohfepolidgkaa.vt
open Go.RowKit mem

def I64 (n : Int) : Prop := -9223372036854775808 ≤ n ∧ n ≤ 9223372036854775807
mutual
/-- the kids of a value lie so: in blocks of which G holds -/
def VT.Has (G : Nat → Prop) (w : World) : VT → Value → Prop
  | .mk _ _ l, s => ∃ A cap, s = .slice A l.length cap ∧ (l.length ≤ 9223372036854775807 ∧ (A = none → cap = 0)) ∧ (0 < l.length → ∃ b off, A = some ⟨b, off, none⟩ ∧ G b ∧ Row G w b l off)
def Row (G : Nat → Prop) (w : World) (b : Nat) : List VT → Nat → Prop
  | [], _ => True
  | v :: r, off => (I64 v.kind ∧ I64 v.num ∧ w.cell? ⟨b, off, none⟩ = some (.int .i64 v.kind) ∧ w.cell? ⟨b, off + 1, none⟩ = some (.int .i64 v.num) ∧ ∃ s, w.cell? ⟨b, off + 2, none⟩ = some s ∧ v.Has G w s) ∧ Row G w b r (off + 3)
end
/-- a slice that reads as a list of values -/
def Kids (G : Nat → Prop) (w : World) (l : List VT) (s : Value) : Prop :=
  ∃ A cap, s = .slice A l.length cap ∧ (l.length ≤ 9223372036854775807 ∧ (A = none → cap = 0)) ∧ (0 < l.length → ∃ b off, A = some ⟨b, off, none⟩ ∧ G b ∧ Row G w b l off)
theorem has_kids {G : Nat → Prop} {w : World} {t : VT} {s : Value} : t.Has G w s ↔ Kids G w t.kids s := by cases t; rw [VT.Has]; rfl
/-- one value, in its three cells -/
def Cells (G : Nat → Prop) (w : World) (b off : Nat) (v : VT) : Prop :=
  I64 v.kind ∧ I64 v.num ∧ w.cell? ⟨b, off, none⟩ = some (.int .i64 v.kind) ∧ w.cell? ⟨b, off + 1, none⟩ = some (.int .i64 v.num) ∧ ∃ s, w.cell? ⟨b, off + 2, none⟩ = some s ∧ Kids G w v.kids s
theorem row_cons {G : Nat → Prop} {w : World} {b off : Nat} {v : VT} {r : List VT} : Row G w b (v :: r) off ↔ Cells G w b off v ∧ Row G w b r (off + 3) := by
  rw [Row]; unfold Cells; simp only [has_kids]
theorem row_append {G : Nat → Prop} {w : World} {b : Nat} : ∀ {a r : List VT} {off : Nat}, Row G w b (a ++ r) off ↔ Row G w b a off ∧ Row G w b r (off + a.length * 3)
  | [], r, off => by simp [Row]
  | v :: a, r, off => by
    rw [List.cons_append, row_cons, row_cons, row_append, List.length_cons, show off + 3 + a.length * 3 = off + (a.length + 1) * 3 by omega, and_assoc]
theorem row_at {G : Nat → Prop} {w : World} {b : Nat} : ∀ {l : List VT} {off : Nat}, Row G w b l off → ∀ (k : Nat) (hk : k < l.length), Cells G w b (off + k * 3) l[k]
  | v :: r, off, h, 0, _ => by rw [row_cons] at h; simpa using h.1
  | v :: r, off, h, k + 1, hk => by
    rw [row_cons] at h
    have := row_at h.2 k (by simpa using hk)
    rw [show off + 3 + k * 3 = off + (k + 1) * 3 by omega] at this
    simpa using this
theorem row_of {G : Nat → Prop} {w : World} {b : Nat} : ∀ {l : List VT} {off : Nat}, (∀ (k : Nat) (hk : k < l.length), Cells G w b (off + k * 3) l[k]) → Row G w b l off
  | [], _, _ => by rw [Row]; trivial
  | v :: r, off, h => by
    rw [row_cons]
    refine ⟨h 0 (by simp), row_of fun k hk => ?_⟩
    have := h (k + 1) (by simpa using hk)
    rw [show off + (k + 1) * 3 = off + 3 + k * 3 by omega] at this
    simpa using this
theorem Kids.at_ {G : Nat → Prop} {w : World} {l : List VT} {s : Value} (h : Kids G w l s) (k : Nat) (hk : k < l.length) :
    ∃ b off cap, s = .slice (some ⟨b, off, none⟩) l.length cap ∧ G b ∧ Cells G w b (off + k * 3) l[k] := by
  obtain ⟨A, cap, hs, _, h⟩ := h
  obtain ⟨b, off, rfl, hb, h⟩ := h (by omega)
  exact ⟨b, off, cap, hs, hb, row_at h k hk⟩
theorem Kids.form {G : Nat → Prop} {w : World} {l : List VT} {s : Value} (h : Kids G w l s) : ∃ A cap, s = .slice A l.length cap ∧ l.length ≤ 9223372036854775807 := by
  obtain ⟨A, cap, hs, hl, _⟩ := h
  exact ⟨A, cap, hs, hl.1⟩
theorem Kids.nil_ (G : Nat → Prop) (w : World) : Kids G w [] (.slice none 0 0) := ⟨none, 0, rfl, ⟨by simp, fun _ => rfl⟩, fun h => absurd h (by simp)⟩

/-- from world to world, from blocks to blocks -/
theorem kids_carry {G G' : Nat → Prop} {w w' : World} (hc : ∀ b o v, G b → w.cell? ⟨b, o, none⟩ = some v → G' b ∧ w'.cell? ⟨b, o, none⟩ = some v) : ∀ (t : VT) (s : Value), Kids G w t.kids s → Kids G' w' t.kids s := by
  intro t
  induction t using VT.ind with
  | h k n l ih =>
    intro s h
    obtain ⟨A, cap, hs, hl, h⟩ := h
    refine ⟨A, cap, hs, hl, fun h0 => ?_⟩
    obtain ⟨b, off, hA, hb, h⟩ := h h0
    have hcell : ∀ (k : Nat) (hk : k < l.length), G' b ∧ Cells G' w' b (off + k * 3) l[k] := by
      intro k hk
      obtain ⟨i1, i2, c1, c2, s', c3, h3⟩ := row_at h k hk
      exact ⟨(hc _ _ _ hb c1).1, i1, i2, (hc _ _ _ hb c1).2, (hc _ _ _ hb c2).2, s', (hc _ _ _ hb c3).2, ih _ (List.getElem_mem hk) s' h3⟩
    exact ⟨b, off, hA, (hcell 0 h0).1, row_of fun k hk => (hcell k hk).2⟩
theorem Kids.carry {G G' : Nat → Prop} {w w' : World} {l : List VT} {s : Value} (h : Kids G w l s) (hc : ∀ b o v, G b → w.cell? ⟨b, o, none⟩ = some v → G' b ∧ w'.cell? ⟨b, o, none⟩ = some v) : Kids G' w' l s :=
  kids_carry hc (.mk 0 0 l) s h
theorem Kids.mono {G G' : Nat → Prop} {w : World} {l : List VT} {s : Value} (h : Kids G w l s) (hg : ∀ b, G b → G' b) : Kids G' w l s := h.carry fun b _ _ hb hc => ⟨hg b hb, hc⟩
theorem Kids.keep {G : Nat → Prop} {w w' : World} {l : List VT} {s : Value} (h : Kids G w l s) (hk : ∀ b o, G b → b < w.heap.size → w'.cell? ⟨b, o, none⟩ = w.cell? ⟨b, o, none⟩) : Kids G w' l s :=
  h.carry fun b o _ hb hc => ⟨hb, (hk b o hb (World.block_lt_of_cell? _ _ hc)).trans hc⟩
theorem Kids.below {G : Nat → Prop} {w w' : World} {l : List VT} {s : Value} (h : Kids G w l s) (hb : Below w.heap.size w w') : Kids G w' l s :=
  h.keep fun b' o _ hlt => hb.cell (p := ⟨b', o, none⟩) hlt
theorem Kids.lt {G : Nat → Prop} {w : World} {l : List VT} {s : Value} (h : Kids G w l s) : Kids (fun b => G b ∧ b < w.heap.size) w l s :=
  h.carry fun _ _ _ hb hc => ⟨⟨hb, World.block_lt_of_cell? _ _ hc⟩, hc⟩
theorem kids_fits {G : Nat → Prop} {w : World} : ∀ (t : VT) (s : Value), Kids G w t.kids s → fitsL t.kids := by
  intro t
  induction t using VT.ind with
  | h k n l ih =>
    intro s h
    refine fitsL_of fun u hu => ?_
    obtain ⟨i, hi, rfl⟩ := List.getElem_of_mem hu
    obtain ⟨b, off, cap, hs, hb, i1, i2, c1, c2, s', c3, h3⟩ := Kids.at_ h i hi
    have := ih _ hu s' h3
    rw [VT.eta (VT.mk k n l).kids[i], fits_mk]
    exact ⟨⟨i1, i2⟩, this⟩
theorem Kids.fits {G : Nat → Prop} {w : World} {l : List VT} {s : Value} (h : Kids G w l s) : fitsL l := kids_fits (.mk 0 0 l) s h
/-- one cell's rule for what lies below the blocks of a call's own -/
theorem bcell {W w1 : World} (hb : Below W.heap.size W w1) : (∀ b o, b < W.heap.size → w1.cell? ⟨b, o, none⟩ = W.cell? ⟨b, o, none⟩) ∧ (∀ b o, b < W.heap.size → w1.frozen? ⟨b, o, none⟩ = W.frozen? ⟨b, o, none⟩) :=
  ⟨fun b o h => hb.cell (p := ⟨b, o, none⟩) h, fun b o h => hb.frozen (p := ⟨b, o, none⟩) h⟩
/-- one of the kids, told by a world behind -/
theorem Kids.kid {G : Nat → Prop} {w wr : World} {l : List VT} {s : Value} (h : Kids G w l s) (hb : Below w.heap.size w wr) (k : Nat) (hk : k < l.length) :
    ∃ b off cap s', s = .slice (some ⟨b, off, none⟩) l.length cap ∧ b < wr.heap.size ∧ I64 l[k].kind ∧ I64 l[k].num ∧ wr.cell? ⟨b, off + k * 3, none⟩ = some (.int .i64 l[k].kind) ∧ wr.cell? ⟨b, off + k * 3 + 1, none⟩ = some (.int .i64 l[k].num) ∧ wr.cell? ⟨b, off + k * 3 + 2, none⟩ = some s' ∧ Kids G wr l[k].kids s' := by
  obtain ⟨b, off, cap, hs, hG, i1, i2, c1, c2, s', c3, h3⟩ := (h.below hb).at_ k hk
  exact ⟨b, off, cap, s', hs, World.block_lt_of_cell? _ _ c1, i1, i2, c1, c2, c3, h3⟩
theorem cells_add (b o i : Nat) : (⟨b, o, none⟩ : Addr).add i = ⟨b, o + i, none⟩ := by unfold Addr.add; split <;> simp_all
end Go.Proofs.Ythohfepolidgkaa.vt

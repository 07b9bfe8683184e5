/- Steps in memory; whether a step leads on. -/
import Derived.Test.YtnjcapenkoemlaaPathTree
import Derived.Test.YtnjcapenkoemlaaValOwn
import Derived.Test.YtnjcapenkoemlaaValRight
import Derived.Laws.OwnMore
namespace Go.Proofs.Ytnjcapenkoemlaa.vt
open Go.RowKit mem

/-- a slice that reads as a list of steps -/
def Ways (G : Nat → Prop) (w : World) (l : List Way) (s : Value) : Prop :=
  ∃ A cap, s = .slice A l.length cap ∧ (l.length ≤ 9223372036854775807 ∧ l.length ≤ cap ∧ cap ≤ 9223372036854775807) ∧ (0 < l.length → ∃ b off, A = some ⟨b, off, none⟩ ∧ G b ∧ ∀ (k : Nat) (hk : k < l.length), I64 l[k].2 ∧ w.cell? ⟨b, off + k * 2, none⟩ = some (.bool l[k].1) ∧ w.cell? ⟨b, off + k * 2 + 1, none⟩ = some (.int .i64 l[k].2))
theorem Ways.carry {G G' : Nat → Prop} {w w' : World} {l : List Way} {s : Value} (h : Ways G w l s) (hc : ∀ b o v, G b → w.cell? ⟨b, o, none⟩ = some v → G' b ∧ w'.cell? ⟨b, o, none⟩ = some v) : Ways G' w' l s := by
  obtain ⟨A, cap, hs, hl, h⟩ := h
  refine ⟨A, cap, hs, hl, fun h0 => ?_⟩
  obtain ⟨b, off, hA, hb, h⟩ := h h0
  exact ⟨b, off, hA, (hc _ _ _ hb (h 0 h0).2.1).1, fun k hk => ⟨(h k hk).1, (hc _ _ _ hb (h k hk).2.1).2, (hc _ _ _ hb (h k hk).2.2).2⟩⟩
theorem Ways.below {G : Nat → Prop} {w w' : World} {l : List Way} {s : Value} (h : Ways G w l s) (hb : Below w.heap.size w w') : Ways G w' l s :=
  h.carry fun b o _ hg hc => ⟨hg, (hb.cell (p := ⟨b, o, none⟩) (World.block_lt_of_cell? _ _ hc)).trans hc⟩
theorem Ways.mono {G G' : Nat → Prop} {w : World} {l : List Way} {s : Value} (h : Ways G w l s) (hg : ∀ b, G b → G' b) : Ways G' w l s := h.carry fun b _ _ hb hc => ⟨hg b hb, hc⟩
theorem Ways.lt {G : Nat → Prop} {w : World} {l : List Way} {s : Value} (h : Ways G w l s) : Ways (fun b => G b ∧ b < w.heap.size) w l s :=
  h.carry fun _ _ _ hb hc => ⟨⟨hb, World.block_lt_of_cell? _ _ hc⟩, hc⟩
theorem Ways.form {G : Nat → Prop} {w : World} {l : List Way} {s : Value} (h : Ways G w l s) : ∃ A cap, s = .slice A l.length cap ∧ (l.length ≤ 9223372036854775807 ∧ l.length ≤ cap ∧ cap ≤ 9223372036854775807) := by
  obtain ⟨A, cap, hs, hl, _⟩ := h
  exact ⟨A, cap, hs, hl⟩
/-- one step, told by a world behind -/
theorem Ways.step {G : Nat → Prop} {w wr : World} {l : List Way} {s : Value} (h : Ways G w l s) (hb : Below w.heap.size w wr) (k : Nat) (hk : k < l.length) :
    ∃ b off cap, s = .slice (some ⟨b, off, none⟩) l.length cap ∧ b < wr.heap.size ∧ I64 l[k].2 ∧ wr.cell? ⟨b, off + k * 2, none⟩ = some (.bool l[k].1) ∧ wr.cell? ⟨b, off + k * 2 + 1, none⟩ = some (.int .i64 l[k].2) := by
  obtain ⟨A, cap, hs, _, h⟩ := h.below hb
  obtain ⟨b, off, rfl, _, h⟩ := h (by omega)
  obtain ⟨i, c0, c1⟩ := h k hk
  exact ⟨b, off, cap, hs, World.block_lt_of_cell? _ _ c0, i, c0, c1⟩
theorem Ways.nil_ (G : Nat → Prop) (w : World) : Ways G w [] (.slice none 0 0) := ⟨none, 0, rfl, ⟨by simp, by simp, by omega⟩, fun h => absurd h (by simp)⟩

theorem leads_end {t : VT} {f : Bool} {n K : Int} {N : Nat} (hN : N = t.kids.length) (hK : K = t.kind) : leadsB t (f, n) = (decide (K = fromK f) && (decide (0 ≤ n) && decide (n < (N : Int)))) := by
  subst hN; subst hK; rfl
end Go.Proofs.Ytnjcapenkoemlaa.vt

/- A value with another one where steps lead: the document's way. -/
import Derived.Test.YtlejcmojimkjeaaPathRefAt
import Derived.Test.YtlejcmojimkjeaaPathHole
import Derived.Test.YtlejcmojimkjeaaPathLens
import Derived.Test.YtlejcmojimkjeaaValClone
import Derived.Deep.AppendLies
import Derived.Deep.RegionLaw
import Derived.Deep.DeepCutAuto
namespace Go.Proofs.Ytlejcmojimkjeaa.vt
open Go.RowKit mem

def WithPost (G : Nat → Prop) (r : VT) (w : World) (e : Ending) (w' : World) : Prop :=
  ∃ s, e = .returned (.agg #[.int .i64 r.kind, .int .i64 r.num, s]) ∧ Kids (fun b => G b ∨ w.heap.size ≤ b) w' r.kids s ∧ Below w.heap.size w w'
def RWith (l : List Way) : Prop := ∀ (G G' : Nat → Prop) (t x : VT) (s xs ws : Value) (w : World), I64 t.kind ∧ I64 t.num → I64 x.kind ∧ I64 x.num → t.lens → (∃ u, atT t l = some u) → Kids G w t.kids s → Kids G w x.kids xs → Ways G' w l ws →
    Calls Try.prog 25 #[.agg #[.int .i64 t.kind, .int .i64 t.num, s], .agg #[.int .i64 x.kind, .int .i64 x.num, xs], ws] w (WithPost G (withT x t l) w)
theorem rwith_nil : RWith [] := by
  intro G G' t x s xs ws w hi hix hlen hat h hx hw
  obtain ⟨A, cap, rfl, _⟩ := hw.form
  obtain ⟨A2, cp2, rfl, _⟩ := h.form
  obtain ⟨A3, cp3, rfl, _⟩ := hx.form
  have HB := Lib.hid (fun o o' o'' => (((Below.refl w.heap.size w).alloc (Nat.le_refl _) o).alloc (by simp) o').alloc (by simp; omega) o'')
  have HK := Lib.hid (fun o o' o'' => hx.below (HB.out o o' o''))
  obtain ⟨M, hM⟩ : ∃ M, M = t.kids.length := ⟨_, rfl⟩
  obtain ⟨M3, hM3⟩ : ∃ M3, M3 = x.kids.length := ⟨_, rfl⟩
  rw [← hM3] at HK
  rw [← hM, ← hM3]
  clear h hw hM hM3 hi hx hat hlen hix
  show Calls _ _ #[_, _, .slice A 0 cap] _ _
  go_enter Try.func25, Try.ntmps25
  go_wp2
  refine bodyPost_ret (v := .agg #[.int .i64 x.kind, .int .i64 x.num, .slice A3 M3 cp3]) (by simp [results, Try.results25, go_sem]) rfl ?_
  rw [withT]
  exact ⟨_, rfl, (HK.out _ _ _).mono fun b hb => .inl hb, HB.out _ _ _⟩
/-- one value more, behind others in a row of the call's own -/
theorem push_vals {G : Nat → Prop} {w w1 X : World} {B g k cap : Nat} {so s : Value} {l : List VT} {u : VT} {vs : List Value}
    (hv : Vals (fun b => G b ∧ some b ≠ so.ownBlock) w l vs) (hi : I64 u.kind ∧ I64 u.num) (hk : Kids (fun b => G b ∧ some b ≠ so.ownBlock) w u.kids s)
    (hX : Below w.heap.size w X) (hg : X.grownBy w1 so.ownBlock) (hat : so.ownBlock = some g ∨ w.heap.size ≤ g) (_ : w1.ownsRow B TV 3 (.slice (some ⟨g, 0, none⟩) (k + 1) cap) (k + 1) (vs ++ [.int .i64 u.kind, .int .i64 u.num, s])) :
    Vals (fun b => G b ∧ some b ≠ some g) w1 (l ++ [u]) (vs ++ [.int .i64 u.kind, .int .i64 u.num, s]) := by
  have hc : ∀ b o' v, (G b ∧ some b ≠ so.ownBlock) → w.cell? ⟨b, o', none⟩ = some v → (G b ∧ some b ≠ some g) ∧ w1.cell? ⟨b, o', none⟩ = some v := by
    intro b o' v hb hv
    have hlt := World.block_lt_of_cell? _ _ hv
    refine ⟨⟨hb.1, ?_⟩, ?_⟩
    · rcases hat with h | h
      · rw [← h]; exact hb.2
      · intro e; injection e with e; subst e; simp only at hlt; omega
    · refine hg.cell (a := ⟨b, o', none⟩) ?_ hb.2
      exact (hX.cell (p := ⟨b, o', none⟩) hlt).trans hv
  refine Vals.append (hv.carry hc) ?_
  rw [Vals]
  exact ⟨s, [], rfl, hi.1, hi.2, hk.carry hc, by rw [Vals]⟩
theorem with_i64 {x t : VT} {r : List Way} (hx : I64 x.kind ∧ I64 x.num) (ht : I64 t.kind ∧ I64 t.num) : I64 (withT x t r).kind ∧ I64 (withT x t r).num := by
  cases r with
  | nil => rw [withT]; exact hx
  | cons a r => rw [withT_cons]; exact ht
def WithRel (G : Nat → Prop) (w0 : World) (t x : VT) (s xs : Value) (L : List VT) (N : Nat) (i : Value) (wr : World) : Prop :=
  ∃ (k : Nat) (so : Value) (vs : List Value), k ≤ N ∧ i = .int .i64 k ∧
    (Box wr w0.heap.size TV (boxV t s) ∧ Box wr (w0.heap.size + 1) TV (boxV x xs) ∧ Box wr (w0.heap.size + 2) TV zero3 ∧ Box wr (w0.heap.size + 3) TV #[.int .i64 t.kind, .int .i64 t.num, so]) ∧
    wr.ownsRow (w0.heap.size + 4) TV 3 so k vs ∧ Vals (fun b => ((G b ∧ b < w0.heap.size) ∨ w0.heap.size + 4 ≤ b) ∧ some b ≠ so.ownBlock) wr (L.take k) vs ∧ Below w0.heap.size w0 wr
theorem with_next {G : Nat → Prop} {w wr w3 X : World} {t x u : VT} {s xs so su : Value} {KL : List VT} {N k g cap : Nat} {vs : List Value} (hkN : k < N)
    (hbx : Box wr w.heap.size TV (boxV t s) ∧ Box wr (w.heap.size + 1) TV (boxV x xs) ∧ Box wr (w.heap.size + 2) TV zero3 ∧ Box wr (w.heap.size + 3) TV #[.int .i64 t.kind, .int .i64 t.num, so])
    (ho : wr.ownsRow (w.heap.size + 4) TV 3 so k vs) (hv : Vals (fun b => ((G b ∧ b < w.heap.size) ∨ w.heap.size + 4 ≤ b) ∧ some b ≠ so.ownBlock) wr (KL.take k) vs) (hb : Below w.heap.size w wr)
    (hL : KL.take (k + 1) = KL.take k ++ [u]) (hi : I64 u.kind ∧ I64 u.num) (hk : Kids (fun b => ((G b ∧ b < w.heap.size) ∨ w.heap.size + 4 ≤ b) ∧ some b ≠ so.ownBlock) wr u.kids su)
    (hown : w3.ownsRow (w.heap.size + 4) TV 3 (.slice (some ⟨g, 0, none⟩) (k + 1) cap) (k + 1) (vs ++ [.int .i64 u.kind, .int .i64 u.num, su])) (hX : Below wr.heap.size wr X) (hg : X.grownBy w3 so.ownBlock) (hat : so.ownBlock = some g ∨ wr.heap.size ≤ g) :
    ∀ i, i = .int .i64 (k + 1 : Nat) → WithRel G w t x s xs KL N i (w3.setCell ⟨w.heap.size + 3, 2, none⟩ (.slice (some ⟨g, 0, none⟩) (k + 1) cap)) := by
  intro i hi'
  have hno : ∀ b, b < w.heap.size + 4 → some b ≠ so.ownBlock := fun b hb e => by have := (ho.lt _ e.symm).1; omega
  have hz := hbx.2.2.2.lt
  have hgz : w.heap.size + 4 ≤ g := (hown.lt g rfl).1
  refine ⟨k + 1, _, _, by omega, hi', ⟨?_, ?_, ?_, ?_⟩, own_set hown (by omega), ?_, ?_⟩
  · exact ((hbx.1.on hX).grown hg (hno _ (by omega))).far (by dsimp only; omega) _
  · exact ((hbx.2.1.on hX).grown hg (hno _ (by omega))).far (by dsimp only; omega) _
  · exact ((hbx.2.2.1.on hX).grown hg (hno _ (by omega))).far (by dsimp only; omega) _
  · exact ((hbx.2.2.2.on hX).grown hg (hno _ (by omega))).set 2 _
  · rw [hL]
    refine ((push_vals hv hi hk hX hg hat hown).set fun c hc _ => ?_).mono fun b hb => hb
    rcases hc.1 with h | h <;> omega
  · refine Below.setCell ?_ (by dsimp only; omega) _
    exact (hb.trans (hX.mono hb.size)).grown hg (by have := hb.size; have := hX.size; omega) (fun c h => by have := (ho.lt _ h).1; omega)
end Go.Proofs.Ytlejcmojimkjeaa.vt

/- A value with a place left open: whatever is put there, the whole reads as the value with that there. -/
import Derived.Test.YtlejcmojimkjeaaPathAt
import Derived.Test.YtlejcmojimkjeaaValMake
namespace Go.Proofs.Ytlejcmojimkjeaa.vt
open Go.RowKit mem

/-- whatever lies in the three cells at (sb, so), the block H reads as t with that where the steps lead -/
def Hole (H : Nat) (t : VT) (l : List Way) (wr : World) (sb so : Nat) : Prop :=
  ∀ (w' : World) (y : VT), (∀ b o, b < wr.heap.size → ¬ (b = sb ∧ so ≤ o ∧ o < so + 3) → w'.cell? ⟨b, o, none⟩ = wr.cell? ⟨b, o, none⟩) →
    Cells (fun b => b ≠ H + 2) w' sb so y → Cells (fun b => b ≠ H + 2) w' H 0 (withT y t l)
theorem hole_start (H : Nat) (t : VT) (wr : World) : Hole H t [] wr H 0 := fun w' y _ h => by rw [withT]; exact h
theorem hole_keep {H sb so : Nat} {t : VT} {l : List Way} {wr w1 : World} (h : Hole H t l wr sb so) (hb : Below wr.heap.size wr w1) : Hole H t l w1 sb so :=
  fun w' y ha hc => h w' y (fun b o hlt hn => (ha b o (Nat.lt_of_lt_of_le hlt hb.size) hn).trans (hb.cell (p := ⟨b, o, none⟩) hlt)) hc
theorem cell_set_apart (w : World) (b i c o : Nat) (u : Value) (h : ¬ (c = b ∧ o = i)) : (w.setCell ⟨b, i, none⟩ u).cell? ⟨c, o, none⟩ = w.cell? ⟨c, o, none⟩ :=
  World.cell?_setCell_other w ⟨b, i, none⟩ ⟨c, o, none⟩ u (fun e => by injection e with e1 e2; exact h ⟨e1.symm, e2.symm⟩)
theorem hole_step {G : Nat → Prop} {H sb so g j cap : Nat} {t u : VT} {l : List Way} {wy : Way} {wr w1 : World} (h : Hole H t l wr sb so) (hat : atT t l = some u) (hj : j < u.kids.length) (hwy : wy.2 = (j : Int))
    (hsb : sb < wr.heap.size) (hsbH : H ≤ sb) (hH2 : H + 2 < wr.heap.size) (hb : Below wr.heap.size wr w1) (hg : wr.heap.size ≤ g) (hlen : u.kids.length ≤ 9223372036854775807) (hi : I64 u.kind ∧ I64 u.num)
    (c0 : wr.cell? ⟨sb, so, none⟩ = some (.int .i64 u.kind)) (c1 : wr.cell? ⟨sb, so + 1, none⟩ = some (.int .i64 u.num)) (c2 : (wr.cell? ⟨sb, so + 2, none⟩).isSome = true) (hrow : Row (fun b => G b ∧ b < H) w1 g u.kids 0) :
    Hole H t (l ++ [wy]) (w1.setCell ⟨sb, so + 2, none⟩ (.slice (some ⟨g, 0, none⟩) u.kids.length cap)) g (j * 3) := by
  intro w' y ha hc
  rw [withT_snoc y l t wy u hat]
  have hj' : wy.2.toNat = j := by omega
  rw [hj']
  have hgl : g < w1.heap.size := by
    have := (row_at hrow j hj).2.2.1
    exact World.block_lt_of_cell? _ _ this
  have hback : ∀ b o, b < w1.heap.size → b ≠ g → ¬ (b = sb ∧ o = so + 2) → w'.cell? ⟨b, o, none⟩ = w1.cell? ⟨b, o, none⟩ := fun b o hlt hne hn =>
    (ha b o (by rw [World.size_setCell]; exact hlt) (fun e => hne e.1)).trans (cell_set_apart _ _ _ _ _ _ hn)
  have hsz := hb.size
  refine h w' _ (fun b o hlt hn => (hback b o (by omega) (by omega) (fun e => hn ⟨e.1, by omega⟩)).trans (hb.cell (p := ⟨b, o, none⟩) hlt)) ?_
  refine ⟨hi.1, hi.2, (hback sb so (by omega) (by omega) (by omega)).trans ((hb.cell (p := ⟨sb, so, none⟩) hsb).trans c0), (hback sb (so + 1) (by omega) (by omega) (by omega)).trans ((hb.cell (p := ⟨sb, so + 1, none⟩) hsb).trans c1), _,
    (ha sb (so + 2) (by rw [World.size_setCell]; omega) (fun e => by omega)).trans (World.cell?_setCell_same' _ _ _ (by rw [hb.cell (p := ⟨sb, so + 2, none⟩) hsb]; exact c2)), ?_⟩
  refine ⟨_, cap, by simp [VT.kids], ⟨by simpa [VT.kids] using hlen, fun e => by cases e⟩, fun _ => ⟨g, 0, rfl, by omega, row_of fun i hi' => ?_⟩⟩
  simp only [VT.kids, List.length_set] at hi'
  simp only [VT.kids, Nat.zero_add]
  by_cases hij : i = j
  · subst hij
    rw [List.getElem_set_self]
    exact hc
  · rw [List.getElem_set_ne (Ne.symm hij)]
    obtain ⟨i1, i2, k0, k1, s', k2, hk⟩ := row_at hrow i hi'
    rw [Nat.zero_add] at k0 k1 k2
    have hcell : ∀ o, ¬ (j * 3 ≤ o ∧ o < j * 3 + 3) → w'.cell? ⟨g, o, none⟩ = w1.cell? ⟨g, o, none⟩ := fun o ho =>
      (ha g o (by rw [World.size_setCell]; exact hgl) (fun e => ho e.2)).trans (cell_set_apart _ _ _ _ _ _ (by omega))
    refine ⟨i1, i2, (hcell _ (by omega)).trans k0, (hcell _ (by omega)).trans k1, s', (hcell _ (by omega)).trans k2, ?_⟩
    exact hk.carry fun b o v hbG hv => ⟨by have := hbG.2; omega, (hback b o (World.block_lt_of_cell? _ _ hv) (by have := hbG.2; omega) (by have := hbG.2; omega)).trans hv⟩
/-- a list of the call's own that is not empty: where it lies -/
theorem own_row {B : Nat} {G : Nat → Prop} {w : World} {l : List VT} {s : Value} (h : Own B G w l s) (h0 : 0 < l.length) :
    ∃ g cap, s = .slice (some ⟨g, 0, none⟩) l.length cap ∧ B ≤ g ∧ g < w.heap.size ∧ Row G w g l 0 ∧ ∀ i, w.frozen? ⟨g, i, none⟩ = false := by
  obtain ⟨vs, hv, ho⟩ := h
  rcases ho.2 with ⟨hs, hn⟩ | ⟨g, cap, cur, hs, hb, hg', hnc, hcm, hcs, htake⟩
  · omega
  · refine ⟨g, cap, hs, hb, (Array.getElem?_eq_some_iff.1 hg').1, vals_row hv fun j u hu => ?_, fun i => by unfold World.frozen?; rw [hg']; simp⟩
    rw [Nat.zero_add, cell_of_row w g j cur 24 (0, 0) hg']
    rw [← htake, List.getElem?_take] at hu
    split at hu
    · simpa using hu
    · cases hu
end Go.Proofs.Ytlejcmojimkjeaa.vt

/- An argument that is a list of tokens, opened as the plain list that it holds. -/
import Derived.Test.YthohfepolidgkaaNestMath
import Derived.Test.YthohfepolidgkaaRows
import Derived.Deep.Slices
import Derived.ChangeArms
import Derived.ChangeAt2
import Derived.OpenShut
namespace Go.Proofs.Ythohfepolidgkaa.ne
open Go.ChangeShapes Go.WideShapes Go.ChangeAt Go.RowKit mem

theorem tcells_add (b off k : Nat) : (⟨b, off, none⟩ : Addr).add k = ⟨b, off + k, none⟩ := by simp [Addr.add]
theorem cellsK : Try.prog.cellsOf 35 = 4 := by kernel_rfl
instance : Inhabited Tk := ⟨⟨0, 0, 0, []⟩⟩
section
variable {H : Type} {enc : TypeId × Value → H} {W : World}
set_option maxRecDepth 100000 in
/-- one token's cells -/
theorem tk_fuel {fuel : Nat} {cs : List Value} {x : DataW H × List MemPlace} (h : DataW.trod enc Try.prog W 0 (fun _ => true) true fuel 35 cs = some x) : ∃ t : Tk, cs = tkV t := by
  obtain ⟨xs, n, hn, hx, hl, hxl, hf⟩ := DataW.trod_struct Try.underlying35 h
  rw [cellsK] at hl
  match xs, hxl, cs, hl with
  | [y0, y1, y2, y3], _, [v0, v1, v2, v3], _ =>
    have g0 := hf 0 _ rfl
    have g1 := hf 1 _ rfl
    have g2 := hf 2 _ rfl
    have g3 := hf 3 _ rfl
    simp [show Try.prog.cellsOf 3 = 1 by kernel_rfl, show Try.prog.cellsOf 9 = 1 by kernel_rfl] at g0 g1 g2 g3
    obtain ⟨k, hk, _, wk⟩ := DataW.trod_int Try.underlying3 g0
    obtain ⟨a, ha, _, wa⟩ := DataW.trod_int Try.underlying3 g1
    obtain ⟨m, hm, _, wm⟩ := DataW.trod_int Try.underlying3 g2
    obtain ⟨s, hs, hys, _⟩ := DataW.trod_string Try.underlying9 g3
    injection hk with hk _
    injection ha with ha _
    injection hm with hm _
    injection hs with hs _
    exact ⟨⟨k, a, m, s.data.toList⟩, by rw [hk, ha, hm, hs]; simp [tkV]⟩
/-- an argument that is a list of tokens -/
theorem open_toks {v : Value} {d : DataW H} {p : List MemPlace} (h : DataW.Trod enc Try.prog W 0 (fun _ => true) true 22 v d p) (hv : ∃ a len cap, v = .slice a len cap) :
    ∃ l : List Tk, TksS W.heap.size W l v ∧ l.length ≤ 9223372036854775807 := by
  obtain ⟨A, n, c, rfl⟩ := hv
  obtain ⟨fuel, hf⟩ := h
  simp only [Value.cells] at hf
  rcases DataW.trod_slice Try.underlying22 hf with ⟨h1, h2⟩ | ⟨a, len, cap, elems, rest, m, hm, h1, hx, hb, hlc, hcm, hel, hall, hsp, hns⟩
  · injection h1 with h1 _
    injection h1 with _ h1 _
    subst h1
    exact ⟨[], ⟨rfl, _, _, rfl, fun h => absurd h (by decide)⟩, by decide⟩
  · injection h1 with h1 _
    injection h1 with h1 h2 h3
    subst h1; subst h2; subst h3
    have each : ∀ i, i < n → ∃ t : Tk, ∀ j u, (tkV t)[j]? = some u → W.cell? ((a.add (i * 4)).add j) = some u := by
      intro i hi
      have e := hall i hi
      have hie : i < elems.length := by omega
      rw [List.getElem?_eq_getElem hie, Option.bind_eq_some_iff] at e
      obtain ⟨cs', hc, ht⟩ := e
      rw [cellsK] at hc
      obtain ⟨_, hcl, hat⟩ := World.cells?_some hc
      obtain ⟨t, rfl⟩ := tk_fuel ht
      refine ⟨t, fun j u hu => ?_⟩
      have hj : j < (tkV t).length := by
        rcases Nat.lt_or_ge j (tkV t).length with h | h
        · exact h
        · rw [List.getElem?_eq_none h] at hu; cases hu
      rw [hat j (by exact hj)]
      exact hu
    obtain ⟨q, hq⟩ := Go.Deep.choose_lt each
    have hlen : ((List.range n).map fun i => q i).length = n := by simp
    refine ⟨(List.range n).map fun i => q i, ⟨?_, some a, c, by rw [hlen], fun hp => ?_⟩, by rw [hlen]; unfold maxLen at hcm; omega⟩
    · rw [tksV_len, hlen]
    · rw [hlen] at hp
      have hc0 := hq 0 hp 0 _ rfl
      have hsp : a.spot = none := by
        unfold World.cell? at hc0
        split at hc0
        · cases hs : a.spot with
          | none => rfl
          | some k => simp [Addr.add, hs] at hc0
        · cases hc0
      obtain ⟨b, off, sp⟩ := a
      dsimp only at hsp
      subst hsp
      refine ⟨b, off, rfl, ?_, fun j u hu => ?_⟩
      · unfold World.cell? at hc0
        split at hc0
        · rename_i blk hblk
          exact (Array.getElem?_eq_some_iff.1 hblk).1
        · cases hc0
      · have hj : j < (tksV ((List.range n).map fun i => q i)).length := by
          rcases Nat.lt_or_ge j (tksV ((List.range n).map fun i => q i)).length with h | h
          · exact h
          · rw [List.getElem?_eq_none h] at hu; cases hu
        rw [tksV_len, hlen] at hj
        have hk : j / 4 < n := by omega
        have e := tksV_at ((List.range n).map fun i => q i) (j / 4) (j % 4) (by rw [hlen]; exact hk) (by omega)
        have e2 : j / 4 * 4 + j % 4 = j := by omega
        rw [e2] at e
        rw [e] at hu
        have e3 : ((List.range n).map fun i => q i)[j / 4]'(by rw [hlen]; exact hk) = q (j / 4) := by simp
        rw [e3] at hu
        have := hq (j / 4) hk (j % 4) u hu
        rw [tcells_add, tcells_add, Nat.add_assoc, e2] at this
        exact this
end
end Go.Proofs.Ythohfepolidgkaa.ne

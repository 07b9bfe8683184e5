/- Arguments that are slices of slices of pairs, and slices of numbers, as the lists that they hold. -/
import Derived.Test.YtjlbchkdiaomjaaDoorTrieOfCard
import Derived.Test.YtjlbchkdiaomjaaDoorOverSets
namespace Go.Proofs.YtjlbchkdiaomjaaDoor.trie
open Go.ChangeShapes Go.WideShapes Go.ChangeAt Go.RowKit Go.Shelf mem tri mix

theorem spot_of {W : World} {a : Addr} {v : Value} (h : W.cell? (a.add 0) = some v) : a.spot = none ∧ a.block < W.heap.size := by
  unfold World.cell? at h
  split at h
  · rename_i c t fr hh
    refine ⟨?_, (Array.getElem?_eq_some_iff.1 hh).1⟩
    cases hs : a.spot with
    | none => rfl
    | some k => simp [Addr.add, hs] at h
  · cases h
theorem map_range_get {α : Type} (f : Nat → α) (n j : Nat) (u : α) (h : ((List.range n).map f)[j]? = some u) : j < n ∧ u = f j := by
  have hlt : j < n := by have := (List.getElem?_eq_some_iff.1 h).1; simpa using this
  refine ⟨hlt, ?_⟩
  rw [List.getElem?_map, List.getElem?_range hlt] at h
  exact (Option.some.inj h).symm
theorem open_rows {H : Type} {enc : TypeId × Value → H} {W : World} {v : Value} {d : DataW H} {p : List MemPlace} (h : DataW.Trod enc Tryd.prog W 0 (fun _ => true) true 46 v d p) (hv : ∃ a len cap, v = .slice a len cap) :
    ∃ (LL : List (List (Int × Int))) (vs : List Value) (n : Nat), n = LL.length ∧ Sees W.heap.size 1 W v n vs ∧ RowsOf W.heap.size LL vs W := by
  obtain ⟨a0, n0, c0, rfl⟩ := hv
  obtain ⟨fuel, hf⟩ := h
  rcases Go.Deep.open_slice1 Tryd.underlying46 (by kernel_rfl) hf with ⟨h1, _⟩ | ⟨a, len, cap, m, n, V, D, Pl, h1, _, hlc, _, hm, _, hi⟩
  · simp [Value.cells] at h1
    obtain ⟨rfl, rfl, rfl⟩ := h1
    exact ⟨[], [], 0, rfl, ⟨rfl, _, _, rfl, fun h => by omega⟩, rfl, fun j L hj => by simp at hj⟩
  · simp [Value.cells] at h1
    obtain ⟨rfl, rfl, rfl⟩ := h1
    have hmc : m = c0 := by simpa using hm
    subst hmc
    have each : ∀ i, i < n0 → ∃ L : List (Int × Int), W.cell? (a.add i) = some (V i) ∧ Sees W.heap.size 2 W (V i) L.length (pairV L) ∧ ∀ x ∈ L, I64 x.1 := by
      intro i hi'
      obtain ⟨hc, ht⟩ := hi i (by omega)
      have hform : ∃ a len cap, V i = .slice a len cap := by
        rcases Go.Deep.open_slice Tryd.underlying28 ht with ⟨e, _⟩ | ⟨b, l2, c2, _, _, _, _, e, _⟩
        · exact ⟨none, 0, 0, by simpa using e⟩
        · exact ⟨some b, l2, c2, by simpa using e⟩
      have hT : DataW.Trod enc Tryd.prog W 0 (fun _ => true) true 28 (V i) (D i) (Pl i) := by
        obtain ⟨b, l2, c2, e⟩ := hform
        refine ⟨n, ?_⟩
        rw [e] at ht ⊢
        exact ht
      obtain ⟨L, nl, hnl, hs, hk⟩ := open_pairs hT hform
      subst hnl
      exact ⟨L, hc, hs, hk⟩
    obtain ⟨L, hL⟩ := choose_lt each
    refine ⟨(List.range n0).map L, (List.range n0).map V, n0, by simp, ⟨by simp, some a, _, rfl, fun hn => ?_⟩, by simp, fun j M hj => ?_⟩
    · obtain ⟨hsp, hlt⟩ := spot_of (hL 0 (by omega)).1
      obtain ⟨b, off, sp⟩ := a
      dsimp only at hsp hlt
      subst hsp
      refine ⟨b, off, rfl, hlt, fun j u hu => ?_⟩
      obtain ⟨hj, rfl⟩ := map_range_get V n0 j u hu
      have := (hL j hj).1
      rwa [add_pl] at this
    · obtain ⟨hj', rfl⟩ := map_range_get L n0 j M hj
      exact ⟨V j, by rw [List.getElem?_map, List.getElem?_range hj']; rfl, (hL j hj').2.1, (hL j hj').2.2⟩
theorem open_keys {H : Type} {enc : TypeId × Value → H} {W : World} {v : Value} {d : DataW H} {p : List MemPlace} (h : DataW.Trod enc Tryd.prog W 0 (fun _ => true) true 42 v d p) (hv : ∃ a len cap, v = .slice a len cap) :
    ∃ (K : List Int) (n : Nat), n = K.length ∧ Sees W.heap.size 1 W v n (intV K) := by
  obtain ⟨a0, n0, c0, rfl⟩ := hv
  obtain ⟨fuel, hf⟩ := h
  rcases open_ints Tryd.underlying42 Tryd.underlying3 (by kernel_rfl) hf with ⟨h1, _⟩ | ⟨a, len, cap, zs, h1, _, hlc, _, hz, _, hc, _⟩
  · simp [Value.cells] at h1
    obtain ⟨rfl, rfl, rfl⟩ := h1
    exact ⟨[], 0, rfl, ⟨rfl, _, _, rfl, fun h => by omega⟩⟩
  · simp [Value.cells] at h1
    obtain ⟨rfl, rfl, rfl⟩ := h1
    have hz' : zs.length = c0 := by simpa using hz
    refine ⟨zs.take n0, n0, by rw [List.length_take]; omega, ⟨by unfold intV; rw [List.length_map, List.length_take]; omega, some a, _, rfl, fun hn => ?_⟩⟩
    obtain ⟨hsp, hlt⟩ := spot_of (hc 0 (by omega))
    obtain ⟨b, off, sp⟩ := a
    dsimp only at hsp hlt
    subst hsp
    refine ⟨b, off, rfl, hlt, fun j u hu => ?_⟩
    have hj : j < n0 := by
      have := (List.getElem?_eq_some_iff.1 hu).1
      unfold intV at this; rw [List.length_map, List.length_take] at this; omega
    have h2 := hc j (by omega)
    rw [add_pl] at h2
    rw [h2]
    unfold intV at hu
    rw [List.getElem?_map, List.getElem?_take_of_lt hj, List.getElem?_eq_getElem (by omega)] at hu
    rw [← hu]
    simp [List.getD, List.getElem?_eq_getElem (show j < zs.length by omega)]
end Go.Proofs.YtjlbchkdiaomjaaDoor.trie

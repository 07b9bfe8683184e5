/- An argument that is a slice of calls, opened as the list that it holds. -/
import Derived.Test.YtjlbchkdiaomjaaDoorTrieOps
import Derived.Test.YtjlbchkdiaomjaaDoorTrieOfCard
namespace Go.Proofs.YtjlbchkdiaomjaaDoor.trie
open Go.ChangeShapes Go.WideShapes Go.ChangeAt Go.RowKit Go.Shelf mem tri mix

theorem opsV_get (f : Nat → Bool × Int × Int) : ∀ (n j : Nat) (u : Value), (opsV ((List.range n).map f))[j]? = some u → (∃ i, i < n ∧ j = i * 3 ∧ u = .bool (f i).1) ∨ (∃ i, i < n ∧ j = i * 3 + 1 ∧ u = .int .i64 (f i).2.1) ∨ (∃ i, i < n ∧ j = i * 3 + 2 ∧ u = .int .i64 (f i).2.2) := by
  intro n j u h
  have hlt : j < n * 3 := by
    have h1 := (List.getElem?_eq_some_iff.1 h).1
    rw [opsV_length] at h1
    simpa using h1
  have hk : j / 3 < ((List.range n).map f).length := by simp; omega
  obtain ⟨h0, h1, h2⟩ := opsV_at _ (j / 3) hk
  have hf : ((List.range n).map f)[j / 3] = f (j / 3) := by simp
  rw [hf] at h0 h1 h2
  have hj := Nat.div_add_mod j 3
  have hm : j % 3 < 3 := Nat.mod_lt _ (by decide)
  obtain ⟨d, hd⟩ : ∃ d, d = j % 3 := ⟨_, rfl⟩
  rw [← hd] at hj hm
  match d, hm, hj with
  | 0, _, hj => rw [show j / 3 * 3 = j by omega, h] at h0; injection h0 with h0; exact .inl ⟨j / 3, by omega, by omega, h0⟩
  | 1, _, hj => rw [show j / 3 * 3 + 1 = j by omega, h] at h1; injection h1 with h1; exact .inr (.inl ⟨j / 3, by omega, by omega, h1⟩)
  | 2, _, hj => rw [show j / 3 * 3 + 2 = j by omega, h] at h2; injection h2 with h2; exact .inr (.inr ⟨j / 3, by omega, by omega, h2⟩)
section
variable {H : Type} {enc : TypeId × Value → H} {P : Program} {w : World} {base : Nat} {spare : Nat → Bool} {held : Bool}
/-- one element's three cells, read as a Boolean and two numbers -/
theorem three_cells {e : TypeId} {f0 f1 f2 : Field} {k : Nat} {cs : List Value} {x : DataW H × List MemPlace} (he : P.underlying e = some (.struct #[f0, f1, f2])) (o0 : f0.offset = 0) (o1 : f1.offset = 1) (o2 : f2.offset = 2)
    (c0 : P.cellsOf f0.type = 1) (c1 : P.cellsOf f1.type = 1) (c2 : P.cellsOf f2.type = 1) (u0 : P.underlying f0.type = some .bool) (u1 : P.underlying f1.type = some (.int .i64)) (u2 : P.underlying f2.type = some (.int .i64))
    (hl : cs.length = 3) (h : DataW.trod enc P w base spare held k e cs = some x) : ∃ o : Bool × Int × Int, cs = [.bool o.1, .int .i64 o.2.1, .int .i64 o.2.2] ∧ I64 o.2.1 := by
  obtain ⟨xs, n, _, _, _, hxl, hf⟩ := DataW.trod_struct he h
  match xs, hxl, cs, hl with
  | [y0, y1, y2], _, [v0, v1, v2], _ =>
    have g0 := hf 0 f0 rfl
    have g1 := hf 1 f1 rfl
    have g2 := hf 2 f2 rfl
    simp [o0, o1, o2, c0, c1, c2] at g0 g1 g2
    obtain ⟨b, hb, _⟩ := DataW.trod_bool u0 g0
    obtain ⟨a, ha, _, wa⟩ := DataW.trod_int u1 g1
    obtain ⟨c, hc, _, _⟩ := DataW.trod_int u2 g2
    simp at hb ha hc
    exact ⟨(b, a, c), by rw [hb, ha, hc], i64_of wa⟩
end
instance : Inhabited (Bool × Int × Int) := ⟨(false, 0, 0)⟩
/-- an argument that is a slice of calls, as the list that it holds -/
theorem open_ops {H : Type} {enc : TypeId × Value → H} {W : World} {v : Value} {d : DataW H} {p : List MemPlace} (h : DataW.Trod enc Tryd.prog W 0 (fun _ => true) true 22 v d p) (hv : ∃ a len cap, v = .slice a len cap) :
    ∃ (L : List (Bool × Int × Int)) (n : Nat), n = L.length ∧ Sees W.heap.size 3 W v n (opsV L) ∧ ∀ o ∈ L, I64 o.2.1 := by
  obtain ⟨a0, n0, c0, rfl⟩ := hv
  obtain ⟨fuel, hf⟩ := h
  have ce : Tryd.prog.cellsOf 32 = 3 := by kernel_rfl
  rcases Go.Deep.open_slice Tryd.underlying22 hf with ⟨h1, _⟩ | ⟨a, len, cap, m, n, D, Pl, h1, _, hlc, _, hm, _, hi⟩
  · simp [Value.cells] at h1
    obtain ⟨rfl, rfl, rfl⟩ := h1
    exact ⟨[], 0, rfl, ⟨rfl, _, _, rfl, fun h => by omega⟩, fun q hq => by cases hq⟩
  · simp [Value.cells] at h1
    obtain ⟨rfl, rfl, rfl⟩ := h1
    have hmc : m = c0 := by simpa using hm
    subst hmc
    have each : ∀ i, i < n0 → ∃ o : Bool × Int × Int, (W.cell? ((a.add (i * 3)).add 0) = some (.bool o.1) ∧ W.cell? ((a.add (i * 3)).add 1) = some (.int .i64 o.2.1) ∧ W.cell? ((a.add (i * 3)).add 2) = some (.int .i64 o.2.2)) ∧ I64 o.2.1 := by
      intro i hi'
      obtain ⟨cs', hc, ht⟩ := hi i (by omega)
      rw [ce] at hc
      obtain ⟨_, hcl, hat⟩ := World.cells?_some hc
      obtain ⟨o, rfl, ho⟩ := three_cells Tryd.underlying32 rfl rfl rfl (by kernel_rfl) (by kernel_rfl) (by kernel_rfl) Tryd.underlying4 Tryd.underlying3 Tryd.underlying3 hcl ht
      exact ⟨o, ⟨hat 0 (by decide), hat 1 (by decide), hat 2 (by decide)⟩, ho⟩
    obtain ⟨q, hq⟩ := choose_lt each
    refine ⟨(List.range n0).map q, n0, by simp, ⟨by rw [opsV_length]; simp, some a, _, rfl, fun hn => ?_⟩, fun z hz => ?_⟩
    · have hc0 := (hq 0 (by omega)).1.1
      have hsp : a.spot = none ∧ a.block < W.heap.size := by
        unfold World.cell? at hc0
        split at hc0
        · rename_i c t fr hh
          refine ⟨?_, (Array.getElem?_eq_some_iff.1 hh).1⟩
          cases hs : a.spot with
          | none => rfl
          | some k => simp [Addr.add, hs] at hc0
        · cases hc0
      obtain ⟨b, off, sp⟩ := a
      obtain ⟨rfl, hlt⟩ := hsp
      refine ⟨b, off, rfl, hlt, fun j u hu => ?_⟩
      rcases opsV_get q n0 j u hu with ⟨i, hi', rfl, rfl⟩ | ⟨i, hi', rfl, rfl⟩ | ⟨i, hi', rfl, rfl⟩
      · have := (hq i hi').1.1
        rw [add_pl, add_pl] at this
        exact this
      · have := (hq i hi').1.2.1
        rw [add_pl, add_pl] at this
        rw [← Nat.add_assoc]; exact this
      · have := (hq i hi').1.2.2
        rw [add_pl, add_pl] at this
        rw [← Nat.add_assoc]; exact this
    · obtain ⟨i, hi', rfl⟩ := List.mem_map.1 hz
      exact (hq i (List.mem_range.1 hi')).2
end Go.Proofs.YtjlbchkdiaomjaaDoor.trie

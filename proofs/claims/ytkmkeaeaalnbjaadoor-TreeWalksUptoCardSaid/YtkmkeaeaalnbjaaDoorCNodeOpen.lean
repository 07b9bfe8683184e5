/- An argument that is a node, or a list of nodes, opened as the tree that it holds. -/
import Derived.Test.YtkmkeaeaalnbjaaDoorCGNode
import Derived.Test.YtkmkeaeaalnbjaaDoorRows
import Derived.Deep.Slices
import Derived.ChangeArms
import Derived.ChangeAt2
import Derived.OpenShut
namespace Go.Proofs.YtkmkeaeaalnbjaaDoor.nt
open Go.ChangeShapes Go.WideShapes Go.ChangeAt Go.RowKit mem
open vt (I64 cells_add)

theorem okWide_struct {P : Program} {w : World} {b : Nat} {t : TypeId} {fs : Array Field} {v : Value} (ht : P.underlying t = some (.struct fs)) (h : Value.okWide P w .any b t v) : ∃ cs, v = .agg cs ∧ cs.size = P.cellsOf t := by
  unfold Value.okWide at h
  rw [ht] at h
  obtain ⟨cs, h1, h2, _⟩ := h
  exact ⟨cs, h1, h2⟩
theorem nsize_le {H : Type} : ∀ (ts : List NT) (ds : List (DataW H)), ts.length = ds.length → (∀ (i : Nat) (h : i < ts.length) (h' : i < ds.length), ts[i].size ≤ Rows.uptoBulk ds[i]) → sizeL ts ≤ Rows.uptoBulkAll ds
  | [], [], _, _ => Nat.le_refl _
  | t :: ts, d :: ds, hl, h => by
    rw [sizeL]
    simp only [Rows.uptoBulkAll]
    have h0 := h 0 (by simp) (by simp)
    have h1 := nsize_le ts ds (by simpa using hl) (fun i hi hi' => by have := h (i + 1) (by simpa using hi) (by simpa using hi'); simpa using this)
    simp only [List.getElem_cons_zero] at h0
    omega
theorem bulk_mem {H : Type} : ∀ {ds : List (DataW H)} {i : Nat} (hi : i < ds.length), Rows.uptoBulk ds[i] ≤ Rows.uptoBulkAll ds
  | d :: r, 0, _ => by simp only [Rows.uptoBulkAll, List.getElem_cons_zero]; omega
  | d :: r, i + 1, hi => by
    have := bulk_mem (ds := r) (i := i) (by simpa using hi)
    simp only [Rows.uptoBulkAll, List.getElem_cons_succ]
    omega
theorem i64_wf {n : Int} (h : (Lit.int .i64 n).wf = true) : I64 n := by
  have e1 : IntKind.i64.min = -9223372036854775808 := rfl
  have e2 : IntKind.i64.max = 9223372036854775807 := rfl
  simp [Lit.wf, e1, e2] at h
  exact h
instance : Inhabited (NT × Value) := ⟨(.mk 0 0 0 [] [], .slice none 0 0)⟩
theorem cellsN : Tryd.prog.cellsOf 24 = 5 := by kernel_rfl
/-- what a reading of a node's cells gives -/
def OpenN (W : World) (cs : List Value) (b : Nat) : Prop := ∃ (t : NT) (s : Value), cs = headV t s ∧ Hd t ∧ Kids (fun _ => True) W t.kids s ∧ t.size ≤ b
section
variable {H : Type} {enc : TypeId × Value → H} {W : World}
/-- what a reading of a slice's elements gives -/
theorem nopen_elems {v : Value} {n : Nat} {x : DataW H × List MemPlace} (h : DataW.trod enc Tryd.prog W 0 (fun _ => true) true n 22 [v] = some x) (hB : Rows.uptoBulk x.1 ≤ 281474976710656)
    (ih : ∀ m, m < n → ∀ (cs : List Value) (x : DataW H × List MemPlace), DataW.trod enc Tryd.prog W 0 (fun _ => true) true m 24 cs = some x → Rows.uptoBulk x.1 ≤ 281474976710656 → OpenN W cs (Rows.uptoBulk x.1)) :
    ∃ l : List NT, Kids (fun _ => True) W l v ∧ sizeL l + 1 ≤ Rows.uptoBulk x.1 := by
  rcases DataW.trod_slice Tryd.underlying22 h with ⟨h1, h2⟩ | ⟨a, len, cap, elems, rest, m, hm, h1, hx, hb, hlc, hcm, hel, hall, hsp, hns⟩
  · injection h1 with h1 _
    subst h1
    subst h2
    exact ⟨[], Kids.nil_ _ _, by simp [sizeL, Rows.uptoBulk]⟩
  · injection h1 with h1 _
    subst h1
    have hBe : Rows.uptoBulkAll (elems.map (·.1)) ≤ 281474976710656 := by
      rw [hx] at hB
      simp only [Rows.uptoBulk] at hB
      omega
    have each : ∀ i, i < len → ∃ q : NT × Value, (W.cell? ((a.add (i * 5)).add 0) = some (.int .i64 q.1.kind) ∧ W.cell? ((a.add (i * 5)).add 1) = some (.int .i64 q.1.at_) ∧ W.cell? ((a.add (i * 5)).add 2) = some (.int .i64 q.1.num) ∧ W.cell? ((a.add (i * 5)).add 3) = some (.string ⟨q.1.name.toArray⟩) ∧ W.cell? ((a.add (i * 5)).add 4) = some q.2) ∧ Hd q.1 ∧ Kids (fun _ => True) W q.1.kids q.2 ∧ ∀ (hi : i < (elems.map (·.1)).length), q.1.size ≤ Rows.uptoBulk (elems.map (·.1))[i] := by
      intro i hi
      have e := hall i hi
      have hie : i < elems.length := by omega
      rw [List.getElem?_eq_getElem hie, Option.bind_eq_some_iff] at e
      obtain ⟨cs', hc, ht⟩ := e
      rw [cellsN] at hc
      obtain ⟨_, hcl, hat⟩ := World.cells?_some hc
      have hbi := bulk_mem (ds := elems.map (·.1)) (i := i) (by rw [List.length_map]; exact hie)
      rw [List.getElem_map] at hbi
      obtain ⟨t, s, rfl, hhd, hk, hs⟩ := ih m (by omega) cs' _ ht (by omega)
      refine ⟨(t, s), ⟨hat 0 (by decide), hat 1 (by decide), hat 2 (by decide), hat 3 (by decide), hat 4 (by decide)⟩, hhd, hk, fun hi' => ?_⟩
      rw [List.getElem_map]
      exact hs
    obtain ⟨q, hq⟩ := Go.Deep.choose_lt each
    have hlen : ((List.range len).map fun i => (q i).1).length = len := by simp
    refine ⟨(List.range len).map fun i => (q i).1, ⟨some a, cap, by rw [hlen], ⟨by rw [hlen]; unfold maxLen at hcm; omega, (fun h => by cases h), by rw [hlen]; exact hlc⟩, fun hp => ?_⟩, ?_⟩
    · rw [hlen] at hp
      have hc0 := (hq 0 hp).1.1
      have hsp : a.spot = none := by
        unfold World.cell? at hc0
        split at hc0
        · cases hs : a.spot with
          | none => rfl
          | some k => simp [Addr.add, hs] at hc0
        · cases hc0
      obtain ⟨b, off, sp⟩ := a
      dsimp only at hsp
      subst hsp
      refine ⟨b, off, rfl, trivial, row_of fun k hk => ?_⟩
      rw [hlen] at hk
      obtain ⟨⟨c0, c1, c2, c3, c4⟩, hhd, hkid, _⟩ := hq k hk
      rw [cells_add, cells_add] at c0 c1 c2 c3 c4
      have e : ((List.range len).map fun i => (q i).1)[k]'(by rw [hlen]; exact hk) = (q k).1 := by simp
      rw [e]
      exact ⟨hhd, c0, c1, c2, c3, _, c4, hkid⟩
    · rw [hx]
      have hsz := nsize_le ((List.range len).map fun i => (q i).1) (elems.map (·.1)) (by rw [hlen, List.length_map, hel]) (fun i hi hi' => by
        have := (hq i (by rw [hlen] at hi; exact hi)).2.2.2 hi'
        simpa using this)
      simp only [Rows.uptoBulk]
      omega
set_option maxRecDepth 100000 in
theorem nopen_fuel (fuel : Nat) : ∀ (cs : List Value) (x : DataW H × List MemPlace), DataW.trod enc Tryd.prog W 0 (fun _ => true) true fuel 24 cs = some x → Rows.uptoBulk x.1 ≤ 281474976710656 → OpenN W cs (Rows.uptoBulk x.1) := by
  induction fuel using Nat.strongRecOn with
  | _ fuel ih =>
    intro cs x h hB
    obtain ⟨xs, n, hn, hx, hl, hxl, hf⟩ := DataW.trod_struct Tryd.underlying24 h
    rw [cellsN] at hl
    match xs, hxl, cs, hl with
    | [y0, y1, y2, y3, y4], _, [v0, v1, v2, v3, v4], _ =>
      have g0 := hf 0 _ rfl
      have g1 := hf 1 _ rfl
      have g2 := hf 2 _ rfl
      have g3 := hf 3 _ rfl
      have g4 := hf 4 _ rfl
      simp [show Tryd.prog.cellsOf 3 = 1 by kernel_rfl, show Tryd.prog.cellsOf 22 = 1 by kernel_rfl, show Tryd.prog.cellsOf 9 = 1 by kernel_rfl] at g0 g1 g2 g3 g4
      obtain ⟨k, hk, _, wk⟩ := DataW.trod_int Tryd.underlying3 g0
      obtain ⟨a, ha, _, wa⟩ := DataW.trod_int Tryd.underlying3 g1
      obtain ⟨m, hm, _, wm⟩ := DataW.trod_int Tryd.underlying3 g2
      obtain ⟨s, hs, hys, _⟩ := DataW.trod_string Tryd.underlying9 g3
      injection hk with hk _
      injection ha with ha _
      injection hm with hm _
      injection hs with hs _
      rw [hx] at hB
      simp only [Rows.uptoBulk, Rows.uptoBulkAll, List.map_cons, List.map_nil] at hB
      have hb3 : Rows.uptoBulk y3.1 = s.data.toList.length + 1 := by rw [hys]; rfl
      obtain ⟨l, hkid, hsz⟩ := nopen_elems g4 (by omega) (fun m' hm' => ih m' (by omega))
      refine ⟨.mk k a m s.data.toList l, v4, by rw [hk, ha, hm, hs]; simp [headV, NT.kind, NT.at_, NT.num, NT.name], ⟨i64_wf wk, i64_wf wa, i64_wf wm, by show s.data.toList.length ≤ _; omega⟩, hkid, ?_⟩
      rw [hx, size_mk]
      simp only [Rows.uptoBulk, Rows.uptoBulkAll, List.map_cons, List.map_nil]
      omega
set_option maxRecDepth 100000 in
/-- an argument that is a node -/
theorem open_node {base : Nat} {v : Value} {d : DataW H} {p : List MemPlace} (h : DataW.Trod enc Tryd.prog W 0 (fun _ => true) true 24 v d p) (hv : Value.okWide Tryd.prog W .any base 24 v) (hB : Rows.uptoBulk d ≤ 281474976710656) :
    ∃ (t : NT) (s : Value), v = .agg #[.int .i64 t.kind, .int .i64 t.at_, .int .i64 t.num, .string ⟨t.name.toArray⟩, s] ∧ Hd t ∧ Kids (fun _ => True) W t.kids s ∧ t.size ≤ Rows.uptoBulk d := by
  obtain ⟨cs, rfl, hcs⟩ := okWide_struct Tryd.underlying24 hv
  obtain ⟨fuel, hf⟩ := h
  obtain ⟨t, s, he, h1, h2, h3⟩ := nopen_fuel fuel _ _ hf hB
  refine ⟨t, s, ?_, h1, h2, h3⟩
  obtain ⟨l⟩ := cs
  simp only [Value.cells] at he
  rw [he]; rfl
end

/-- an argument that is a slice of numbers -/
theorem open_nums {H : Type} {enc : TypeId × Value → H} {W : World} {v : Value} {d : DataW H} {p : List MemPlace} (h : DataW.Trod enc Tryd.prog W 0 (fun _ => true) true 29 v d p) (hv : ∃ a len cap, v = .slice a len cap) :
    ∃ A n c, v = .slice A n c ∧ n ≤ 9223372036854775807 ∧ ∀ i, i < n → ∃ b off x, A = some ⟨b, off, none⟩ ∧ W.cell? ⟨b, off + i, none⟩ = some (.int .i64 x) ∧ I64 x := by
  obtain ⟨A, n, c, rfl⟩ := hv
  obtain ⟨fuel, hf⟩ := h
  refine ⟨A, n, c, rfl, ?_⟩
  simp only [Value.cells] at hf
  rcases DataW.trod_slice Tryd.underlying29 hf with ⟨h1, h2⟩ | ⟨a, len, cap, elems, rest, m, hm, h1, hx, hb, hlc, hcm, hel, hall, hsp, hns⟩
  · injection h1 with h1 _
    injection h1 with _ h1 _
    exact ⟨by omega, fun i hi => by omega⟩
  · injection h1 with h1 _
    injection h1 with h1 h2 h3
    subst h1; subst h2; subst h3
    have each : ∀ i, i < n → ∃ x : Int, W.cell? ((a.add (i * 1)).add 0) = some (.int .i64 x) ∧ I64 x := by
      intro i hi
      have e := hall i hi
      have hie : i < elems.length := by omega
      rw [List.getElem?_eq_getElem hie, Option.bind_eq_some_iff] at e
      obtain ⟨cs', hc, ht⟩ := e
      rw [show Tryd.prog.cellsOf 3 = 1 by kernel_rfl] at hc
      obtain ⟨_, hcl, hat⟩ := World.cells?_some hc
      obtain ⟨x, rfl, _, wx⟩ := DataW.trod_int Tryd.underlying3 ht
      exact ⟨x, hat 0 (by decide), i64_wf wx⟩
    refine ⟨by unfold maxLen at hcm; omega, fun i hi => ?_⟩
    obtain ⟨x, hc0, hx2⟩ := each i hi
    obtain ⟨x9, hc9, _⟩ := each 0 (by omega)
    have hsp : a.spot = none := by
      unfold World.cell? at hc9
      split at hc9
      · cases hs : a.spot with
        | none => rfl
        | some k => simp [Addr.add, hs] at hc9
      · cases hc9
    obtain ⟨b, off, sp⟩ := a
    dsimp only at hsp
    subst hsp
    refine ⟨b, off, x, rfl, ?_, hx2⟩
    rw [cells_add, cells_add, Nat.mul_one] at hc0
    exact hc0
end Go.Proofs.YtkmkeaeaalnbjaaDoor.nt

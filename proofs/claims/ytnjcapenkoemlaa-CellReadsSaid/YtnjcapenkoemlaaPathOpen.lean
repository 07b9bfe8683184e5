/- Arguments opened: values with the bounds of their lists, lists of values, steps, two rows of steps. -/
import Derived.Test.YtnjcapenkoemlaaValOpen
import Derived.Test.YtnjcapenkoemlaaPathLens
import Derived.Test.YtnjcapenkoemlaaPathMem
import Derived.SizedLaws
namespace Go.Proofs.Ytnjcapenkoemlaa.vt
open Go.ChangeShapes Go.WideShapes Go.ChangeAt Go.RowKit mem

theorem weights_all {H : Type} {P : Program} {e : TypeId} : ∀ {ds : List (DataW H)} {i : Nat} (hi : i < ds.length) (n : Nat), n ∈ DataW.weights P e ds[i] → n ∈ DataW.weightsAll P e ds
  | d :: r, 0, _, n, h => by simp only [DataW.weightsAll, List.mem_append]; exact Or.inl h
  | d :: r, i + 1, hi, n, h => by
    simp only [DataW.weightsAll, List.mem_append]
    exact Or.inr (weights_all (by simpa using hi) n (by simpa using h))
section
variable {H : Type} {enc : TypeId × Value → H} {W : World}
/-- what a reading of a slice's elements gives -/
theorem open2_elems {v : Value} {n : Nat} {x : DataW H × List MemPlace} (h : DataW.trod enc Try.prog W 0 (fun _ => true) true n 22 [v] = some x)
    (ih : ∀ m, m < n → ∀ (cs : List Value) (x : DataW H × List MemPlace), DataW.trod enc Try.prog W 0 (fun _ => true) true m 24 cs = some x → ∃ (t : VT) (s : Value), cs = [.int .i64 t.kind, .int .i64 t.num, s] ∧ (I64 t.kind ∧ I64 t.num) ∧ Kids (fun _ => True) W t.kids s ∧ t.size ≤ Rows.uptoBulk x.1 ∧ ((∀ n ∈ DataW.weights Try.prog 24 x.1, n ≤ reachBytes) → t.lens)) :
    ∃ l : List VT, Kids (fun _ => True) W l v ∧ sizeL l + 1 ≤ Rows.uptoBulk x.1 ∧ ((∀ n ∈ DataW.weights Try.prog 22 x.1, n ≤ reachBytes) → l.length * 40 ≤ 140737488355328 ∧ lensL l) := by
  rcases DataW.trod_slice Try.underlying22 h with ⟨h1, h2⟩ | ⟨a, len, cap, elems, rest, m, hm, h1, hx, hb, hlc, hcm, hel, hall, hsp, hns⟩
  · injection h1 with h1 _
    subst h1
    subst h2
    exact ⟨[], Kids.nil_ _ _, by simp [sizeL, Rows.uptoBulk], fun _ => ⟨by simp, by rw [lensL]; trivial⟩⟩
  · injection h1 with h1 _
    subst h1
    have each : ∀ i, i < len → ∃ q : VT × Value, (W.cell? ((a.add (i * 3)).add 0) = some (.int .i64 q.1.kind) ∧ W.cell? ((a.add (i * 3)).add 1) = some (.int .i64 q.1.num) ∧ W.cell? ((a.add (i * 3)).add 2) = some q.2) ∧ (I64 q.1.kind ∧ I64 q.1.num) ∧ Kids (fun _ => True) W q.1.kids q.2 ∧ ∀ (hi : i < (elems.map (·.1)).length), q.1.size ≤ Rows.uptoBulk (elems.map (·.1))[i] ∧ ((∀ n ∈ DataW.weights Try.prog 24 (elems.map (·.1))[i], n ≤ reachBytes) → q.1.lens) := by
      intro i hi
      have e := hall i hi
      have hie : i < elems.length := by omega
      rw [List.getElem?_eq_getElem hie, Option.bind_eq_some_iff] at e
      obtain ⟨cs', hc, ht⟩ := e
      rw [cellsV] at hc
      obtain ⟨_, hcl, hat⟩ := World.cells?_some hc
      obtain ⟨t, s, rfl, hi64, hk, hs, hl⟩ := ih m (by omega) cs' _ ht
      refine ⟨(t, s), ⟨hat 0 (by decide), hat 1 (by decide), hat 2 (by decide)⟩, hi64, hk, fun hi' => ?_⟩
      rw [List.getElem_map]
      exact ⟨hs, hl⟩
    obtain ⟨q, hq⟩ := Go.Deep.choose_lt each
    have hlen : ((List.range len).map fun i => (q i).1).length = len := by simp
    refine ⟨(List.range len).map fun i => (q i).1, ⟨some a, cap, by rw [hlen], ⟨by rw [hlen]; unfold maxLen at hcm; omega, fun h => by cases h⟩, fun hp => ?_⟩, ?_⟩
    · rw [hlen] at hp
      have hc0 := (hq 0 hp).1.1
      have hsp : a.spot = none := by
        unfold World.cell? at hc0
        split at hc0
        · cases hs : a.spot with
          | none => rfl
          | some k => simp [Addr.add, hs] at hc0
        · cases hc0
      obtain ⟨b, off, sp⟩ := a
      dsimp only at hsp
      subst hsp
      refine ⟨b, off, rfl, trivial, row_of fun k hk => ?_⟩
      rw [hlen] at hk
      obtain ⟨⟨c0, c1, c2⟩, hi64, hkid, _⟩ := hq k hk
      rw [cells_add, cells_add] at c0 c1 c2
      have e : ((List.range len).map fun i => (q i).1)[k]'(by rw [hlen]; exact hk) = (q k).1 := by simp
      rw [e]
      exact ⟨hi64.1, hi64.2, c0, c1, _, c2, hkid⟩
    · refine ⟨?_, ?_⟩
      rw [hx]
      have hsz := size_le ((List.range len).map fun i => (q i).1) (elems.map (·.1)) (by rw [hlen, List.length_map, hel]) (fun i hi hi' => by
        have := ((hq i (by rw [hlen] at hi; exact hi)).2.2.2 hi').1
        simpa using this)
      simp only [Rows.uptoBulk]
      omega
      intro hwt
      rw [hx] at hwt
      simp only [DataW.weights, Try.underlying22] at hwt
      refine ⟨?_, lensL_of fun u hu => ?_⟩
      · have h1 := hwt _ (List.mem_cons_self ..)
        rw [show Try.prog.bytesOf 24 = 40 by kernel_rfl, List.length_map, hel] at h1
        rw [hlen]
        have h2 := reachBytes_lt
        omega
      · obtain ⟨i, hi, rfl⟩ := List.getElem_of_mem hu
        rw [hlen] at hi
        have hie : i < (elems.map (·.1)).length := by rw [List.length_map, hel]; exact hi
        simp only [List.getElem_map, List.getElem_range]
        refine ((hq i hi).2.2.2 hie).2 fun n hn => hwt n (List.mem_cons_of_mem _ (List.mem_append_left _ (weights_all hie n hn)))
set_option maxRecDepth 100000 in
theorem open2_fuel (fuel : Nat) : ∀ (cs : List Value) (x : DataW H × List MemPlace), DataW.trod enc Try.prog W 0 (fun _ => true) true fuel 24 cs = some x →
    ∃ (t : VT) (s : Value), cs = [.int .i64 t.kind, .int .i64 t.num, s] ∧ (I64 t.kind ∧ I64 t.num) ∧ Kids (fun _ => True) W t.kids s ∧ t.size ≤ Rows.uptoBulk x.1 ∧ ((∀ n ∈ DataW.weights Try.prog 24 x.1, n ≤ reachBytes) → t.lens) := by
  induction fuel using Nat.strongRecOn with
  | _ fuel ih =>
    intro cs x h
    obtain ⟨xs, n, hn, hx, hl, hxl, hf⟩ := DataW.trod_struct Try.underlying24 h
    rw [cellsV] at hl
    match xs, hxl, cs, hl with
    | [y0, y1, y2], _, [v0, v1, v2], _ =>
      have g0 := hf 0 _ rfl
      have g1 := hf 1 _ rfl
      have g2 := hf 2 _ rfl
      simp [show Try.prog.cellsOf 3 = 1 by kernel_rfl, show Try.prog.cellsOf 22 = 1 by kernel_rfl] at g0 g1 g2
      obtain ⟨k, hk, _, wk⟩ := DataW.trod_int Try.underlying3 g0
      obtain ⟨m, hm, _, wm⟩ := DataW.trod_int Try.underlying3 g1
      injection hk with hk _
      injection hm with hm _
      obtain ⟨l, hkid, hsz, hln⟩ := open2_elems g2 (fun m' hm' => ih m' (by omega))
      refine ⟨.mk k m l, v2, by rw [hk, hm]; rfl, ⟨i64_wf wk, i64_wf wm⟩, hkid, ?_, ?_⟩
      · rw [hx, size_mk]
        simp only [Rows.uptoBulk, Rows.uptoBulkAll, List.map_cons, List.map_nil]
        omega
      · intro hwt
        rw [hx] at hwt
        rw [lens_mk]
        refine hln fun n hn => hwt n ?_
        simp only [DataW.weights, Try.underlying24, List.map_cons, List.map_nil, DataW.weightsEach, List.mem_append]
        exact Or.inr (Or.inr (Or.inl hn))
set_option maxRecDepth 100000 in
/-- an argument that is a value -/
theorem open2_val {base : Nat} {v : Value} {d : DataW H} {p : List MemPlace} (h : DataW.Trod enc Try.prog W 0 (fun _ => true) true 24 v d p) (hv : Value.okWide Try.prog W .any base 24 v) :
    ∃ (t : VT) (s : Value), v = .agg #[.int .i64 t.kind, .int .i64 t.num, s] ∧ (I64 t.kind ∧ I64 t.num) ∧ Kids (fun _ => True) W t.kids s ∧ t.size ≤ Rows.uptoBulk d ∧ ((∀ n ∈ DataW.weights Try.prog 24 d, n ≤ reachBytes) → t.lens) := by
  obtain ⟨cs, rfl, hcs⟩ := okWide_struct Try.underlying24 hv
  obtain ⟨fuel, hf⟩ := h
  obtain ⟨t, s, he, h1, h2, h3, h4⟩ := open2_fuel fuel _ _ hf
  refine ⟨t, s, ?_, h1, h2, h3, h4⟩
  obtain ⟨l⟩ := cs
  simp only [Value.cells] at he
  rw [he]
set_option maxRecDepth 100000 in
/-- an argument that is a list of values -/
theorem open2_vals {v : Value} {d : DataW H} {p : List MemPlace} (h : DataW.Trod enc Try.prog W 0 (fun _ => true) true 22 v d p) (hv : ∃ a len cap, v = .slice a len cap) : ∃ l : List VT, Kids (fun _ => True) W l v ∧ sizeL l + 1 ≤ Rows.uptoBulk d := by
  obtain ⟨a, len, cap, rfl⟩ := hv
  obtain ⟨fuel, hf⟩ := h
  obtain ⟨l, hk, hs, _⟩ := open2_elems hf (fun m _ => open2_fuel m)
  exact ⟨l, hk, hs⟩
instance : Inhabited Way := ⟨(false, 0)⟩
end
theorem okWide_arr {P : Program} {w : World} {r : Reach} {base n : Nat} {t e : TypeId} {v : Value} (ht : P.underlying t = some (.array n e)) (h : Value.okWide P w r base t v) : ∃ cs, v = .agg cs ∧ cs.size = P.cellsOf t := by
  simp only [Value.okWide, ht] at h
  obtain ⟨cs, h1, h2, _⟩ := h
  exact ⟨cs, h1, h2⟩
end Go.Proofs.Ytnjcapenkoemlaa.vt

/- For every list of pairs and every number of keys the statement TrieOf returns true: a map that Of makes of any pairs is what the document says, and a walk over it that is broken off ends there. Condition: the listed variable marline/mix.rounds starts as the program's own text lays it (tied by the card). -/
import Derived.Test.YtjlbchkdiaomjaaDoorTrieOfLaw
import Derived.Test.YtjlbchkdiaomjaaDoorTrieLaid
import Derived.Deep.SlicePairs
import Derived.WideKeyArgs
namespace Go.Proofs.YtjlbchkdiaomjaaDoor.trie
open Go.ChangeShapes Go.WideShapes Go.ChangeAt Go.RowKit Go.Shelf mem tri mix

theorem add_pl (b o i : Nat) : (⟨b, o, none⟩ : Addr).add i = ⟨b, o + i, none⟩ := by unfold Addr.add; split <;> simp_all
theorem i64_of {n : Int} (h : (Lit.int .i64 n).wf = true) : I64 n := by
  have e1 : IntKind.i64.min = -9223372036854775808 := rfl
  have e2 : IntKind.i64.max = 9223372036854775807 := rfl
  simp [Lit.wf, e1, e2] at h
  exact h
theorem u8_of {n : Int} (h : (Lit.int .u8 n).wf = true) : ∃ s : Nat, n = (s : Int) ∧ s ≤ 255 := by
  have e1 : IntKind.u8.min = 0 := rfl
  have e2 : IntKind.u8.max = 255 := rfl
  simp [Lit.wf, e1, e2] at h
  exact ⟨n.toNat, by omega, by omega⟩
theorem choose_lt {α : Type} [Inhabited α] {Q : Nat → α → Prop} {m : Nat} (h : ∀ i, i < m → ∃ x, Q i x) : ∃ f : Nat → α, ∀ i, i < m → Q i (f i) :=
  ⟨fun i => if hi : i < m then (h i hi).choose else default, fun i hi => by dsimp only; rw [dif_pos hi]; exact (h i hi).choose_spec⟩
theorem pairV_get (f : Nat → Int × Int) : ∀ (n j : Nat) (u : Value), (pairV ((List.range n).map f))[j]? = some u → (∃ i, i < n ∧ j = i * 2 ∧ u = .int .i64 (f i).1) ∨ (∃ i, i < n ∧ j = i * 2 + 1 ∧ u = .int .i64 (f i).2) := by
  intro n
  induction n with
  | zero => intro j u h; simp [pairV] at h
  | succ n ih =>
    intro j u h
    rw [List.range_succ, List.map_append, List.map_singleton, pairV_snoc] at h
    have hl : (pairV ((List.range n).map f)).length = n * 2 := by rw [pairV_length]; simp
    by_cases hj : j < n * 2
    · rw [List.getElem?_append_left (by rw [hl]; exact hj)] at h
      rcases ih j u h with ⟨i, hi, e⟩ | ⟨i, hi, e⟩
      · exact .inl ⟨i, by omega, e⟩
      · exact .inr ⟨i, by omega, e⟩
    · rw [List.getElem?_append_right (by rw [hl]; omega), hl] at h
      obtain ⟨d, hd⟩ : ∃ d, d = j - n * 2 := ⟨_, rfl⟩
      rw [← hd] at h
      match d, hd, h with
      | 0, hd, h => exact .inl ⟨n, by omega, by omega, by simpa using h.symm⟩
      | 1, hd, h => exact .inr ⟨n, by omega, by omega, by simpa using h.symm⟩
      | d + 2, _, h => simp at h
/-- an argument that is a slice of pairs, as the list that it holds -/
theorem open_pairs {H : Type} {enc : TypeId × Value → H} {W : World} {v : Value} {d : DataW H} {p : List MemPlace} (h : DataW.Trod enc Tryd.prog W 0 (fun _ => true) true 28 v d p) (hv : ∃ a len cap, v = .slice a len cap) :
    ∃ (L : List (Int × Int)) (n : Nat), n = L.length ∧ Sees W.heap.size 2 W v n (pairV L) ∧ ∀ q ∈ L, I64 q.1 := by
  obtain ⟨a0, n0, c0, rfl⟩ := hv
  obtain ⟨fuel, hf⟩ := h
  rcases Go.Deep.open_slice_pairs Tryd.underlying28 Tryd.underlying40 (by kernel_rfl) rfl rfl (by kernel_rfl) (by kernel_rfl) hf with ⟨h1, _⟩ | ⟨a, len, cap, m, n, V0, V1, D0, D1, P0, P1, h1, _, hlc, _, hm, _, hi⟩
  · simp [Value.cells] at h1
    obtain ⟨rfl, rfl, rfl⟩ := h1
    exact ⟨[], 0, rfl, ⟨rfl, _, _, rfl, fun h => by omega⟩, fun q hq => by cases hq⟩
  · simp [Value.cells] at h1
    obtain ⟨rfl, rfl, rfl⟩ := h1
    have hmc : m = c0 := by simpa using hm
    subst hmc
    have each : ∀ i, i < n0 → ∃ q : Int × Int, V0 i = .int .i64 q.1 ∧ V1 i = .int .i64 q.2 ∧ I64 q.1 := by
      intro i hi'
      obtain ⟨_, _, t0, t1⟩ := hi i (by omega)
      obtain ⟨x, hx, _, wx⟩ := DataW.trod_int Tryd.underlying3 t0
      obtain ⟨y, hy, _, wy⟩ := DataW.trod_int Tryd.underlying3 t1
      exact ⟨(x, y), by simpa using hx, by simpa using hy, i64_of wx⟩
    obtain ⟨q, hq⟩ := choose_lt each
    refine ⟨(List.range n0).map q, n0, by simp, ⟨by rw [pairV_length]; simp, some a, _, rfl, fun hn => ?_⟩, fun z hz => ?_⟩
    · have hc0 := (hi 0 (by omega)).1
      have hsp : a.spot = none ∧ a.block < W.heap.size := by
        unfold World.cell? at hc0
        split at hc0
        · rename_i c t fr hh
          refine ⟨?_, (Array.getElem?_eq_some_iff.1 hh).1⟩
          cases hs : a.spot with
          | none => rfl
          | some k => simp [Addr.add, hs] at hc0
        · cases hc0
      obtain ⟨b, off, sp⟩ := a
      obtain ⟨rfl, hlt⟩ := hsp
      refine ⟨b, off, rfl, hlt, fun j u hu => ?_⟩
      rcases pairV_get q n0 j u hu with ⟨i, hi', rfl, rfl⟩ | ⟨i, hi', rfl, rfl⟩
      · have := (hi i (by omega)).1
        rw [(hq i hi').1] at this
        rwa [add_pl] at this
      · have := (hi i (by omega)).2.1
        rw [(hq i hi').2.1] at this
        rw [add_pl] at this
        rw [← this]
    · obtain ⟨i, hi', rfl⟩ := List.mem_map.1 hz
      exact (hq i (List.mem_range.1 hi')).2.2

set_option maxRecDepth 100000 in
theorem of_contract (H : Type) (enc : TypeId × Value → H) (W : World) (base : Nat) (args : Array Value) (ds gs : List (DataW H)) (before : List MemPlace)
    (hval : ∀ (j : Nat) t v, Tryd.f5.params[j]? = some t → args[j]? = some v → Value.okWide Tryd.prog W .any base t v)
    (hW : DataW.Whole enc Tryd.prog Tryd.f5.params.toList Rows.trieOfSpec.vars false W args.toList ds gs before) (hL : laidMetH Tryd.prog Rows.trieOfRow.laid W) :
    Calls Tryd.prog 5 args W fun e W' => ∃ v, e = .returned v ∧ Rows.trieOfSpec.post enc Tryd.prog Tryd.f5 false true false false W args v W' := by
  have hW' := hW
  obtain ⟨p, q, hA0, hV, rfl, hfz, hnd⟩ := hW
  have hA : DataW.TrodAll enc Tryd.prog W 0 (fun _ => true) true Tryd.f5.params.toList args.toList ds p := hA0
  rw [Tryd.params5] at hA hval
  obtain ⟨v0, vs0, d0, ds0, p0, q0, hargs, rfl, rfl, h0, r0⟩ := trodAll_cons hA
  obtain ⟨v1, vs1, d1, ds1, p1, q1, rfl, rfl, rfl, h1, r1⟩ := trodAll_cons r0
  obtain ⟨rfl, rfl, rfl⟩ := trodAll_nil r1
  obtain rfl : args = #[v0, v1] := by cases args; simpa using hargs
  obtain ⟨rfl, rfl⟩ := trodVars_none hV
  have hsl := okWide_slice Tryd.underlying28 (hval 0 28 v0 rfl rfl)
  obtain ⟨b, rfl, rfl, rfl, wb⟩ := open_int Tryd.underlying5 (hval 1 5 v1 rfl rfl) h1
  obtain ⟨s, rfl, hs⟩ := u8_of wb
  obtain ⟨L, n, hn, hsee, hkeys⟩ := open_pairs h0 hsl
  clear hA0
  simp only [List.append_nil] at hW'
  have hmain : Calls Tryd.prog 5 #[v0, .int .u8 s] W (OfLaw W) := by
    by_cases hlong : 150 < n
    · obtain ⟨A, cap, rfl⟩ := hsee.form
      exact of_long W.heap.size n s A cap W (Nat.le_refl _) (laid_of hL) hlong
    · exact of_law W.heap.size W.heap.size n s L v0 W (Nat.le_refl _) (laid_of hL) (Nat.le_refl _) hn (by omega) hs hsee hkeys
  refine hmain.mono fun e W' ⟨he, hg⟩ => ?_
  subst he
  refine ⟨_, rfl, _, _, _, [], p0, [], hW', ?_, ?_, rfl, hg.frame _, fun h => by cases h⟩
  · exact trodAll_mk1 (shut_bool Tryd.underlying4 _)
  · have := trodAll_mk2 (WideElems.Trod_stays (P := Tryd.prog) (by kernel_rfl) (by kernel_rfl) (of_decide_eq_true (by kernel_rfl)) h0
      (fun x hx => hg.same (hW'.lt x (by simp [hx]))) (fun x hx => by simpa using hW'.lt x (by simp [hx]))) (shut_int (enc := enc) (w := W') (base := 0) (spare := fun b => decide (b < W.heap.size)) (held := true) Tryd.underlying5 wb)
    rwa [List.append_nil] at this

theorem of_reads (os : Os) {H : Type} (enc : TypeId × Value → H) : ∃ places, DataW.whole enc Tryd.prog ((World.doorLaid Tryd.prog 17 os).forCall (fun _ _ => 0) ⟨#[], #[.slice none 0 0, .int .u8 0], []⟩).memory Tryd.f5.params.toList Rows.trieOfSpec.vars false #[Value.slice none 0 0, Value.int .u8 0].toList 8 = some ([.nil, .lit (.int .u8 0)], [], places) :=
  ⟨[], by kernel_rfl⟩

set_option maxRecDepth 100000 in
theorem of_lifted (os : Os) (started : os.Started) (H : Type) (enc : TypeId × Value → H) (F : Stop.Interp) :
    ReturnsInHanded {} Tryd.checked os 5 .any ((OpenSpec.ofChange Rows.trieOfSpec).preRow enc Tryd.prog Tryd.f5 Rows.trieOfRow.domain false Rows.trieOfRow.laid) (((OpenSpec.ofChange Rows.trieOfSpec).at F).post enc Tryd.prog Tryd.f5 false true false false) := by
  obtain ⟨places, hx⟩ := of_reads os enc
  refine returnsInHanded_of_row (C := Tryd.checked) (s := OpenSpec.ofChange Rows.trieOfSpec) own started (by kernel_rfl) Tryd.func5
    (witness_row_atRef (enc := enc) (C := Tryd.checked) false (World.doorLaid Tryd.prog 17 os) #[.slice none 0 0, .int .u8 0] rfl (by kernel_rfl) (by kernel_rfl) (by kernel_rfl)
      (OpenSpec.preRow_of_cond 8 hx (by kernel_rfl) (fun k hk => by cases hk) (by kernel_rfl) (door_met os _))) ?_
  intro W base args ds gs before hval hW _ _ _ hL _ _
  exact of_contract H enc W base args ds gs before hval hW hL

theorem of_said : Rows.TrieOfSaid :=
  OpenClaim.holds_of_cond 5 Tryd.f5 rfl rfl rfl rfl rfl rfl rfl ⟨rfl, rfl, rfl, rfl, rfl⟩ rfl rfl rfl rfl rfl (by kernel_rfl) Tryd.func5 (by kernel_rfl)
    (of_decide_eq_true (by kernel_rfl)) (by unfold Func.isWrapper; rw [if_neg (of_decide_eq_false (by kernel_rfl))]; exact ⟨rfl, rfl⟩)
    (fun os started H enc _ F => by rw [OpenClaim.pre_eq_preRow]; exact of_lifted os started H enc F)

theorem of_plain (f : FuncId) (fn : Func) (hf : Tryd.pinned.checked.prog.funcNamed "marline/marlinelaw04.TrieOf" = some f) (hfn : Tryd.pinned.checked.prog.funcs[f]? = some fn) :
    false = Tryd.pinned.checked.prog.looks [] ∧ ∀ (j : Nat) t, fn.params[j]? = some t → Tryd.pinned.checked.prog.wantsStandIn t = false := by
  obtain rfl : f = 5 := Option.some.inj ((show Tryd.prog.funcNamed "marline/marlinelaw04.TrieOf" = some 5 by kernel_rfl).symm.trans hf) |>.symm
  obtain rfl : fn = Tryd.f5 := (Option.some.inj (Tryd.func5.symm.trans hfn)).symm
  refine ⟨by kernel_rfl, fun j t ht => ?_⟩
  rw [Tryd.params5] at ht
  have hm : t ∈ [28, 5] := by simpa using Array.mem_of_getElem? ht
  have hall : ([28, 5].all fun u => !Tryd.prog.wantsStandIn u) = true := by kernel_rfl
  exact (show Tryd.prog.wantsStandIn t = false by simpa using List.all_eq_true.1 hall t hm)

/-- THE CARD -/
theorem of_card : Rows.TrieOfCardSaid :=
  Claim7.holds_tied_plain_at .later [] _ _ _ _ of_said (fun _ h => by cases h) (by kernel_rfl) (fun _ h => by cases h) trieOf_row_tie rfl ⟨rfl, rfl⟩ (by kernel_rfl) rfl of_plain (by kernel_rfl)
end Go.Proofs.YtjlbchkdiaomjaaDoor.trie

/- The document's own Differs of layer 5: the keys at which two lists of pairs are unlike. The keys of two lists, put in order, each once. The library's Concat at rows of numbers: room made, then each row laid behind the others. -/
import Derived.Test.YtjlbchkdiaomjaaDoorOverRef
import Derived.Test.YtjlbchkdiaomjaaDoorOverSets
import Derived.Lib.SlicesCompact
import Derived.Test.YtjlbchkdiaomjaaDoorTrieKeys
import Derived.Lib.AppendZerosOnto
import Derived.Lib.Walk
import Derived.Maps.AppendAt
namespace Go.Proofs.YtjlbchkdiaomjaaDoor.trie
open Go.RowKit mem

/-- are two lists unlike at a key? -/
def diffK (a b : List (Int × Int)) (n key : Int) : Bool := !(getS a key).2 || !(getS b key).2 || ((getS a key).1.tmod n != (getS b key).1.tmod n)
def keysS (l : List (Int × Int)) : List Int := l.map Prod.fst
def differsS (a b : List (Int × Int)) (n : Int) : List Int := (keysS (overS a b)).filter (diffK a b n)
theorem keyV_keys (l : List (Int × Int)) : keyV l = intV (keysS l) := by unfold keyV intV keysS; rw [List.map_map]; rfl
theorem filt_take (f : Int → Bool) (l : List Int) (k : Nat) (h : k < l.length) : (l.take (k + 1)).filter f = if f l[k] = true then (l.take k).filter f ++ [l[k]] else (l.take k).filter f := by
  rw [List.take_succ_eq_append_getElem h, List.filter_append]
  by_cases hf : f l[k] = true <;> simp [hf]
theorem intV_snoc (l : List Int) (x : Int) : intV (l ++ [x]) = intV l ++ [.int .i64 x] := by unfold intV; rw [List.map_append]; rfl
theorem tmod_small (g n : Int) (hn : 1 ≤ n ∧ n ≤ 1000) : -1000 ≤ g.tmod n ∧ g.tmod n ≤ 1000 := by
  have h : (g.tmod n).natAbs < n.natAbs := by rw [Int.natAbs_tmod]; exact Nat.mod_lt _ (by omega)
  omega
def DiffRel (B n : Nat) (l : List Int) (f : Int → Bool) (w : World) (o i : Value) (wr : World) : Prop :=
  ∃ (k m : Nat), k ≤ n ∧ m ≤ k ∧ i = .int .i64 k ∧ Hid (m = ((l.take k).filter f).length) ∧ Got B 3 1 m (intV ((l.take k).filter f)) o w wr
set_option maxRecDepth 100000 in
set_option maxHeartbeats 1000000 in
theorem rdiffers_any (a b : List (Int × Int)) (n : Int) (u v : Value) (w : World) (hn : 1 ≤ n ∧ n ≤ 1000) (hl : a.length + b.length ≤ 1048000) (h1 : Sees w.heap.size 2 w u a.length (pairV a)) (h2 : Sees w.heap.size 2 w v b.length (pairV b)) :
    Calls Tryd.prog 33 #[u, v, .int .i64 n] w fun e w' => ∃ r, e = .returned r ∧ Sees w'.heap.size 1 w' r (differsS a b n).length (intV (differsS a b n)) ∧ Below w.heap.size w w' := by
  obtain ⟨i0, hi0, hz0, hz1, hz2⟩ := info_parts infoInt
  have H1 := Lib.hid h1
  have H2 := Lib.hid h2
  clear h1 h2
  have hol := overS_len b a
  go_enter Tryd.func33, Tryd.ntmps33
  go_wp2_with (fail)
  refine (rover_any a b u v w hl H1.out H2.out).mono ?_
  rintro e w1 ⟨r, rfl, hs1, hb1⟩
  have HS1 := Lib.hid hs1
  have HB1 := Lib.hid hb1
  clear hs1 hb1
  go_wp2_with (fail)
  refine (rkeys_any (overS a b) r w1 (by omega) HS1.out).mono ?_
  rintro e w2 ⟨q, rfl, hg2⟩
  have HG2 := Lib.hid hg2
  clear hg2
  have hq : Sees w2.heap.size 1 w2 q (keysS (overS a b)).length (intV (keysS (overS a b))) := by
    have h := HG2.out.sees
    rw [keyV_keys] at h
    unfold keysS; rw [List.length_map]; exact h
  have HQ := Lib.hid hq
  have hw12 := HB1.out.trans (HG2.out.2.mono HB1.out.size)
  have HA := Lib.hid ((H1.out.below hw12).more hw12.size)
  have HBb := Lib.hid ((H2.out.below hw12).more hw12.size)
  have HW := Lib.hid hw12
  obtain ⟨A, cap, rfl⟩ := hq.form
  obtain ⟨l, hll⟩ : ∃ l, l = keysS (overS a b) := ⟨_, rfl⟩
  have hlen : l.length ≤ 1048000 := by rw [hll]; unfold keysS; rw [List.length_map]; omega
  rw [← hll] at HQ
  have hD : Hid (differsS a b n = l.filter (diffK a b n)) := by show _ = _; rw [hll]; rfl
  rw [← hll]
  clear hll hq hw12 HG2 HS1 HB1 H1 H2
  obtain ⟨N, hN⟩ : ∃ N, N = l.length := ⟨_, rfl⟩
  rw [← hN] at hlen ⊢
  have HN := Lib.hid hN
  clear hN
  generalize hB : w2.heap.size = B at HQ HA HBb
  have HBB := Lib.hid hB
  have hBw : B ≤ w2.heap.size := by omega
  clear hB
  go_wp2
  go_loopw [7, 9] (fun o i wr => DiffRel B N l (diffK a b n) w2 o i wr) (fun _ i _ => N - (intOf i).toNat)
  case atStart => unfold DiffRel; exact ⟨0, 0, Nat.zero_le _, Nat.zero_le _, rfl, Lib.hid rfl, Got.nil_ _ _ _ _⟩
  case round =>
    obtain ⟨k, m, hk, hm, rfl, HM, hgot⟩ := hrel
    have hsz := hgot.2.size
    by_cases hlt : k < N
    · have hkl : k < l.length := by have := HN.out; omega
      obtain ⟨g, off, cap', hv, hb, hc1⟩ := Sees_int (HQ.out.below hgot.2) k hkl
      have hT := filt_take (diffK a b n) l k hkl
      injection hv with hA hL hC
      subst hA
      subst hC
      clear hL
      obtain ⟨x, hx⟩ : ∃ x, x = l[k] := ⟨_, rfl⟩
      rw [← hx] at hc1 hT
      clear hx hkl
      have cA := Lib.hid (fun w => rget_any a x u B w (by omega))
      have cB := Lib.hid (fun w => rget_any b x v B w (by omega))
      have hfx : diffK a b n x = (!(getS a x).2 || !(getS b x).2 || ((getS a x).1.tmod n != (getS b x).1.tmod n)) := rfl
      generalize hga : getS a x = pa at cA hfx
      generalize hgb : getS b x = pb at cB hfx
      clear hga hgb
      obtain ⟨ga, ba⟩ := pa
      obtain ⟨gb, bb⟩ := pb
      have ta := tmod_small ga n hn
      have tb := tmod_small gb n hn
      have n0 : (n == 0) = false := by rw [beq_eq_false_iff_ne]; omega
      have HF := Lib.hid hfx
      have HT := Lib.hid hT
      clear hfx hT
      go_wp2_with (fail)
      refine (cA.out _ (HA.out.below hgot.2)).mono ?_
      rintro e w' ⟨rfl, rfl⟩
      go_wp2_with (fail)
      refine (cB.out _ (HBb.out.below hgot.2)).mono ?_
      rintro e w' ⟨rfl, rfl⟩
      have wa := IntWalk.i64_in (ga.tmod n) (by omega)
      have wb := IntWalk.i64_in (gb.tmod n) (by omega)
      go_wp2_with (fail)
      cases ba
      · go_quiet (fail)
        have hgd := hgot.drewN nq
        have hcd : (wr.drewN nq).cell? ⟨g, off + k, none⟩ = some (.int .i64 x) := hc1
        have hszd : w2.heap.size ≤ (wr.drewN nq).heap.size := hsz
        clear hgot hc1 hsz
        generalize wr.drewN nq = W at hgd hcd hszd ⊢
        go_wp2_with (at_builtin; refine wpList_append_own _ rfl _ _ 42 rfl B 3 i0 (.int .i64 0) 1 8 Tryd.underlying42 hi0 hz0 hz1 hz2 rfl (by decide) _ _ _ rfl (hgd.1.alloc _) ⟨W.heap.size, 0, none⟩ 1 1 [.int .i64 x] rfl rfl (new_one _ _ _) (one_int _ _) (by unfold maxLen; omega) (by omega) (by simp; omega) ?_; intro v' w3 hown' hgrow _; have hgot' := Lib.hid (hgd.app (by omega) hown' hgrow); clear hown' hgrow)
        go_roundw
        case rel =>
          unfold DiffRel
          have e := HT.out
          rw [HF.out, if_pos (by simp)] at e
          exact ⟨k + 1, m + 1, by omega, by omega, by go_num, Lib.hid (by rw [e, List.length_append, ← HM.out]; rfl), by rw [e, intV_snoc]; exact hgot'.out⟩
        case measure => simp [intOf]; omega
      · cases bb
        · go_quiet (fail)
          have hgd := hgot.drewN nq
          have hcd : (wr.drewN nq).cell? ⟨g, off + k, none⟩ = some (.int .i64 x) := hc1
          have hszd : w2.heap.size ≤ (wr.drewN nq).heap.size := hsz
          clear hgot hc1 hsz
          generalize wr.drewN nq = W at hgd hcd hszd ⊢
          go_wp2_with (at_builtin; refine wpList_append_own _ rfl _ _ 42 rfl B 3 i0 (.int .i64 0) 1 8 Tryd.underlying42 hi0 hz0 hz1 hz2 rfl (by decide) _ _ _ rfl (hgd.1.alloc _) ⟨W.heap.size, 0, none⟩ 1 1 [.int .i64 x] rfl rfl (new_one _ _ _) (one_int _ _) (by unfold maxLen; omega) (by omega) (by simp; omega) ?_; intro v' w3 hown' hgrow _; have hgot' := Lib.hid (hgd.app (by omega) hown' hgrow); clear hown' hgrow)
          go_roundw
          case rel =>
            unfold DiffRel
            have e := HT.out
            rw [HF.out, if_pos (by simp)] at e
            exact ⟨k + 1, m + 1, by omega, by omega, by go_num, Lib.hid (by rw [e, List.length_append, ← HM.out]; rfl), by rw [e, intV_snoc]; exact hgot'.out⟩
          case measure => simp [intOf]; omega
        · by_cases hm2 : (ga.tmod n != gb.tmod n) = true
          · have hmm := hm2
            have HMM := Lib.hid hm2
            clear hm2
            go_quiet (fail)
            have hgd := hgot.drewN nq
            have hcd : (wr.drewN nq).cell? ⟨g, off + k, none⟩ = some (.int .i64 x) := hc1
            have hszd : w2.heap.size ≤ (wr.drewN nq).heap.size := hsz
            clear hgot hc1 hsz
            generalize wr.drewN nq = W at hgd hcd hszd ⊢
            go_wp2_with (at_builtin; refine wpList_append_own _ rfl _ _ 42 rfl B 3 i0 (.int .i64 0) 1 8 Tryd.underlying42 hi0 hz0 hz1 hz2 rfl (by decide) _ _ _ rfl (hgd.1.alloc _) ⟨W.heap.size, 0, none⟩ 1 1 [.int .i64 x] rfl rfl (new_one _ _ _) (one_int _ _) (by unfold maxLen; omega) (by omega) (by simp; omega) ?_; intro v' w3 hown' hgrow _; have hgot' := Lib.hid (hgd.app (by omega) hown' hgrow); clear hown' hgrow)
            go_roundw
            case rel =>
              unfold DiffRel
              have e := HT.out
              rw [HF.out, if_pos (by rw [HMM.out]; simp)] at e
              exact ⟨k + 1, m + 1, by omega, by omega, by go_num, Lib.hid (by rw [e, List.length_append, ← HM.out]; rfl), by rw [e, intV_snoc]; exact hgot'.out⟩
            case measure => simp [intOf]; omega
          · have hmm : (ga.tmod n != gb.tmod n) = false := by simpa using hm2
            have HMM := Lib.hid hmm
            clear hm2
            go_quiet (fail)
            have hgd := hgot.drewN nq
            have hcd : (wr.drewN nq).cell? ⟨g, off + k, none⟩ = some (.int .i64 x) := hc1
            have hszd : w2.heap.size ≤ (wr.drewN nq).heap.size := hsz
            clear hgot hc1 hsz
            generalize wr.drewN nq = W at hgd hcd hszd ⊢
            go_wp2
            go_roundw
            case rel =>
              unfold DiffRel
              have e := HT.out
              rw [HF.out, if_neg (by rw [HMM.out]; simp)] at e
              exact ⟨k + 1, m, by omega, by omega, by go_num, Lib.hid (by rw [e]; exact HM.out), by rw [e]; exact hgd⟩
            case measure => simp [intOf]; omega
    · have hkn : Hid (l.take k = l) := by
        have h1 : k = N := by omega
        show _ = _
        rw [List.take_of_length_le (by rw [h1, HN.out]; exact Nat.le_refl _)]
      go_wp2
      go_ret
      refine ⟨_, rfl, ?_, HW.out.trans (hgot.2.mono (by have := HBB.out; have := HW.out.size; omega))⟩
      have h := hgot.sees
      have h2 := HM.out
      rw [hkn.out] at h h2
      rw [hD.out, ← h2]; exact h
end Go.Proofs.YtjlbchkdiaomjaaDoor.trie

namespace Go.Proofs.YtjlbchkdiaomjaaDoor.trie
open Go.RowKit Go.Shelf mem tri mix

theorem compactUpTo_mem (d : Array Int) : ∀ (m : Nat) (x : Int), x ∈ Lib.compactUpTo d m ↔ ∃ j, j < m ∧ d[j]! = x
  | 0, x => by simp [Lib.compactUpTo]
  | m + 1, x => by
    have ih := compactUpTo_mem d m
    rw [Lib.compactUpTo_succ, List.mem_append, ih x]
    constructor
    · rintro (⟨j, h1, h2⟩ | h)
      · exact ⟨j, by omega, h2⟩
      · split at h
        · simp at h; exact ⟨m, by omega, h.symm⟩
        · simp at h
    · rintro ⟨j, h1, h2⟩
      by_cases hj : j < m
      · exact .inl ⟨j, hj, h2⟩
      · obtain rfl : j = m := by omega
        by_cases hk : Lib.keeps d j = true
        · right; rw [if_pos hk]; simp [h2]
        · left
          have hk' : ¬ (j = 0 ∨ d[j]! ≠ d[j - 1]!) := by intro h; exact hk (by unfold Lib.keeps; simpa using h)
          have h0 : ¬ j = 0 := fun h => hk' (.inl h)
          have he : d[j]! = d[j - 1]! := by
            by_cases he : d[j]! = d[j - 1]!
            · exact he
            · exact absurd (.inr he) hk'
          exact ⟨j - 1, by omega, by rw [← he]; exact h2⟩
theorem compactUpTo_lt (d : Array Int) (hd : ∀ i j, i ≤ j → j < d.size → d[i]! ≤ d[j]!) : ∀ m, m ≤ d.size → (Lib.compactUpTo d m).Pairwise fun x y => x < y
  | 0, _ => by simp [Lib.compactUpTo]
  | m + 1, h => by
    have ih := compactUpTo_lt d hd m (by omega)
    rw [Lib.compactUpTo_succ]
    by_cases hk : Lib.keeps d m = true
    · rw [if_pos hk]
      refine List.pairwise_append.2 ⟨ih, by simp, fun x hx y hy => ?_⟩
      obtain rfl : y = d[m]! := by simpa using hy
      obtain ⟨j, hj, rfl⟩ := (compactUpTo_mem d m x).1 hx
      have h1 := hd j (m - 1) (by omega) (by omega)
      have h2 := hd (m - 1) m (by omega) (by omega)
      have hk' : m = 0 ∨ d[m]! ≠ d[m - 1]! := by unfold Lib.keeps at hk; simpa using hk
      rcases hk' with h0 | h0
      · omega
      · omega
    · rw [if_neg hk, List.append_nil]; exact ih
theorem lt_ext (a b : List Int) (ha : a.Pairwise fun x y => x < y) (hb : b.Pairwise fun x y => x < y) (h : ∀ x, x ∈ a ↔ x ∈ b) : a = b := by
  have hu : ∀ l : List Int, (l.Pairwise fun x y => x < y) → Up (l.map fun x => (x, (0 : Int))) := fun l hl => by
    unfold Up; rw [List.pairwise_map]; exact hl
  have e := up_ext _ _ (hu a ha) (hu b hb) (fun q => by
    rw [List.mem_map, List.mem_map]
    constructor
    · rintro ⟨x, hx, rfl⟩; exact ⟨x, (h x).1 hx, rfl⟩
    · rintro ⟨x, hx, rfl⟩; exact ⟨x, (h x).2 hx, rfl⟩)
  have e2 := congrArg (List.map Prod.fst) e
  have e3 : (Prod.fst ∘ fun x : Int => (x, (0 : Int))) = id := rfl
  rw [List.map_map, List.map_map, e3, List.map_id, List.map_id] at e2
  exact e2
theorem keysS_lt (a : List (Int × Int)) (ha : Up a) : (keysS a).Pairwise fun x y => x < y := by unfold keysS; rw [List.pairwise_map]; exact ha
theorem keysS_mem (a : List (Int × Int)) (x : Int) : x ∈ keysS a ↔ ∃ v, (x, v) ∈ a := by
  unfold keysS
  rw [List.mem_map]
  constructor
  · rintro ⟨⟨y, v⟩, h, rfl⟩; exact ⟨v, h⟩
  · rintro ⟨v, h⟩; exact ⟨_, h, rfl⟩
theorem keysS_over (a b : List (Int × Int)) (ha : Up a) (hb : Up b) (x : Int) : x ∈ keysS (overS a b) ↔ x ∈ keysS a ∨ x ∈ keysS b := by
  rw [keysS_mem, keysS_mem, keysS_mem]
  constructor
  · rintro ⟨v, h⟩
    rcases (overS_mem b a ha hb _).1 h with h | ⟨h, _⟩
    · exact .inr ⟨v, h⟩
    · exact .inl ⟨v, h⟩
  · rintro (⟨v, h⟩ | ⟨v, h⟩)
    · by_cases hx : ∃ u, (x, u) ∈ b
      · obtain ⟨u, hu⟩ := hx
        exact ⟨u, (overS_mem b a ha hb _).2 (.inl hu)⟩
      · exact ⟨v, (overS_mem b a ha hb _).2 (.inr ⟨h, fun u hu => hx ⟨u, hu⟩⟩)⟩
    · exact ⟨v, (overS_mem b a ha hb _).2 (.inl h)⟩
theorem merge_keys (a b : List (Int × Int)) (ha : Up a) (hb : Up b) : Lib.compact ((keysS a ++ keysS b).mergeSort fun x y => decide (x ≤ y)) = keysS (overS a b) := by
  obtain ⟨S, hS⟩ : ∃ S, S = (keysS a ++ keysS b).mergeSort fun x y => decide (x ≤ y) := ⟨_, rfl⟩
  have hp : S.Perm (keysS a ++ keysS b) := by rw [hS]; exact List.mergeSort_perm _ _
  have hs : S.Pairwise fun x y => decide (x ≤ y) = true := by
    rw [hS]
    exact List.pairwise_mergeSort (fun x y z h1 h2 => by simp at *; omega) (fun x y => by simp; omega) _
  rw [← hS]
  have hd : ∀ i j, i ≤ j → j < S.toArray.size → S.toArray[i]! ≤ S.toArray[j]! := by
    intro i j hij hj
    have hj' : j < S.length := by simpa using hj
    rcases Nat.lt_or_eq_of_le hij with h | h
    · have := List.pairwise_iff_getElem.1 hs i j (by omega) hj' h
      have h2 : S[i] ≤ S[j] := by simpa using this
      simpa [getElem!_pos, hj', show i < S.length by omega] using h2
    · subst h; exact Int.le_refl _
  refine lt_ext _ _ (compactUpTo_lt S.toArray hd S.length (by simp)) (keysS_lt _ (overS_up a ha b)) fun x => ?_
  unfold Lib.compact
  rw [compactUpTo_mem, keysS_over a b ha hb, ← List.mem_append, ← hp.mem_iff]
  constructor
  · rintro ⟨j, hj, rfl⟩
    have : S.toArray[j]! = S[j] := by simp [getElem!_pos, hj]
    rw [this]; exact List.getElem_mem hj
  · intro h
    obtain ⟨j, hj, rfl⟩ := List.mem_iff_getElem.1 h
    exact ⟨j, hj, by simp [getElem!_pos, hj]⟩
end Go.Proofs.YtjlbchkdiaomjaaDoor.trie

namespace Go.Proofs.YtjlbchkdiaomjaaDoor.trie
open Go.RowKit mem tri mix

theorem grow_noneI (w : World) : Calls Tryd.prog 74 #[.slice none 0 0, .int .i64 0] w fun e w' => e = .returned (.slice none 0 0) ∧ w = w' := by
  go_enter Tryd.func74, Tryd.ntmps74
  go_wp2
  go_ret
  exact ⟨rfl, rfl⟩
set_option maxHeartbeats 2000000 in
set_option maxRecDepth 100000 in
theorem grow_anyI (n : Nat) (w : World) (h0 : 0 < n) (hn : n ≤ 2048) : Calls Tryd.prog 74 #[.slice none 0 0, .int .i64 n] w fun e w' =>
    ∃ cap, e = .returned (.slice (some ⟨w.heap.size, 0, none⟩) 0 cap) ∧ Got w.heap.size 3 1 0 [] (.slice (some ⟨w.heap.size, 0, none⟩) 0 cap) w w' := by
  obtain ⟨i0, hi, hz0, hz1, hz2⟩ := info_parts infoInt
  have hrz : ∀ ty, (Builtin.append_ #[42, 3] ty #[.slice none 0 0, .int .i64 (n : Int)]).run Tryd.prog w =
      .ok (.slice (some ⟨w.heap.size, 0, none⟩) n (grownCap w n 0 3)) (w.drew.alloc (.cells (#[] ++ Builtin.zeroCells (Value.int .i64 0).cells n ++ Builtin.zeroCells (Value.int .i64 0).cells (grownCap w n 0 3 - n)) 3)) := fun ty => by
    have h := Lib.run_append_grow_zeros w 42 3 ty 3 i0 (.int .i64 0) .i64 .i64 Tryd.underlying42 Tryd.underlying3 hi hz0 none 0 0 [] (run_firstCells_none w.drew i0.size 0 0 0) n (by omega) (by rw [hz1]; omega) (by omega) (by omega)
      (by rw [hz2]; omega)
      (by rw [Nat.zero_add]; exact growslice_fits (by omega) (by rw [hz2]; omega))
    rw [Nat.zero_add] at h
    exact h
  have hGn : n ≤ grownCap w n 0 3 := grownCap_ge w _ _ _
  obtain ⟨G, hG⟩ : ∃ G, G = grownCap w n 0 3 := ⟨_, rfl⟩
  rw [← hG] at hrz hGn
  have hGm : G ≤ maxLen := by
    have := grownCap_le_maxLen w n 0 3 (by unfold maxLen; omega)
    rw [← hG] at this; exact this
  have HG := Lib.hid hGm
  have h1 : ¬ ((n : Int) < 0) := by omega
  have h4 : (n : Int) > 0 := by omega
  have hG63 : G ≤ 9223372036854775807 := by unfold maxLen at hGm; omega
  clear hG hi hz0 hz1 hz2 hGm
  go_enter Tryd.func74, Tryd.ntmps74
  go_wp2_with (at_builtin; refine Lib.wpList_append_run _ rfl _ _ _ _ rfl _ _ rfl rfl _ _ (hrz _) ?_)
  all_goals (go_ret; refine ⟨G, rfl, (World.ownsRow_made w _ G (Nat.le_refl _) HG.out ?_).drew, ((Below.refl _ w).alloc (Nat.le_refl _) _).drew⟩)
  all_goals (simp only [Array.size_append, size_zeroCells, List.size_toArray, List.length_cons, List.length_nil]; omega)
/-- a row of the call's own, and behind it what another slice reads as, nil too -/
theorem app_anyI (B : Nat) (base ty : Nat) (i0 : TypeInfo) (hi : Tryd.prog.info? 3 = some i0) (hz0 : i0.zero = some (.int .i64 0)) (hz1 : i0.size = 1) (hz2 : i0.bytes = 8) (w : World) (v x : Value) (n m : Nat) (xs ys : List Value) (hown : w.ownsRow base 3 1 v n xs)
    (hx : Sees B 1 w x m ys) (h1 : ∀ u ∈ ys, u.oneCell' = true) (hnm : n + m ≤ 4096) (hb : base ≤ w.heap.size) :
    ∃ v' w', (Builtin.append_ #[42, 42] ty #[v, x]).run Tryd.prog w = .ok v' w' ∧ w'.ownsRow base 3 1 v' (n + m) (xs ++ ys) ∧ w.grownBy w' v.ownBlock := by
  obtain ⟨hl, A, c, rfl, hc⟩ := hx
  rcases Nat.eq_zero_or_pos m with hm | hm
  · subst hm
    have hy : ys = [] := List.eq_nil_of_length_eq_zero (by simpa using hl)
    subst hy
    cases A with
    | none =>
      refine ⟨v, w, ?_, by simpa using hown, World.grownBy.refl w _⟩
      rcases hown.2 with ⟨rfl, rfl⟩ | ⟨g, cap, cur, rfl, _, _, hnc, _⟩
      · simp [Builtin.append_, run_underlying Tryd.underlying42, sizeOf, typeInfo, hi, Builtin.lenOf, Builtin.firstCells]
      · simp [Builtin.append_, run_underlying Tryd.underlying42, sizeOf, typeInfo, hi, Builtin.lenOf, Builtin.firstCells, hnc, storeCells]
    | some a =>
      obtain ⟨v', w', hrun, h2, h3, h4, _⟩ := run_append_own_at (P := Tryd.prog) w base 42 ty 3 i0 (.int .i64 0) 1 8 Tryd.underlying42 hi hz0 hz1 hz2 rfl (by decide) v n xs hown a 0 c [] rfl (fun j u hu => by simp at hu) h1 (by unfold maxLen; omega) (by omega) hb
      exact ⟨v', w', hrun, h2, h3⟩
  · obtain ⟨b, off, rfl, _, hc⟩ := hc hm
    obtain ⟨v', w', hrun, h2, h3, _, _⟩ := run_append_own_at (P := Tryd.prog) w base 42 ty 3 i0 (.int .i64 0) 1 8 Tryd.underlying42 hi hz0 hz1 hz2 rfl (by decide) v n xs hown ⟨b, off, none⟩ m c ys hl (fun j u hu => by rw [Addr.add_lit]; exact hc j u hu) h1 (by unfold maxLen; omega) (by omega) hb
    exact ⟨v', w', hrun, h2, h3⟩
theorem grow_atI (n : Nat) (w : World) (hn : n ≤ 2048) : Calls Tryd.prog 74 #[.slice none 0 0, .int .i64 n] w fun e w' =>
    ∃ v, e = .returned v ∧ Got w.heap.size 3 1 0 [] v w w' := by
  rcases Nat.eq_zero_or_pos n with h | h
  · subst h
    refine (grow_noneI w).mono ?_
    rintro e w' ⟨rfl, rfl⟩
    exact ⟨_, rfl, Got.nil_ _ _ _ _⟩
  · refine (grow_anyI n w h hn).mono ?_
    rintro e w' ⟨cap, rfl, hg⟩
    exact ⟨_, rfl, hg⟩
def SumRelI (l : List (Value × Nat × List Value)) (m : Nat) (s i : Value) : Prop := ∃ k n : Nat, k ≤ m ∧ n ≤ 2048 ∧ i = .int .i64 k ∧ s = .int .i64 n ∧ Hid (n = partsN (l.take k))
def CatRelI (B : Nat) (l : List (Value × Nat × List Value)) (m : Nat) (w : World) (o i : Value) (wr : World) : Prop :=
  ∃ k n : Nat, k ≤ m ∧ n ≤ 2048 ∧ i = .int .i64 k ∧ Hid (n = partsN (l.take k)) ∧ Got B 3 1 n (partsV (l.take k)) o w wr
set_option maxHeartbeats 2000000 in
set_option maxRecDepth 100000 in
theorem concat_anyI (g c : Nat) (l : List (Value × Nat × List Value)) (w : World) (hg : g < w.heap.size) (hm : l.length ≤ 3) (hn : partsN l ≤ 2048)
    (hl : ∀ (k : Nat) (h : k < l.length), w.cell? ⟨g, k, none⟩ = some l[k].1 ∧ Sees w.heap.size 1 w l[k].1 l[k].2.1 l[k].2.2 ∧ ∀ u ∈ l[k].2.2, u.oneCell' = true) :
    Calls Tryd.prog 62 #[.slice (some ⟨g, 0, none⟩) l.length c] w fun e w' => ∃ r, e = .returned r ∧ Got w.heap.size 3 1 (partsN l) (partsV l) r w w' := by
  obtain ⟨i0, hi, hz0, hz1, hz2⟩ := info_parts infoInt
  generalize hB : w.heap.size = B at hl hg ⊢
  have hBw : B ≤ w.heap.size := by omega
  have HL := Lib.hid hl
  have HN := Lib.hid hn
  have HB := Lib.hid hB
  obtain ⟨m, hml⟩ : ∃ m, m = l.length := ⟨_, rfl⟩
  rw [← hml] at hm ⊢
  have HM := Lib.hid hml
  clear hl hn hml hB
  go_enter Tryd.func62, Tryd.ntmps62
  go_wp2
  go_loop [3, 11] (fun s i => SumRelI l m s i) (fun _ i => m - (intOf i).toNat)
  case atStart => unfold SumRelI; exact ⟨0, 0, Nat.zero_le _, by omega, rfl, rfl, Lib.hid rfl⟩
  case round =>
    obtain ⟨k, n, hk, hn, rfl, rfl, HS⟩ := hrel
    by_cases hlt : k < m
    · have hkl : k < l.length := by have := HM.out; omega
      obtain ⟨hc, hs, _⟩ := HL.out k hkl
      have hp := partsN_take l k hkl
      have hle := partsN_le l (k + 1)
      have hN := HN.out
      obtain ⟨q, hq⟩ : ∃ q, q = l[k] := ⟨_, rfl⟩
      rw [← hq] at hc hs hp
      obtain ⟨x, a, xs⟩ := q
      obtain ⟨A, cap, hx⟩ := hs.form
      simp only at hx hc hp
      subst hx
      have hsum : n + a ≤ 2048 := by have := HS.out; omega
      have HP : Hid (n + a = partsN (l.take (k + 1))) := by show _ = _; rw [hp, HS.out]
      clear hp hq hs hle hN
      go_wp2
      go_round
      case rel => unfold SumRelI; exact ⟨k + 1, n + a, by omega, hsum, by go_num, by go_num, HP⟩
      case measure => simp [intOf]; omega
    · have hnm : Hid (n = partsN l) := by
        show _ = _
        rw [HS.out, List.take_of_length_le (by have := HM.out; omega)]
      go_wp2_with (fail)
      refine (grow_atI n w hn).mono ?_
      rintro e w1 ⟨v1, rfl, hgot⟩
      rw [HB.out] at hgot
      go_wp2
      go_loopw [6, 27] (fun o i wr => CatRelI B l m w o i wr) (fun _ i _ => m - (intOf i).toNat)
      case atStart => unfold CatRelI; exact ⟨0, 0, Nat.zero_le _, by omega, rfl, Lib.hid rfl, hgot⟩
      case round =>
        obtain ⟨k, n, hk, hn, rfl, HS, hgot⟩ := hrel
        have hsz := hgot.2.size
        by_cases hlt : k < m
        · have hkl : k < l.length := by have := HM.out; omega
          obtain ⟨hc, hs, h1⟩ := HL.out k hkl
          have hp := partsN_take l k hkl
          have hpv := partsV_take l k hkl
          have hle := partsN_le l (k + 1)
          have hN := HN.out
          obtain ⟨q, hq⟩ : ∃ q, q = l[k] := ⟨_, rfl⟩
          rw [← hq] at hc hs hp hpv h1
          obtain ⟨x, a, xs⟩ := q
          simp only at hc hs hp hpv h1
          have hsum : n + a ≤ 2048 := by have := HS.out; omega
          have HP : Hid (n + a = partsN (l.take (k + 1))) := by show _ = _; rw [hp, HS.out]
          have hcw := (hgot.2.cell (p := ⟨g, k, none⟩) hg).trans hc
          obtain ⟨v', w', hrun, hown', hgr⟩ := app_anyI B B 42 i0 hi hz0 hz1 hz2 _ _ x n a _ xs hgot.1 (hs.below hgot.2) h1 (by omega) (by omega)
          have HG : Hid (Got B 3 1 (n + a) (partsV (l.take (k + 1))) v' w w') := by
            show Got _ _ _ _ _ _ _ _
            rw [hpv]
            exact ⟨hown', hgot.2.grown hgr (by omega) (fun g hv => (hgot.1.lt g hv).1)⟩
          have HR := Lib.hid hrun
          obtain ⟨A, cap, hx⟩ := hs.form
          subst hx
          clear hp hpv hq hs hle hN hc hrun hown' hgr h1
          go_wp2_with (at_builtin; refine Lib.wpList_append_run _ rfl _ _ _ _ rfl _ _ rfl rfl _ _ HR.out ?_)
          go_roundw
          case rel => unfold CatRelI; exact ⟨k + 1, n + a, by omega, hsum, by go_num, HP, HG.out⟩
          case measure => simp [intOf]; omega
        · have hnm2 : Hid (n = partsN l ∧ l.take k = l) := by
            have h : l.take k = l := List.take_of_length_le (by have := HM.out; omega)
            exact ⟨by rw [HS.out, h], h⟩
          go_wp2
          go_ret
          exact ⟨_, rfl, by have h := hgot; rw [hnm2.out.2, hnm2.out.1] at h; exact h⟩
end Go.Proofs.YtjlbchkdiaomjaaDoor.trie

/- A map's pairs handed out, for a loop whose rounds lean on it that the pair is one of the map's. -/
import Derived.Test.YtjlbchkdiaomjaaDoorTrieAll
import Derived.Test.YtjlbchkdiaomjaaDoorOverRef
namespace Go.Proofs.YtjlbchkdiaomjaaDoor.trie
open Go.RowKit Go.Shelf mem tri mix

attribute [local go_sem] Oper.semAt_some

set_option maxRecDepth 100000 in
set_option maxHeartbeats 2000000 in
theorem all1_mem (n l bm N : Nat) (hn : 1 ≤ n) (t : Tr) (p : Option Addr) (L : List (Int × Int)) (hN : N = L.length) (hp : ptr t = .pointer p) (hm : MapOf t L) (hl : L.length ≤ 1048576) (J Jx : List (Int × Int) → World → Prop) (W : World) (hJ : AbidesFrom W.heap.size J)
    (hY : ∀ pre x W1, x ∈ L → J pre W1 → pre.length < N → YieldAt Fence.wide (n - 1) Tryd.prog l (encP2 x) W1 fun e W' =>
      (e = .returned (.bool true) ∧ J (pre ++ [x]) W' ∧ KeepP W1 W') ∨ (e = .returned (.bool false) ∧ Jx (pre ++ [x]) W'))
    (c0 : W.cell? ⟨bm, 0, none⟩ = some (.pointer p)) (c1 : W.cell? ⟨bm, 1, none⟩ = some (.int .i64 N)) (hL : Lies W.heap.size W t) (h0 : J [] W) :
    CallsIn Fence.wide n Tryd.prog 43 #[.func (.yield l) #[] #[], .pointer (some ⟨bm, 0, none⟩)] W fun e W' => (∃ v, e = .returned v) ∧ ((∃ xs, xs = L ∧ J xs W') ∨ (∃ pre, (∃ k, k ≤ N ∧ pre = L.take k) ∧ Jx pre W')) := by
  have hs := sorted_any t L W hm hL hl
  unfold mapV at hs
  rw [hp, ← hN] at hs
  have HS := Lib.hid hs
  have HN := Lib.hid hN
  clear hs hm hL hp hN
  have hf : Fence.wide.fn 43 := trivial
  have hf2 : Fence.wide.fn 44 := trivial
  refine callsIn_of_wp Tryd.func43 rfl hf ?_ rfl
  simp only [Tryd.ntmps43, List.size_toArray, List.length_cons, List.length_nil, Nat.reduceAdd, Nat.reduceSub, Array.replicate_succ, Array.replicate_zero, List.push_toArray, List.append_toArray, List.nil_append, List.cons_append]
  gi_wp2_with (fail)
  refine (callsIn_wide.2 HS.out).mono ?_
  rintro e w1 ⟨r, rfl, hsees, hrow, hb⟩
  have hJ1 : J [] w1 := hJ [] W w1 none h0 (grown_none hb) (fun r e => by cases e)
  rw [← HN.out] at hsees
  obtain ⟨A, cap, rfl⟩ := hsees.form
  have HSees := Lib.hid hsees
  have HRow := Lib.hid hrow
  have HJ := Lib.hid hJ
  have hbz := hb.size
  clear hsees hrow hJ h0 c0 c1
  gi_wp2_with (fail)
  gi_loopw [8] (fun i wr => ∃ k : Nat, k ≤ N ∧ i = .int .i64 k ∧ J (L.take k) wr ∧ KeepP w1 wr) (fun i _ => N - (intOf i).toNat)
  case atStart => exact ⟨0, Nat.zero_le _, rfl, hJ1, KeepP.refl _⟩
  case round =>
    obtain ⟨k, hk, rfl, hJs, hkeep⟩ := hrel
    by_cases hlt : k < N
    · have hkl : k < L.length := by have := HN.out; omega
      have hse := HSees.out
      rw [HN.out] at hse
      obtain ⟨b, off, cap', hv, hbl, hc1, hc2⟩ := hse.pair k hkl
      injection hv with hA hLn hC
      subst hA
      subst hC
      clear hLn hse
      obtain ⟨cs, hcs⟩ := HRow.out b off _ cap rfl (by omega)
      have hblk := hkeep b cs hcs
      have hc1' := (cell_of_block hblk).trans hc1
      have hc2' := (cell_of_block hblk).trans hc2
      have htk : L.take (k + 1) = L.take k ++ [L[k]] := List.take_succ_eq_append_getElem hkl
      have hmem : L[k] ∈ L := List.getElem_mem hkl
      obtain ⟨q, hq⟩ : ∃ q, q = L[k] := ⟨_, rfl⟩
      rw [← hq] at hc1' hc2' htk hmem
      obtain ⟨x, y⟩ := q
      have HTK := Lib.hid htk
      have hJa : J (L.take k) (wr.alloc (.cells #[.int .i64 x, .int .i64 y] 50)) := HJ.out _ wr _ none hJs (World.grownBy_alloc wr _ none) (fun r e => by cases e)
      have hKa : KeepP wr (wr.alloc (.cells #[.int .i64 x, .int .i64 y] 50)) := KeepP.below ((Below.refl _ wr).alloc (Nat.le_refl _) _) (Nat.le_refl _)
      have HJa := Lib.hid hJa
      have HKa := Lib.hid (hkeep.trans hKa)
      obtain ⟨fn, tmps, assign, body, hy, hR⟩ := hY _ (x, y) _ hmem hJa (by rw [List.length_take]; omega)
      unfold encP2 at hy
      dsimp only at hy
      have HRR := Lib.hid hR
      clear hc1 hc2 hcs hblk htk hq hJa hKa hR hJs hkeep
      gi_wp2_with (fail)
      refine HRR.out.mono ?_
      rintro e W3 (⟨rfl, hJ3, hk3⟩ | ⟨rfl, hJx3⟩)
      · have HJ3 := Lib.hid hJ3
        have HK3 := Lib.hid (HKa.out.trans hk3)
        clear hJ3 hk3 hc1' hc2'
        gi_wp2
        go_roundw
        case rel => exact ⟨k + 1, by omega, by go_num, by rw [HTK.out]; exact HJ3.out, HK3.out⟩
        case measure => simp [intOf]; omega
      · have HJ3 := Lib.hid hJx3
        clear hJx3 hc1' hc2'
        gi_wp2
        refine bodyPost_ret (results_none rfl _ _ _) rfl ?_
        exact ⟨⟨_, rfl⟩, .inr ⟨L.take k ++ [(x, y)], ⟨k + 1, by omega, HTK.out.symm⟩, HJ3.out⟩⟩
    · obtain rfl : k = N := by omega
      have hfin : Hid (L.take k = L) := by show _ = _; rw [List.take_of_length_le (by have := HN.out; omega)]
      gi_wp2
      go_end0
      exact ⟨⟨_, rfl⟩, .inl ⟨L, rfl, by rw [hfin.out] at hJs; exact hJs⟩⟩
/-- a pair with a number for its key -/
abbrev KP := { x : Int × Int // I64 x.1 }
def vals (l : List KP) : List (Int × Int) := l.map Subtype.val
theorem vals_snoc (l : List KP) (x : KP) : vals (l ++ [x]) = vals l ++ [x.1] := by unfold vals; rw [List.map_append]; rfl
theorem vals_length (l : List KP) : (vals l).length = l.length := by unfold vals; rw [List.length_map]
theorem all_stops_kp (n bm : Nat) (hn : 1 ≤ n) (t : Tr) (p : Option Addr) (L : List (Int × Int)) (w : World) (hp : ptr t = .pointer p) (hm : MapOf t L) (hk : ∀ x ∈ L, I64 x.1) (hl : L.length ≤ 1048576) (hbm : bm < w.heap.size)
    (c0 : w.cell? ⟨bm, 0, none⟩ = some (.pointer p)) (c1 : w.cell? ⟨bm, 1, none⟩ = some (.int .i64 L.length)) (hL : Lies w.heap.size w t) :
    SeqStopsK Fence.wide n Tryd.prog 43 #[.pointer (some ⟨bm, 0, none⟩)] (fun x : KP => #[Value.int .i64 x.1.1, Value.int .i64 x.1.2]) KeepP (fun xs => vals xs = L) (fun pre => ∃ k, k ≤ L.length ∧ vals pre = L.take k) L.length w := fun l J Jx W hW hJ hJx hY h0 => by
  refine (all1_mem n l bm L.length hn t p L rfl hp hm hl (fun pre W' => ∃ pre', vals pre' = pre ∧ J pre' W') (fun pre W' => ∃ pre', vals pre' = pre ∧ Jx pre' W') W ?_ ?_ ((hW.cell (p := ⟨bm, 0, none⟩) hbm).trans c0) ((hW.cell (p := ⟨bm, 1, none⟩) hbm).trans c1) ((hL.below hW).more hW.size) ⟨[], rfl, h0⟩).mono ?_
  · rintro s A B row ⟨pre', h1, h2⟩ hg hr
    exact ⟨pre', h1, hJ pre' A B row h2 hg hr⟩
  · rintro pre x W1 hx ⟨pre', h1, h2⟩ hlt
    have hlt' : pre'.length < L.length := by rw [← vals_length, h1]; exact hlt
    refine (hY pre' ⟨x, hk x hx⟩ W1 h2 hlt').mono ?_
    rintro e W' (⟨he, h3, h4⟩ | ⟨he, h3⟩)
    · exact .inl ⟨he, ⟨_, by rw [vals_snoc, h1], h3⟩, h4⟩
    · exact .inr ⟨he, _, by rw [vals_snoc, h1], h3⟩
  · rintro e W' ⟨hv, h⟩
    refine ⟨hv, ?_⟩
    rcases h with ⟨xs, hx, pre', h1, h2⟩ | ⟨pre, ⟨k, hk1, hk2⟩, pre', h1, h2⟩
    · exact .inl ⟨pre', h1.trans hx, h2⟩
    · exact .inr ⟨pre', ⟨k, hk1, h1.trans hk2⟩, h2⟩
end Go.Proofs.YtjlbchkdiaomjaaDoor.trie

/- A map's pairs handed out, one by one: the iterator, for every loop over it that leaves rows of pairs alone. -/
import Derived.RangeFuncNested
import Derived.RangeFuncBound
import Derived.RangeFuncCalls
import Derived.RangeFuncLeaves
import Derived.RangeFuncBox
import Derived.Shelf.Abstract
import Derived.Shelf.RegionOpen
import Derived.OwnWalkIn
import Derived.TacticsInMore
import Derived.LoopNIn
import Derived.LoopIn
import Derived.Maps.AppendAt
import Derived.Test.YtjlbchkdiaomjaaDoorTrieSorted
import Derived.Test.YtjlbchkdiaomjaaDoorTrieOf
namespace Go.Proofs.YtjlbchkdiaomjaaDoor.trie
open Go.RowKit Go.Shelf mem tri mix

attribute [local go_sem] Oper.semAt_some

/-- rows of pairs are kept -/
def KeepP (w w' : World) : Prop := ∀ (k : Nat) (cs : Array Value), w.heap[k]? = some (.cells cs 50 (0, 0)) → w'.heap[k]? = w.heap[k]?
theorem KeepP.refl (w : World) : KeepP w w := fun _ _ _ => rfl
theorem KeepP.trans {a b c : World} (h1 : KeepP a b) (h2 : KeepP b c) : KeepP a c := fun k cs h => by
  have e := h1 k cs h
  rw [← e] at h
  exact (h2 k cs h).trans e
theorem KeepP.put {w : World} (W : World) (l : Nat) (o o' : Obj) (_ : w.heap.size ≤ l) (h : W.heap[l]? = some o) (hc : o.isCells = false) (_ : o.isWalk = false) : KeepP W (W.putObj l o') := fun k cs hk => by
  refine World.putObj_heap_other ?_
  rintro rfl
  rw [h] at hk
  cases hk
  simp [Obj.isCells] at hc
theorem KeepP.below {B : Nat} {w w' : World} (h : Below B w w') (hB : w.heap.size ≤ B) : KeepP w w' := fun k _ hk =>
  h.block k (Nat.lt_of_lt_of_le (Array.getElem?_eq_some_iff.1 hk).1 hB)
theorem KeepP.set {w : World} {g : Nat} {cs : Array Value} {t : TypeId} (h : Box w g t cs) (h1 : t ≠ 50) (i : Nat) (v : Value) : KeepP w (w.setCell ⟨g, i, none⟩ v) := fun k c hk => by
  refine Below.heap_setCell w _ v k ?_
  rintro rfl
  unfold Box at h
  rw [h] at hk; injection hk with hk; injection hk with _ e; exact h1 e
theorem KeepP.grown_own {w w' : World} {base size n : Nat} {t : TypeId} {v : Value} {xs : List Value} (ho : w.ownsRow base t size v n xs) (hg : w.grownBy w' v.ownBlock) (h1 : t ≠ 50) : KeepP w w' := by
  intro k c hk
  have hlt : k < w.heap.size := (Array.getElem?_eq_some_iff.1 hk).1
  rcases ho.2 with ⟨rfl, _⟩ | ⟨g, c2, cur, rfl, _, hh, _⟩
  · exact hg.block k hlt (by simp [Value.ownBlock])
  · refine hg.block k hlt ?_
    intro e
    have : k = g := by simpa [Value.ownBlock] using e
    subst this
    rw [hh] at hk; injection hk with hk; injection hk with _ e; exact h1 e
theorem grown_none {w w' : World} (h : Below w.heap.size w w') : w.grownBy w' none := ⟨h.os, h.tape, h.output, h.size, fun k hk _ => h.block k hk⟩
def encP2 (x : Int × Int) : Array Value := #[.int .i64 x.1, .int .i64 x.2]
theorem mall_any (_t : Tr) (n : Nat) (w : World) (p : Option Addr) :
    Calls Tryd.prog 21 #[.agg #[.pointer p, .int .i64 n]] w fun e w' => e = .returned (.func (.func 43) #[] #[.pointer (some ⟨w.heap.size, 0, none⟩)]) ∧ w' = w.alloc (.cells #[.pointer p, .int .i64 n] 26) := by
  go_enter Tryd.func21, Tryd.ntmps21
  go_wp2
  go_ret
  exact ⟨rfl, rfl⟩
set_option maxRecDepth 100000 in
set_option maxHeartbeats 2000000 in
theorem all1_in (n l bm N : Nat) (hn : 1 ≤ n) (t : Tr) (p : Option Addr) (L : List (Int × Int)) (hN : N = L.length) (hp : ptr t = .pointer p) (hm : MapOf t L) (hl : L.length ≤ 1048576) (J Jx : List (Int × Int) → World → Prop) (W : World) (hJ : AbidesFrom W.heap.size J)
    (hY : ∀ pre x W1, J pre W1 → pre.length < N → YieldAt Fence.wide (n - 1) Tryd.prog l (encP2 x) W1 fun e W' =>
      (e = .returned (.bool true) ∧ J (pre ++ [x]) W' ∧ KeepP W1 W') ∨ (e = .returned (.bool false) ∧ Jx (pre ++ [x]) W'))
    (c0 : W.cell? ⟨bm, 0, none⟩ = some (.pointer p)) (c1 : W.cell? ⟨bm, 1, none⟩ = some (.int .i64 N)) (hL : Lies W.heap.size W t) (h0 : J [] W) :
    CallsIn Fence.wide n Tryd.prog 43 #[.func (.yield l) #[] #[], .pointer (some ⟨bm, 0, none⟩)] W fun e W' => (∃ v, e = .returned v) ∧ ((∃ xs, xs = L ∧ J xs W') ∨ (∃ pre, (∃ k, k ≤ N ∧ pre = L.take k) ∧ Jx pre W')) := by
  have hs := sorted_any t L W hm hL hl
  unfold mapV at hs
  rw [hp, ← hN] at hs
  have HS := Lib.hid hs
  have HN := Lib.hid hN
  clear hs hm hL hp hN
  have hf : Fence.wide.fn 43 := trivial
  have hf2 : Fence.wide.fn 44 := trivial
  refine callsIn_of_wp Tryd.func43 rfl hf ?_ rfl
  simp only [Tryd.ntmps43, List.size_toArray, List.length_cons, List.length_nil, Nat.reduceAdd, Nat.reduceSub, Array.replicate_succ, Array.replicate_zero, List.push_toArray, List.append_toArray, List.nil_append, List.cons_append]
  gi_wp2_with (fail)
  refine (callsIn_wide.2 HS.out).mono ?_
  rintro e w1 ⟨r, rfl, hsees, hrow, hb⟩
  have hJ1 : J [] w1 := hJ [] W w1 none h0 (grown_none hb) (fun r e => by cases e)
  rw [← HN.out] at hsees
  obtain ⟨A, cap, rfl⟩ := hsees.form
  have HSees := Lib.hid hsees
  have HRow := Lib.hid hrow
  have HJ := Lib.hid hJ
  have hbz := hb.size
  clear hsees hrow hJ h0 c0 c1
  gi_wp2_with (fail)
  gi_loopw [8] (fun i wr => ∃ k : Nat, k ≤ N ∧ i = .int .i64 k ∧ J (L.take k) wr ∧ KeepP w1 wr) (fun i _ => N - (intOf i).toNat)
  case atStart => exact ⟨0, Nat.zero_le _, rfl, hJ1, KeepP.refl _⟩
  case round =>
    obtain ⟨k, hk, rfl, hJs, hkeep⟩ := hrel
    by_cases hlt : k < N
    · have hkl : k < L.length := by have := HN.out; omega
      have hse := HSees.out
      rw [HN.out] at hse
      obtain ⟨b, off, cap', hv, hbl, hc1, hc2⟩ := hse.pair k hkl
      injection hv with hA hLn hC
      subst hA
      subst hC
      clear hLn hse
      obtain ⟨cs, hcs⟩ := HRow.out b off _ cap rfl (by omega)
      have hblk := hkeep b cs hcs
      have hc1' := (cell_of_block hblk).trans hc1
      have hc2' := (cell_of_block hblk).trans hc2
      have htk : L.take (k + 1) = L.take k ++ [L[k]] := List.take_succ_eq_append_getElem hkl
      obtain ⟨q, hq⟩ : ∃ q, q = L[k] := ⟨_, rfl⟩
      rw [← hq] at hc1' hc2' htk
      obtain ⟨x, y⟩ := q
      have HTK := Lib.hid htk
      have hJa : J (L.take k) (wr.alloc (.cells #[.int .i64 x, .int .i64 y] 50)) := HJ.out _ wr _ none hJs (World.grownBy_alloc wr _ none) (fun r e => by cases e)
      have hKa : KeepP wr (wr.alloc (.cells #[.int .i64 x, .int .i64 y] 50)) := KeepP.below ((Below.refl _ wr).alloc (Nat.le_refl _) _) (Nat.le_refl _)
      have HJa := Lib.hid hJa
      have HKa := Lib.hid (hkeep.trans hKa)
      obtain ⟨fn, tmps, assign, body, hy, hR⟩ := hY _ (x, y) _ hJa (by rw [List.length_take]; omega)
      unfold encP2 at hy
      dsimp only at hy
      have HRR := Lib.hid hR
      clear hc1 hc2 hcs hblk htk hq hJa hKa hR hJs hkeep
      gi_wp2_with (fail)
      refine HRR.out.mono ?_
      rintro e W3 (⟨rfl, hJ3, hk3⟩ | ⟨rfl, hJx3⟩)
      · have HJ3 := Lib.hid hJ3
        have HK3 := Lib.hid (HKa.out.trans hk3)
        clear hJ3 hk3 hc1' hc2'
        gi_wp2
        go_roundw
        case rel => exact ⟨k + 1, by omega, by go_num, by rw [HTK.out]; exact HJ3.out, HK3.out⟩
        case measure => simp [intOf]; omega
      · have HJ3 := Lib.hid hJx3
        clear hJx3 hc1' hc2'
        gi_wp2
        refine bodyPost_ret (results_none rfl _ _ _) rfl ?_
        exact ⟨⟨_, rfl⟩, .inr ⟨L.take k ++ [(x, y)], ⟨k + 1, by omega, HTK.out.symm⟩, HJ3.out⟩⟩
    · obtain rfl : k = N := by omega
      have hfin : Hid (L.take k = L) := by show _ = _; rw [List.take_of_length_le (by have := HN.out; omega)]
      gi_wp2
      go_end0
      exact ⟨⟨_, rfl⟩, .inl ⟨L, rfl, by rw [hfin.out] at hJs; exact hJs⟩⟩
/-- what is handed out: these pairs in their order, or the first ones of them -/
theorem all_stops (n bm : Nat) (hn : 1 ≤ n) (t : Tr) (p : Option Addr) (L : List (Int × Int)) (w : World) (hp : ptr t = .pointer p) (hm : MapOf t L) (hl : L.length ≤ 1048576) (hbm : bm < w.heap.size)
    (c0 : w.cell? ⟨bm, 0, none⟩ = some (.pointer p)) (c1 : w.cell? ⟨bm, 1, none⟩ = some (.int .i64 L.length)) (hL : Lies w.heap.size w t) :
    SeqStopsK Fence.wide n Tryd.prog 43 #[.pointer (some ⟨bm, 0, none⟩)] (fun x : Int × Int => #[Value.int .i64 x.1, Value.int .i64 x.2]) KeepP (fun xs => xs = L) (fun pre => ∃ k, k ≤ L.length ∧ pre = L.take k) L.length w := fun l J Jx W hW hJ _ hY h0 =>
  all1_in n l bm L.length hn t p L rfl hp hm hl J Jx W hJ hY ((hW.cell (p := ⟨bm, 0, none⟩) hbm).trans c0) ((hW.cell (p := ⟨bm, 1, none⟩) hbm).trans c1) ((hL.below hW).more hW.size) h0
end Go.Proofs.YtjlbchkdiaomjaaDoor.trie

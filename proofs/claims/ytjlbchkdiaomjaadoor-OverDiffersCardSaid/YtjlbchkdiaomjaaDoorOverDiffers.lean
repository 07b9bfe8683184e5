/- The keys that at least one of two maps has, rising. Are two maps alike at a key? As the law's two functions tell it. The keys at which two maps are unlike, as the law's first function tells it: it counts how often it is asked. -/
import Derived.Test.YtjlbchkdiaomjaaDoorOverMerge
import Derived.Test.YtjlbchkdiaomjaaDoorOverShelf
import Derived.Test.YtjlbchkdiaomjaaDoorTrieStay
import Derived.Deep.RegionHeld3
import Derived.Sort.OwnSortedInts
import Derived.Deep.QuietTactic
import Derived.BigQuiet
import Derived.Defers
import Derived.Recover
namespace Go.Proofs.YtjlbchkdiaomjaaDoor.trie
open Go.RowKit Go.Shelf mem tri mix
open Go.Sort hiding Below

/-- a slice whose row lies at or beyond a block -/
def RowFrom (B : Nat) (v : Value) : Prop := ∀ b off n c, v = .slice (some ⟨b, off, none⟩) n c → 0 < n → B ≤ b
theorem sees_front {B : Nat} {w : World} {A : Option Addr} {n cap : Nat} {c z : List Int} (h : Sees B 1 w (.slice A n cap) n (intV (c ++ z))) : Sees B 1 w (.slice A c.length cap) c.length (intV c) := by
  obtain ⟨h1, A', cap', hv, hc⟩ := h
  injection hv with e1 _ e3
  subst e1
  subst e3
  have hl : (intV (c ++ z)).length = c.length + z.length := by unfold intV; simp
  refine ⟨by unfold intV; simp, A, cap, rfl, fun hn => ?_⟩
  obtain ⟨b, off, hA, hb, hcc⟩ := hc (by omega)
  refine ⟨b, off, hA, hb, fun j u hu => hcc j u ?_⟩
  have e : intV (c ++ z) = intV c ++ intV z := by unfold intV; rw [List.map_append]
  rw [e, List.getElem?_append_left (List.getElem?_eq_some_iff.1 hu).1]
  exact hu
def EitherPost (X Y : List (Int × Int)) (w : World) (e : Ending) (w' : World) : Prop := ∃ r, e = .returned r ∧ Sees w'.heap.size 1 w' r (keysS (overS X Y)).length (intV (keysS (overS X Y))) ∧ RowFrom w.heap.size r ∧ Below w.heap.size w w'
/-- a row of numbers sorted, and cut to each number once -/
def SortedPost5 (g cap : Nat) (K : List Int) (w : World) (e : Ending) (w' : World) : Prop := e = .returned (.tuple #[]) ∧ w'.ownsRow g 3 1 (.slice (some ⟨g, 0, none⟩) K.length cap) K.length (intV (K.mergeSort fun x y => decide (x ≤ y))) ∧ w.grownBy w' (some g)
theorem sort_own (base g cap : Nat) (K : List Int) (w : World) (hl : K.length ≤ 1000000) (ho : w.ownsRow base 3 1 (.slice (some ⟨g, 0, none⟩) K.length cap) K.length (intV K)) :
    Calls Tryd.prog 63 #[.slice (some ⟨g, 0, none⟩) K.length cap] w (SortedPost5 g cap K w) := by
  rcases ho.2 with ⟨h, _⟩ | ⟨g', cap', cur, hv, hb, hh, hnc, hcm, hcs, ht⟩
  · cases h
  · injection hv with e1 _ e3
    injection e1 with e1
    injection e1 with e1 _
    subst e1
    subst e3
    rw [Nat.mul_one] at ht hcs
    refine (Tryd.slices_Sort_int g 0 cap K w (holds_of_blockI hh ht) (Array.getElem?_eq_some_iff.1 hh).1 (by omega)).mono ?_
    rintro e w' ⟨rfl, n, os, rfl⟩
    have hlen : (K.mergeSort fun x y => decide (x ≤ y)).length = K.length := List.length_mergeSort _
    exact ⟨rfl, ownsRow_sortedI hlen (Nat.le_refl g) hh hnc hcm (by rw [Nat.mul_one]; exact hcs), grownBy_sortedI _⟩
def CompactPost (g cap : Nat) (S : List Int) (w : World) (e : Ending) (w' : World) : Prop := e = .returned (.slice (some ⟨g, 0, none⟩) (Lib.compact S).length cap) ∧ Sees w'.heap.size 1 w' (.slice (some ⟨g, 0, none⟩) (Lib.compact S).length cap) (Lib.compact S).length (intV (Lib.compact S)) ∧ w.grownBy w' (some g)
theorem compact_own (base g cap n : Nat) (S : List Int) (w : World) (hl : S.length ≤ 1000000) (hn : n = S.length) (ho : w.ownsRow base 3 1 (.slice (some ⟨g, 0, none⟩) n cap) n (intV S)) :
    Calls Tryd.prog 64 #[.slice (some ⟨g, 0, none⟩) n cap] w (CompactPost g cap S w) := by
  subst hn
  rcases ho.2 with ⟨h, _⟩ | ⟨g', cap', cur, hv, hb, hh, hnc, hcm, hcs, ht⟩
  · cases h
  · injection hv with e1 _ e3
    injection e1 with e1
    injection e1 with e1 _
    subst e1
    subst e3
    rw [Nat.mul_one] at ht hcs
    refine (Tryd.slices_Compact_int g 0 cap S w (holds_of_blockI hh ht) (by omega) hnc).mono ?_
    rintro e w' ⟨rfl, q, rfl⟩
    have hle : (Lib.compact S).length ≤ S.length := by unfold Lib.compact Lib.compactUpTo; rw [List.length_map]; exact Nat.le_trans (List.length_filter_le _ _) (by simp)
    have hlen : (Lib.compact S ++ List.replicate (S.length - (Lib.compact S).length) 0).length = S.length := by simp; omega
    have h1 := ownsRow_sortedI (n := q) (os := #[]) hlen (Nat.le_refl g) hh hnc hcm (by rw [Nat.mul_one]; exact hcs)
    have h2 := grownBy_sortedI (w := w) (g := g) (n := q) (os := #[]) (Lib.compact S ++ List.replicate (S.length - (Lib.compact S).length) 0).toArray
    rw [grow_empty] at h1 h2
    exact ⟨rfl, sees_front (Sees.of_own h1), h2⟩
theorem keys_int (X : List (Int × Int)) : keyV X = intV (keysS X) := keyV_keys X
theorem cat_two (N M : Nat) (X Y : List (Int × Int)) (hl : N + M ≤ 2048) (r1 r2 : Value) (w' : World) (h1 : Sees w'.heap.size 1 w' r1 N (keyV X)) (h2 : Sees w'.heap.size 1 w' r2 M (keyV Y)) :
    Calls Tryd.prog 62 #[.slice (some ⟨w'.heap.size, 0, none⟩) 2 2] (w'.alloc (.cells #[r1, r2] 42)) fun e w'' => ∃ r, e = .returned r ∧ Hid (w''.ownsRow (w'.heap.size + 1) 3 1 r (N + M) (intV (keysS X ++ keysS Y))) ∧ Below w'.heap.size w' w'' := by
  have hb : Below w'.heap.size w' (w'.alloc (.cells #[r1, r2] 42)) := (Below.refl _ w').alloc (Nat.le_refl _) _
  have e1 : partsN [(r1, N, keyV X), (r2, M, keyV Y)] = N + M := by show N + (M + 0) = N + M; omega
  have e2 : partsV [(r1, N, keyV X), (r2, M, keyV Y)] = intV (keysS X ++ keysS Y) := by
    show keyV X ++ (keyV Y ++ []) = _
    rw [List.append_nil, keys_int, keys_int]; unfold intV; rw [List.map_append]
  have hone : ∀ Z : List (Int × Int), ∀ u ∈ keyV Z, u.oneCell' = true := by
    intro Z u hu; unfold keyV at hu; obtain ⟨x, _, rfl⟩ := List.mem_map.1 hu; rfl
  have h := concat_anyI w'.heap.size 2 [(r1, N, keyV X), (r2, M, keyV Y)] (w'.alloc (.cells #[r1, r2] 42)) (by simp) (by simp) (by rw [e1]; exact hl) (fun k hk => by
    match k, hk with
    | 0, _ => exact ⟨by rw [cell_new w' _ rfl]; rfl, (h1.below hb).more (by simp), hone X⟩
    | 1, _ => exact ⟨by rw [cell_new w' _ rfl]; rfl, (h2.below hb).more (by simp), hone Y⟩
    | k + 2, hk => exact absurd hk (by simp))
  rw [e1, e2, World.size_alloc] at h
  refine h.mono ?_
  rintro e w'' ⟨r, rfl, hg⟩
  exact ⟨r, rfl, hg.1, hb.trans (hg.2.mono (Nat.le_succ _))⟩
set_option maxHeartbeats 2000000 in
set_option maxRecDepth 100000 in
theorem either_any (N M : Nat) (t t2 : Tr) (p q : Option Addr) (hp : ptr t = .pointer p) (hq : ptr t2 = .pointer q) (X Y : List (Int × Int)) (hN : N = X.length) (hM : M = Y.length) (w : World) (hX : MapOf t X) (hLX : Lies w.heap.size w t) (hY : MapOf t2 Y) (hLY : Lies w.heap.size w t2) (hl : N + M ≤ 2048) :
    Calls Tryd.prog 47 #[.agg #[.pointer p, .int .i64 N], .agg #[.pointer q, .int .i64 M]] w (EitherPost X Y w) := by
  obtain ⟨H, hH⟩ : ∃ H, H = w.heap.size := ⟨_, rfl⟩
  have HH := Lib.hid hH
  have HKX := Lib.hid (fun W h => keys_at N t p hp X hN W hX h (by omega))
  have HKY := Lib.hid (fun W h => keys_at M t2 q hq Y hM W hY h (by omega))
  have HMK := Lib.hid (merge_keys X Y hX.2.2.1 hY.2.2.1)
  have HNM := Lib.hid (And.intro hN hM)
  have HLX := Lib.hid hLX
  have HLY := Lib.hid hLY
  clear hN hM hX hY hLX hLY hp hq
  go_enter Tryd.func47, Tryd.ntmps47
  go_wp2_with (fail)
  obtain ⟨W, hW⟩ : ∃ W, W = ((w.alloc (.cells #[.pointer p, .int .i64 N] 26)).alloc (.cells #[.pointer q, .int .i64 M] 26)) := ⟨_, rfl⟩
  rw [← hW, ← hH]
  have b0 : Box W H 26 #[.pointer p, .int .i64 N] := by rw [hW]; exact (Box.new _ _ _ H hH).alloc _
  have b1 : Box W (H + 1) 26 #[.pointer q, .int .i64 M] := by rw [hW]; exact Box.new _ _ _ (H + 1) (by rw [hH]; simp)
  have hbw : Below w.heap.size w W := by rw [hW]; exact ((Below.refl _ w).alloc (Nat.le_refl _) _).alloc (by simp) _
  have hWz : W.heap.size = H + 2 := by rw [hW, hH]; simp
  have HBW := Lib.hid hbw
  have hzW : w.heap.size ≤ W.heap.size := hbw.size
  have HLXW := Lib.hid ((HLX.out.below hbw).more hbw.size)
  have HLYW := Lib.hid ((HLY.out.below hbw).more hbw.size)
  have c0 : W.cell? ⟨H, 0, none⟩ = some (.pointer p) := b0.cell 0
  have c1 : W.cell? ⟨H, 1, none⟩ = some (.int .i64 N) := b0.cell 1
  have c2 : W.cell? ⟨H + 1, 0, none⟩ = some (.pointer q) := b1.cell 0
  have c3 : W.cell? ⟨H + 1, 1, none⟩ = some (.int .i64 M) := b1.cell 1
  have hHW : H + 1 < W.heap.size := by omega
  have hHW0 : H < W.heap.size := by omega
  clear hW hH hbw b0 b1 HLX HLY
  have HCat := Lib.hid (cat_two N M X Y hl)
  go_region_held3 (fun w' => w'.cell? ⟨H, 0, none⟩ = some (.pointer p) ∧ w'.cell? ⟨H, 1, none⟩ = some (.int .i64 N) ∧ w'.cell? ⟨H + 1, 0, none⟩ = some (.pointer q) ∧ w'.cell? ⟨H + 1, 1, none⟩ = some (.int .i64 M)) (first | go_keep)
    (first
      | (go_at_call 18; (with_reducible refine (HKX.out W.drew ((HLXW.out.below (Below.refl _ W).drew).more (by simp))).mono ?_); rintro e w1 ⟨r1, rfl, hg1⟩; have hs1 := Sees.of_own hg1.1; have hW1 : Below W.heap.size W w1 := (Below.refl _ W).drew.trans (hg1.2.mono (by simp)); have q10 := (hW1.cell (p := ⟨H, 0, none⟩) hHW0).trans c0; have q11 := (hW1.cell (p := ⟨H, 1, none⟩) hHW0).trans c1; have q12 := (hW1.cell (p := ⟨H + 1, 0, none⟩) hHW).trans c2; have q13 := (hW1.cell (p := ⟨H + 1, 1, none⟩) hHW).trans c3; have z1 := hW1.size)
      | (go_at_call 18; (with_reducible refine (HKY.out w1 ((HLYW.out.below hW1).more hW1.size)).mono ?_); rintro e w2 ⟨r2, rfl, hg2⟩; have hs2 := Sees.of_own hg2.1; have hs12 := (hs1.below hg2.2).more hg2.2.size; have hW2 : Below W.heap.size W w2 := hW1.trans (hg2.2.mono z1); have q20 := (hW2.cell (p := ⟨H, 0, none⟩) hHW0).trans c0; have q21 := (hW2.cell (p := ⟨H, 1, none⟩) hHW0).trans c1; have q22 := (hW2.cell (p := ⟨H + 1, 0, none⟩) hHW).trans c2; have q23 := (hW2.cell (p := ⟨H + 1, 1, none⟩) hHW).trans c3; have z2 := hW2.size; have zH0 : H < w2.heap.size := Nat.lt_of_lt_of_le hHW0 z2; have zH1 : H + 1 < w2.heap.size := Nat.lt_of_lt_of_le hHW z2; obtain ⟨Aa, ca, hra⟩ := hs12.form; subst hra; obtain ⟨Ab, cb, hrb⟩ := hs2.form; subst hrb)
      | (go_at_call 62; (with_reducible refine (HCat.out _ _ w2 hs12 hs2).mono ?_); rintro e w3 ⟨r3, rfl, hg3, hb3⟩; have hW3 : Below W.heap.size W w3 := hW2.trans (hb3.mono z2); have q30 := (hW3.cell (p := ⟨H, 0, none⟩) hHW0).trans c0; have q31 := (hW3.cell (p := ⟨H, 1, none⟩) hHW0).trans c1; have q32 := (hW3.cell (p := ⟨H + 1, 0, none⟩) hHW).trans c2; have q33 := (hW3.cell (p := ⟨H + 1, 1, none⟩) hHW).trans c3))
  have HB3 := Lib.hid (HBW.out.trans (hW3.mono hzW))
  have hz3 := hW3.size
  obtain ⟨K, hK⟩ : ∃ K, K = keysS X ++ keysS Y := ⟨_, rfl⟩
  have hKl : N + M = K.length := by rw [hK, List.length_append, HNM.out.1, HNM.out.2]; unfold keysS; rw [List.length_map, List.length_map]
  rw [← hK, hKl] at hg3
  rw [← hK] at HMK
  have hKL : K.length ≤ 2048 := by omega
  clear q10 q11 q12 q13 q20 q21 q22 q23 q30 q31 q32 q33 c0 c1 c2 c3 hg1 hg2 hs1 hs2 hs12 hW1 hW2 hW3 hb3 hK hKl HCat HKX HKY
  obtain ⟨A3, c3, hr3⟩ := (Sees.of_own hg3.out).form
  subst hr3
  by_cases hK0 : K.length = 0
  · have hnil : K = [] := List.length_eq_zero_iff.1 hK0
    subst hnil
    have hov : Hid (keysS (overS X Y) = []) := by show _ = _; rw [← HMK.out]; simp [Lib.compact, Lib.compactUpTo]
    clear hK0
    go_wp2_with (fail)
    refine (Tryd.slices_Sort_int_none A3 c3 w3).mono ?_
    rintro e w4 ⟨rfl, rfl⟩
    go_wp2_with (fail)
    refine (Tryd.slices_Compact_int_empty A3 c3 w4).mono ?_
    rintro e w5 ⟨rfl, rfl⟩
    go_wp2_with (fail)
    go_ret
    refine ⟨_, rfl, ?_, (fun b off n c h hn => by injection h with _ h2 _; omega), HB3.out⟩
    rw [hov.out]
    exact ⟨rfl, A3, c3, rfl, fun h => by simp at h⟩
  · rcases hg3.out.2 with ⟨h, h0⟩ | ⟨g, cap, cur, hv, hbg, _⟩
    · exact absurd h0 hK0
    · injection hv with e1 _ e3
      subst e1
      subst e3
      have hgl : W.heap.size ≤ g := by omega
      have hgz : g < w3.heap.size := (hg3.out.lt g rfl).2
      have HSo := Lib.hid (sort_own _ g c3 K w3 (by omega) hg3.out)
      have hSl : (K.mergeSort fun x y => decide (x ≤ y)).length = K.length := List.length_mergeSort _
      obtain ⟨S, hS⟩ : ∃ S, S = K.mergeSort fun x y => decide (x ≤ y) := ⟨_, rfl⟩
      unfold SortedPost5 at HSo
      rw [← hS] at hSl HMK HSo
      clear hS
      go_wp2_with (fail)
      refine HSo.out.mono ?_
      rintro e w4 ⟨rfl, ho4, hg4⟩
      have HCo := Lib.hid (compact_own _ g c3 K.length S w4 (by omega) hSl.symm ho4)
      unfold CompactPost at HCo
      have hz4 := hg4.size
      have HG4 := Lib.hid hg4
      clear ho4 hg4 hSl
      go_wp2_with (fail)
      refine HCo.out.mono ?_
      rintro e w5 ⟨rfl, hs5, hg5⟩
      rw [HMK.out] at hs5 ⊢
      have hb5 : Below w.heap.size w w5 := HB3.out.trans ((((Below.refl W.heap.size w3).grown HG4.out hz3 (fun k e => by cases e; exact hgl)).grown hg5 (by omega) (fun k e => by cases e; exact hgl)).mono hzW)
      have HF := Lib.hid (And.intro hs5 hb5)
      clear hs5 hg5 hb5
      go_wp2_with (fail)
      go_ret
      exact ⟨_, rfl, HF.out.1, (fun b off n c h _ => by injection h with h1 _ _; injection h1 with h1; injection h1 with h1 _; subst h1; omega), HF.out.2⟩
end Go.Proofs.YtjlbchkdiaomjaaDoor.trie

namespace Go.Proofs.YtjlbchkdiaomjaaDoor.trie
open Go.RowKit Go.Shelf mem tri mix

/-- all but one block is as it was -/
theorem grown_trans {a b c : World} {row : Option Nat} (h1 : a.grownBy b row) (h2 : b.grownBy c row) : a.grownBy c row := ⟨h2.os.trans h1.os, h2.tape.trans h1.tape, h2.output.trans h1.output, Nat.le_trans h1.size h2.size, fun k hk hne => (h2.block k (Nat.lt_of_lt_of_le hk h1.size) hne).trans (h1.block k hk hne)⟩
theorem grown_weak {a b : World} (row : Option Nat) (h : Below a.heap.size a b) : a.grownBy b row := ⟨h.os, h.tape, h.output, h.size, fun k hk _ => h.block k hk⟩
theorem grown_drewN (a : World) (row : Option Nat) (n : Nat) : a.grownBy (a.drewN n) row := grown_weak row (below_drewN (Below.refl _ _) n)
def SamePost (r : Bool) (ba k : Nat) (w : World) (e : Ending) (w' : World) : Prop := e = .returned (.bool r) ∧ w.grownBy w' (some ba) ∧ Box w' ba 3 #[.int .i64 (k : Nat)]
set_option maxHeartbeats 1000000 in
set_option maxRecDepth 100000 in
theorem same1_any (x y n : Int) (k ba bn : Nat) (w : World) (hn : 1 ≤ n ∧ n ≤ 1000) (hk : k ≤ 100000) (ha : Box w ba 3 #[.int .i64 (k : Nat)]) (hb : Box w bn 3 #[.int .i64 n]) (hne : ba ≠ bn) :
    Calls Tryd.prog 29 #[.int .i64 x, .int .i64 y, .pointer (some ⟨ba, 0, none⟩), .pointer (some ⟨bn, 0, none⟩)] w (SamePost (x.tmod n == y.tmod n) ba (k + 1) w) := by
  have a0 : w.cell? ⟨ba, 0, none⟩ = some (.int .i64 (k : Nat)) := ha.cell 0
  have af := ha.frozen 0
  have b0 : (w.setCell ⟨ba, 0, none⟩ (.int .i64 ((k : Int) + 1))).cell? ⟨bn, 0, none⟩ = some (.int .i64 n) := (hb.far (by dsimp only; omega) _).cell 0
  have ta := tmod_small x n hn
  have tb := tmod_small y n hn
  have n0 : (n == 0) = false := by rw [beq_eq_false_iff_ne]; omega
  have wa := IntWalk.i64_in (x.tmod n) (by omega)
  have wb := IntWalk.i64_in (y.tmod n) (by omega)
  have HA := Lib.hid ha
  have hne' : ¬ ba = bn := hne
  have hne2 : ¬ bn = ba := fun e => hne e.symm
  clear ha hb hne
  go_enter Tryd.func29, Tryd.ntmps29
  go_wp2_with (fail)
  go_quiet (fail)
  go_wp2_with (fail)
  go_ret
  refine ⟨rfl, ?_, ?_⟩
  · exact grown_trans (grown_at w ba 0 _) (grown_drewN _ _ _)
  · have := HA.out.set 0 (.int .i64 ((k : Int) + 1))
    exact this
theorem same2_any (x y : Int) (w : World) :
    Calls Tryd.prog 31 #[.int .i64 x, .int .i64 y] w fun e w' => e = .returned (.bool (x == y)) ∧ w = w' := by
  go_enter Tryd.func31, Tryd.ntmps31
  go_wp2
  go_ret
  exact ⟨rfl, rfl⟩
def alikeS (n : Int) (X Y : List (Int × Int)) (key : Int) : Bool := (getS X key).2 && ((getS Y key).2 && ((getS X key).1.tmod n == (getS Y key).1.tmod n))
def hitS (X Y : List (Int × Int)) (key : Int) : Nat := if (getS X key).2 && (getS Y key).2 then 1 else 0
set_option maxHeartbeats 2000000 in
set_option maxRecDepth 100000 in
theorem alike1_any (B N M : Nat) (t t2 : Tr) (p q : Option Addr) (hp : ptr t = .pointer p) (hq : ptr t2 = .pointer q) (X Y : List (Int × Int)) (key n : Int) (k ba bn : Nat) (w : World) (hB : B ≤ w.heap.size) (hT : Laid B w) (hX : MapOf t X) (hLX : Lies w.heap.size w t) (hY : MapOf t2 Y) (hLY : Lies w.heap.size w t2)
    (hn : 1 ≤ n ∧ n ≤ 1000) (hk : k ≤ 100000) (ha : Box w ba 3 #[.int .i64 (k : Nat)]) (hb : Box w bn 3 #[.int .i64 n]) (hne : ba ≠ bn) :
    Calls Tryd.prog 48 #[.agg #[.pointer p, .int .i64 N], .agg #[.pointer q, .int .i64 M], .int .i64 key, .func (.func 29) #[] #[.pointer (some ⟨ba, 0, none⟩), .pointer (some ⟨bn, 0, none⟩)]] w (SamePost (alikeS n X Y key) ba (k + hitS X Y key) w) := by
  obtain ⟨⟨x, bx⟩, hgx⟩ : ∃ r, r = getS X key := ⟨_, rfl⟩
  obtain ⟨⟨y, bY⟩, hgy⟩ : ∃ r, r = getS Y key := ⟨_, rfl⟩
  have hal : alikeS n X Y key = (bx && (bY && (x.tmod n == y.tmod n))) := by unfold alikeS; rw [← hgx, ← hgy]
  have hhit : hitS X Y key = if bx && bY then 1 else 0 := by unfold hitS; rw [← hgx, ← hgy]
  have HGX := Lib.hid (fun W h1 h2 h3 => mget_at B N t p hp X key W h1 h2 hX h3 x bx hgx.symm)
  have HGY := Lib.hid (fun W h1 h2 h3 => mget_at B M t2 q hq Y key W h1 h2 hY h3 y bY hgy.symm)
  have HAL := Lib.hid (And.intro hal hhit)
  have HT := Lib.hid hT
  have HLX := Lib.hid hLX
  have HLY := Lib.hid hLY
  have HA := Lib.hid ha
  have HB := Lib.hid hb
  have hlA := ha.lt
  have hlB := hb.lt
  obtain ⟨H, hH⟩ : ∃ H, H = w.heap.size := ⟨_, rfl⟩
  have HH := Lib.hid hH
  clear hgx hgy hal hhit hT hX hY hLX hLY hp hq ha hb
  go_enter Tryd.func48, Tryd.ntmps48
  go_wp2_with (fail)
  obtain ⟨W, hW⟩ : ∃ W, W = ((w.alloc (.cells #[.pointer p, .int .i64 N] 26)).alloc (.cells #[.pointer q, .int .i64 M] 26)) := ⟨_, rfl⟩
  rw [← hW, ← hH]
  have b1 : Box W (H + 1) 26 #[.pointer q, .int .i64 M] := by rw [hW]; exact Box.new _ _ _ (H + 1) (by rw [hH]; simp)
  have hBW : Below H w W := by rw [hW, hH]; exact ((Below.refl _ w).alloc (Nat.le_refl _) _).alloc (by simp) _
  have hWz : W.heap.size = H + 2 := by rw [hW, hH]; simp
  have hbw : Below w.heap.size w W := by rw [← hH]; exact hBW
  have HBW := Lib.hid hbw
  have hzW : w.heap.size ≤ W.heap.size := hbw.size
  clear hW hH hBW
  refine (HGX.out W (by omega) (HT.out.on (HBW.out.mono hB)) ((HLX.out.below HBW.out).more hzW)).mono ?_
  rintro e w1 ⟨rfl, hb1⟩
  have hz1 := hb1.size
  have b11 := b1.below hb1 (by omega)
  have c0 : w1.cell? ⟨H + 1, 0, none⟩ = some (.pointer q) := b11.cell 0
  have c1 : w1.cell? ⟨H + 1, 1, none⟩ = some (.int .i64 M) := b11.cell 1
  have HB1 := Lib.hid (HBW.out.trans (hb1.mono hzW))
  clear hb1 b1 b11
  cases bx with
  | false =>
    go_wp2_with (fail)
    go_ret
    rw [HAL.out.1, HAL.out.2]
    exact ⟨rfl, grown_weak _ HB1.out, HA.out.below HB1.out hlA⟩
  | true =>
    go_wp2_with (fail)
    refine (HGY.out w1 (by omega) (HT.out.on (HB1.out.mono hB)) ((HLY.out.below HB1.out).more HB1.out.size)).mono ?_
    rintro e w2 ⟨rfl, hb2⟩
    have HB2 := Lib.hid (HB1.out.trans (hb2.mono HB1.out.size))
    clear hb2 c0 c1
    cases bY with
    | false =>
      go_wp2_with (fail)
      go_ret
      rw [HAL.out.1, HAL.out.2]
      exact ⟨rfl, grown_weak _ HB2.out, HA.out.below HB2.out hlA⟩
    | true =>
      have HSame := Lib.hid (same1_any x y n k ba bn w2 hn hk (HA.out.below HB2.out hlA) (HB.out.below HB2.out hlB) hne)
      go_wp2_with (fail)
      refine HSame.out.mono ?_
      rintro e w3 ⟨rfl, hg3, hx3⟩
      have HG3 := Lib.hid (And.intro hg3 hx3)
      clear hg3 hx3
      go_wp2_with (fail)
      go_ret
      rw [HAL.out.1, HAL.out.2]
      exact ⟨rfl, grown_trans (grown_weak _ HB2.out) HG3.out.1, HG3.out.2⟩
def alike2S (X Y : List (Int × Int)) (key : Int) : Bool := (getS X key).2 && ((getS Y key).2 && ((getS X key).1 == (getS Y key).1))
def Alike2Post (X Y : List (Int × Int)) (key : Int) (w : World) (e : Ending) (w' : World) : Prop := e = .returned (.bool (alike2S X Y key)) ∧ Below w.heap.size w w'
set_option maxHeartbeats 2000000 in
set_option maxRecDepth 100000 in
theorem alike2_any (B N M : Nat) (t t2 : Tr) (p q : Option Addr) (hp : ptr t = .pointer p) (hq : ptr t2 = .pointer q) (X Y : List (Int × Int)) (key : Int) (w : World) (hB : B ≤ w.heap.size) (hT : Laid B w) (hX : MapOf t X) (hLX : Lies w.heap.size w t) (hY : MapOf t2 Y) (hLY : Lies w.heap.size w t2) :
    Calls Tryd.prog 48 #[.agg #[.pointer p, .int .i64 N], .agg #[.pointer q, .int .i64 M], .int .i64 key, .func (.func 31) #[] #[]] w (Alike2Post X Y key w) := by
  obtain ⟨⟨x, bx⟩, hgx⟩ : ∃ r, r = getS X key := ⟨_, rfl⟩
  obtain ⟨⟨y, bY⟩, hgy⟩ : ∃ r, r = getS Y key := ⟨_, rfl⟩
  have hal : alike2S X Y key = (bx && (bY && (x == y))) := by unfold alike2S; rw [← hgx, ← hgy]
  have HGX := Lib.hid (fun W h1 h2 h3 => mget_at B N t p hp X key W h1 h2 hX h3 x bx hgx.symm)
  have HGY := Lib.hid (fun W h1 h2 h3 => mget_at B M t2 q hq Y key W h1 h2 hY h3 y bY hgy.symm)
  have HAL := Lib.hid hal
  have HT := Lib.hid hT
  have HLX := Lib.hid hLX
  have HLY := Lib.hid hLY
  obtain ⟨H, hH⟩ : ∃ H, H = w.heap.size := ⟨_, rfl⟩
  have HH := Lib.hid hH
  clear hgx hgy hal hT hX hY hLX hLY hp hq
  go_enter Tryd.func48, Tryd.ntmps48
  go_wp2_with (fail)
  obtain ⟨W, hW⟩ : ∃ W, W = ((w.alloc (.cells #[.pointer p, .int .i64 N] 26)).alloc (.cells #[.pointer q, .int .i64 M] 26)) := ⟨_, rfl⟩
  rw [← hW, ← hH]
  have b1 : Box W (H + 1) 26 #[.pointer q, .int .i64 M] := by rw [hW]; exact Box.new _ _ _ (H + 1) (by rw [hH]; simp)
  have hBW : Below H w W := by rw [hW, hH]; exact ((Below.refl _ w).alloc (Nat.le_refl _) _).alloc (by simp) _
  have hWz : W.heap.size = H + 2 := by rw [hW, hH]; simp
  have hbw : Below w.heap.size w W := by rw [← hH]; exact hBW
  have HBW := Lib.hid hbw
  have hzW : w.heap.size ≤ W.heap.size := hbw.size
  clear hW hH hBW
  refine (HGX.out W (by omega) (HT.out.on (HBW.out.mono hB)) ((HLX.out.below HBW.out).more hzW)).mono ?_
  rintro e w1 ⟨rfl, hb1⟩
  have hz1 := hb1.size
  have b11 := b1.below hb1 (by omega)
  have c0 : w1.cell? ⟨H + 1, 0, none⟩ = some (.pointer q) := b11.cell 0
  have c1 : w1.cell? ⟨H + 1, 1, none⟩ = some (.int .i64 M) := b11.cell 1
  have HB1 := Lib.hid (HBW.out.trans (hb1.mono hzW))
  clear hb1 b1 b11
  cases bx with
  | false =>
    go_wp2_with (fail)
    go_ret
    exact ⟨by rw [HAL.out]; rfl, HB1.out⟩
  | true =>
    go_wp2_with (fail)
    refine (HGY.out w1 (by omega) (HT.out.on (HB1.out.mono hB)) ((HLY.out.below HB1.out).more HB1.out.size)).mono ?_
    rintro e w2 ⟨rfl, hb2⟩
    have HB2 := Lib.hid (HB1.out.trans (hb2.mono HB1.out.size))
    clear hb2 c0 c1
    cases bY with
    | false =>
      go_wp2_with (fail)
      go_ret
      exact ⟨by rw [HAL.out]; rfl, HB2.out⟩
    | true =>
      have HSame := Lib.hid (same2_any x y w2)
      go_wp2_with (fail)
      refine HSame.out.mono ?_
      rintro e w3 ⟨rfl, rfl⟩
      go_wp2_with (fail)
      go_ret
      exact ⟨by rw [HAL.out]; rfl, HB2.out⟩
end Go.Proofs.YtjlbchkdiaomjaaDoor.trie

namespace Go.Proofs.YtjlbchkdiaomjaaDoor.trie
open Go.RowKit Go.Shelf mem tri mix

theorem idleD_any (w : World) : CallsD Tryd.prog 46 #[] .returning w fun e u' w' => e = .returned (.tuple #[]) ∧ u' = .returning ∧ w' = w := by
  refine callsD_of_wpS Tryd.func46 rfl fun c₀ cs hu => ?_
  apply wpS_region
  simp [wpOpsS, go_sem, recoverD, hu, Tryd.ntmps46]
  cases c₀
  simp_all [bodyPostS, results, Tryd.results46]
/-- below a block that is at or before the one that turns -/
theorem below_of {w w' : World} {ba B : Nat} (h : w.grownBy w' (some ba)) (hB : B ≤ ba) (hz : B ≤ w.heap.size) : Below B w w' := (Below.refl B w).grown h hz (fun g e => by cases e; exact hB)
theorem grown_above {w1 w2 w3 : World} {row row2 : Option Nat} (h : w1.grownBy w2 row) (h2 : w2.grownBy w3 row2) (hr : ∀ g, row2 = some g → w1.heap.size ≤ g) : w1.grownBy w3 row :=
  ⟨h2.os.trans h.os, h2.tape.trans h.tape, h2.output.trans h.output, Nat.le_trans h.size h2.size, fun k hk hne => (h2.block k (Nat.lt_of_lt_of_le hk h.size) (fun e => by have := hr k e.symm; omega)).trans (h.block k hk hne)⟩
theorem cell_grown {w w' : World} {ba : Nat} (h : w.grownBy w' (some ba)) {p : Addr} (hp : p.block < w.heap.size) (hne : p.block ≠ ba) : w'.cell? p = w.cell? p := World.cell?_of_block (h.block p.block hp (fun e => hne (Option.some.inj e)))
theorem lies_grown {w w' : World} {ba : Nat} {cs : Array Value} {t : Tr} (h : w.grownBy w' (some ba)) (hb : Box w ba 3 cs) (hl : Lies w.heap.size w t) : Lies w'.heap.size w' t := (hl.keep (Keeps.grown h hb (by decide) (by decide))).more h.size
/-- how many keys both have -/
def hitsN (X Y : List (Int × Int)) (L : List Int) : Nat := (L.map (hitS X Y)).sum
theorem hitsN_take (X Y : List (Int × Int)) (L : List Int) (k : Nat) (h : k < L.length) : hitsN X Y (L.take (k + 1)) = hitsN X Y (L.take k) + hitS X Y L[k] := by
  unfold hitsN; rw [List.take_succ_eq_append_getElem h, List.map_append, List.sum_append]; simp
theorem hitS_le (X Y : List (Int × Int)) (k : Int) : hitS X Y k ≤ 1 := by unfold hitS; split <;> omega
theorem hitsN_le (X Y : List (Int × Int)) (L : List Int) : hitsN X Y L ≤ L.length := by
  unfold hitsN
  induction L with
  | nil => simp
  | cons x L ih => rw [List.map_cons, List.sum_cons, List.length_cons]; have := hitS_le X Y x; omega
def DiffersRel (B1 ba k0 N : Nat) (X Y : List (Int × Int)) (n : Int) (L : List Int) (W1 : World) (o i : Value) (wr : World) : Prop :=
  ∃ (j m : Nat), j ≤ N ∧ m ≤ j ∧ i = .int .i64 j ∧ Hid (m = ((L.take j).filter fun key => !alikeS n X Y key).length) ∧ wr.ownsRow B1 3 1 o m (intV ((L.take j).filter fun key => !alikeS n X Y key)) ∧ W1.grownBy wr (some ba) ∧ Box wr ba 3 #[.int .i64 ((k0 + hitsN X Y (L.take j) : Nat) : Int)]
def DiffersPost (ba k0 : Nat) (X Y : List (Int × Int)) (n : Int) (w : World) (e : Ending) (w' : World) : Prop :=
  ∃ r, e = .returned r ∧ w'.ownsRow w.heap.size 3 1 r ((keysS (overS X Y)).filter fun key => !alikeS n X Y key).length (intV ((keysS (overS X Y)).filter fun key => !alikeS n X Y key)) ∧ w.grownBy w' (some ba) ∧ Box w' ba 3 #[.int .i64 ((k0 + hitsN X Y (keysS (overS X Y)) : Nat) : Int)]
set_option maxHeartbeats 4000000 in
set_option maxRecDepth 100000 in
theorem differs1_any (B N M : Nat) (t t2 : Tr) (p q : Option Addr) (hp : ptr t = .pointer p) (hq : ptr t2 = .pointer q) (X Y : List (Int × Int)) (hN : N = X.length) (hM : M = Y.length) (n : Int) (k0 ba bn : Nat) (w : World) (hB : B ≤ w.heap.size) (hT : Laid B w) (hX : MapOf t X) (hLX : Lies w.heap.size w t) (hY : MapOf t2 Y) (hLY : Lies w.heap.size w t2) (hl : N + M ≤ 2048)
    (hn : 1 ≤ n ∧ n ≤ 1000) (hk : k0 ≤ 1000) (ha : Box w ba 3 #[.int .i64 (k0 : Nat)]) (hb : Box w bn 3 #[.int .i64 n]) (hne : ba ≠ bn) (hBa : B ≤ ba) :
    Calls Tryd.prog 30 #[.agg #[.pointer p, .int .i64 N], .agg #[.pointer q, .int .i64 M], .func (.func 29) #[] #[.pointer (some ⟨ba, 0, none⟩), .pointer (some ⟨bn, 0, none⟩)]] w (DiffersPost ba k0 X Y n w) := by
  obtain ⟨i0, hi0, hy0, hy1, hy2⟩ := info_parts infoInt
  have HEi := Lib.hid (fun W h1 h2 => either_any N M t t2 p q hp hq X Y hN hM W hX h1 hY h2 hl)
  have HAl := Lib.hid (fun (k : Nat) (key : Int) W h1 h2 h3 h4 h5 h6 h7 => alike1_any B N M t t2 p q hp hq X Y key n k ba bn W h1 h2 hX h3 hY h4 hn h5 h6 h7 hne)
  have HT := Lib.hid hT
  have HLX := Lib.hid hLX
  have HLY := Lib.hid hLY
  have HA := Lib.hid ha
  have HBn := Lib.hid hb
  have hlA := ha.lt
  have hlB := hb.lt
  obtain ⟨L, hL⟩ : ∃ L, L = keysS (overS X Y) := ⟨_, rfl⟩
  have hLl : L.length ≤ 2048 := by
    have := overS_len Y X
    rw [hL]; unfold keysS; rw [List.length_map]; omega
  unfold DiffersPost
  unfold EitherPost at HEi
  rw [← hL] at HEi ⊢
  obtain ⟨NL, hNL⟩ : ∃ NL, NL = L.length := ⟨_, rfl⟩
  rw [← hNL] at HEi hLl
  have HNL := Lib.hid hNL
  obtain ⟨H, hH⟩ : ∃ H, H = w.heap.size := ⟨_, rfl⟩
  have HH := Lib.hid hH
  clear hT hX hY hLX hLY hp hq ha hb hN hM hL hNL
  have hmf : ∀ (fn : Fn) (first cap : Array Value) (w : World), (Instr.makeFunc fn first cap).run Tryd.prog w = .ok (.func fn first cap) w := fun _ _ _ _ => rfl
  go_enter_defers Tryd.func30, Tryd.ntmps30
  go_wp2_with (fail)
  obtain ⟨W, hW⟩ : ∃ W, W = ((w.alloc (.cells #[.pointer p, .int .i64 N] 26)).alloc (.cells #[.pointer q, .int .i64 M] 26)) := ⟨_, rfl⟩
  rw [← hW, ← hH]
  have b0 : Box W H 26 #[.pointer p, .int .i64 N] := by rw [hW]; exact (Box.new _ _ _ H hH).alloc _
  have b1 : Box W (H + 1) 26 #[.pointer q, .int .i64 M] := by rw [hW]; exact Box.new _ _ _ (H + 1) (by rw [hH]; simp)
  have hbw : Below w.heap.size w W := by rw [hW]; exact ((Below.refl _ w).alloc (Nat.le_refl _) _).alloc (by simp) _
  have hWz : W.heap.size = H + 2 := by rw [hW, hH]; simp
  have HBW := Lib.hid hbw
  have hzW : w.heap.size ≤ W.heap.size := hbw.size
  have hHw : w.heap.size = H := hH.symm
  clear hW hH hbw
  refine (HEi.out W ((HLX.out.below HBW.out).more hzW) ((HLY.out.below HBW.out).more hzW)).mono ?_
  rintro e w1 ⟨r, rfl, hs1, hrf, hb1⟩
  have hz1 := hb1.size
  have hb01 := HBW.out.trans (hb1.mono hzW)
  have B0 := Lib.hid (b0.below hb1 (by omega))
  have B1' := Lib.hid (b1.below hb1 (by omega))
  have HA1 := Lib.hid (HA.out.below hb01 hlA)
  have HBn1 := Lib.hid (HBn.out.below hb01 hlB)
  have HB01 := Lib.hid hb01
  have HLX1 := Lib.hid ((HLX.out.below hb01).more hb01.size)
  have HLY1 := Lib.hid ((HLY.out.below hb01).more hb01.size)
  obtain ⟨Ar, cr, rfl⟩ := hs1.form
  have HS1 := Lib.hid hs1
  have HRF := Lib.hid hrf
  clear b0 b1 hs1 hrf hb1 hb01 HLX HLY HA HBn
  go_wp2_with (fail)
  go_loopw [7, 14] (fun o i wr => DiffersRel w1.heap.size ba k0 NL X Y n L w1 o i wr) (fun _ i _ => NL - (intOf i).toNat)
  case atStart =>
    unfold DiffersRel
    exact ⟨0, 0, Nat.zero_le _, Nat.le_refl _, rfl, Lib.hid rfl, by simpa [intV] using World.ownsRow_nil _ _ _ _, grown_weak _ (Below.refl _ _), HA1.out⟩
  case round =>
    obtain ⟨j, m, hj, hmj, rfl, HM, hown, hgr, hba⟩ := hrel
    have hzr := hgr.size
    by_cases hlt : j < NL
    · have hjL : j < L.length := by rw [← HNL.out]; exact hlt
      obtain ⟨_, A', cap', hva, hca⟩ := HS1.out
      obtain ⟨bb, ob, rfl, hbb, hca⟩ := hca (by omega)
      injection hva with e1 _ e3
      subst e1
      subst e3
      have hbH : W.heap.size ≤ bb := HRF.out bb ob NL cr rfl (by omega)
      obtain ⟨x, hx⟩ : ∃ x, x = L[j] := ⟨_, rfl⟩
      have hT := filt_take (fun key => !alikeS n X Y key) L j hjL
      have hH' := hitsN_take X Y L j hjL
      rw [← hx] at hT hH'
      have hxv : (intV L)[j]? = some (.int .i64 x) := by unfold intV; rw [List.getElem?_map, List.getElem?_eq_getElem hjL, ← hx]; rfl
      have x0 : wr.cell? ⟨bb, ob + j, none⟩ = some (.int .i64 x) := (cell_grown hgr hbb (by dsimp only; omega)).trans (hca _ _ hxv)
      have c0 : wr.cell? ⟨H, 0, none⟩ = some (.pointer p) := (cell_grown hgr (by dsimp only; omega) (by dsimp only; omega)).trans (B0.out.cell 0)
      have c1 : wr.cell? ⟨H, 1, none⟩ = some (.int .i64 N) := (cell_grown hgr (by dsimp only; omega) (by dsimp only; omega)).trans (B0.out.cell 1)
      have d0 : wr.cell? ⟨H + 1, 0, none⟩ = some (.pointer q) := (cell_grown hgr (by dsimp only; omega) (by dsimp only; omega)).trans (B1'.out.cell 0)
      have d1 : wr.cell? ⟨H + 1, 1, none⟩ = some (.int .i64 M) := (cell_grown hgr (by dsimp only; omega) (by dsimp only; omega)).trans (B1'.out.cell 1)
      have hbn : Box wr bn 3 #[.int .i64 n] := (hgr.block bn HBn1.out.lt (fun e => hne (Option.some.inj e).symm)).trans HBn1.out
      have hle := hitsN_le X Y (L.take j)
      have hle2 : hitsN X Y (L.take j) ≤ j := Nat.le_trans hle (by rw [List.length_take]; omega)
      have hHS := hitS_le X Y x
      obtain ⟨kk, hkk⟩ : ∃ kk, kk = k0 + hitsN X Y (L.take j) := ⟨_, rfl⟩
      rw [← hkk] at hba
      have hAl := HAl.out kk x wr (by omega) (HT.out.on ((HB01.out.mono hB).trans (below_of hgr hBa (by have := HB01.out.size; omega)))) (lies_grown hgr HA1.out HLX1.out) (lies_grown hgr HA1.out HLY1.out) (by omega) hba hbn
      obtain ⟨bl, hbl⟩ : ∃ bl, bl = alikeS n X Y x := ⟨_, rfl⟩
      rw [← hbl] at hAl hT
      have HAl2 := Lib.hid hAl
      have HTT := Lib.hid hT
      have HHH := Lib.hid (And.intro hH' hkk)
      have HOwn := Lib.hid hown
      have HGr := Lib.hid hgr
      have hbar := hba.lt
      have x1 : (j : Int) < (NL : Int) := by omega
      have x2 : (0 : Int) ≤ (j : Int) := by omega
      have hownb := Lib.hid (fun g h => hown.lt g h)
      clear hjL hx hT hH' hxv hca hbn hle hle2 hkk hAl hbl hown hgr hba
      go_wp2_with (fail)
      refine HAl2.out.mono ?_
      rintro e w5 ⟨rfl, hg5, hb5⟩
      have hgr5 := grown_trans HGr.out hg5
      have HX5 := Lib.hid (And.intro hgr5 hb5)
      have hown5 : w5.ownsRow w1.heap.size 3 1 u7 m (intV ((L.take j).filter fun key => !alikeS n X Y key)) := by
        refine HOwn.out.kept hg5 ?_
        cases hv : u7.ownBlock with
        | none => exact .inl rfl
        | some g => exact .inr (fun e => by have := (hownb.out g hv).1; have := Option.some.inj e; have := HB01.out.size; omega)
      have hz5 := hgr5.size
      clear hg5 hb5 hgr5 c0 c1 d0 d1 x0
      cases bl with
      | true =>
        go_wp2_with (fail)
        go_roundw
        case rel =>
          unfold DiffersRel
          have e := HTT.out
          rw [if_neg (by simp)] at e
          refine ⟨j + 1, m, by omega, by omega, by go_num, Lib.hid (by rw [e]; exact HM.out), by rw [e]; exact hown5, HX5.out.1, ?_⟩
          rw [HHH.out.1, ← Nat.add_assoc, ← HHH.out.2]; exact HX5.out.2
        case measure => simp [intOf]; omega
      | false =>
        have HO5 := Lib.hid hown5
        clear hown5
        go_wp2_with (at_builtin; refine wpList_append_own _ rfl _ _ 42 rfl w1.heap.size 3 i0 (.int .i64 0) 1 8 Tryd.underlying42 hi0 hy0 hy1 hy2 rfl (by decide) _ _ _ rfl (HO5.out.alloc _) ⟨w5.heap.size, 0, none⟩ 1 1 [.int .i64 x] rfl rfl (new_one _ _ _) (one_int _ _) (by unfold maxLen; omega) (by omega) (by simp; omega) ?_; intro v' w6 hown' hgrow0 _; have hgrow : (w5.alloc (.cells #[.int .i64 x] 3)).grownBy w6 u7.ownBlock := hgrow0; clear hgrow0)
        have hb56 : Below w1.heap.size w5 (w5.alloc (.cells #[.int .i64 x] 3)) := (Below.refl _ w5).alloc hz5 _
        have hg6 : w1.grownBy w6 (some ba) := grown_above (grown_trans HX5.out.1 (grown_weak _ ((Below.refl _ w5).alloc (Nat.le_refl _) _))) hgrow (fun g h => (hownb.out g h).1)
        have hb6 : Box w6 ba 3 #[.int .i64 ((kk + hitS X Y x : Nat) : Int)] := (hgrow.block ba (by simp; have := HX5.out.2.lt; omega) (fun e => by have := (hownb.out ba e.symm).1; have := HB01.out.size; omega)).trans (Box.alloc HX5.out.2 _)
        have HX6 := Lib.hid (And.intro hg6 hb6)
        have HO6 := Lib.hid hown'
        clear hb56 hg6 hb6 hown' hgrow
        go_roundw
        case rel =>
          unfold DiffersRel
          have e := HTT.out
          rw [if_pos (by simp)] at e
          refine ⟨j + 1, m + 1, by omega, by omega, by go_num, Lib.hid (by rw [e, List.length_append, ← HM.out]; rfl), by rw [e, intV_snoc]; exact HO6.out, HX6.out.1, ?_⟩
          rw [HHH.out.1, ← Nat.add_assoc, ← HHH.out.2]; exact HX6.out.2
        case measure => simp [intOf]; omega
    · have hfin : Hid (L.take j = L) := List.take_of_length_le (by rw [← HNL.out]; omega)
      have HX := Lib.hid (And.intro hown (And.intro hgr hba))
      have x1 : ¬ (j : Int) < (NL : Int) := by omega
      clear hown hgr hba
      go_wp2_with (fail)
      refine leaves_cons (f := 46) (args := #[]) (by simp) (by simp [go_sem]) ?_
      refine (idleD_any _).mono ?_
      rintro e u' w'' ⟨rfl, rfl, rfl⟩
      have h := HX.out
      rw [HM.out, hfin.out] at h
      refine ⟨_, results_tmp rfl _ _ _, u7, rfl, h.1.mono (by have := HB01.out.size; omega), ?_, h.2.2⟩
      exact grown_trans (grown_weak (some ba) HB01.out) h.2.1
def DiffersRel2 (B1 N : Nat) (X Y : List (Int × Int)) (L : List Int) (W1 : World) (o i : Value) (wr : World) : Prop :=
  ∃ (j m : Nat), j ≤ N ∧ m ≤ j ∧ i = .int .i64 j ∧ Hid (m = ((L.take j).filter fun key => !alike2S X Y key).length) ∧ wr.ownsRow B1 3 1 o m (intV ((L.take j).filter fun key => !alike2S X Y key)) ∧ Below B1 W1 wr
def Differs2Post (X Y : List (Int × Int)) (w : World) (e : Ending) (w' : World) : Prop :=
  ∃ r, e = .returned r ∧ w'.ownsRow w.heap.size 3 1 r ((keysS (overS X Y)).filter fun key => !alike2S X Y key).length (intV ((keysS (overS X Y)).filter fun key => !alike2S X Y key)) ∧ Below w.heap.size w w'
set_option maxHeartbeats 4000000 in
set_option maxRecDepth 100000 in
theorem differs2_any (B N M : Nat) (t t2 : Tr) (p q : Option Addr) (hp : ptr t = .pointer p) (hq : ptr t2 = .pointer q) (X Y : List (Int × Int)) (hN : N = X.length) (hM : M = Y.length) (w : World) (hB : B ≤ w.heap.size) (hT : Laid B w) (hX : MapOf t X) (hLX : Lies w.heap.size w t) (hY : MapOf t2 Y) (hLY : Lies w.heap.size w t2) (hl : N + M ≤ 2048) :
    Calls Tryd.prog 30 #[.agg #[.pointer p, .int .i64 N], .agg #[.pointer q, .int .i64 M], .func (.func 31) #[] #[]] w (Differs2Post X Y w) := by
  obtain ⟨i0, hi0, hy0, hy1, hy2⟩ := info_parts infoInt
  have HEi := Lib.hid (fun W h1 h2 => either_any N M t t2 p q hp hq X Y hN hM W hX h1 hY h2 hl)
  have HAl := Lib.hid (fun (key : Int) W h1 h2 h3 h4 => alike2_any B N M t t2 p q hp hq X Y key W h1 h2 hX h3 hY h4)
  have HT := Lib.hid hT
  have HLX := Lib.hid hLX
  have HLY := Lib.hid hLY
  obtain ⟨L, hL⟩ : ∃ L, L = keysS (overS X Y) := ⟨_, rfl⟩
  have hLl : L.length ≤ 2048 := by
    have := overS_len Y X
    rw [hL]; unfold keysS; rw [List.length_map]; omega
  unfold Differs2Post
  unfold EitherPost at HEi
  rw [← hL] at HEi ⊢
  obtain ⟨NL, hNL⟩ : ∃ NL, NL = L.length := ⟨_, rfl⟩
  rw [← hNL] at HEi hLl
  have HNL := Lib.hid hNL
  obtain ⟨H, hH⟩ : ∃ H, H = w.heap.size := ⟨_, rfl⟩
  have HH := Lib.hid hH
  clear hT hX hY hLX hLY hp hq hN hM hL hNL
  have hmf : ∀ (fn : Fn) (first cap : Array Value) (w : World), (Instr.makeFunc fn first cap).run Tryd.prog w = .ok (.func fn first cap) w := fun _ _ _ _ => rfl
  go_enter_defers Tryd.func30, Tryd.ntmps30
  go_wp2_with (fail)
  obtain ⟨W, hW⟩ : ∃ W, W = ((w.alloc (.cells #[.pointer p, .int .i64 N] 26)).alloc (.cells #[.pointer q, .int .i64 M] 26)) := ⟨_, rfl⟩
  rw [← hW, ← hH]
  have b0 : Box W H 26 #[.pointer p, .int .i64 N] := by rw [hW]; exact (Box.new _ _ _ H hH).alloc _
  have b1 : Box W (H + 1) 26 #[.pointer q, .int .i64 M] := by rw [hW]; exact Box.new _ _ _ (H + 1) (by rw [hH]; simp)
  have hbw : Below w.heap.size w W := by rw [hW]; exact ((Below.refl _ w).alloc (Nat.le_refl _) _).alloc (by simp) _
  have hWz : W.heap.size = H + 2 := by rw [hW, hH]; simp
  have HBW := Lib.hid hbw
  have hzW : w.heap.size ≤ W.heap.size := hbw.size
  have hHw : w.heap.size = H := hH.symm
  clear hW hH hbw
  refine (HEi.out W ((HLX.out.below HBW.out).more hzW) ((HLY.out.below HBW.out).more hzW)).mono ?_
  rintro e w1 ⟨r, rfl, hs1, hrf, hb1⟩
  have hz1 := hb1.size
  have hb01 := HBW.out.trans (hb1.mono hzW)
  have B0 := Lib.hid (b0.below hb1 (by omega))
  have B1' := Lib.hid (b1.below hb1 (by omega))
  have HB01 := Lib.hid hb01
  have HLX1 := Lib.hid ((HLX.out.below hb01).more hb01.size)
  have HLY1 := Lib.hid ((HLY.out.below hb01).more hb01.size)
  obtain ⟨Ar, cr, rfl⟩ := hs1.form
  have HS1 := Lib.hid hs1
  have HRF := Lib.hid hrf
  clear b0 b1 hs1 hrf hb1 hb01 HLX HLY
  go_wp2_with (fail)
  go_loopw [7, 14] (fun o i wr => DiffersRel2 w1.heap.size NL X Y L w1 o i wr) (fun _ i _ => NL - (intOf i).toNat)
  case atStart =>
    unfold DiffersRel2
    exact ⟨0, 0, Nat.zero_le _, Nat.le_refl _, rfl, Lib.hid rfl, by simpa [intV] using World.ownsRow_nil _ _ _ _, Below.refl _ _⟩
  case round =>
    obtain ⟨j, m, hj, hmj, rfl, HM, hown, hgr⟩ := hrel
    have hzr := hgr.size
    by_cases hlt : j < NL
    · have hjL : j < L.length := by rw [← HNL.out]; exact hlt
      obtain ⟨_, A', cap', hva, hca⟩ := HS1.out
      obtain ⟨bb, ob, rfl, hbb, hca⟩ := hca (by omega)
      injection hva with e1 _ e3
      subst e1
      subst e3
      have hbH : W.heap.size ≤ bb := HRF.out bb ob NL cr rfl (by omega)
      obtain ⟨x, hx⟩ : ∃ x, x = L[j] := ⟨_, rfl⟩
      have hT := filt_take (fun key => !alike2S X Y key) L j hjL
      rw [← hx] at hT
      have hxv : (intV L)[j]? = some (.int .i64 x) := by unfold intV; rw [List.getElem?_map, List.getElem?_eq_getElem hjL, ← hx]; rfl
      have x0 : wr.cell? ⟨bb, ob + j, none⟩ = some (.int .i64 x) := (hgr.cell (p := ⟨bb, ob + j, none⟩) hbb).trans (hca _ _ hxv)
      have c0 : wr.cell? ⟨H, 0, none⟩ = some (.pointer p) := (hgr.cell (p := ⟨H, 0, none⟩) (by dsimp only; omega)).trans (B0.out.cell 0)
      have c1 : wr.cell? ⟨H, 1, none⟩ = some (.int .i64 N) := (hgr.cell (p := ⟨H, 1, none⟩) (by dsimp only; omega)).trans (B0.out.cell 1)
      have d0 : wr.cell? ⟨H + 1, 0, none⟩ = some (.pointer q) := (hgr.cell (p := ⟨H + 1, 0, none⟩) (by dsimp only; omega)).trans (B1'.out.cell 0)
      have d1 : wr.cell? ⟨H + 1, 1, none⟩ = some (.int .i64 M) := (hgr.cell (p := ⟨H + 1, 1, none⟩) (by dsimp only; omega)).trans (B1'.out.cell 1)
      have hAl := HAl.out x wr (by omega) (HT.out.on ((HB01.out.mono hB).trans (hgr.mono (by have := HB01.out.size; omega)))) ((HLX1.out.below hgr).more hzr) ((HLY1.out.below hgr).more hzr)
      unfold Alike2Post at hAl
      obtain ⟨bl, hbl⟩ : ∃ bl, bl = alike2S X Y x := ⟨_, rfl⟩
      rw [← hbl] at hAl hT
      have HAl2 := Lib.hid hAl
      have HTT := Lib.hid hT
      have HOwn := Lib.hid hown
      have HGr := Lib.hid hgr
      have x1 : (j : Int) < (NL : Int) := by omega
      have x2 : (0 : Int) ≤ (j : Int) := by omega
      have hownb := Lib.hid (fun g h => hown.lt g h)
      clear hjL hx hT hxv hca hAl hbl hown hgr
      go_wp2_with (fail)
      refine HAl2.out.mono ?_
      rintro e w5 ⟨rfl, hb5⟩
      have HX5 := Lib.hid (HGr.out.trans (hb5.mono hzr))
      have hown5 := own_below HOwn.out hb5
      have hz5 := HX5.out.size
      clear hb5 c0 c1 d0 d1 x0
      cases bl with
      | true =>
        go_wp2_with (fail)
        go_roundw
        case rel =>
          unfold DiffersRel2
          have e := HTT.out
          rw [if_neg (by simp)] at e
          refine ⟨j + 1, m, by omega, by omega, by go_num, Lib.hid (by rw [e]; exact HM.out), by rw [e]; exact hown5, HX5.out⟩
        case measure => simp [intOf]; omega
      | false =>
        have HO5 := Lib.hid hown5
        clear hown5
        go_wp2_with (at_builtin; refine wpList_append_own _ rfl _ _ 42 rfl w1.heap.size 3 i0 (.int .i64 0) 1 8 Tryd.underlying42 hi0 hy0 hy1 hy2 rfl (by decide) _ _ _ rfl (HO5.out.alloc _) ⟨w5.heap.size, 0, none⟩ 1 1 [.int .i64 x] rfl rfl (new_one _ _ _) (one_int _ _) (by unfold maxLen; omega) (by omega) (by simp; omega) ?_; intro v' w6 hown' hgrow0 _; have hgrow : (w5.alloc (.cells #[.int .i64 x] 3)).grownBy w6 u7.ownBlock := hgrow0; clear hgrow0)
        have HX6 := Lib.hid ((HX5.out.alloc hz5 (.cells #[.int .i64 x] 3)).grown hgrow (by simp; omega) (fun g h => (hownb.out g h).1))
        have HO6 := Lib.hid hown'
        clear hown' hgrow
        go_roundw
        case rel =>
          unfold DiffersRel2
          have e := HTT.out
          rw [if_pos (by simp)] at e
          refine ⟨j + 1, m + 1, by omega, by omega, by go_num, Lib.hid (by rw [e, List.length_append, ← HM.out]; rfl), by rw [e, intV_snoc]; exact HO6.out, HX6.out⟩
        case measure => simp [intOf]; omega
    · have hfin : Hid (L.take j = L) := List.take_of_length_le (by rw [← HNL.out]; omega)
      have HX := Lib.hid (And.intro hown hgr)
      have x1 : ¬ (j : Int) < (NL : Int) := by omega
      clear hown hgr
      go_wp2_with (fail)
      refine leaves_cons (f := 46) (args := #[]) (by simp) (by simp [go_sem]) ?_
      refine (idleD_any _).mono ?_
      rintro e u' w'' ⟨rfl, rfl, rfl⟩
      have h := HX.out
      rw [HM.out, hfin.out] at h
      refine ⟨_, results_tmp rfl _ _ _, u7, rfl, h.1.mono (by have := HB01.out.size; omega), (HB01.out.trans (h.2.mono HB01.out.size)).mono (by rw [HH.out]; exact Nat.le_refl _)⟩
end Go.Proofs.YtjlbchkdiaomjaaDoor.trie

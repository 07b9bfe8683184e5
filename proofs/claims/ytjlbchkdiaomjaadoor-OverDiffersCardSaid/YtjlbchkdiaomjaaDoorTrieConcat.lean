/- The library's Concat at rows of arms: room made, then each row laid behind the others. -/
import Derived.Test.YtjlbchkdiaomjaaDoorTrieNode
import Derived.Lib.AppendZerosOnto
import Derived.Lib.Walk
import Derived.Maps.AppendAt
namespace Go.Proofs.YtjlbchkdiaomjaaDoor.trie
open Go.RowKit mem tri mix

theorem grow_none (w : World) : Calls Tryd.prog 68 #[.slice none 0 0, .int .i64 0] w fun e w' => e = .returned (.slice none 0 0) ∧ w = w' := by
  go_enter Tryd.func68, Tryd.ntmps68
  go_wp2
  go_ret
  exact ⟨rfl, rfl⟩
set_option maxHeartbeats 2000000 in
set_option maxRecDepth 100000 in
theorem grow_any (n : Nat) (w : World) (h0 : 0 < n) (hn : n ≤ 32) : Calls Tryd.prog 68 #[.slice none 0 0, .int .i64 n] w fun e w' =>
    ∃ cap, e = .returned (.slice (some ⟨w.heap.size, 0, none⟩) 0 cap) ∧ Got w.heap.size 84 3 0 [] (.slice (some ⟨w.heap.size, 0, none⟩) 0 cap) w w' := by
  obtain ⟨i0, hi, hz0, hz1, hz2⟩ := info_parts infoArm
  have hrz : ∀ ty, (Builtin.append_ #[86, 3] ty #[.slice none 0 0, .int .i64 (n : Int)]).run Tryd.prog w =
      .ok (.slice (some ⟨w.heap.size, 0, none⟩) n (grownCap w n 0 84)) (w.drew.alloc (.cells (#[] ++ Builtin.zeroCells zArm.cells n ++ Builtin.zeroCells zArm.cells (grownCap w n 0 84 - n)) 84)) := fun ty => by
    have h := Lib.run_append_grow_zeros w 86 3 ty 84 i0 zArm .i64 .i64 Tryd.underlying86 Tryd.underlying3 hi hz0 none 0 0 [] (run_firstCells_none w.drew i0.size 0 0 0) n (by omega) (by rw [hz1]; omega) (by omega) (by omega)
      (by rw [hz2]; omega)
      (by rw [Nat.zero_add]; exact growslice_fits (by omega) (by rw [hz2]; omega))
    rw [Nat.zero_add] at h
    exact h
  have hGn : n ≤ grownCap w n 0 84 := grownCap_ge w _ _ _
  obtain ⟨G, hG⟩ : ∃ G, G = grownCap w n 0 84 := ⟨_, rfl⟩
  rw [← hG] at hrz hGn
  have hGm : G ≤ maxLen := by
    have := grownCap_le_maxLen w n 0 84 (by unfold maxLen; omega)
    rw [← hG] at this; exact this
  have HG := Lib.hid hGm
  have h1 : ¬ ((n : Int) < 0) := by omega
  have h4 : (n : Int) > 0 := by omega
  have hG63 : G ≤ 9223372036854775807 := by unfold maxLen at hGm; omega
  clear hG hi hz0 hz1 hz2 hGm
  go_enter Tryd.func68, Tryd.ntmps68
  go_wp2_with (at_builtin; refine Lib.wpList_append_run _ rfl _ _ _ _ rfl _ _ rfl rfl _ _ (hrz _) ?_)
  all_goals (go_ret; refine ⟨G, rfl, (World.ownsRow_made w _ G (Nat.le_refl _) HG.out ?_).drew, ((Below.refl _ w).alloc (Nat.le_refl _) _).drew⟩)
  all_goals (simp only [Array.size_append, size_zeroCells, List.size_toArray, List.length_cons, List.length_nil]; omega)
/-- a row of the call's own, and behind it what another slice reads as, nil too -/
theorem app_any (B : Nat) (base ty : Nat) (i0 : TypeInfo) (hi : Tryd.prog.info? 84 = some i0) (hz0 : i0.zero = some zArm) (hz1 : i0.size = 3) (hz2 : i0.bytes = 24) (w : World) (v x : Value) (n m : Nat) (xs ys : List Value) (hown : w.ownsRow base 84 3 v n xs)
    (hx : Sees B 3 w x m ys) (h1 : ∀ u ∈ ys, u.oneCell' = true) (hnm : n + m ≤ 64) (hb : base ≤ w.heap.size) :
    ∃ v' w', (Builtin.append_ #[86, 86] ty #[v, x]).run Tryd.prog w = .ok v' w' ∧ w'.ownsRow base 84 3 v' (n + m) (xs ++ ys) ∧ w.grownBy w' v.ownBlock := by
  obtain ⟨hl, A, c, rfl, hc⟩ := hx
  rcases Nat.eq_zero_or_pos m with hm | hm
  · subst hm
    have hy : ys = [] := List.eq_nil_of_length_eq_zero (by simpa using hl)
    subst hy
    cases A with
    | none =>
      refine ⟨v, w, ?_, by simpa using hown, World.grownBy.refl w _⟩
      rcases hown.2 with ⟨rfl, rfl⟩ | ⟨g, cap, cur, rfl, _, _, hnc, _⟩
      · simp [Builtin.append_, run_underlying Tryd.underlying86, sizeOf, typeInfo, hi, Builtin.lenOf, Builtin.firstCells]
      · simp [Builtin.append_, run_underlying Tryd.underlying86, sizeOf, typeInfo, hi, Builtin.lenOf, Builtin.firstCells, hnc, storeCells]
    | some a =>
      obtain ⟨v', w', hrun, h2, h3, h4, _⟩ := run_append_own_at (P := Tryd.prog) w base 86 ty 84 i0 zArm 3 24 Tryd.underlying86 hi hz0 hz1 hz2 rfl (by decide) v n xs hown a 0 c [] rfl (fun j u hu => by simp at hu) h1 (by unfold maxLen; omega) (by omega) hb
      exact ⟨v', w', hrun, h2, h3⟩
  · obtain ⟨b, off, rfl, _, hc⟩ := hc hm
    obtain ⟨v', w', hrun, h2, h3, _, _⟩ := run_append_own_at (P := Tryd.prog) w base 86 ty 84 i0 zArm 3 24 Tryd.underlying86 hi hz0 hz1 hz2 rfl (by decide) v n xs hown ⟨b, off, none⟩ m c ys hl (fun j u hu => by rw [Addr.add_lit]; exact hc j u hu) h1 (by unfold maxLen; omega) (by omega) hb
    exact ⟨v', w', hrun, h2, h3⟩
theorem grow_at (n : Nat) (w : World) (hn : n ≤ 32) : Calls Tryd.prog 68 #[.slice none 0 0, .int .i64 n] w fun e w' =>
    ∃ v, e = .returned v ∧ Got w.heap.size 84 3 0 [] v w w' := by
  rcases Nat.eq_zero_or_pos n with h | h
  · subst h
    refine (grow_none w).mono ?_
    rintro e w' ⟨rfl, rfl⟩
    exact ⟨_, rfl, Got.nil_ _ _ _ _⟩
  · refine (grow_any n w h hn).mono ?_
    rintro e w' ⟨cap, rfl, hg⟩
    exact ⟨_, rfl, hg⟩
/-- slices that are laid one behind the other: their values, lengths, cells -/
def partsN (l : List (Value × Nat × List Value)) : Nat := (l.map fun p => p.2.1).sum
def partsV (l : List (Value × Nat × List Value)) : List Value := l.flatMap fun p => p.2.2
theorem partsN_take (l : List (Value × Nat × List Value)) (k : Nat) (h : k < l.length) : partsN (l.take (k + 1)) = partsN (l.take k) + l[k].2.1 := by
  unfold partsN; rw [List.take_succ_eq_append_getElem h, List.map_append, List.sum_append]; simp
theorem partsV_take (l : List (Value × Nat × List Value)) (k : Nat) (h : k < l.length) : partsV (l.take (k + 1)) = partsV (l.take k) ++ l[k].2.2 := by
  unfold partsV; rw [List.take_succ_eq_append_getElem h, List.flatMap_append]; simp
theorem partsN_le (l : List (Value × Nat × List Value)) (k : Nat) : partsN (l.take k) ≤ partsN l := by
  conv => rhs; rw [← List.take_append_drop k l]
  unfold partsN; rw [List.map_append, List.sum_append]; omega
def SumRel (l : List (Value × Nat × List Value)) (m : Nat) (s i : Value) : Prop := ∃ k n : Nat, k ≤ m ∧ n ≤ 32 ∧ i = .int .i64 k ∧ s = .int .i64 n ∧ Hid (n = partsN (l.take k))
def CatRel (B : Nat) (l : List (Value × Nat × List Value)) (m : Nat) (w : World) (o i : Value) (wr : World) : Prop :=
  ∃ k n : Nat, k ≤ m ∧ n ≤ 32 ∧ i = .int .i64 k ∧ Hid (n = partsN (l.take k)) ∧ Got B 84 3 n (partsV (l.take k)) o w wr
set_option maxHeartbeats 2000000 in
set_option maxRecDepth 100000 in
theorem concat_any (g c : Nat) (l : List (Value × Nat × List Value)) (w : World) (hg : g < w.heap.size) (hm : l.length ≤ 3) (hn : partsN l ≤ 32)
    (hl : ∀ (k : Nat) (h : k < l.length), w.cell? ⟨g, k, none⟩ = some l[k].1 ∧ Sees w.heap.size 3 w l[k].1 l[k].2.1 l[k].2.2 ∧ ∀ u ∈ l[k].2.2, u.oneCell' = true) :
    Calls Tryd.prog 54 #[.slice (some ⟨g, 0, none⟩) l.length c] w fun e w' => ∃ r, e = .returned r ∧ Got w.heap.size 84 3 (partsN l) (partsV l) r w w' := by
  obtain ⟨i0, hi, hz0, hz1, hz2⟩ := info_parts infoArm
  generalize hB : w.heap.size = B at hl hg ⊢
  have hBw : B ≤ w.heap.size := by omega
  have HL := Lib.hid hl
  have HN := Lib.hid hn
  have HB := Lib.hid hB
  obtain ⟨m, hml⟩ : ∃ m, m = l.length := ⟨_, rfl⟩
  rw [← hml] at hm ⊢
  have HM := Lib.hid hml
  clear hl hn hml hB
  go_enter Tryd.func54, Tryd.ntmps54
  go_wp2
  go_loop [3, 11] (fun s i => SumRel l m s i) (fun _ i => m - (intOf i).toNat)
  case atStart => unfold SumRel; exact ⟨0, 0, Nat.zero_le _, by omega, rfl, rfl, Lib.hid rfl⟩
  case round =>
    obtain ⟨k, n, hk, hn, rfl, rfl, HS⟩ := hrel
    by_cases hlt : k < m
    · have hkl : k < l.length := by have := HM.out; omega
      obtain ⟨hc, hs, _⟩ := HL.out k hkl
      have hp := partsN_take l k hkl
      have hle := partsN_le l (k + 1)
      have hN := HN.out
      obtain ⟨q, hq⟩ : ∃ q, q = l[k] := ⟨_, rfl⟩
      rw [← hq] at hc hs hp
      obtain ⟨x, a, xs⟩ := q
      obtain ⟨A, cap, hx⟩ := hs.form
      simp only at hx hc hp
      subst hx
      have hsum : n + a ≤ 32 := by have := HS.out; omega
      have HP : Hid (n + a = partsN (l.take (k + 1))) := by show _ = _; rw [hp, HS.out]
      clear hp hq hs hle hN
      go_wp2
      go_round
      case rel => unfold SumRel; exact ⟨k + 1, n + a, by omega, hsum, by go_num, by go_num, HP⟩
      case measure => simp [intOf]; omega
    · have hnm : Hid (n = partsN l) := by
        show _ = _
        rw [HS.out, List.take_of_length_le (by have := HM.out; omega)]
      go_wp2_with (fail)
      refine (grow_at n w hn).mono ?_
      rintro e w1 ⟨v1, rfl, hgot⟩
      rw [HB.out] at hgot
      go_wp2
      go_loopw [6, 27] (fun o i wr => CatRel B l m w o i wr) (fun _ i _ => m - (intOf i).toNat)
      case atStart => unfold CatRel; exact ⟨0, 0, Nat.zero_le _, by omega, rfl, Lib.hid rfl, hgot⟩
      case round =>
        obtain ⟨k, n, hk, hn, rfl, HS, hgot⟩ := hrel
        have hsz := hgot.2.size
        by_cases hlt : k < m
        · have hkl : k < l.length := by have := HM.out; omega
          obtain ⟨hc, hs, h1⟩ := HL.out k hkl
          have hp := partsN_take l k hkl
          have hpv := partsV_take l k hkl
          have hle := partsN_le l (k + 1)
          have hN := HN.out
          obtain ⟨q, hq⟩ : ∃ q, q = l[k] := ⟨_, rfl⟩
          rw [← hq] at hc hs hp hpv h1
          obtain ⟨x, a, xs⟩ := q
          simp only at hc hs hp hpv h1
          have hsum : n + a ≤ 32 := by have := HS.out; omega
          have HP : Hid (n + a = partsN (l.take (k + 1))) := by show _ = _; rw [hp, HS.out]
          have hcw := (hgot.2.cell (p := ⟨g, k, none⟩) hg).trans hc
          obtain ⟨v', w', hrun, hown', hgr⟩ := app_any B B 86 i0 hi hz0 hz1 hz2 _ _ x n a _ xs hgot.1 (hs.below hgot.2) h1 (by omega) (by omega)
          have HG : Hid (Got B 84 3 (n + a) (partsV (l.take (k + 1))) v' w w') := by
            show Got _ _ _ _ _ _ _ _
            rw [hpv]
            exact ⟨hown', hgot.2.grown hgr (by omega) (fun g hv => (hgot.1.lt g hv).1)⟩
          have HR := Lib.hid hrun
          obtain ⟨A, cap, hx⟩ := hs.form
          subst hx
          clear hp hpv hq hs hle hN hc hrun hown' hgr h1
          go_wp2_with (at_builtin; refine Lib.wpList_append_run _ rfl _ _ _ _ rfl _ _ rfl rfl _ _ HR.out ?_)
          go_roundw
          case rel => unfold CatRel; exact ⟨k + 1, n + a, by omega, hsum, by go_num, HP, HG.out⟩
          case measure => simp [intOf]; omega
        · have hnm2 : Hid (n = partsN l ∧ l.take k = l) := by
            have h : l.take k = l := List.take_of_length_le (by have := HM.out; omega)
            exact ⟨by rw [HS.out, h], h⟩
          go_wp2
          go_ret
          exact ⟨_, rfl, by have h := hgot; rw [hnm2.out.2, hnm2.out.1] at h; exact h⟩
end Go.Proofs.YtjlbchkdiaomjaaDoor.trie

/- A map's keys from one number to below another one. -/
import Derived.Test.YtjlbchkdiaomjaaDoorTrieAll
import Derived.Test.YtjlbchkdiaomjaaDoorOverRef
namespace Go.Proofs.YtjlbchkdiaomjaaDoor.trie
open Go.RowKit Go.Shelf mem tri mix

attribute [local go_sem] Oper.semAt_some

theorem betweenS_snoc (l : List (Int × Int)) (q : Int × Int) (lo hi : Int) : betweenS (l ++ [q]) lo hi = if lo ≤ q.1 ∧ q.1 < hi then betweenS l lo hi ++ [q] else betweenS l lo hi := by
  unfold betweenS; rw [List.filter_append]
  by_cases h1 : lo ≤ q.1 <;> by_cases h2 : q.1 < hi <;> simp [h1, h2]
theorem betweenS_le (l : List (Int × Int)) (lo hi : Int) : (betweenS l lo hi).length ≤ l.length := by unfold betweenS; exact List.length_filter_le _ _
theorem betweenS_stop (L : List (Int × Int)) (lo hi : Int) (hu : Up L) (k : Nat) (q : Int × Int) (pre : List (Int × Int)) (h : pre ++ [q] = L.take k) (hq : hi ≤ q.1) : betweenS (pre ++ [q]) lo hi = betweenS L lo hi := by
  have hL : L = (pre ++ [q]) ++ L.drop k := by rw [h, List.take_append_drop]
  have hall : ∀ x ∈ L.drop k, hi ≤ x.1 := by
    intro x hx
    unfold Up at hu
    rw [hL] at hu
    have := (List.pairwise_append.1 hu).2.2 q (by simp) x hx
    omega
  have hd : betweenS (L.drop k) lo hi = [] := by
    unfold betweenS
    rw [List.filter_eq_nil_iff]
    intro x hx
    have := hall x hx
    simp; omega
  have hs : betweenS L lo hi = betweenS (pre ++ [q]) lo hi ++ betweenS (L.drop k) lo hi := by
    conv => lhs; rw [hL]
    unfold betweenS; rw [List.filter_append]
  rw [hs, hd, List.append_nil]
def BetweenPost (L : List (Int × Int)) (lo hi : Int) (w : World) (e : Ending) (w' : World) : Prop := ∃ r, e = .returned r ∧ Got w.heap.size 3 1 (betweenS L lo hi).length (keyV (betweenS L lo hi)) r w w'
set_option maxHeartbeats 2000000 in
set_option maxRecDepth 100000 in
theorem between_any (N : Nat) (t : Tr) (p : Option Addr) (hp : ptr t = .pointer p) (L : List (Int × Int)) (hN : N = L.length) (lo hi : Int) (w : World) (hm : MapOf t L) (hL : Lies w.heap.size w t) (hl : N ≤ 1048576) :
    Calls Tryd.prog 34 #[.agg #[.pointer p, .int .i64 N], .int .i64 lo, .int .i64 hi] w (BetweenPost L lo hi w) := by
  obtain ⟨i0, hi0, hz0, hz1, hz2⟩ := info_parts infoInt
  have hf : Fence.wide.fn 34 := trivial
  have hf3 : Fence.wide.fn 43 := trivial
  obtain ⟨H, hH⟩ : ∃ H, H = w.heap.size := ⟨_, rfl⟩
  have HH := Lib.hid hH
  have HN := Lib.hid hN
  have HP := Lib.hid hp
  have HM := Lib.hid hm
  have HL := Lib.hid hL
  clear hN hp hm hL
  refine (callsIn_wide (n := 9)).1 ?_
  refine callsIn_of_wp_marks Tryd.func34 rfl hf ?_ rfl
  simp only [Tryd.ntmps34, List.size_toArray, List.length_cons, List.length_nil, Nat.reduceAdd, Nat.reduceSub, Array.replicate_succ, Array.replicate_zero, List.push_toArray, List.append_toArray, List.nil_append, List.cons_append]
  refine wpIn_wide.2 ?_
  go_wp2_with (go_at_call 21; refine (mall_any t N _ p).mono ?_; rintro e w' ⟨rfl, rfl⟩)
  have e1 : H + 1 + 1 = H + 2 := rfl
  have e2 : H + 1 + 1 + 1 = H + 3 := rfl
  have e3 : H + 1 + 1 + 1 + 1 = H + 4 := rfl
  obtain ⟨W, hW⟩ : ∃ W, W = (((((w.alloc (.cells #[.pointer p, .int .i64 N] 26)).alloc (.cells #[.int .i64 lo] 3)).alloc (.cells #[.int .i64 hi] 3)).alloc (.cells #[.slice none 0 0] 42)).alloc (.cells #[.pointer p, .int .i64 N] 26)) := ⟨_, rfl⟩
  rw [← hW, ← hH, e1, e2, e3]
  have b1 : Box W (H + 1) 3 #[.int .i64 lo] := by rw [hW]; exact (((Box.new _ _ _ (H + 1) (by rw [hH]; simp)).alloc _).alloc _).alloc _
  have b2 : Box W (H + 2) 3 #[.int .i64 hi] := by rw [hW]; exact ((Box.new _ _ _ (H + 2) (by rw [hH]; simp)).alloc _).alloc _
  have b3 : Boxed W (H + 3) 42 (.slice none 0 0) := by rw [hW]; exact (Box.new _ _ _ (H + 3) (by rw [hH]; simp)).alloc _
  have b4 : Box W (H + 4) 26 #[.pointer p, .int .i64 N] := by rw [hW]; exact Box.new _ _ _ (H + 4) (by rw [hH]; simp)
  have hBW : Below H w W := by rw [hW, hH]; exact (((((Below.refl _ w).alloc (Nat.le_refl _) _).alloc (by simp) _).alloc (by simp; omega) _).alloc (by simp; omega) _).alloc (by simp; omega) _
  have hWz : W.heap.size = H + 5 := by rw [hW, hH]; simp
  have hLW : Hid (Lies W.heap.size W t) := by show Lies _ _ _; have h := HL.out; rw [← hH] at h; exact (h.below hBW).more (by omega)
  have m0 : W.cell? ⟨H + 4, 0, none⟩ = some (.pointer p) := b4.cell 0
  have m1 : W.cell? ⟨H + 4, 1, none⟩ = some (.int .i64 L.length) := by rw [← HN.out]; exact b4.cell 1
  have HBW := Lib.hid hBW
  have HWZ := Lib.hid hWz
  have HB1 := Lib.hid b1
  have HB2 := Lib.hid b2
  clear hW hH e1 e2 e3 b1 b2 b4 hBW hWz
  refine (wpIn_wide (n := 9)).1 ?_
  refine wpIn_rangeFunc_ownG rfl (by decide) (gf := 43) (lb := #[.pointer (some ⟨H + 4, 0, none⟩)]) rfl hf3 (enters_of Tryd.func43 (by kernel_rfl) rfl)
    (all_stops 8 (H + 4) (by decide) t p L _ HP.out HM.out (by rw [← HN.out]; exact hl) (by rw [HWZ.out]; omega) m0 m1 hLW.out) (fun h1 h2 => KeepP.trans h1 h2) (fun W' l o o' h1 h2 h3 h4 => KeepP.put (w := W) W' l o o' h1 h2 h3 h4) (Below.refl _ _) (fun _ => rfl)
    (fun (pre : List (Int × Int)) (W' : World) => (∃ v, Boxed W' (H + 3) 42 v ∧ W'.ownsRow (H + 3) 3 1 v (betweenS pre lo hi).length (keyV (betweenS pre lo hi)) ∧ True) ∧ Below (H + 3) W W')
    (fun c pre W' => ((∃ v, Boxed W' (H + 3) 42 v ∧ W'.ownsRow (H + 3) 3 1 v (betweenS pre lo hi).length (keyV (betweenS pre lo hi)) ∧ True) ∧ Below (H + 3) W W') ∧ (c = .exit 0 ∧ ∃ q l', pre = l' ++ [q] ∧ hi ≤ q.1))
    (OwnFrom.and (Own.from (holdsRow_own (H + 3) (H + 3) 42 3 1 (fun pre : List (Int × Int) => (betweenS pre lo hi).length) (fun pre => keyV (betweenS pre lo hi)) (fun _ _ => True)) _) (ownFrom_below (by rw [HWZ.out]; omega) (by rw [HWZ.out]; omega)))
    (fun c => OwnFrom.and (OwnFrom.and (Own.from (holdsRow_own (H + 3) (H + 3) 42 3 1 (fun pre : List (Int × Int) => (betweenS pre lo hi).length) (fun pre => keyV (betweenS pre lo hi)) (fun _ _ => True)) _) (ownFrom_below (by rw [HWZ.out]; omega) (by rw [HWZ.out]; omega))) (ownFrom_pure _ _))
    ⟨⟨_, b3, World.ownsRow_nil _ _ _ _, trivial⟩, Below.refl _ _⟩
    (fun x => { tmps := #[.agg #[.pointer p, .int .i64 N], .int .i64 lo, .int .i64 hi, .pointer (some ⟨H, 0, none⟩), .pointer (some ⟨H + 1, 0, none⟩), .pointer (some ⟨H + 2, 0, none⟩), .slice none 0 0, .pointer (some ⟨H + 3, 0, none⟩), .int .i64 x.1, .agg #[.pointer p, .int .i64 N], .func (.func 43) #[] #[.pointer (some ⟨H + 4, 0, none⟩)], .int .i64 x.1, .int .i64 x.2, undef, undef, undef, undef, undef, undef, undef, undef, undef, undef, undef], defers := [] }) ?assign ?body ?done ?stop
  case assign =>
    intro l x W K hK
    gi_wp2
    exact hK
  case body =>
    rintro l pre x W5 ⟨⟨v, hv, hrow, _⟩, hB⟩ hlt
    have hpl : (betweenS pre lo hi).length ≤ 1048576 := by have := betweenS_le pre lo hi; have := HN.out; omega
    obtain ⟨A', cap', rfl⟩ := (Sees.of_own hrow).form
    have hc := hv.cell
    have hz5 := hB.size
    have hz6 : H + 5 ≤ W5.heap.size := by have := HWZ.out; omega
    have d1 : W5.cell? ⟨H + 1, 0, none⟩ = some (.int .i64 lo) := (HB1.out.below hB (by omega)).cell 0
    have d2 : W5.cell? ⟨H + 2, 0, none⟩ = some (.int .i64 hi) := (HB2.out.below hB (by omega)).cell 0
    have HV := Lib.hid hv
    have HR := Lib.hid hrow
    have HB := Lib.hid hB
    obtain ⟨kx, vx⟩ := x
    have HSn := Lib.hid (betweenS_snoc pre (kx, vx) lo hi)
    obtain ⟨m, hmm⟩ : ∃ m, m = (betweenS pre lo hi).length := ⟨_, rfl⟩
    rw [← hmm] at hc HV HR hpl
    have HMM := Lib.hid hmm
    clear m0 m1 b3 hv hrow hB hlt hmm
    dsimp only
    by_cases h1 : hi ≤ kx
    · have HSn' : Hid (betweenS (pre ++ [(kx, vx)]) lo hi = betweenS pre lo hi) := by
        show _ = _; rw [HSn.out, if_neg (by intro h; have := h.2; simp only at this; omega)]
      clear HSn
      gi_wp2_with (fail)
      refine ⟨KeepsFrom.refl _ _, ⟨⟨_, HV.out, ?_, trivial⟩, HB.out⟩, rfl, (kx, vx), pre, rfl, h1⟩
      rw [HSn'.out, ← HMM.out]; exact HR.out
    · by_cases h2 : lo ≤ kx
      · have HSn' : Hid (betweenS (pre ++ [(kx, vx)]) lo hi = betweenS pre lo hi ++ [(kx, vx)]) := by
          show _ = _; rw [HSn.out, if_pos ⟨h2, by show kx < hi; omega⟩]
        clear HSn
        gi_wp2_with (gi_at_builtin; refine wpListIn_append_own _ rfl _ _ 42 rfl (H + 3) 3 i0 (.int .i64 0) 1 8 Tryd.underlying42 hi0 hz0 hz1 hz2 rfl (by decide) _ _ _ rfl (HR.out.alloc _) ⟨W5.heap.size, 0, none⟩ 1 1 [.int .i64 kx] rfl rfl (cell_one_new _ _ _) (by simp [Value.oneCell']) (by unfold maxLen; omega) (by omega) (by simp; omega) ?_; intro v' w2 hown' hgrow _; obtain ⟨g', cap2, rfl⟩ := ownsRow_succ hown'; obtain ⟨hv1, hv2, hr2, hk2, hb2⟩ := HV.out.appended (by decide) HR.out (by omega) (by omega) hown' hgrow; have hc1 := hv1.cell; have hf1 := hv1.frozen)
        have ha := World.ownsRow.alloc HR.out (.cells #[.int .i64 kx] 3)
        have hkp : KeepP W5 (w2.setCell ⟨H + 3, 0, none⟩ (.slice (some ⟨g', 0, none⟩) (m + 1) cap2)) := ((KeepP.below ((Below.refl _ W5).alloc (Nat.le_refl _) _) (Nat.le_refl _)).trans (KeepP.grown_own ha hgrow (by decide))).trans (KeepP.set (t := 42) hv1 (by decide) 0 _)
        refine ⟨hk2.from _, hkp, ⟨_, hv2, ?_⟩, HB.out.trans hb2⟩
        rw [HSn'.out, List.length_append, List.length_singleton, ← HMM.out, keyV_snoc]
        exact hr2
      · have HSn' : Hid (betweenS (pre ++ [(kx, vx)]) lo hi = betweenS pre lo hi) := by
          show _ = _; rw [HSn.out, if_neg (fun h => h2 h.1)]
        clear HSn
        gi_wp2_with (fail)
        refine ⟨KeepsFrom.refl _ _, KeepP.refl _, ⟨_, HV.out, ?_⟩, HB.out⟩
        rw [HSn'.out, ← HMM.out]; exact HR.out
  case done =>
    rintro D ys W5 hD rfl ⟨⟨v, hv, hrow, _⟩, hB⟩ hK
    obtain ⟨A', cap', rfl⟩ := (Sees.of_own hrow).form
    have hc := hv.cell
    have HR := Lib.hid hrow
    have HB := Lib.hid hB
    have HK := Lib.hid hK
    clear m0 m1 b3 hv hrow hB hK
    go_wp2_with (fail)
    refine ⟨by simp, .inl ⟨_, _, rfl, run_takeDeferred HK.out, ?_⟩⟩
    have hz5 := HB.out.size
    have hHD : H ≤ D := by have := HWZ.out; omega
    have hBF : Below H w (W5.putObj D (.deferred none)) := (HBW.out.trans (HB.out.mono (by omega))).trans ((Below.refl H W5).grown (grownBy_putObj' _ D _) (by have := HWZ.out; omega) (fun k e => by cases e; exact hHD))
    rw [HH.out] at hBF
    refine ⟨_, results_tmp rfl _ _ _, _, rfl, ?_, hBF⟩
    exact (ownsRow_putObj HR.out (.deferred none) HK.out rfl).mono (by rw [← HH.out]; omega)
  case stop =>
    rintro D c pre W5 hD ⟨k, hk, hpre⟩ ⟨⟨⟨v, hv, hrow, _⟩, hB⟩, rfl, q, l', rfl, hq⟩ hK
    have hst := betweenS_stop L lo hi HM.out.2.2.1 k q l' hpre hq
    rw [hst] at hrow
    obtain ⟨A', cap', rfl⟩ := (Sees.of_own hrow).form
    have hc := hv.cell
    have HR := Lib.hid hrow
    have HB := Lib.hid hB
    have HK := Lib.hid hK
    have HST := Lib.hid hst
    clear m0 m1 b3 hv hrow hB hK hst hpre
    gi_wp2_with (fail)
    go_wp2_with (fail)
    refine ⟨by simp, .inl ⟨_, _, rfl, run_takeDeferred HK.out, ?_⟩⟩
    have hz5 := HB.out.size
    have hHD : H ≤ D := by have := HWZ.out; omega
    have hBF : Below H w (W5.putObj D (.deferred none)) := (HBW.out.trans (HB.out.mono (by omega))).trans ((Below.refl H W5).grown (grownBy_putObj' _ D _) (by have := HWZ.out; omega) (fun k e => by cases e; exact hHD))
    rw [HH.out] at hBF
    refine ⟨_, results_tmp rfl _ _ _, _, rfl, ?_, hBF⟩
    exact (ownsRow_putObj HR.out (.deferred none) HK.out rfl).mono (by rw [← HH.out]; omega)
end Go.Proofs.YtjlbchkdiaomjaaDoor.trie

/- A map gone through by rising keys: what Fold answers, at a function that collects pairs. -/
import Derived.Test.YtjlbchkdiaomjaaDoorTrieAll
import Derived.RecoverIn
namespace Go.Proofs.YtjlbchkdiaomjaaDoor.trie
open Go.RowKit Go.Shelf mem tri mix

attribute [local go_sem] Oper.semAt_some

theorem infoLP : (Tryd.prog.info? 40).map (fun i => (i.zero, i.size, i.bytes)) = some (some (.agg #[.int .i64 0, .int .i64 0]), 2, 16) := by kernel_rfl
set_option maxHeartbeats 1000000 in
set_option maxRecDepth 100000 in
/-- the function that is handed in: it lays the pair behind those that it has -/
theorem collect_any (B n : Nat) (v : Value) (xs : List Value) (x y : Int) (w : World) (hB : B ≤ w.heap.size) (hn : n ≤ 1048576) (ho : w.ownsRow B 40 2 v n xs) :
    Calls Tryd.prog 37 #[v, .int .i64 x, .int .i64 y] w fun e w' => ∃ v', e = .returned v' ∧ w'.ownsRow B 40 2 v' (n + 1) (xs ++ [.int .i64 x, .int .i64 y]) ∧ ∃ o, (w.alloc o).grownBy w' v.ownBlock := by
  obtain ⟨i0, hi, hz0, hz1, hz2⟩ := info_parts infoLP
  go_enter Tryd.func37, Tryd.ntmps37
  go_wp2_with (at_builtin; refine wpList_append_own _ rfl _ _ 28 rfl B 40 i0 (.agg #[.int .i64 0, .int .i64 0]) 2 16 Tryd.underlying28 hi hz0 hz1 hz2 rfl (by decide) _ _ _ rfl (ho.alloc _) ⟨w.heap.size, 0, none⟩ 1 1 [.int .i64 x, .int .i64 y] rfl rfl (pair_new _ _ _ _) (two_int _ _ _) (by unfold maxLen; omega) (by omega) (by simp; omega) ?_; intro v' w1 hown' hgrow _)
  go_ret
  exact ⟨_, rfl, hown', _, hgrow⟩
/-- the call that is put off finds nothing to recover -/
theorem idle_any (w : World) : CallsDIn Fence.wide 8 Tryd.prog 49 #[] .returning w fun e u' w' => e = .returned (.tuple #[]) ∧ u' = .returning ∧ w' = w := by
  refine callsDIn_of_wpSIn Tryd.func49 rfl trivial fun c₀ cs hu => ?_
  apply wpSIn_region
  simp [wpOpsSIn, go_sem, recoverD, hu, Tryd.ntmps49]
  cases c₀
  simp_all [bodyPostS, results, Tryd.results49]
def FoldPost2 (B N : Nat) (L : List (Int × Int)) (w : World) (e : Ending) (w' : World) : Prop := ∃ r, e = .returned r ∧ w'.ownsRow B 40 2 r N (pairV L) ∧ Below B w w'
set_option maxHeartbeats 1000000 in
set_option maxRecDepth 100000 in
theorem fold_pairs (N cap : Nat) (t : Tr) (p A : Option Addr) (hp : ptr t = .pointer p) (L : List (Int × Int)) (hN : N = L.length) (w : World) (hm : MapOf t L) (hL : Lies w.heap.size w t) (hl : N ≤ 1048576) (B : Nat) (hB0 : B ≤ w.heap.size) (ho : w.ownsRow B 40 2 (.slice A 0 cap) 0 []) :
    Calls Tryd.prog 36 #[.agg #[.pointer p, .int .i64 N], .slice A 0 cap, .func (.func 37) #[] #[]] w (FoldPost2 B N L w) := by
  have hf : Fence.wide.fn 36 := trivial
  have hf3 : Fence.wide.fn 43 := trivial
  obtain ⟨H, hH⟩ : ∃ H, H = w.heap.size := ⟨_, rfl⟩
  have HH := Lib.hid hH
  have HN := Lib.hid hN
  have HP := Lib.hid hp
  have HM := Lib.hid hm
  have HL := Lib.hid hL
  have HO := Lib.hid ho
  clear hN hp hm hL ho
  refine (callsIn_wide (n := 9)).1 ?_
  refine callsIn_of_wp_marks Tryd.func36 rfl hf ?_ rfl
  simp only [Tryd.ntmps36, List.size_toArray, List.length_cons, List.length_nil, Nat.reduceAdd, Nat.reduceSub, Array.replicate_succ, Array.replicate_zero, List.push_toArray, List.append_toArray, List.nil_append, List.cons_append]
  have hmf : ∀ (fn : Fn) (first cap : Array Value) (w : World), (Instr.makeFunc fn first cap).run Tryd.prog w = .ok (.func fn first cap) w := fun _ _ _ _ => rfl
  refine wpIn_wide.2 ?_
  go_wp2_with (go_at_call 21; refine (mall_any t N _ p).mono ?_; rintro e w' ⟨rfl, rfl⟩)
  have e1 : H + 1 + 1 = H + 2 := rfl
  have e2 : H + 1 + 1 + 1 = H + 3 := rfl
  obtain ⟨W, hW⟩ : ∃ W, W = ((((w.alloc (.cells #[.pointer p, .int .i64 N] 26)).alloc (.cells #[.slice A 0 cap] 28)).alloc (.cells #[.func (.func 37) #[] #[]] 51)).alloc (.cells #[.pointer p, .int .i64 N] 26)) := ⟨_, rfl⟩
  rw [← hW, ← hH, e1, e2]
  have b1 : Boxed W (H + 1) 28 (.slice A 0 cap) := by rw [hW]; exact ((Box.new _ _ _ (H + 1) (by rw [hH]; simp)).alloc _).alloc _
  have b2 : Boxed W (H + 2) 51 (.func (.func 37) #[] #[]) := by rw [hW]; exact (Box.new _ _ _ (H + 2) (by rw [hH]; simp)).alloc _
  have b3 : Box W (H + 3) 26 #[.pointer p, .int .i64 N] := by rw [hW]; exact Box.new _ _ _ (H + 3) (by rw [hH]; simp)
  have hBW : Below H w W := by rw [hW, hH]; exact ((((Below.refl _ w).alloc (Nat.le_refl _) _).alloc (by simp) _).alloc (by simp; omega) _).alloc (by simp; omega) _
  have hWz : W.heap.size = H + 4 := by rw [hW, hH]; simp
  have hBH : B ≤ H := by rw [hH]; exact hB0
  have hoW : W.ownsRow B 40 2 (.slice A 0 cap) 0 [] := by rw [hW]; exact (((HO.out.alloc _).alloc _).alloc _).alloc _
  have hLW : Hid (Lies W.heap.size W t) := by show Lies _ _ _; have h := HL.out; rw [← hH] at h; exact (h.below hBW).more (by omega)
  have m0 : W.cell? ⟨H + 3, 0, none⟩ = some (.pointer p) := b3.cell 0
  have m1 : W.cell? ⟨H + 3, 1, none⟩ = some (.int .i64 L.length) := by rw [← HN.out]; exact b3.cell 1
  have HBW := Lib.hid hBW
  have HWZ := Lib.hid hWz
  clear hW hH e1 e2 b3 hBW hWz
  refine (wpIn_wide (n := 9)).1 ?_
  refine wpIn_rangeFunc_ownG rfl (by decide) (gf := 43) (lb := #[.pointer (some ⟨H + 3, 0, none⟩)]) rfl hf3 (enters_of Tryd.func43 (by kernel_rfl) rfl)
    (all_stops 8 (H + 3) (by decide) t p L _ HP.out HM.out (by rw [← HN.out]; exact hl) (by rw [HWZ.out]; omega) m0 m1 hLW.out) (fun h1 h2 => KeepP.trans h1 h2) (fun W' l o o' h1 h2 h3 h4 => KeepP.put (w := W) W' l o o' h1 h2 h3 h4) (Below.refl _ _) (fun _ => rfl)
    (fun (pre : List (Int × Int)) (W' : World) => ((∃ v, Boxed W' (H + 1) 28 v ∧ W'.ownsRow B 40 2 v pre.length (pairV pre) ∧ True) ∧ Boxed W' (H + 2) 51 (.func (.func 37) #[] #[])) ∧ Below B w W')
    (fun _ _ _ => False)
    (OwnFrom.and (OwnFrom.and (Own.from (holdsRow_own B (H + 1) 28 40 2 (fun pre : List (Int × Int) => pre.length) (fun pre => pairV pre) (fun _ _ => True)) _) (Own.from (boxed_own (H + 2) 51 (fun _ : List (Int × Int) => Value.func (.func 37) #[] #[])) _)) (ownFrom_below hB0 (by rw [HWZ.out]; omega)))
    (fun _ _ _ _ _ hs _ _ => hs)
    ⟨⟨⟨_, b1, hoW, trivial⟩, b2⟩, HBW.out.mono hBH⟩
    (fun x => { tmps := #[.agg #[.pointer p, .int .i64 N], .slice A 0 cap, .func (.func 37) #[] #[], .pointer (some ⟨H, 0, none⟩), .pointer (some ⟨H + 1, 0, none⟩), .pointer (some ⟨H + 2, 0, none⟩), .slice none 0 0, .int .i64 x.1, .int .i64 x.2, .agg #[.pointer p, .int .i64 N], .func (.func 43) #[] #[.pointer (some ⟨H + 3, 0, none⟩)], .int .i64 x.1, .int .i64 x.2, undef, undef, undef, undef, undef, undef], defers := [] }) ?assign ?body ?done ?stop
  case assign =>
    intro l x W K hK
    gi_wp2
    exact hK
  case body =>
    rintro l pre x W5 ⟨⟨⟨v, hv, hrow, _⟩, hfb⟩, hB⟩ hlt
    have hpl : pre.length ≤ 1048576 := by have := HN.out; omega
    obtain ⟨A', cap', rfl⟩ := (Sees.of_own hrow).form
    have hc := hv.cell
    have hcf := hfb.cell
    have hz5 := hB.size
    have hB5 : B ≤ W5.heap.size := by omega
    have HV := Lib.hid hv
    have HR := Lib.hid hrow
    have HF := Lib.hid hfb
    obtain ⟨kx, vx⟩ := x
    have HCol := Lib.hid (collect_any B pre.length _ (pairV pre) kx vx W5 hB5 hpl hrow)
    clear m0 m1 b1 b2 hv hrow hfb hoW hlt
    gi_wp2_with (fail)
    refine ⟨trivial, ?_⟩
    refine (CallsIn.inRound l (callsIn_wide.2 HCol.out)).mono ?_
    rintro e w6 ⟨v', rfl, hown', o, hgrow⟩
    obtain ⟨g', cap2, rfl⟩ := ownsRow_succ hown'
    obtain ⟨hv1, hv2, hr2, hk2, hb2⟩ := HV.out.appended (by decide) HR.out hB5 (show B ≤ H + 1 by omega) hown' hgrow
    have hc1 := hv1.cell
    have hf1 := hv1.frozen
    have hkp : KeepP W5 (w6.setCell ⟨H + 1, 0, none⟩ (.slice (some ⟨g', 0, none⟩) (pre.length + 1) cap2)) := ((KeepP.below ((Below.refl _ W5).alloc (Nat.le_refl _) o) (Nat.le_refl _)).trans (KeepP.grown_own (HR.out.alloc o) hgrow (by decide))).trans (KeepP.set (t := 28) hv1 (by decide) 0 _)
    have hfb6 : Boxed w6 (H + 2) 51 (.func (.func 37) #[] #[]) := (HF.out.alloc o).kept hgrow ((HF.out.alloc o).not_row (by decide) (HR.out.alloc o))
    have hfb7 : Boxed (w6.setCell ⟨H + 1, 0, none⟩ (.slice (some ⟨g', 0, none⟩) (pre.length + 1) cap2)) (H + 2) 51 (.func (.func 37) #[] #[]) := Box.far hfb6 (by dsimp only; omega) _
    have HX := Lib.hid (And.intro hv2 (And.intro hr2 (And.intro hk2 (And.intro hkp (And.intro hfb7 (hB.trans hb2))))))
    clear hv1 hv2 hr2 hk2 hb2 hkp hfb6 hfb7 hown' hgrow hc hcf
    gi_wp2_with (fail)
    have e : (pre ++ [(kx, vx)]).length = pre.length + 1 := by simp
    exact ⟨HX.out.2.2.1.from _, HX.out.2.2.2.1, ⟨⟨_, HX.out.1, by rw [e, pairV_snoc]; exact HX.out.2.1, trivial⟩, HX.out.2.2.2.2.1⟩, HX.out.2.2.2.2.2⟩
  case done =>
    rintro D ys W5 hD rfl ⟨⟨⟨v, hv, hrow, _⟩, hfb⟩, hB⟩ hK
    obtain ⟨A', cap', rfl⟩ := (Sees.of_own hrow).form
    have hc := hv.cell
    have HR := Lib.hid hrow
    have HB := Lib.hid hB
    have HK := Lib.hid hK
    clear m0 m1 b1 b2 hv hrow hfb hoW hB hK
    go_wp2_with (fail)
    refine ⟨by simp, .inl ⟨_, _, rfl, run_takeDeferred HK.out, ?_⟩⟩
    refine ⟨by simp, .inr ⟨by simp [Fence.wide], _, _, 49, #[], rfl, by simp [go_sem], fun _ _ => trivial, ?_⟩⟩
    refine (idle_any _).mono ?_
    rintro e u' w'' ⟨rfl, rfl, rfl⟩
    have hz5 := HB.out.size
    have hDB : B ≤ D := by have := HWZ.out; omega
    refine ⟨_, results_tmp rfl _ _ _, _, rfl, ?_, HB.out.trans ((Below.refl B W5).grown (grownBy_putObj' _ D _) (by omega) (fun k e => by cases e; exact hDB))⟩
    rw [HN.out]
    exact ownsRow_putObj HR.out (.deferred none) HK.out rfl
  case stop =>
    rintro D c pre W _ _ h _
    exact h.elim
end Go.Proofs.YtjlbchkdiaomjaaDoor.trie

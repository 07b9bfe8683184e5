/- A map's keys, rising, in new memory. -/
import Derived.Test.YtjlbchkdiaomjaaDoorTrieAll
namespace Go.Proofs.YtjlbchkdiaomjaaDoor.trie
open Go.RowKit Go.Shelf mem tri mix

attribute [local go_sem] Oper.semAt_some

set_option maxRecDepth 100000 in
set_option maxHeartbeats 2000000 in
theorem keys_any (t : Tr) (L : List (Int × Int)) (w : World) (hm : MapOf t L) (hL : Lies w.heap.size w t) (hl : L.length ≤ 1048576) :
    Calls Tryd.prog 18 #[mapV t L.length] w fun e w' => ∃ r, e = .returned r ∧ Got w.heap.size 3 1 L.length (keyV L) r w w' := by
  obtain ⟨i0, hi, hz0, hz1, hz2⟩ := info_parts infoInt
  obtain ⟨p, hp⟩ := ptr_is t
  obtain ⟨N, hN⟩ : ∃ N, N = L.length := ⟨_, rfl⟩
  unfold mapV
  rw [hp]
  rw [← hN] at hl ⊢
  have HN := Lib.hid hN
  have HP := Lib.hid hp
  have HM := Lib.hid hm
  have HL := Lib.hid hL
  clear hN hp hm hL
  have h1 : 1 ≤ 9 := by decide
  have hf : Fence.wide.fn 18 := trivial
  have hf2 : Fence.wide.fn 21 := trivial
  have hf3 : Fence.wide.fn 43 := trivial
  refine (callsIn_wide (n := 9)).1 ?_
  refine callsIn_of_wp_marks Tryd.func18 rfl hf ?_ rfl
  simp only [Tryd.ntmps18, List.size_toArray, List.length_cons, List.length_nil, Nat.reduceAdd, Nat.reduceSub, Array.replicate_succ, Array.replicate_zero, List.push_toArray, List.append_toArray, List.nil_append, List.cons_append]
  obtain ⟨w1, hrun, hown, hgrow⟩ := run_make_own (P := Tryd.prog) (w.alloc (.cells #[.pointer p, .int .i64 N] 26)) w.heap.size 42 3 i0 (.int .i64 0) 1 Tryd.underlying42 hi hz0 hz1 .i64 .i64 N (by rw [hz2]; omega) (by unfold maxLen; omega) (by simp)
  have hb1 := below_grown hgrow
  rw [World.size_alloc] at hrun hown hb1
  have c0 : w1.cell? ⟨w.heap.size, 0, none⟩ = some (.pointer p) := (hb1.cell (p := ⟨w.heap.size, 0, none⟩) (Nat.lt_succ_self _)).trans (cell_new w _ rfl _ _ 0)
  have c1 : w1.cell? ⟨w.heap.size, 1, none⟩ = some (.int .i64 N) := (hb1.cell (p := ⟨w.heap.size, 1, none⟩) (Nat.lt_succ_self _)).trans (cell_new w _ rfl _ _ 1)
  have hbw : Below w.heap.size w w1 := ((Below.refl _ w).alloc (Nat.le_refl _) _).trans (hb1.mono (Nat.le_succ _))
  have hz := hb1.size
  rw [World.size_alloc] at hz
  have hlt1 : w.heap.size < w1.heap.size := hz
  have HOwn := Lib.hid hown
  clear hown hgrow hb1
  gi_wp2_with (gi_at_call 21; refine (callsIn_wide.2 (mall_any t N _ p)).mono ?_; rintro e w' ⟨rfl, rfl⟩)
  have bK := Boxed.new w1 42 (.slice (some ⟨w.heap.size + 1, 0, none⟩) 0 N)
  have hB0 : Below w.heap.size w ((w1.alloc (.cells #[.slice (some ⟨w.heap.size + 1, 0, none⟩) 0 N] 42)).alloc (.cells #[.pointer p, .int .i64 N] 26)) := (hbw.alloc (by omega) _).alloc (by simp; omega) _
  have m0 : ((w1.alloc (.cells #[.slice (some ⟨w.heap.size + 1, 0, none⟩) 0 N] 42)).alloc (.cells #[.pointer p, .int .i64 N] 26)).cell? ⟨w1.heap.size + 1, 0, none⟩ = some (.pointer p) := cell_new _ _ (by simp) _ _ 0
  have m1 : ((w1.alloc (.cells #[.slice (some ⟨w.heap.size + 1, 0, none⟩) 0 N] 42)).alloc (.cells #[.pointer p, .int .i64 N] 26)).cell? ⟨w1.heap.size + 1, 1, none⟩ = some (.int .i64 L.length) := by rw [← HN.out]; exact cell_new _ _ (by simp) _ _ 1
  refine wpIn_rangeFunc_ownG rfl h1 (gf := 43) (lb := #[.pointer (some ⟨w1.heap.size + 1, 0, none⟩)]) rfl hf3 (enters_of Tryd.func43 (by kernel_rfl) rfl)
    (all_stops 8 (w1.heap.size + 1) (by decide) t p L _ HP.out HM.out (by rw [← HN.out]; exact hl) (by simp) m0 m1 ((HL.out.below hB0).more hB0.size)) (fun h1 h2 => KeepP.trans h1 h2) (fun W l o o' h1 h2 h3 h4 => KeepP.put (w := (w1.alloc (.cells #[.slice (some ⟨w.heap.size + 1, 0, none⟩) 0 N] 42)).alloc (.cells #[.pointer p, .int .i64 N] 26)) W l o o' h1 h2 h3 h4) (Below.refl _ _) (fun _ => rfl)
    (fun (pre : List (Int × Int)) (W : World) => (∃ v, Boxed W w1.heap.size 42 v ∧ W.ownsRow w.heap.size 3 1 v pre.length (pre.map fun x => Value.int .i64 x.1) ∧ True) ∧ Below w.heap.size w W)
    (fun _ _ _ => False)
    (OwnFrom.and (Own.from (holdsRow_own w.heap.size w1.heap.size 42 3 1 (fun pre : List (Int × Int) => pre.length) (fun pre => pre.map fun x => Value.int .i64 x.1) (fun _ _ => True)) _) (ownFrom_below (Nat.le_refl _) (by simp; omega)))
    (fun _ _ _ _ _ hs _ _ => hs)
    ⟨⟨_, bK.alloc _, (HOwn.out.alloc _).alloc _, trivial⟩, hB0⟩
    (fun x => { tmps := #[.agg #[.pointer p, .int .i64 N], .pointer (some ⟨w.heap.size, 0, none⟩), .slice none 0 0, .pointer (some ⟨w1.heap.size, 0, none⟩), .int .i64 x.1, .pointer (some ⟨w.heap.size, 1, none⟩), .int .i64 N, .slice (some ⟨w.heap.size + 1, 0, none⟩) 0 N, .agg #[.pointer p, .int .i64 N], .func (.func 43) #[] #[.pointer (some ⟨w1.heap.size + 1, 0, none⟩)], .int .i64 x.1, .int .i64 x.2, undef, undef, undef, undef, undef], defers := [] }) ?assign ?body ?done ?stop
  case assign =>
    intro l x W K hK
    gi_wp2
    exact hK
  case body =>
    rintro l pre x W ⟨⟨v, hv, hrow, _⟩, hB⟩ hlt
    have hpl : pre.length < N := by have := HN.out; omega
    have hc := hv.cell
    have hHV := Lib.hid hv
    have hHR := Lib.hid hrow
    clear m0 m1 c0 c1 bK hB0 hrun
    gi_wp2_with (gi_at_builtin; refine wpListIn_append_own _ rfl _ _ 42 rfl w.heap.size 3 i0 (.int .i64 0) 1 8 Tryd.underlying42 hi hz0 hz1 hz2 rfl (by decide) _ _ _ rfl (hrow.alloc _) ⟨W.heap.size, 0, none⟩ 1 1 [.int .i64 x.1] rfl rfl (cell_one_new _ _ _) (by simp [Value.oneCell']) (by unfold maxLen; omega) (by omega) (by have := hB.size; simp; omega) ?_; intro v' w2 hown' hgrow _; obtain ⟨g', cap', rfl⟩ := ownsRow_succ hown'; obtain ⟨hv1, hv2, hr2, hk2, hb2⟩ := hv.appended (by decide) hrow hB.size (by omega) hown' hgrow; have hc1 := hv1.cell; have hf1 := hv1.frozen)
    have ha := World.ownsRow.alloc hHR.out (.cells #[.int .i64 x.1] 3)
    have hkp : KeepP W (w2.setCell ⟨w1.heap.size, 0, none⟩ (.slice (some ⟨g', 0, none⟩) (pre.length + 1) cap')) := ((KeepP.below ((Below.refl _ W).alloc (Nat.le_refl _) _) (Nat.le_refl _)).trans (KeepP.grown_own ha hgrow (by decide))).trans (KeepP.set (t := 42) hv1 (by decide) 0 _)
    exact ⟨hk2.from _, hkp, ⟨_, hv2, by simpa using hr2, trivial⟩, hB.trans hb2⟩
  case done =>
    rintro D ys W hD rfl ⟨⟨v, hv, hrow, _⟩, hB⟩ hK
    have hc := hv.cell
    clear m0 m1 c0 c1 bK hB0 hrun
    gi_wp2
    refine ⟨by simp, .inl ⟨_, _, rfl, run_takeDeferred hK, ?_⟩⟩
    refine ⟨_, results_tmp rfl _ _ _, v, rfl, ?_, hB.trans (belowK_b (w := w) (Nat.le_refl _) W D _ _ (by simp at hD; omega) hK rfl rfl)⟩
    have h := ownsRow_putObj hrow (.deferred none) hK rfl
    rw [← HN.out] at h
    exact h
  case stop =>
    rintro D c pre W _ _ h _
    exact h.elim
end Go.Proofs.YtjlbchkdiaomjaaDoor.trie

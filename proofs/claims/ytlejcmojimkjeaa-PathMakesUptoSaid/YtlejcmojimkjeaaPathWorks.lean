/- The layer's works() answers true. -/
import Derived.Test.YtlejcmojimkjeaaPathSet
import Derived.Test.YtlejcmojimkjeaaPathFill
import Derived.Test.YtlejcmojimkjeaaValVar
namespace Go.Proofs.Ytlejcmojimkjeaa.vt
open Go.RowKit mem

def tv : VT := .mk 3 0 [.mk 0 1 [], .mk 2 0 [.mk 0 5 [], .mk 0 6 []]]
def ty : VT := .mk 3 0 [.mk 0 9 [], .mk 2 0 [.mk 0 5 [], .mk 0 6 []]]
theorem tv_at : ended (atT tv [(true, 1), (false, 0)]) = (.mk 0 5 [], 0) := rfl
theorem tv_set : setT tv (.mk 0 9 []) [(true, 0)] = (ty, 0) := by
  unfold setT
  rw [show atT tv [(true, 0)] = some (.mk 0 1 []) from rfl]
  simp only
  rw [show withT (.mk 0 9 []) tv [(true, 0)] = ty from rfl]
  unfold fitsT
  rw [if_pos (by decide +kernel)]
theorem tv_fill : fillT (-1) (.mk 0 5 []) = (zeroT, 3) := rfl
theorem i64_small (k n : Int) (l : List VT) (hk : -100 ≤ k ∧ k ≤ 100) (hn : -100 ≤ n ∧ n ≤ 100) : I64 (VT.mk k n l).kind ∧ I64 (VT.mk k n l).num := by
  simp only [VT.kind, VT.num, I64]; omega
theorem ways_two_new (w : World) (a b : Bool) (n m : Int) (hn : I64 n) (hm : I64 m) : Ways (fun _ => True) (w.alloc (.cells #[.bool a, .int .i64 n, .bool b, .int .i64 m] TWay)) [(a, n), (b, m)] (.slice (some ⟨w.heap.size, 0, none⟩) 2 2) := by
  have hb := Box.new w TWay #[.bool a, .int .i64 n, .bool b, .int .i64 m] _ rfl
  refine ⟨_, 2, rfl, by simp, fun _ => ⟨w.heap.size, 0, rfl, trivial, fun k hk => ?_⟩⟩
  match k, hk with
  | 0, _ => exact ⟨hn, hb.cell 0, hb.cell 1⟩
  | 1, _ => exact ⟨hm, hb.cell 2, hb.cell 3⟩
  | k + 2, h => exact absurd h (by simp)
theorem ways_one_new (w : World) (a : Bool) (n : Int) (hn : I64 n) : Ways (fun _ => True) (w.alloc (.cells #[.bool a, .int .i64 n] TWay)) [(a, n)] (.slice (some ⟨w.heap.size, 0, none⟩) 1 1) := by
  have hb := Box.new w TWay #[.bool a, .int .i64 n] _ rfl
  refine ⟨_, 1, rfl, by simp, fun _ => ⟨w.heap.size, 0, rfl, trivial, fun k hk => ?_⟩⟩
  match k, hk with
  | 0, _ => exact ⟨hn, hb.cell 0, hb.cell 1⟩
  | k + 1, h => exact absurd h (by simp)
theorem below_new (w : World) (o : Obj) : Below w.heap.size w (w.alloc o) := (Below.refl _ _).alloc (Nat.le_refl _) _
theorem tv_new (w : World) : Kids (fun _ => True) ((w.alloc (.cells #[.int .i64 0, .int .i64 5, .slice none 0 0, .int .i64 0, .int .i64 6, .slice none 0 0] TV)).alloc (.cells #[.int .i64 0, .int .i64 1, .slice none 0 0, .int .i64 2, .int .i64 0, .slice (some ⟨w.heap.size, 0, none⟩) 2 2] TV)) tv.kids (.slice (some ⟨w.heap.size + 1, 0, none⟩) 2 2) := by
  have h1 := kids_two w (u := .mk 0 5 []) (v := .mk 0 6 []) (i64_small _ _ _ (by omega) (by omega)) (i64_small _ _ _ (by omega) (by omega)) (Kids.nil_ _ _) (Kids.nil_ _ _)
  have h2 := kids_two (w.alloc (.cells #[.int .i64 0, .int .i64 5, .slice none 0 0, .int .i64 0, .int .i64 6, .slice none 0 0] TV)) (u := .mk 0 1 []) (v := .mk 2 0 [.mk 0 5 [], .mk 0 6 []]) (i64_small _ _ _ (by omega) (by omega)) (i64_small _ _ _ (by omega) (by omega)) (Kids.nil_ _ _) h1
  rw [World.size_alloc] at h2
  exact h2
theorem tv_lens : tv.lens := lens_small _ (by decide +kernel)
set_option maxHeartbeats 2000000 in
set_option maxRecDepth 100000 in
theorem works_any (w : World) : Calls Try.prog 6 #[] w fun e w' => e = .returned (.bool true) ∧ Below w.heap.size w w' := by
  go_enter Try.func6, Try.ntmps6
  go_wp2_with (fail)
  obtain ⟨W0, hW0⟩ : ∃ W0, W0 = (w.alloc (.cells #[.int .i64 0, .int .i64 5, .slice none 0 0, .int .i64 0, .int .i64 6, .slice none 0 0] TV)).alloc (.cells #[.int .i64 0, .int .i64 1, .slice none 0 0, .int .i64 2, .int .i64 0, .slice (some ⟨w.heap.size, 0, none⟩) 2 2] TV) := ⟨_, rfl⟩
  have hz0 : W0.heap.size = w.heap.size + 2 := by rw [hW0]; simp
  have hk0 : Kids (fun _ => True) W0 tv.kids (.slice (some ⟨w.heap.size + 1, 0, none⟩) 2 2) := by rw [hW0]; exact tv_new w
  have hB0 : Below w.heap.size w W0 := by rw [hW0]; exact (below_new _ _).alloc (by simp) _
  have e2 : w.heap.size + 1 + 1 = w.heap.size + 2 := rfl
  rw [← hW0, e2]
  have hv0 := VarIs.new (t := tv) (w.heap.size + 2) hz0.symm hk0
  have hb1 := below_new W0 (.cells #[.int .i64 tv.kind, .int .i64 tv.num, .slice (some ⟨w.heap.size + 1, 0, none⟩) 2 2] TV)
  have hw1 := ways_two_new (W0.alloc (.cells #[.int .i64 3, .int .i64 0, .slice (some ⟨w.heap.size + 1, 0, none⟩) 2 2] TV)) true false 1 0 (by unfold I64; omega) (by unfold I64; omega)
  have hb2 := below_new (W0.alloc (.cells #[.int .i64 3, .int .i64 0, .slice (some ⟨w.heap.size + 1, 0, none⟩) 2 2] TV)) (.cells #[.bool true, .int .i64 1, .bool false, .int .i64 0] TWay)
  rw [World.size_alloc, hz0] at hw1
  have hBV := hb1.trans (hb2.mono (by simp))
  have hv1 := hv0.below hb2
  refine (at_any tv _ [(true, 1), (false, 0)] _ _ (i64_small _ _ _ (by omega) (by omega)) (hk0.below hBV) hw1).mono ?_
  rw [tv_at]
  rintro e w1 ⟨s1, he, hk1, hB1⟩
  obtain ⟨A1, c1, rfl, _⟩ := hk1.form
  obtain rfl : e = .returned (.tuple #[.agg #[.int .i64 0, .int .i64 5, .slice A1 0 c1], .int .i64 0]) := he
  have hv2 := hv1.below hB1
  have hBw1 := (hB0.trans (hBV.mono (by omega))).trans (hB1.mono (by simp; omega))
  have HV2 := Lib.hid hv2
  have HBW := Lib.hid hBw1
  have HK1 := Lib.hid hk1
  obtain ⟨⟨a0, a1, a2⟩, _, hzv⟩ := hv2
  change w1.cell? ⟨w.heap.size + 2, 0, none⟩ = some (.int .i64 3) at a0
  change w1.cell? ⟨w.heap.size + 2, 1, none⟩ = some (.int .i64 0) at a1
  clear hW0 hz0 hk0 hB0 e2 hv0 hb1 hw1 hb2 hBV hv1 hB1 hBw1 hk1
  go_wp2_with (fail)
  clear a0 a1 a2
  have hn3 := below_new w1 (.cells #[.int .i64 0, .int .i64 5, .slice A1 0 c1] TV)
  have hx3 := VarIs.new (t := .mk 0 5 []) w1.heap.size rfl HK1.out
  have hv3 := HV2.out.below hn3
  have hw3 := ways_one_new (w1.alloc (.cells #[.int .i64 0, .int .i64 5, .slice A1 0 c1] TV)) true 0 (by unfold I64; omega)
  have hn4 := below_new (w1.alloc (.cells #[.int .i64 0, .int .i64 5, .slice A1 0 c1] TV)) (.cells #[.bool true, .int .i64 0] TWay)
  have hv4 := hv3.below hn4
  have hx4 := VarIs.below (t := .mk 0 5 []) hx3 hn4
  rw [World.size_alloc] at hw3
  refine (set_any tv (.mk 0 9 []) _ _ [(true, 0)] _ _ (i64_small _ _ _ (by omega) (by omega)) (i64_small _ _ _ (by omega) (by omega)) tv_lens hv4.2.1 (Kids.nil_ _ _) hw3).mono ?_
  rw [tv_set]
  rintro e w2 ⟨s2, he, hk2, hB2⟩
  obtain ⟨A2, c2, rfl, _⟩ := hk2.form
  obtain rfl : e = .returned (.tuple #[.agg #[.int .i64 3, .int .i64 0, .slice A2 2 c2], .int .i64 0]) := he
  have hv5 := hv4.below hB2
  have hx5 := VarIs.below (t := .mk 0 5 []) hx4 hB2
  have HBX := Lib.hid ((HBW.out.trans ((hn3.trans (hn4.mono (by simp))).mono HBW.out.size)).trans (hB2.mono (by have := HBW.out.size; simp; omega)))
  have HV5 := Lib.hid hv5
  have HX5 := Lib.hid hx5
  have HK2 := Lib.hid hk2
  clear hn3 hx3 hv3 hw3 hn4 hv4 hx4 hk2 hB2 HV2 HBW HK1 hzv
  obtain ⟨⟨x0, x1, x2⟩, _, hzx⟩ := hx5
  change w2.cell? ⟨w1.heap.size, 0, none⟩ = some (.int .i64 0) at x0
  change w2.cell? ⟨w1.heap.size, 1, none⟩ = some (.int .i64 5) at x1
  go_wp2_with (fail)
  clear x0 x1 x2
  have hn6 := below_new w2 (.cells #[.int .i64 3, .int .i64 0, .slice A2 2 c2] TV)
  have hy6 := VarIs.new (t := ty) w2.heap.size rfl HK2.out
  have hv6 := HV5.out.below hn6
  have hx6 := VarIs.below (t := .mk 0 5 []) HX5.out hn6
  refine (fill_any (-1) (.mk 0 5 []) _ _ (i64_small _ _ _ (by omega) (by omega)) hx6.2.1).mono ?_
  rw [tv_fill]
  rintro e w3 ⟨s3, he, hk3, hB3⟩
  obtain ⟨A3, c3, rfl, _⟩ := hk3.form
  obtain rfl : e = .returned (.tuple #[.agg #[.int .i64 0, .int .i64 0, .slice A3 0 c3], .int .i64 3]) := he
  have hn7 := below_new w3 (.cells #[.int .i64 0, .int .i64 0, .slice A3 0 c3] TV)
  have hv7 := hv6.below hB3
  have hx7 := VarIs.below (t := .mk 0 5 []) hx6 hB3
  have hy7 := VarIs.below (t := ty) hy6 hB3
  have HBY := Lib.hid ((HBX.out.trans ((hn6.trans (hB3.mono (by simp))).mono HBX.out.size)).trans (hn7.mono (by have := HBX.out.size; have := hB3.size; simp at this; omega)))
  have HV8 := Lib.hid (hv7.below hn7)
  obtain ⟨⟨x0, x1, x2⟩, _, hzx⟩ := hx7
  obtain ⟨⟨y0, y1, y2⟩, hky, hzy⟩ := hy7
  obtain ⟨⟨v0, v1, v2⟩, _, hzv⟩ := hv7
  obtain ⟨b, off, cy, hs, _, ⟨_, _, k0, k1, sk, k2, _⟩⟩ := hky.at_ 0 (by decide)
  injection hs with hA hL hC
  subst hA
  subst hC
  have hbz := World.block_lt_of_cell? _ _ k1
  change w3.cell? ⟨w1.heap.size, 1, none⟩ = some (.int .i64 5) at x1
  change w3.cell? ⟨w2.heap.size, 2, none⟩ = some (.slice (some ⟨b, off, none⟩) 2 c2) at y2
  change w3.cell? ⟨w.heap.size + 2, 0, none⟩ = some (.int .i64 3) at v0
  change w3.cell? ⟨w.heap.size + 2, 1, none⟩ = some (.int .i64 0) at v1
  change w3.cell? ⟨b, off + 0 * 3 + 1, none⟩ = some (.int .i64 9) at k1
  rw [Nat.zero_mul, Nat.add_zero] at k1
  dsimp only at hbz
  have HLN := Lib.hid (len_any tv _ _ HV8.out.2.1)
  change Hid (Calls Try.prog 19 #[.agg #[.int .i64 3, .int .i64 0, .slice (some ⟨w.heap.size + 1, 0, none⟩) 2 2]] _ fun e w' => e = .returned (.int .i64 0) ∧ _) at HLN
  clear hn6 hy6 hv6 hx6 hk3 hB3 hn7 HV5 HX5 HK2 HBX hky x0 x2 y0 y1 k0 k2 hL hv5 HV8
  go_wp2_with (go_at_call 19; refine HLN.out.mono ?_; rintro e w4 ⟨rfl, hb4⟩)
  go_ret
  exact ⟨rfl, HBY.out.trans (hb4.mono (by have := HBY.out.size; omega))⟩
end Go.Proofs.Ytlejcmojimkjeaa.vt

/- A value with another one where steps lead: the document's way, where the array of the steps goes on. -/
import Derived.Test.YtlejcmojimkjeaaPathWithA
namespace Go.Proofs.Ytlejcmojimkjeaa.vt
open Go.RowKit mem

set_option maxHeartbeats 2000000 in
set_option maxRecDepth 100000 in
theorem rwith_two (wy : Way) (r : List Way) (ih : RWith r) (G G' : Nat → Prop) (t x : VT) (s xs : Value) (b off L cap : Nat) (w : World) (hb : b < w.heap.size) (hL1 : 1 ≤ L) (hL2 : L ≤ cap) (hL3 : cap ≤ 9223372036854775807) (hc1 : cap ≠ 1) (hi : I64 t.kind ∧ I64 t.num) (hix : I64 x.kind ∧ I64 x.num) (hlen : t.lens) (hat : ∃ u, atT t (wy :: r) = some u) (h : Kids G w t.kids s) (hx : Kids G w x.kids xs) (hw : Ways G' w (wy :: r) (.slice (some ⟨b, off, none⟩) L cap))
    (hiy : I64 wy.2) (c0 : w.cell? ⟨b, off, none⟩ = some (.bool wy.1)) (c1 : w.cell? ⟨b, off + 1, none⟩ = some (.int .i64 wy.2)) :
    Calls Try.prog 25 #[.agg #[.int .i64 t.kind, .int .i64 t.num, s], .agg #[.int .i64 x.kind, .int .i64 x.num, xs], .slice (some ⟨b, off, none⟩) L cap] w (WithPost G (withT x t (wy :: r)) w) := by
  obtain ⟨ut, hut⟩ := hat
  rw [atT] at hut
  have hn : leadsB t wy = true := by
    by_cases hn : leadsB t wy = true
    · exact hn
    · rw [if_neg hn] at hut; cases hut
  rw [if_pos hn] at hut
  obtain ⟨j, hj, hj2, hkt⟩ := kid_way hn
  have hll := lens_kids hlen
  have HLK : Hid ((kidT t wy).lens) := Lib.hid (lens_at [wy] t _ hlen (by rw [atT, if_pos hn, atT]))
  obtain ⟨y, hy⟩ : ∃ y, y = withT x (kidT t wy) r := ⟨_, rfl⟩
  obtain ⟨KL, hKL⟩ : ∃ KL, KL = t.kids.set j y := ⟨_, rfl⟩
  have hres : withT x t (wy :: r) = .mk t.kind t.num KL := by rw [withT_cons, hKL, hy, show wy.2.toNat = j by omega]
  rw [hres]
  have HKL := Lib.hid hKL
  have HY := Lib.hid hy
  obtain ⟨A2, cp2, rfl, hul⟩ := h.form
  obtain ⟨A3, cp3, rfl, hul3⟩ := hx.form
  have HW := Lib.hid hw
  have HK := Lib.hid h
  have HXK := Lib.hid hx
  obtain ⟨N, hN⟩ : ∃ N, N = t.kids.length := ⟨_, rfl⟩
  obtain ⟨M3, hM3⟩ : ∃ M3, M3 = x.kids.length := ⟨_, rfl⟩
  have HN := Lib.hid hN
  rw [← hN] at hj hll HK hul ⊢
  rw [← hM3] at HXK ⊢
  rw [hj2] at c1
  have HI := Lib.hid hi
  have HIX := Lib.hid hix
  have HWY := Lib.hid hj2
  clear h hx hw hlen hi hix hN hM3 hy hKL hres hul3 hiy
  have hL0 : ((L : Int) == 0) = false := by simp; omega
  go_enter Try.func25, Try.ntmps25
  go_wp2
  obtain ⟨W, hW⟩ : ∃ W, W = (((w.alloc (.cells #[.int .i64 t.kind, .int .i64 t.num, .slice A2 N cp2] TV)).alloc (.cells #[.int .i64 x.kind, .int .i64 x.num, .slice A3 M3 cp3] TV)).alloc (.cells #[.int .i64 0, .int .i64 0, .slice none 0 0] TV)).alloc (.cells #[.int .i64 t.kind, .int .i64 t.num, .slice none 0 0] TV) := ⟨_, rfl⟩
  have X0 : Hid (Box W w.heap.size TV #[.int .i64 t.kind, .int .i64 t.num, .slice A2 N cp2] ∧ Box W (w.heap.size + 1) TV #[.int .i64 x.kind, .int .i64 x.num, .slice A3 M3 cp3] ∧ Box W (w.heap.size + 2) TV zero3 ∧ Box W (w.heap.size + 3) TV #[.int .i64 t.kind, .int .i64 t.num, .slice none 0 0]) :=
    Lib.hid (by rw [hW]; exact ⟨(((Box.new _ _ _ _ rfl).alloc _).alloc _).alloc _, ((Box.new _ _ _ _ (by simp)).alloc _).alloc _, (Box.new _ _ _ _ (by simp)).alloc _, Box.new _ _ _ _ (by simp)⟩)
  have XB : Hid (Below w.heap.size w W) := Lib.hid (by rw [hW]; exact ((((Below.refl w.heap.size w).alloc (Nat.le_refl _) _).alloc (by simp) _).alloc (by simp; omega) _).alloc (by simp; omega) _)
  have e2 : w.heap.size + 1 + 1 = w.heap.size + 2 := rfl
  have e3 : w.heap.size + 2 + 1 = w.heap.size + 3 := rfl
  rw [← hW, e2, e3]
  clear hW e2 e3
  go_loopw [8] (fun i wr => WithRel G w t x (.slice A2 N cp2) (.slice A3 M3 cp3) KL N i wr) (fun i _ => N - (intOf i).toNat)
  case atStart => unfold WithRel; exact ⟨0, .slice none 0 0, [], Nat.zero_le _, rfl, X0.out, World.ownsRow_nil _ _ _ _, by rw [List.take_zero, Vals], XB.out⟩
  case round =>
    obtain ⟨k, so, vs, hk, rfl, ⟨B0, B1, B2, B3⟩, HO, HV, HB⟩ := hrel
    have a2 : wr.cell? ⟨w.heap.size, 2, none⟩ = some (.slice A2 N cp2) := B0.cell 2
    have hz := B3.lt
    by_cases hlt : k < N
    · have c1r : wr.cell? ⟨b, off + 1, none⟩ = some (.int .i64 j) := (HB.cell (p := ⟨b, off + 1, none⟩) hb).trans c1
      have hbr : b < wr.heap.size := by omega
      have hkl : k < t.kids.length := by have := HN.out; omega
      have hKK := HK.out
      rw [HN.out] at hKK
      by_cases hkj : k = j
      · subst hkj
        obtain ⟨b2, off2, cp2', hs2, hG, i1, i2, k0, k1, s', k2, hkk⟩ := hKK.at_ k hkl
        injection hs2 with hA hL hC
        subst hA
        subst hC
        clear hL hKK
        have hb2 : b2 < w.heap.size := World.block_lt_of_cell? _ _ k0
        obtain ⟨A4, cp4, rfl, hul4⟩ := hkk.form
        have hutk : ∃ ut, atT t.kids[k] r = some ut := ⟨ut, by rw [← hkt]; exact hut⟩
        have HIa := Lib.hid (fun ws' w' (hb' : Below w.heap.size w w') (hw' : Ways G' w r ws') => ih (fun b => G b ∧ b < w.heap.size) G' t.kids[k] x _ (.slice A3 M3 cp3) ws' w' ⟨i1, i2⟩ HIX.out (by rw [← hkt]; exact HLK.out) hutk (hkk.lt.below hb') (HXK.out.lt.below hb') (hw'.below hb'))
        have hyt : y = withT x t.kids[k] r := by rw [HY.out, hkt]
        rw [← hyt] at HIa
        have HYI : Hid (I64 y.kind ∧ I64 y.num) := Lib.hid (by rw [hyt]; exact with_i64 HIX.out ⟨i1, i2⟩)
        obtain ⟨u, hu⟩ : ∃ u, u = t.kids[k] := ⟨_, rfl⟩
        rw [← hu] at i1 i2 k0 k1 k2 hkk HIa
        have z0 := (HB.cell (p := ⟨b2, off2 + k * 3, none⟩) hb2).trans k0
        have z1 := (HB.cell (p := ⟨b2, off2 + k * 3 + 1, none⟩) hb2).trans k1
        have z2 := (HB.cell (p := ⟨b2, off2 + k * 3 + 2, none⟩) hb2).trans k2
        have d2 : wr.cell? ⟨w.heap.size + 3, 2, none⟩ = some so := B3.cell 2
        have f2 := B3.frozen 2
        have g0 : wr.cell? ⟨w.heap.size + 1, 0, none⟩ = some (.int .i64 x.kind) := B1.cell 0
        have g1 : wr.cell? ⟨w.heap.size + 1, 1, none⟩ = some (.int .i64 x.num) := B1.cell 1
        have g2 : wr.cell? ⟨w.heap.size + 1, 2, none⟩ = some (.slice A3 M3 cp3) := B1.cell 2
        obtain ⟨M4, hM4⟩ : ∃ M4, M4 = u.kids.length := ⟨_, rfl⟩
        rw [← hM4] at z2 HIa
        have x1 : (k : Int) < (N : Int) := by omega
        have x2 : (0 : Int) ≤ (k : Int) := by omega
        obtain ⟨i0, hi0, hz0, hz1', hz2⟩ := info_parts infoV
        have h1c : Hid (∀ a b A n c, ∀ q ∈ [Value.int .i64 a, .int .i64 b, .slice A n c], q.oneCell' = true) := Lib.hid (by intro a b A n c q hq; simp at hq; rcases hq with rfl | rfl | rfl <;> rfl)
        have HTK : Hid (KL.take (k + 1) = KL.take k ++ [y]) := Lib.hid (by rw [HKL.out, List.take_succ_eq_append_getElem (by rw [List.length_set]; exact hkl), List.getElem_set_self])
        have HOO := Lib.hid HO
        have HVV := Lib.hid HV
        have HBB := Lib.hid HB
        have HCW : Hid (Below w.heap.size w wr.drew) := Lib.hid HB.drew
        have hCS : ∀ w', Below wr.heap.size wr w' → (w'.cell? ⟨w.heap.size, 2, none⟩ = some (.slice (some ⟨b2, off2, none⟩) N cp2) ∧ w'.cell? ⟨w.heap.size + 1, 0, none⟩ = some (.int .i64 x.kind) ∧ w'.cell? ⟨w.heap.size + 1, 1, none⟩ = some (.int .i64 x.num) ∧ w'.cell? ⟨w.heap.size + 1, 2, none⟩ = some (.slice A3 M3 cp3)) ∧ w'.cell? ⟨b2, off2 + k * 3, none⟩ = some (.int .i64 u.kind) ∧ w'.cell? ⟨b2, off2 + k * 3 + 1, none⟩ = some (.int .i64 u.num) ∧ w'.cell? ⟨b2, off2 + k * 3 + 2, none⟩ = some (.slice A4 M4 cp4) := fun w' h =>
          ⟨⟨(B0.on h).cell 2, (B1.on h).cell 0, (B1.on h).cell 1, (B1.on h).cell 2⟩, (h.cell (p := ⟨b2, _, none⟩) (by dsimp only; omega)).trans z0, (h.cell (p := ⟨b2, _, none⟩) (by dsimp only; omega)).trans z1, (h.cell (p := ⟨b2, _, none⟩) (by dsimp only; omega)).trans z2⟩
        have hn1 : ¬ w.heap.size + 3 = b2 := by omega
        have hn2 : ¬ b2 = w.heap.size + 3 := by omega
        have HON : Hid (∀ w', Below wr.heap.size wr w' → (Box w' w.heap.size TV (boxV t (.slice (some ⟨b2, off2, none⟩) N cp2)) ∧ Box w' (w.heap.size + 1) TV (boxV x (.slice A3 M3 cp3)) ∧ Box w' (w.heap.size + 2) TV zero3 ∧ Box w' (w.heap.size + 3) TV #[.int .i64 t.kind, .int .i64 t.num, so]) ∧ w'.ownsRow (w.heap.size + 4) TV 3 so k vs ∧ ((w'.cell? ⟨w.heap.size, 2, none⟩ = some (.slice (some ⟨b2, off2, none⟩) N cp2) ∧ w'.cell? ⟨w.heap.size + 1, 0, none⟩ = some (.int .i64 x.kind) ∧ w'.cell? ⟨w.heap.size + 1, 1, none⟩ = some (.int .i64 x.num) ∧ w'.cell? ⟨w.heap.size + 1, 2, none⟩ = some (.slice A3 M3 cp3)) ∧ w'.cell? ⟨b2, off2 + k * 3, none⟩ = some (.int .i64 u.kind) ∧ w'.cell? ⟨b2, off2 + k * 3 + 1, none⟩ = some (.int .i64 u.num) ∧ w'.cell? ⟨b2, off2 + k * 3 + 2, none⟩ = some (.slice A4 M4 cp4))) := Lib.hid fun w' h => ⟨⟨B0.on h, B1.on h, B2.on h, B3.on h⟩, own_below HO h, hCS w' h⟩
        have hbz := HB.size
        clear hCS k0 k1 k2 hkk hu hM4 B0 B1 B2 B3 HV HO HB hyt hutk hkt hut
        have HIw := Lib.hid (fun w' hb => HIa.out _ w' hb (ways_tail HW.out hc1))
        clear HIa
        have hcc : (1 : Int) ≤ (L : Int) := by omega
        have hcd : (1 : Int) ≤ (cap : Int) := by omega
        go_wp2_with (fail)
        go_region_law (first
          | (refine step_append_lies _ (by rfl) (.tmp 32) (.tmp 42) 22 (by rfl) (w.heap.size + 4) TV i0 (.agg #[.int .i64 0, .int .i64 0, .slice none 0 0]) 3 40 Try.underlying22 hi0 hz0 hz1' hz2 (by rfl) (by decide) so k vs (by rfl) (ho1.alloc _) ⟨w1.heap.size, 0, none⟩ 1 1 [.int .i64 y.kind, .int .i64 y.num, .slice A5 y.kids.length cp5] (by rfl) (by rfl) (World.news_of_block (heap_alloc_new w1 _)) (h1c.out _ _ _ _ _) (by decide) (by unfold maxLen; omega) (by omega) (by simp; omega) (w1.heap.size + 1) (by simp) ?_; intro g cap3 w3 hown hgrow hat hlt3; have hb3 := (b3'.alloc _).grown hgrow (fun e => by have := (ho1.lt _ e.symm).1; omega); have q2 : w3.cell? ⟨w.heap.size + 3, 2, none⟩ = some so := hb3.cell 2; have fq := hb3.frozen 2)
          | (go_simp; go_at_call 25; (with_reducible refine (HIw.out _ HCW.out).mono ?_); rintro e w1 ⟨s5, rfl, hk5, hb5⟩; have hb1 : Below wr.heap.size wr w1 := (Below.refl _ wr).drew.trans hb5; obtain ⟨A5, cp5, rfl, _⟩ := hk5.form; obtain ⟨⟨b0', b1', b2', b3'⟩, ho1, ⟨s1, s2, s3, s4⟩, s5, s6, s7⟩ := HON.out w1 hb1; have hz1 := hb1.size; have y2 : w1.cell? ⟨w.heap.size + 3, 2, none⟩ = some so := b3'.cell 2; have fy := b3'.frozen 2; have hlt1 := b3'.lt))
        all_goals
          have HNX := Lib.hid (with_next hlt ⟨b0', b1', b2', b3'⟩ ho1 (HVV.out.below hb1) (HBB.out.trans (hb1.mono HBB.out.size)) HTK.out HYI.out
            (hk5.mono fun b hb => ⟨by rcases hb with h | h; exact .inl h; exact .inr (by simp at h; omega), fun e => by have h5 := HOO.out.lt _ e.symm; rcases hb with h | h; omega; (simp at h; omega)⟩) hown ((Below.refl _ _).alloc (Nat.le_refl _) _) hgrow (hat.imp id fun h => by omega))
          clear hown hgrow hat hb3 y2 fy q2 fq z0 z1 z2 d2 f2 a2 b0' b1' b2' b3' ho1 s1 s2 s3 s4 s5 s6 s7 hk5 hb5 hb1 g0 g1 g2
          go_wp2
          go_roundw
          case rel => exact HNX.out _ (by go_num)
          case measure => simp [intOf]; omega
      · have hkj' : ((k : Int) == (j : Int)) = false := by simp; omega
        obtain ⟨b2, off2, cp2', hs2, hG, i1, i2, k0, k1, s', k2, hkk⟩ := hKK.at_ k hkl
        injection hs2 with hA hL hC
        subst hA
        subst hC
        clear hL hKK
        have hb2 : b2 < w.heap.size := World.block_lt_of_cell? _ _ k0
        obtain ⟨A4, cp4, rfl, hul4⟩ := hkk.form
        obtain ⟨u, hu⟩ : ∃ u, u = t.kids[k] := ⟨_, rfl⟩
        rw [← hu] at i1 i2 k0 k1 k2 hkk
        have z0 := (HB.cell (p := ⟨b2, off2 + k * 3, none⟩) hb2).trans k0
        have z1 := (HB.cell (p := ⟨b2, off2 + k * 3 + 1, none⟩) hb2).trans k1
        have z2 := (HB.cell (p := ⟨b2, off2 + k * 3 + 2, none⟩) hb2).trans k2
        have d2 : wr.cell? ⟨w.heap.size + 3, 2, none⟩ = some so := B3.cell 2
        have f2 := B3.frozen 2
        have HKU := Lib.hid (hkk.lt.below HB)
        obtain ⟨M4, hM4⟩ : ∃ M4, M4 = u.kids.length := ⟨_, rfl⟩
        rw [← hM4] at z2 HKU
        have x1 : (k : Int) < (N : Int) := by omega
        have x2 : (0 : Int) ≤ (k : Int) := by omega
        obtain ⟨i0, hi0, hz0, hz1, hz2⟩ := info_parts infoV
        have h1c : Hid (∀ q ∈ [Value.int .i64 u.kind, .int .i64 u.num, .slice A4 M4 cp4], q.oneCell' = true) := Lib.hid (by intro q hq; simp at hq; rcases hq with rfl | rfl | rfl <;> rfl)
        have HOO := Lib.hid HO
        have HVV := Lib.hid HV
        have HBB := Lib.hid HB
        have HBX := Lib.hid (And.intro B0 (And.intro B1 (And.intro B2 B3)))
        have HTK : Hid (KL.take (k + 1) = KL.take k ++ [u]) := Lib.hid (by rw [HKL.out, hu, List.take_succ_eq_append_getElem (by rw [List.length_set]; exact hkl), List.getElem_set_ne (fun e => hkj e.symm)])
        have hbz := HB.size
        clear k0 k1 k2 hkk hu hM4 B0 B1 B2 B3 HV HO HB
        go_wp2_with (fail)
        go_region_law (first | (refine step_append_lies _ (by rfl) (.tmp 46) (.tmp 52) 22 (by rfl) (w.heap.size + 4) TV i0 (.agg #[.int .i64 0, .int .i64 0, .slice none 0 0]) 3 40 Try.underlying22 hi0 hz0 hz1 hz2 (by rfl) (by decide) so k vs (by rfl) ((HOO.out.alloc _).drew) ⟨wr.heap.size, 0, none⟩ 1 1 [.int .i64 u.kind, .int .i64 u.num, .slice A4 M4 cp4] (by rfl) (by rfl) (World.news_of_block (heap_alloc_new wr _)) h1c.out (by decide) (by unfold maxLen; omega) (by omega) (by simp; omega) (wr.heap.size + 1) (by simp) ?_; intro g cap3 w3 hown hgrow hat hlt3; have hb3 := ((HBX.out.2.2.2.alloc _).drew).grown hgrow (fun e => by have := (HOO.out.lt _ e.symm).1; omega); have y2 : w3.cell? ⟨w.heap.size + 3, 2, none⟩ = some so := hb3.cell 2; have fy := hb3.frozen 2))
        all_goals
          have HNX := Lib.hid (with_next hlt HBX.out HOO.out HVV.out HBB.out HTK.out ⟨i1, i2⟩ (HKU.out.mono fun b hb => ⟨.inl hb, fun e => by have := (HOO.out.lt _ e.symm).1; have := hb.2; omega⟩) hown (((Below.refl _ _).alloc (Nat.le_refl _) _).drew) hgrow (hat.imp id fun h => by omega))
          clear hown hgrow hat hb3 y2 fy z0 z1 z2 d2 f2 a2
          go_wp2
          go_roundw
          case rel => exact HNX.out _ (by go_num)
          case measure => simp [intOf]; omega
    · have hz2 := B2.lt
      have d0 : wr.cell? ⟨w.heap.size + 3, 0, none⟩ = some (.int .i64 t.kind) := B3.cell 0
      have d1 : wr.cell? ⟨w.heap.size + 3, 1, none⟩ = some (.int .i64 t.num) := B3.cell 1
      have d2 : wr.cell? ⟨w.heap.size + 3, 2, none⟩ = some so := B3.cell 2
      have r0 : wr.cell? ⟨w.heap.size + 2, 0, none⟩ = some (.int .i64 0) := B2.cell 0
      have r1 : wr.cell? ⟨w.heap.size + 2, 1, none⟩ = some (.int .i64 0) := B2.cell 1
      have r2 : wr.cell? ⟨w.heap.size + 2, 2, none⟩ = some (.slice none 0 0) := B2.cell 2
      have f0 := B2.frozen 0
      have f1 := B2.frozen 1
      have f2 := B2.frozen 2
      have hKN : N = KL.length := by rw [HN.out, HKL.out, List.length_set]
      have hTK : KL.take k = KL := List.take_of_length_le (by omega)
      have hkN : k = KL.length := by omega
      have hOWN : Own (w.heap.size + 4) (fun b => ((G b ∧ b < w.heap.size) ∨ w.heap.size + 4 ≤ b) ∧ some b ≠ so.ownBlock) wr KL so := ⟨vs, by rwa [hTK] at HV, by rwa [hkN] at HO⟩
      have HOWN := Lib.hid hOWN
      have HBB := Lib.hid HB
      obtain ⟨Ao, co, rfl⟩ := own_form HO
      clear B0 B1 B2 B3 HO HV HB hOWN hTK hkN hKN
      go_wp2
      refine bodyPost_ret (v := .agg #[.int .i64 t.kind, .int .i64 t.num, .slice Ao k co]) (by simp [results, Try.results25, go_sem, r0, r1, r2]) rfl ?_
      refine ⟨_, rfl, ?_, below_told HBB.out (by omega)⟩
      exact (own_told HOWN.out (by omega) (fun c hc => by rcases hc.1 with h | h <;> omega)).kids (fun b hb => by rcases hb.1 with h | h; exact .inl h.1; exact .inr (by omega)) (fun b hb => .inr (by omega))
end Go.Proofs.Ytlejcmojimkjeaa.vt

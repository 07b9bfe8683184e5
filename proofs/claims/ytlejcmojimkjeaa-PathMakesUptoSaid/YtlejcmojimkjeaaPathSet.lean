/- A value with another one where steps lead: the package's way. -/
import Derived.Test.YtlejcmojimkjeaaPathHole
import Derived.Test.YtlejcmojimkjeaaPathLens
import Derived.StillTailTactics
import Derived.BigQuiet
import Derived.Deep.QuietTactic
import Derived.Deep.DeepCutAuto
namespace Go.Proofs.Ytlejcmojimkjeaa.vt
open Go.RowKit mem

abbrev TWay : TypeId := 42
def SetRel (G : Nat → Prop) (w0 : World) (t x : VT) (xs : Value) (l : List Way) (N : Nat) (p i : Value) (wr : World) : Prop :=
  ∃ (k : Nat) (u : VT) (s : Value) (sb so : Nat), k ≤ N ∧ i = .int .i64 k ∧ p = .pointer (some ⟨sb, so, none⟩) ∧ Hid (atT t (l.take k) = some u) ∧ (I64 u.kind ∧ I64 u.num) ∧
    (wr.cell? ⟨sb, so, none⟩ = some (.int .i64 u.kind) ∧ wr.cell? ⟨sb, so + 1, none⟩ = some (.int .i64 u.num) ∧ wr.cell? ⟨sb, so + 2, none⟩ = some s) ∧ Hid (∀ i, wr.frozen? ⟨sb, i, none⟩ = false) ∧
    (w0.heap.size ≤ sb ∧ sb ≠ w0.heap.size + 1 ∧ sb ≠ w0.heap.size + 2) ∧
    Hid (Kids (fun b => G b ∧ b < w0.heap.size) wr u.kids s) ∧ Hid (Hole w0.heap.size t (l.take k) wr sb so) ∧
    Hid (Box wr (w0.heap.size + 1) TV (boxV x xs) ∧ Box wr (w0.heap.size + 2) TV zero3) ∧ Hid (Below w0.heap.size w0 wr)
set_option maxHeartbeats 2000000 in
theorem set_any {G G' : Nat → Prop} (t x : VT) (s xs : Value) (l : List Way) (ws : Value) (w : World) (hi : I64 t.kind ∧ I64 t.num) (hix : I64 x.kind ∧ I64 x.num) (hlen : t.lens) (h : Kids G w t.kids s) (hx : Kids G w x.kids xs) (hw : Ways G' w l ws) :
    Calls Try.prog 12 #[.agg #[.int .i64 t.kind, .int .i64 t.num, s], .agg #[.int .i64 x.kind, .int .i64 x.num, xs], ws] w (ValPost (fun _ => True) (setT t x l) w) := by
  have HW := Lib.hid hw
  have HXK := Lib.hid hx.lt
  obtain ⟨A, cap, rfl, hl⟩ := hw.form
  obtain ⟨A', cap', rfl, hl'⟩ := h.form
  obtain ⟨Ax, capx, rfl, hlx⟩ := hx.form
  obtain ⟨N, hN⟩ : ∃ N, N = l.length := ⟨_, rfl⟩
  have HN := Lib.hid hN
  rw [← hN] at hl ⊢
  have HB0 : Hid (∀ o o' o'', Below w.heap.size w (((w.alloc o).alloc o').alloc o'')) := Lib.hid fun o o' o'' => (((Below.refl w.heap.size w).alloc (Nat.le_refl _) o).alloc (by simp) o').alloc (by simp; omega) o''
  have HK0 : Hid (∀ o o' o'', Kids (fun b => G b ∧ b < w.heap.size) (((w.alloc o).alloc o').alloc o'') t.kids (.slice A' t.kids.length cap')) := Lib.hid fun o o' o'' => h.lt.below (HB0.out o o' o'')
  have HI := Lib.hid hi
  have HLEN := Lib.hid hlen
  obtain ⟨n, hn⟩ : ∃ n, n = t.kids.length := ⟨_, rfl⟩
  obtain ⟨nx, hnx⟩ : ∃ nx, nx = x.kids.length := ⟨_, rfl⟩
  rw [← hn] at HK0 ⊢
  rw [← hnx] at HXK ⊢
  clear h hw hN hn hnx hi hx hlen
  go_enter Try.func12, Try.ntmps12
  go_wp2
  obtain ⟨W, hW⟩ : ∃ W, W = ((w.alloc (.cells #[.int .i64 t.kind, .int .i64 t.num, .slice A' n cap'] TV)).alloc (.cells #[.int .i64 x.kind, .int .i64 x.num, .slice Ax nx capx] TV)).alloc (.cells zero3 TV) := ⟨_, rfl⟩
  have X0 : Hid (Box W w.heap.size TV #[.int .i64 t.kind, .int .i64 t.num, .slice A' n cap']) := Lib.hid (by rw [hW]; exact ((Box.new _ _ _ _ rfl).alloc _).alloc _)
  have X1 : Hid (Box W (w.heap.size + 1) TV #[.int .i64 x.kind, .int .i64 x.num, .slice Ax nx capx]) := Lib.hid (by rw [hW]; exact (Box.new _ _ _ _ (by simp)).alloc _)
  have X2 : Hid (Box W (w.heap.size + 2) TV zero3) := Lib.hid (by rw [hW]; exact Box.new _ _ _ _ (by simp))
  have XB : Hid (Below w.heap.size w W) := Lib.hid (by rw [hW]; exact HB0.out _ _ _)
  have XK := Lib.hid (show Kids _ W t.kids _ by rw [hW]; exact HK0.out _ _ _)
  have e2 : w.heap.size + 1 + 1 = w.heap.size + 2 := rfl
  rw [← hW, e2]
  clear hW HB0 HK0 e2
  go_loopw [8, 13] (fun p i wr => SetRel G w t x (.slice Ax nx capx) l N p i wr) (fun _ i _ => N - (intOf i).toNat)
  case atStart =>
    unfold SetRel
    exact ⟨0, t, _, w.heap.size, 0, Nat.zero_le _, rfl, rfl, Lib.hid (by rw [List.take_zero, atT]), HI.out, ⟨X0.out.cell 0, X0.out.cell 1, X0.out.cell 2⟩, Lib.hid fun i => X0.out.frozen i, ⟨Nat.le_refl _, by omega, by omega⟩, XK, Lib.hid (hole_start _ _ _), Lib.hid ⟨X1.out, X2.out⟩, XB⟩
  case round =>
    obtain ⟨k, u, s, sb, so, hk, rfl, rfl, HA, ⟨hu1, hu2⟩, ⟨a0, a1, a2⟩, HF, ⟨hs1, hs2, hs3⟩, HK, HH, HX, HB⟩ := hrel
    by_cases hlt : k < N
    · have hkl : k < l.length := by have := HN.out; omega
      obtain ⟨b, off, cap2, hs, hblt, hiw, c0, c1⟩ := HW.out.step HB.out k hkl
      injection hs with hA hL hC
      subst hA
      subst hC
      clear hL
      have hsb : sb < wr.heap.size := World.block_lt_of_cell? _ _ a0
      obtain ⟨A2, cp2, hs2', hul⟩ := HK.out.form
      subst hs2'
      obtain ⟨wy, hwy⟩ : ∃ wy, wy = l[k] := ⟨_, rfl⟩
      have HWY := Lib.hid hwy
      rw [← hwy] at c0 c1 hiw
      obtain ⟨M, hM⟩ : ∃ M, M = u.kids.length := ⟨_, rfl⟩
      have HM := Lib.hid hM
      have HLD := Lib.hid (fun w' => leads_any u A2 cp2 wy w' ⟨hu1, hiw⟩ hul)
      rw [← hM] at a2 hul HLD HK
      have hz := HX.out.2.lt
      have HAL := Lib.hid (fun o => (Below.refl wr.heap.size wr).alloc (Nat.le_refl _) o)
      clear hwy hM
      by_cases hL : leadsB u wy = true
      · rw [hL] at HLD
        obtain ⟨j, hj, hj2, hkt⟩ := kid_way hL
        rw [hj2] at c1 HLD hiw
        have hjM : j < M := by have := HM.out; omega
        have hiw2 : (j : Int) ≤ 9223372036854775807 := hiw.2
        clear hiw
        go_wp2_with (fail)
        obtain ⟨V, hV⟩ : ∃ V, V = wr.alloc (.cells #[.bool wy.1, .int .i64 j] TWay) := ⟨_, rfl⟩
        have hBV : Below wr.heap.size wr V := by rw [hV]; exact HAL.out _
        have V0 := (hBV.cell (p := ⟨sb, so, none⟩) hsb).trans a0
        have V1 := (hBV.cell (p := ⟨sb, so + 1, none⟩) hsb).trans a1
        have V2 := (hBV.cell (p := ⟨sb, so + 2, none⟩) hsb).trans a2
        have HVW : Hid (Box V wr.heap.size TWay #[.bool wy.1, .int .i64 j]) := Lib.hid (by rw [hV]; exact Box.new _ _ _ _ rfl)
        have V3 : V.cell? ⟨wr.heap.size, 0, none⟩ = some (.bool wy.1) := HVW.out.cell 0
        have V4 : V.cell? ⟨wr.heap.size, 1, none⟩ = some (.int .i64 j) := HVW.out.cell 1
        have hVz := HVW.out.lt
        have HBV := Lib.hid hBV
        have HA0 := Lib.hid a0
        have HA1 := Lib.hid a1
        have HA2 := Lib.hid a2
        rw [← hV]
        clear hV hBV HAL c0 c1 a0 a1 a2
        go_still_tail 4, (by kernel_rfl)
        change wpList _ _ _ _ _ V.drew
        go_wp2_with (go_at_call 21; refine (HLD.out _).mono ?_; rintro e w1 ⟨rfl, hb1⟩; have hB1 : Below V.heap.size V w1 := (Below.refl _ V).drew.trans hb1; have b0 := (hB1.cell (p := ⟨sb, so, none⟩) (by dsimp only; omega)).trans V0; have b1 := (hB1.cell (p := ⟨sb, so + 1, none⟩) (by dsimp only; omega)).trans V1; have b2 := (hB1.cell (p := ⟨sb, so + 2, none⟩) (by dsimp only; omega)).trans V2; have d0 := (hB1.cell (p := ⟨wr.heap.size, 1, none⟩) (by dsimp only; omega)).trans V4; have HB1 := Lib.hid hB1; have hz1 := hB1.size; clear hb1 hB1 V0 V1 V2 V3 V4 HLD)
        have hBR : Below wr.heap.size wr w1 := HBV.out.trans (HB1.out.mono (by omega))
        have HBR := Lib.hid hBR
        have HB1z := Lib.hid hBR.size
        have HKC := Lib.hid (HK.out.below hBR)
        clear hBR
        have hku : u.kids.length * 40 ≤ 140737488355328 := lens_kids (lens_at _ _ _ HLEN.out HA.out)
        refine (cloneL_any u.kids (.slice A2 M cp2) w1 HKC.out hku).mono ?_
        rintro e w2 ⟨s2, rfl, hb2, ho2⟩
        obtain ⟨g, cg, rfl, hg1, hg2, hrow, hfz⟩ := own_row ho2 (by omega)
        rw [← HM.out]
        have HB2 := Lib.hid (HBR.out.trans (hb2.mono HBR.out.size))
        have hz2 := hb2.size
        have e0 := (hb2.cell (p := ⟨sb, so, none⟩) (by dsimp only; omega)).trans b0
        have e1 := (hb2.cell (p := ⟨sb, so + 1, none⟩) (by dsimp only; omega)).trans b1
        have e2 := (hb2.cell (p := ⟨sb, so + 2, none⟩) (by dsimp only; omega)).trans b2
        have d2 := (hb2.cell (p := ⟨wr.heap.size, 1, none⟩) (by dsimp only; omega)).trans d0
        have hfr : ∀ i, w2.frozen? ⟨sb, i, none⟩ = false := fun i => (HB2.out.frozen (p := ⟨sb, i, none⟩) hsb).trans (HF.out i)
        have HFR := Lib.hid hfr
        have f2 := hfr (so + 2)
        obtain ⟨i1, i2, k0, k1, s3, k2, hkk⟩ := row_at hrow j hj
        obtain ⟨A3, cp3, rfl, _⟩ := hkk.form
        have HC2 := Lib.hid (And.intro e0 (And.intro e1 e2))
        have HROW := Lib.hid hrow
        have HFZ := Lib.hid hfz
        have HKK := Lib.hid (And.intro i1 (And.intro i2 (And.intro k0 (And.intro k1 (And.intro k2 hkk)))))
        clear hb2 ho2 hrow hfz hfr b0 b1 b2 d0 i1 i2 k0 k1 k2 hkk HB1 HBV e0 e1
        go_wp2_with (fail)
        obtain ⟨w3, hw3⟩ : ∃ w3, w3 = w2.setCell ⟨sb, so + 2, none⟩ (.slice (some ⟨g, 0, none⟩) M cg) := ⟨_, rfl⟩
        have hw3c : ∀ c o, ¬ (c = sb ∧ o = so + 2) → w3.cell? ⟨c, o, none⟩ = w2.cell? ⟨c, o, none⟩ := fun c o hne => by rw [hw3]; exact cell_set_apart _ _ _ _ _ _ hne
        have g0 : w3.cell? ⟨sb, so + 2, none⟩ = some (.slice (some ⟨g, 0, none⟩) M cg) := by rw [hw3]; exact World.cell?_setCell_same' _ _ _ (by rw [e2]; rfl)
        have g1 : w3.cell? ⟨wr.heap.size, 1, none⟩ = some (.int .i64 j) := (hw3c _ _ (by omega)).trans d2
        rw [← hw3]
        have hgs : g ≠ sb := by omega
        have hgh : w.heap.size + 2 < g := by omega
        have HE : Hid (atT t (l.take (k + 1)) = some u.kids[j]) := Lib.hid (by rw [at_on hkl HA.out (by rw [← HWY.out]; exact hL), ← HWY.out, hkt])
        have hHOLE : Hole w.heap.size t (l.take (k + 1)) w3 g (j * 3) := by
          rw [take_snoc l k hkl, ← HWY.out, hw3, HM.out]
          exact hole_step HH.out HA.out hj hj2 hsb hs1 hz HB2.out (by have := HB1z.out; omega) (by rw [← HM.out]; exact hul) ⟨hu1, hu2⟩ HA0.out HA1.out (by rw [HA2.out]; rfl) HROW.out
        have HHOLE := Lib.hid hHOLE
        have hfg : ∀ i, w3.frozen? ⟨g, i, none⟩ = false := fun i => by rw [hw3, World.frozen?_setCell]; exact HFZ.out i
        have HFG := Lib.hid hfg
        have hkids : Kids (fun b => G b ∧ b < w.heap.size) w3 u.kids[j].kids (.slice A3 u.kids[j].kids.length cp3) := by rw [hw3]; exact HKK.out.2.2.2.2.2.set fun c hc _ => by omega
        have HKIDS := Lib.hid hkids
        have HX3 : Hid (Box w3 (w.heap.size + 1) TV (boxV x (.slice Ax nx capx)) ∧ Box w3 (w.heap.size + 2) TV zero3) := Lib.hid (by rw [hw3]; exact ⟨(HX.out.1.on HB2.out).far (by dsimp only; omega) _, (HX.out.2.on HB2.out).far (by dsimp only; omega) _⟩)
        have HB3 : Hid (Below w.heap.size w w3) := Lib.hid (by rw [hw3]; exact (HB.out.trans (HB2.out.mono (by omega))).setCell (p := ⟨sb, so + 2, none⟩) hs1 _)
        obtain ⟨i1, i2, k0, k1, k2, _⟩ := HKK.out
        rw [Nat.zero_add] at k0 k1 k2
        have HCK := Lib.hid (And.intro ((hw3c g (j * 3) (by omega)).trans k0) (And.intro ((hw3c g (j * 3 + 1) (by omega)).trans k1) ((hw3c g (j * 3 + 2) (by omega)).trans k2)))
        have HII := Lib.hid (And.intro i1 i2)
        clear hw3 hw3c d2 e2 f2 hHOLE hfg hkids i1 i2 k0 k1 k2 hgs
        go_quiet (fail)
        go_wp2
        go_roundw
        case rel =>
          unfold SetRel
          exact ⟨k + 1, u.kids[j], .slice A3 u.kids[j].kids.length cp3, g, j * 3, by omega, by go_num, rfl, HE, HII.out, HCK.out, HFG, ⟨by omega, by omega, by omega⟩, Lib.hid (HKIDS.out.below (below_drewN (Below.refl _ _) _)), Lib.hid (hole_keep HHOLE.out (below_drewN (Below.refl _ _) _)), HX3, Lib.hid (below_drewN HB3.out _)⟩
        case measure => simp [intOf]; omega
      · have hL' : leadsB u wy = false := by simpa using hL
        rw [hL'] at HLD
        have HE : Hid (atT t l = none) := Lib.hid (at_stop hkl HA.out (by rw [← HWY.out]; exact hL'))
        go_wp2_with (fail)
        obtain ⟨V, hV⟩ : ∃ V, V = wr.alloc (.cells #[.bool wy.1, .int .i64 wy.2] TWay) := ⟨_, rfl⟩
        have hBV : Below wr.heap.size wr V := by rw [hV]; exact HAL.out _
        have V0 := (hBV.cell (p := ⟨sb, so, none⟩) hsb).trans a0
        have V1 := (hBV.cell (p := ⟨sb, so + 1, none⟩) hsb).trans a1
        have V2 := (hBV.cell (p := ⟨sb, so + 2, none⟩) hsb).trans a2
        have HVW : Hid (Box V wr.heap.size TWay #[.bool wy.1, .int .i64 wy.2]) := Lib.hid (by rw [hV]; exact Box.new _ _ _ _ rfl)
        have V3 : V.cell? ⟨wr.heap.size, 0, none⟩ = some (.bool wy.1) := HVW.out.cell 0
        have V4 : V.cell? ⟨wr.heap.size, 1, none⟩ = some (.int .i64 wy.2) := HVW.out.cell 1
        have hVz := HVW.out.lt
        have HBV := Lib.hid hBV
        rw [← hV]
        clear hV hBV HAL c0 c1 a0 a1 a2
        go_still_tail 4, (by kernel_rfl)
        change wpList _ _ _ _ _ V.drew
        go_wp2_with (go_at_call 21; refine (HLD.out _).mono ?_; rintro e w1 ⟨rfl, hb1⟩; have hB0 : Below V.heap.size V w1 := (Below.refl _ V).drew.trans hb1; have hB1 : Below wr.heap.size wr w1 := HBV.out.trans (hB0.mono (by omega)); have hb2 := HX.out.2.on hB1; have d0 : w1.cell? ⟨w.heap.size + 2, 0, none⟩ = some (.int .i64 0) := hb2.cell 0; have d1 : w1.cell? ⟨w.heap.size + 2, 1, none⟩ = some (.int .i64 0) := hb2.cell 1; have d2 : w1.cell? ⟨w.heap.size + 2, 2, none⟩ = some (.slice none 0 0) := hb2.cell 2; have f0 := hb2.frozen 0; have f1 := hb2.frozen 1; have f2 := hb2.frozen 2; have HB1 := Lib.hid (HB.out.trans (hB1.mono HB.out.size)); clear hb1 hB1 hB0 hb2 V0 V1 V2 V3 V4 HLD)
        refine bodyPost_ret (v := .tuple #[.agg #[.int .i64 0, .int .i64 0, .slice none 0 0], .int .i64 3]) (by simp [results, Try.results12, go_sem, d0, d1, d2]) rfl ?_
        unfold setT
        rw [HE.out]
        exact ⟨_, rfl, Kids.nil_ _ _, below_told HB1.out (by omega)⟩
    · have HE : Hid (atT t l = some u) := Lib.hid (at_all (by have := HN.out; omega) HA.out)
      have hTK : l.take k = l := List.take_of_length_le (by have := HN.out; omega)
      have HHO : Hid (Hole w.heap.size t l wr sb so) := Lib.hid (by have := HH.out; rwa [hTK] at this)
      have hsb : sb < wr.heap.size := World.block_lt_of_cell? _ _ a0
      obtain ⟨A2, cp2, hs2', hul⟩ := HK.out.form
      subst hs2'
      have b0 : wr.cell? ⟨w.heap.size + 1, 0, none⟩ = some (.int .i64 x.kind) := HX.out.1.cell 0
      have b1 : wr.cell? ⟨w.heap.size + 1, 1, none⟩ = some (.int .i64 x.num) := HX.out.1.cell 1
      have b2 : wr.cell? ⟨w.heap.size + 1, 2, none⟩ = some (.slice Ax nx capx) := HX.out.1.cell 2
      have f0 := HF.out so
      have f1 := HF.out (so + 1)
      have f2 := HF.out (so + 2)
      have hz := HX.out.2.lt
      obtain ⟨wE, hwE⟩ : ∃ wE, wE = ((wr.setCell ⟨sb, so, none⟩ (.int .i64 x.kind)).setCell ⟨sb, so + 1, none⟩ (.int .i64 x.num)).setCell ⟨sb, so + 2, none⟩ (.slice Ax nx capx) := ⟨_, rfl⟩
      have hfar : ∀ c o, ¬ (c = sb ∧ so ≤ o ∧ o < so + 3) → wE.cell? ⟨c, o, none⟩ = wr.cell? ⟨c, o, none⟩ := fun c o hn => by
        rw [hwE, cell_set_apart _ _ _ _ _ _ (by omega), cell_set_apart _ _ _ _ _ _ (by omega), cell_set_apart _ _ _ _ _ _ (by omega)]
      have p0 : wE.cell? ⟨sb, so, none⟩ = some (.int .i64 x.kind) := by
        rw [hwE, cell_set_apart _ _ _ _ _ _ (by omega), cell_set_apart _ _ _ _ _ _ (by omega)]
        exact World.cell?_setCell_same' _ _ _ (by rw [a0]; rfl)
      have p1 : wE.cell? ⟨sb, so + 1, none⟩ = some (.int .i64 x.num) := by
        rw [hwE, cell_set_apart _ _ _ _ _ _ (by omega)]
        exact World.cell?_setCell_same' _ _ _ (by rw [cell_set_apart _ _ _ _ _ _ (by omega), a1]; rfl)
      have p2 : wE.cell? ⟨sb, so + 2, none⟩ = some (.slice Ax nx capx) := by
        rw [hwE]
        exact World.cell?_setCell_same' _ _ _ (by rw [cell_set_apart _ _ _ _ _ _ (by omega), cell_set_apart _ _ _ _ _ _ (by omega), a2]; rfl)
      have hxk : Kids (fun b => b ≠ w.heap.size + 2) wE x.kids (.slice Ax nx capx) := (HXK.out.below HB.out).carry fun c o v hc hv => ⟨by have := hc.2; omega, (hfar c o (by have := hc.2; omega)).trans hv⟩
      obtain ⟨r1, r2, z0, z1, s4, z2, hkr⟩ := HHO.out wE x (fun b o _ hn => hfar b o hn) ⟨hix.1, hix.2, p0, p1, _, p2, hxk⟩
      obtain ⟨A4, cp4, hs4, _⟩ := hkr.form
      subst hs4
      have HBX : Hid (Box wE (w.heap.size + 2) TV zero3) := Lib.hid (by rw [hwE]; exact HX.out.2.far3 (by omega) _ _ _ _ _ _)
      have HBE : Hid (Below w.heap.size w wE) := Lib.hid (by rw [hwE]; exact ((HB.out.setCell (p := ⟨sb, so, none⟩) hs1 _).setCell (p := ⟨sb, so + 1, none⟩) hs1 _).setCell (p := ⟨sb, so + 2, none⟩) hs1 _)
      obtain ⟨r, hr⟩ : ∃ r, r = withT x t l := ⟨_, rfl⟩
      have HR := Lib.hid hr
      rw [← hr] at r1 r2 z0 z1 z2 hkr
      have HFT := Lib.hid (fitting_any r (.slice A4 r.kids.length cp4) wE hkr)
      obtain ⟨m, hm⟩ : ∃ m, m = r.kids.length := ⟨_, rfl⟩
      rw [← hm] at z2 HFT
      have hze : w.heap.size + 2 < wE.heap.size := HBX.out.lt
      clear hr hm hfar p0 p1 p2 hxk hkr hTK HK HX HF
      go_upto_region 11 with (fail)
      rw [← hwE]
      clear hwE a0 a1 a2 b0 b1 b2 f0 f1 f2
      go_wp2_with (fail)
      refine HFT.out.mono ?_
      rintro e w5 ⟨s5, rfl, hk5, hb5⟩
      have hb6 := HBX.out.on hb5
      have d0 : w5.cell? ⟨w.heap.size + 2, 0, none⟩ = some (.int .i64 0) := hb6.cell 0
      have d1 : w5.cell? ⟨w.heap.size + 2, 1, none⟩ = some (.int .i64 0) := hb6.cell 1
      have d2 : w5.cell? ⟨w.heap.size + 2, 2, none⟩ = some (.slice none 0 0) := hb6.cell 2
      have f0 := hb6.frozen 0
      have f1 := hb6.frozen 1
      have f2 := hb6.frozen 2
      obtain ⟨A5, cp5, hs5, _⟩ := hk5.form
      subst hs5
      have HK5 := Lib.hid hk5
      have HB5 := Lib.hid (HBE.out.trans (hb5.mono HBE.out.size))
      have HST : Hid (setT t x l = fitsT r) := Lib.hid (by unfold setT; rw [HE.out, HR.out])
      clear hk5 hb5 hb6 z0 z1 z2 HFT
      obtain ⟨q, hq⟩ : ∃ q, q = fitsT r := ⟨_, rfl⟩
      rw [← hq] at HK5 HST ⊢
      obtain ⟨⟨qk, qn, ql⟩, qt⟩ := q
      change Hid (Kids (fun b => b ≠ w.heap.size + 2) w5 ql (.slice A5 ql.length cp5)) at HK5
      simp only [VT.kind, VT.num, VT.kids]
      obtain ⟨M5, hM5⟩ : ∃ M5, M5 = ql.length := ⟨_, rfl⟩
      rw [← hM5] at HK5 ⊢
      clear hq hM5
      go_wp2_with (fail)
      refine bodyPost_ret (v := .tuple #[.agg #[.int .i64 qk, .int .i64 qn, .slice A5 M5 cp5], .int .i64 qt]) (by simp [results, Try.results12, go_sem, d0, d1, d2]) rfl ?_
      rw [HST.out]
      exact ⟨_, rfl, (((HK5.out.set fun c hc _ => hc).set fun c hc _ => hc).set fun c hc _ => hc).mono fun _ _ => trivial, below_told HB5.out (by omega)⟩
end Go.Proofs.Ytlejcmojimkjeaa.vt

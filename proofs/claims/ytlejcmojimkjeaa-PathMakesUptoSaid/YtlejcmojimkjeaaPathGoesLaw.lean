/- The law on where steps lead, and on what is set there. -/
import Derived.Test.YtlejcmojimkjeaaPathWorks
import Derived.Test.YtlejcmojimkjeaaPathText
import Derived.Test.YtlejcmojimkjeaaPathRefSet
namespace Go.Proofs.Ytlejcmojimkjeaa.vt
open Go.RowKit mem

def LawHolds (w : World) (e : Ending) (w' : World) : Prop := e = .returned (.bool true) ∧ Below w.heap.size w w'
theorem fitsT_i64 {r : VT} (h : I64 r.kind ∧ I64 r.num) : I64 (fitsT r).1.kind ∧ I64 (fitsT r).1.num := by
  unfold fitsT
  split
  · exact h
  · exact i64_small 0 0 [] (by omega) (by omega)
theorem setT_i64 {t x : VT} {l : List Way} (ht : I64 t.kind ∧ I64 t.num) (hx : I64 x.kind ∧ I64 x.num) : I64 (setT t x l).1.kind ∧ I64 (setT t x l).1.num := by
  unfold setT
  split
  · exact fitsT_i64 (with_i64 hx ht)
  · exact i64_small 0 0 [] (by omega) (by omega)
theorem setT_ok {t x : VT} {l : List Way} (h : (setT t x l).2 = 0) : (∃ u, atT t l = some u) ∧ (setT t x l).1 = withT x t l := by
  unfold setT at h ⊢
  cases ha : atT t l with
  | none => rw [ha] at h; simp only at h; exact absurd h (by decide)
  | some u =>
    rw [ha] at h
    simp only at h ⊢
    unfold fitsT at h ⊢
    split at h
    · rename_i hs; rw [if_pos hs]; exact ⟨⟨u, rfl⟩, rfl⟩
    · exact absurd h (by decide)
theorem set_then_at {t x : VT} {l : List Way} (h : (setT t x l).2 = 0) : ended (atT (setT t x l).1 l) = (x, 0) := by
  obtain ⟨⟨u, hu⟩, he⟩ := setT_ok h
  rw [he, at_with l t x u hu, ended_some]
theorem smallI_cases (t : VT) : smallI t = 0 ∨ smallI t = 1 := by unfold smallI; split; exact .inl rfl; exact .inr rfl
theorem small_size {t : VT} (h : smallI t = 1) (hs : t.size ≤ 1048576) : t.size ≤ 300 := by
  unfold smallI at h
  split at h
  · exact absurd h (by decide)
  · rename_i hn
    unfold wrap64 at hn
    omega
set_option maxHeartbeats 4000000 in
set_option maxRecDepth 100000 in
theorem goes_law (t x : VT) (s xs ws : Value) (l : List Way) (w : World) (hi : I64 t.kind ∧ I64 t.num) (hix : I64 x.kind ∧ I64 x.num) (h : Kids (fun _ => True) w t.kids s) (hx : Kids (fun _ => True) w x.kids xs) (hw : Ways (fun _ => True) w l ws) (hst : t.size ≤ 1048576) (hsx : x.size ≤ 1048576) :
    Calls Try.prog 3 #[.agg #[.int .i64 t.kind, .int .i64 t.num, s], .agg #[.int .i64 x.kind, .int .i64 x.num, xs], ws] w (LawHolds w) := by
  obtain ⟨K, hK⟩ : ∃ K, K = w.heap.size := ⟨_, rfl⟩
  obtain ⟨W0, hW0⟩ : ∃ W0, W0 = (w.alloc (.cells #[.int .i64 t.kind, .int .i64 t.num, s] TV)).alloc (.cells #[.int .i64 x.kind, .int .i64 x.num, xs] TV) := ⟨_, rfl⟩
  have hb1 := below_new w (.cells #[.int .i64 t.kind, .int .i64 t.num, s] TV)
  have hb0 : Below w.heap.size w W0 := by rw [hW0]; exact hb1.trans ((below_new _ _).mono (by simp))
  have hA0 : VarIs W0 K t s := by rw [hW0, hK]; exact (VarIs.new _ rfl h).below (below_new _ _)
  have hB0 : VarIs W0 (K + 1) x xs := by rw [hW0, hK]; exact VarIs.new _ (by simp) (hx.below hb1)
  have HV : Hid (∀ w', Below W0.heap.size W0 w' → VarIs w' K t s ∧ VarIs w' (K + 1) x xs ∧ Ways (fun _ => True) w' l ws ∧ Below w.heap.size w w') := Lib.hid fun w' hb => ⟨hA0.below hb, hB0.below hb, (hw.below hb0).below hb, hb0.trans (hb.mono hb0.size)⟩
  have hft : t.fits := by rw [VT.eta t, fits_mk]; exact ⟨hi, h.fits⟩
  have HFT := Lib.hid hft
  have HI := Lib.hid hi
  have HIX := Lib.hid hix
  obtain ⟨A, cap, rfl, hlen⟩ := hw.form
  obtain ⟨A1, cap1, rfl, _⟩ := h.form
  obtain ⟨A2, cap2, rfl, _⟩ := hx.form
  obtain ⟨L, hL⟩ : ∃ L, L = l.length := ⟨_, rfl⟩
  obtain ⟨n1, hn1⟩ : ∃ n1, n1 = t.kids.length := ⟨_, rfl⟩
  obtain ⟨n2, hn2⟩ : ∃ n2, n2 = x.kids.length := ⟨_, rfl⟩
  have HS0 : Hid (W0.heap.size = K + 2) := Lib.hid (by rw [hW0, hK]; simp)
  rw [← hL, ← hn1, ← hn2] at HV
  rw [← hn1, ← hn2] at hW0
  rw [← hL, ← hn1, ← hn2]
  clear h hx hw hi hix hft hb1 hb0 hA0 hB0 hL hn1 hn2
  go_enter Try.func3, Try.ntmps3
  go_wp2_with (fail)
  rw [← hW0, ← hK]
  clear hW0 hK
  refine (works_any W0).mono ?_
  rintro e w1 ⟨rfl, h1⟩
  obtain ⟨⟨⟨a0, a1, a2⟩, _, az⟩, ⟨⟨b0, b1, b2⟩, _, bz⟩, _, _⟩ := HV.out w1 h1
  have H1 := Lib.hid h1
  clear h1
  go_wp2_with (fail)
  clear a0 a1 a2 b0 b1 b2
  refine (small_any t _ w1 (HV.out w1 H1.out).1.2.1).mono ?_
  rintro e w2 ⟨rfl, hb⟩
  have H2 := Lib.hid (H1.out.trans (hb.mono H1.out.size))
  clear hb
  rcases smallI_cases t with hS | hS
  · rw [hS]
    go_wp2_with (fail)
    refine (works_any w2).mono ?_
    rintro e w3 ⟨rfl, hb⟩
    have H3 := Lib.hid (H2.out.trans (hb.mono H2.out.size))
    clear hb
    go_wp2_with (fail)
    go_ret
    exact ⟨rfl, (HV.out w3 H3.out).2.2.2⟩
  · have hst3 := small_size hS hst
    rw [hS]
    obtain ⟨⟨⟨a0, a1, a2⟩, _, az⟩, ⟨⟨b0, b1, b2⟩, _, bz⟩, _, _⟩ := HV.out w2 H2.out
    go_wp2_with (fail)
    clear a0 a1 a2 b0 b1 b2
    refine (rsize_any x _ w2 (HV.out w2 H2.out).2.1.2.1).mono ?_
    rintro e w3 ⟨rfl, hb⟩
    have H3 := Lib.hid (H2.out.trans (hb.mono H2.out.size))
    clear hb
    obtain ⟨m, hm⟩ : ∃ m, m = wrap64 (x.size : Int) := ⟨_, rfl⟩
    rw [← hm]
    have HM := Lib.hid hm
    clear hm
    by_cases hX : 5000 < m
    · go_wp2_with (fail)
      refine (works_any w3).mono ?_
      rintro e w4 ⟨rfl, hb⟩
      have H4 := Lib.hid (H3.out.trans (hb.mono H3.out.size))
      clear hb
      go_wp2_with (fail)
      go_ret
      exact ⟨rfl, (HV.out w4 H4.out).2.2.2⟩
    · by_cases hLn : 20 < L
      · have hLi : (20 : Int) < (L : Int) := by omega
        go_wp2_with (fail)
        refine (works_any w3).mono ?_
        rintro e w4 ⟨rfl, hb⟩
        have H4 := Lib.hid (H3.out.trans (hb.mono H3.out.size))
        clear hb
        go_wp2_with (fail)
        go_ret
        exact ⟨rfl, (HV.out w4 H4.out).2.2.2⟩
      · have hLi : ¬ (20 : Int) < (L : Int) := by omega
        obtain ⟨VT_, VX_, VW_, VL_⟩ := HV.out w3 H3.out
        obtain ⟨⟨at0, at1, at2⟩, _, atz⟩ := VT_
        obtain ⟨⟨ax0, ax1, ax2⟩, _, axz⟩ := VX_
        go_wp2_with (fail)
        clear at0 at1 at2 ax0 ax1 ax2
        obtain ⟨T, hT⟩ : ∃ T, T = (⟨t.text.toArray⟩ : ByteArray) := ⟨_, rfl⟩
        have HTX := Lib.hid (fun (w' : World) hk => rtexta_any t (fun _ => True) (.slice A1 n1 cap1) w' hk HFT.out hst)
        rw [← hT] at HTX
        clear hT
        refine (HTX.out w3 (HV.out w3 H3.out).1.2.1).mono ?_
        rintro e w4 ⟨rfl, hb⟩
        have H4 := Lib.hid (H3.out.trans (hb.mono H3.out.size))
        clear hb
        obtain ⟨VT_, VX_, VW_, VL_⟩ := HV.out w4 H4.out
        obtain ⟨⟨at0, at1, at2⟩, _, atz⟩ := VT_
        obtain ⟨⟨ax0, ax1, ax2⟩, _, axz⟩ := VX_
        go_wp2_with (fail)
        clear at0 at1 at2 ax0 ax1 ax2
        refine (at_any t _ l _ w4 HI.out (HV.out w4 H4.out).1.2.1 (HV.out w4 H4.out).2.2.1).mono ?_
        obtain ⟨p1, hp1⟩ : ∃ p1, p1 = ended (atT t l) := ⟨_, rfl⟩
        rw [← hp1]
        have HP1 := Lib.hid hp1
        clear hp1
        rintro e v1 ⟨s, rfl, hk, hb⟩
        obtain ⟨B1, c1, rfl, _⟩ := hk.form
        obtain ⟨m1, hm1⟩ : ∃ m1, m1 = p1.1.kids.length := ⟨_, rfl⟩
        rw [← hm1] at hk ⊢
        have hv : Below W0.heap.size W0 v1 := H4.out.trans (hb.mono H4.out.size)
        clear hm1
        obtain ⟨VT_, VX_, VW_, VL_⟩ := HV.out v1 hv
        obtain ⟨⟨at0, at1, at2⟩, _, atz⟩ := VT_
        obtain ⟨⟨ax0, ax1, ax2⟩, _, axz⟩ := VX_
        have HE : ∀ w', Below (v1.alloc (.cells #[.int .i64 p1.1.kind, .int .i64 p1.1.num, .slice B1 m1 c1] TV)).heap.size (v1.alloc (.cells #[.int .i64 p1.1.kind, .int .i64 p1.1.num, .slice B1 m1 c1] TV)) w' → Below v1.heap.size v1 w' := fun w' h => (below_new _ _).trans (h.mono (by simp))
        have HN : VarIs (v1.alloc (.cells #[.int .i64 p1.1.kind, .int .i64 p1.1.num, .slice B1 m1 c1] TV)) v1.heap.size p1.1 (.slice B1 m1 c1) := VarIs.new _ rfl hk
        have HV1 := Lib.hid (fun w' (h : Below (v1.alloc (.cells #[.int .i64 p1.1.kind, .int .i64 p1.1.num, .slice B1 m1 c1] TV)).heap.size (v1.alloc (.cells #[.int .i64 p1.1.kind, .int .i64 p1.1.num, .slice B1 m1 c1] TV)) w') => And.intro (HV.out w' (hv.trans ((HE w' h).mono hv.size))) (HN.below h))
        clear HE HN hk hb hv
        go_wp2_with (fail)
        clear at0 at1 at2 ax0 ax1 ax2
        obtain ⟨X1, hX⟩ : ∃ X, X = v1.alloc (.cells #[.int .i64 p1.1.kind, .int .i64 p1.1.num, .slice B1 m1 c1] TV) := ⟨_, rfl⟩
        obtain ⟨b1, hbb⟩ : ∃ b, b = v1.heap.size := ⟨_, rfl⟩
        rw [← hX, ← hbb] at HV1 ⊢
        clear hX hbb
        refine (rat_any l (fun _ => True) (fun _ => True) t _ _ X1 HI.out (HV1.out X1 (Below.refl _ _)).1.1.2.1 (HV1.out X1 (Below.refl _ _)).1.2.2.1).mono ?_
        rw [← HP1.out]
        rintro e v2 ⟨s, rfl, hk, hb⟩
        obtain ⟨B2, c2, rfl, _⟩ := hk.form
        obtain ⟨m2, hm2⟩ : ∃ m2, m2 = p1.1.kids.length := ⟨_, rfl⟩
        rw [← hm2] at hk ⊢
        have hv : Below X1.heap.size X1 v2 := hb
        clear hm2
        obtain ⟨⟨VT_, VX_, VW_, VL_⟩, V1_⟩ := HV1.out v2 hv
        obtain ⟨⟨at0, at1, at2⟩, _, atz⟩ := VT_
        obtain ⟨⟨ax0, ax1, ax2⟩, _, axz⟩ := VX_
        obtain ⟨⟨a10, a11, a12⟩, _, a1z⟩ := V1_
        have HE : ∀ w', Below (v2.alloc (.cells #[.int .i64 p1.1.kind, .int .i64 p1.1.num, .slice B2 m2 c2] TV)).heap.size (v2.alloc (.cells #[.int .i64 p1.1.kind, .int .i64 p1.1.num, .slice B2 m2 c2] TV)) w' → Below v2.heap.size v2 w' := fun w' h => (below_new _ _).trans (h.mono (by simp))
        have HN : VarIs (v2.alloc (.cells #[.int .i64 p1.1.kind, .int .i64 p1.1.num, .slice B2 m2 c2] TV)) v2.heap.size p1.1 (.slice B2 m2 c2) := VarIs.new _ rfl hk
        have HV2 := Lib.hid (fun w' (h : Below (v2.alloc (.cells #[.int .i64 p1.1.kind, .int .i64 p1.1.num, .slice B2 m2 c2] TV)).heap.size (v2.alloc (.cells #[.int .i64 p1.1.kind, .int .i64 p1.1.num, .slice B2 m2 c2] TV)) w') => And.intro (HV1.out w' (hv.trans ((HE w' h).mono hv.size))) (HN.below h))
        clear HE HN hk hb hv
        go_wp2_with (fail)
        clear at0 at1 at2 ax0 ax1 ax2 a10 a11 a12
        obtain ⟨X2, hX⟩ : ∃ X, X = v2.alloc (.cells #[.int .i64 p1.1.kind, .int .i64 p1.1.num, .slice B2 m2 c2] TV) := ⟨_, rfl⟩
        obtain ⟨b2, hbb⟩ : ∃ b, b = v2.heap.size := ⟨_, rfl⟩
        rw [← hX, ← hbb] at HV2 ⊢
        clear hX hbb
        refine (set_any t x _ _ l _ X2 HI.out HIX.out (lens_small t hst) (HV2.out X2 (Below.refl _ _)).1.1.1.2.1 (HV2.out X2 (Below.refl _ _)).1.1.2.1.2.1 (HV2.out X2 (Below.refl _ _)).1.1.2.2.1).mono ?_
        obtain ⟨p3, hp3⟩ : ∃ p3, p3 = setT t x l := ⟨_, rfl⟩
        rw [← hp3]
        have HP3 := Lib.hid hp3
        clear hp3
        rintro e v3 ⟨s, rfl, hk, hb⟩
        obtain ⟨B3, c3, rfl, _⟩ := hk.form
        obtain ⟨m3, hm3⟩ : ∃ m3, m3 = p3.1.kids.length := ⟨_, rfl⟩
        rw [← hm3] at hk ⊢
        have hv : Below X2.heap.size X2 v3 := hb
        clear hm3
        obtain ⟨⟨⟨VT_, VX_, VW_, VL_⟩, V1_⟩, V2_⟩ := HV2.out v3 hv
        obtain ⟨⟨at0, at1, at2⟩, _, atz⟩ := VT_
        obtain ⟨⟨ax0, ax1, ax2⟩, _, axz⟩ := VX_
        obtain ⟨⟨a10, a11, a12⟩, _, a1z⟩ := V1_
        obtain ⟨⟨a20, a21, a22⟩, _, a2z⟩ := V2_
        have HE : ∀ w', Below (v3.alloc (.cells #[.int .i64 p3.1.kind, .int .i64 p3.1.num, .slice B3 m3 c3] TV)).heap.size (v3.alloc (.cells #[.int .i64 p3.1.kind, .int .i64 p3.1.num, .slice B3 m3 c3] TV)) w' → Below v3.heap.size v3 w' := fun w' h => (below_new _ _).trans (h.mono (by simp))
        have HN : VarIs (v3.alloc (.cells #[.int .i64 p3.1.kind, .int .i64 p3.1.num, .slice B3 m3 c3] TV)) v3.heap.size p3.1 (.slice B3 m3 c3) := VarIs.new _ rfl hk
        have HV3 := Lib.hid (fun w' (h : Below (v3.alloc (.cells #[.int .i64 p3.1.kind, .int .i64 p3.1.num, .slice B3 m3 c3] TV)).heap.size (v3.alloc (.cells #[.int .i64 p3.1.kind, .int .i64 p3.1.num, .slice B3 m3 c3] TV)) w') => And.intro (HV2.out w' (hv.trans ((HE w' h).mono hv.size))) (HN.below h))
        clear HE HN hk hb hv
        go_wp2_with (fail)
        clear at0 at1 at2 ax0 ax1 ax2 a10 a11 a12 a20 a21 a22
        obtain ⟨X3, hX⟩ : ∃ X, X = v3.alloc (.cells #[.int .i64 p3.1.kind, .int .i64 p3.1.num, .slice B3 m3 c3] TV) := ⟨_, rfl⟩
        obtain ⟨b3, hbb⟩ : ∃ b, b = v3.heap.size := ⟨_, rfl⟩
        rw [← hX, ← hbb] at HV3 ⊢
        clear hX hbb
        refine (rset_any t x _ _ l _ X3 HI.out HIX.out (lens_small t hst) (by omega) (HV3.out X3 (Below.refl _ _)).1.1.1.1.2.1 (HV3.out X3 (Below.refl _ _)).1.1.1.2.1.2.1 (HV3.out X3 (Below.refl _ _)).1.1.1.2.2.1).mono ?_
        rw [← HP3.out]
        rintro e v4 ⟨s, rfl, hk, hb⟩
        obtain ⟨B4, c4, rfl, _⟩ := hk.form
        obtain ⟨m4, hm4⟩ : ∃ m4, m4 = p3.1.kids.length := ⟨_, rfl⟩
        rw [← hm4] at hk ⊢
        have hv : Below X3.heap.size X3 v4 := hb
        clear hm4
        obtain ⟨⟨⟨⟨VT_, VX_, VW_, VL_⟩, V1_⟩, V2_⟩, V3_⟩ := HV3.out v4 hv
        obtain ⟨⟨at0, at1, at2⟩, _, atz⟩ := VT_
        obtain ⟨⟨ax0, ax1, ax2⟩, _, axz⟩ := VX_
        obtain ⟨⟨a10, a11, a12⟩, _, a1z⟩ := V1_
        obtain ⟨⟨a20, a21, a22⟩, _, a2z⟩ := V2_
        obtain ⟨⟨a30, a31, a32⟩, _, a3z⟩ := V3_
        have HE : ∀ w', Below (v4.alloc (.cells #[.int .i64 p3.1.kind, .int .i64 p3.1.num, .slice B4 m4 c4] TV)).heap.size (v4.alloc (.cells #[.int .i64 p3.1.kind, .int .i64 p3.1.num, .slice B4 m4 c4] TV)) w' → Below v4.heap.size v4 w' := fun w' h => (below_new _ _).trans (h.mono (by simp))
        have HN : VarIs (v4.alloc (.cells #[.int .i64 p3.1.kind, .int .i64 p3.1.num, .slice B4 m4 c4] TV)) v4.heap.size p3.1 (.slice B4 m4 c4) := VarIs.new _ rfl hk
        have HV4 := Lib.hid (fun w' (h : Below (v4.alloc (.cells #[.int .i64 p3.1.kind, .int .i64 p3.1.num, .slice B4 m4 c4] TV)).heap.size (v4.alloc (.cells #[.int .i64 p3.1.kind, .int .i64 p3.1.num, .slice B4 m4 c4] TV)) w') => And.intro (HV3.out w' (hv.trans ((HE w' h).mono hv.size))) (HN.below h))
        clear HE HN hk hb hv
        go_wp2_with (fail)
        clear at0 at1 at2 ax0 ax1 ax2 a10 a11 a12 a20 a21 a22 a30 a31 a32
        obtain ⟨X4, hX⟩ : ∃ X, X = v4.alloc (.cells #[.int .i64 p3.1.kind, .int .i64 p3.1.num, .slice B4 m4 c4] TV) := ⟨_, rfl⟩
        obtain ⟨b4, hbb⟩ : ∃ b, b = v4.heap.size := ⟨_, rfl⟩
        rw [← hX, ← hbb] at HV4 ⊢
        clear hX hbb
        have HR4 := Lib.hid (HV4.out X4 (Below.refl _ _))
        refine (rsame_any p1.1 p1.1 _ _ X4 HR4.out.1.1.1.2.2.1 HR4.out.1.1.2.2.1).mono ?_
        rintro e w5 ⟨rfl, h5⟩
        rw [eqB_self]
        have H5 := Lib.hid h5
        obtain ⟨⟨⟨⟨⟨VT_, VX_, VW_, VL_⟩, V1_⟩, V2_⟩, V3_⟩, V4_⟩ := HV4.out w5 h5
        obtain ⟨⟨a30, a31, a32⟩, _, a3z⟩ := V3_
        obtain ⟨⟨a40, a41, a42⟩, _, a4z⟩ := V4_
        clear h5
        go_wp2_with (fail)
        clear a30 a31 a32 a40 a41 a42
        have HR5 := Lib.hid (HV4.out w5 H5.out)
        refine (rsame_any p3.1 p3.1 _ _ w5 HR5.out.1.2.2.1 HR5.out.2.2.1).mono ?_
        rintro e w6 ⟨rfl, hb⟩
        rw [eqB_self]
        have h6 := H5.out.trans (hb.mono H5.out.size)
        have H6 := Lib.hid h6
        clear hb
        obtain ⟨⟨⟨⟨⟨VT_, VX_, VW_, VL_⟩, V1_⟩, V2_⟩, V3_⟩, V4_⟩ := HV4.out w6 h6
        obtain ⟨⟨at0, at1, at2⟩, _, atz⟩ := VT_
        clear h6
        go_wp2_with (fail)
        clear at0 at1 at2
        refine (HTX.out w6 (HV4.out w6 H6.out).1.1.1.1.1.2.1).mono ?_
        rintro e w7 ⟨rfl, hb⟩
        have h7 := H6.out.trans (hb.mono H6.out.size)
        have H7 := Lib.hid h7
        clear hb
        obtain ⟨⟨⟨⟨⟨VT_, VX_, VW_, VL_⟩, V1_⟩, V2_⟩, V3_⟩, V4_⟩ := HV4.out w7 h7
        obtain ⟨⟨a30, a31, a32⟩, _, a3z⟩ := V3_
        clear h7
        have HLW := Lib.hid (HV4.out w7 H7.out).1.1.1.1.2.2.2
        by_cases hz : p3.2 = 0
        · have HQ : Hid (ended (atT p3.1 l) = (x, 0)) := Lib.hid (by rw [HP3.out] at hz ⊢; exact set_then_at hz)
          have hpi : I64 p3.1.kind ∧ I64 p3.1.num := by rw [HP3.out]; exact setT_i64 HI.out HIX.out
          have HPI := Lib.hid hpi
          clear hpi
          have hz' : (p3.2 == 0) = true := by simpa using hz
          go_wp2_with (fail)
          clear a30 a31 a32
          refine (at_any p3.1 _ l _ w7 HPI.out (HV4.out w7 H7.out).1.2.2.1 (HV4.out w7 H7.out).1.1.1.1.2.2.1).mono ?_
          rw [HQ.out]
          rintro e v8 ⟨s, he, hk, hb⟩
          obtain ⟨B8, c8, rfl, _⟩ := hk.form
          obtain rfl : e = .returned (.tuple #[.agg #[.int .i64 x.kind, .int .i64 x.num, .slice B8 x.kids.length c8], .int .i64 0]) := he
          obtain ⟨m8, hm8⟩ : ∃ m8, m8 = x.kids.length := ⟨_, rfl⟩
          change Kids (fun _ => True) v8 x.kids (.slice B8 x.kids.length c8) at hk
          rw [← hm8] at hk ⊢
          clear hm8
          have h8 := H7.out.trans (hb.mono H7.out.size)
          have hvx := (HV4.out v8 h8).1.1.1.1.2.1
          have hn := below_new v8 (.cells #[.int .i64 x.kind, .int .i64 x.num, .slice B8 m8 c8] TV)
          have HSA := Lib.hid (rsame_any x x _ _ (v8.alloc (.cells #[.int .i64 x.kind, .int .i64 x.num, .slice B8 m8 c8] TV)) (hk.below hn) (hvx.2.1.below hn))
          have HBL := Lib.hid ((HLW.out.trans (hb.mono HLW.out.size)).trans (hn.mono (by have := HLW.out.size; have := hb.size; omega)))
          obtain ⟨⟨x0, x1, x2⟩, _, xz⟩ := hvx
          clear hk hb h8 hn hz
          go_wp2_with (fail)
          refine HSA.out.mono ?_
          rintro e w9 ⟨rfl, h9⟩
          rw [eqB_self]
          go_wp2_with (fail)
          go_ret
          exact ⟨rfl, HBL.out.trans (h9.mono HBL.out.size)⟩
        · have hz' : (p3.2 == 0) = false := by simpa using hz
          clear a30 a31 a32
          go_wp2_with (fail)
          go_ret
          exact ⟨rfl, HLW.out⟩
end Go.Proofs.Ytlejcmojimkjeaa.vt

/- The law on what lies beside what is set. -/
import Derived.Test.YtlejcmojimkjeaaPathGoesLaw
namespace Go.Proofs.Ytlejcmojimkjeaa.vt
open Go.RowKit mem

/-- the two ways part ahead of place k -/
def Parts (a b : List Way) (k : Nat) : Prop := ∃ i, ∃ (ha : i < a.length) (hb : i < b.length), i < k ∧ a[i].2 ≠ b[i].2
theorem parts_on {a b : List Way} {k : Nat} (h : Parts a b k) : Parts a b (k + 1) := by
  obtain ⟨i, ha, hb, hk, hn⟩ := h; exact ⟨i, ha, hb, by omega, hn⟩
theorem parts_here {a b : List Way} {k : Nat} (ha : k < a.length) (hb : k < b.length) (h : a[k].2 ≠ b[k].2) : Parts a b (k + 1) := ⟨k, ha, hb, by omega, h⟩
theorem parts_any {a b : List Way} {k : Nat} (h : Parts a b k) : ∃ i, ∃ (ha : i < a.length) (hb : i < b.length), a[i].2 ≠ b[i].2 := by
  obtain ⟨i, ha, hb, hk, hn⟩ := h; exact ⟨i, ha, hb, hn⟩
theorem ended_ok {o : Option VT} (h : (ended o).2 = 0) : ∃ u, o = some u := by
  cases o with
  | none => exact absurd h (by decide)
  | some u => exact ⟨u, rfl⟩
theorem beside_at {t x : VT} {a b : List Way} {k : Nat} (hp : Parts a b k) (h1 : (setT t x a).2 = 0) (h2 : (ended (atT t b)).2 = 0) : ended (atT (setT t x a).1 b) = ended (atT t b) := by
  obtain ⟨⟨u, hu⟩, he⟩ := setT_ok h1
  obtain ⟨v, hv⟩ := ended_ok h2
  rw [he, at_beside a b t x u v (parts_any hp) hu hv, hv]
abbrev T2W : TypeId := 40
def BesRel (W0 : World) (a b : List Way) (p i : Value) (wr : World) : Prop :=
  ∃ (k : Nat) (q : Bool), i = .int .i64 k ∧ p = .bool q ∧ (k ≤ a.length ∧ k ≤ 20) ∧ Hid (q = true → Parts a b k) ∧ Hid (Below W0.heap.size W0 wr)
set_option maxHeartbeats 4000000 in
set_option maxRecDepth 100000 in
theorem beside_law (t x : VT) (s xs ws zs : Value) (a b : List Way) (w : World) (hi : I64 t.kind ∧ I64 t.num) (hix : I64 x.kind ∧ I64 x.num) (hln : t.lens) (h : Kids (fun _ => True) w t.kids s) (hx : Kids (fun _ => True) w x.kids xs) (hw : Ways (fun _ => True) w a ws) (hz : Ways (fun _ => True) w b zs) :
    Calls Try.prog 5 #[.agg #[.int .i64 t.kind, .int .i64 t.num, s], .agg #[.int .i64 x.kind, .int .i64 x.num, xs], .agg #[ws, zs]] w (LawHolds w) := by
  obtain ⟨K, hK⟩ : ∃ K, K = w.heap.size := ⟨_, rfl⟩
  obtain ⟨W0, hW0⟩ : ∃ W0, W0 = ((w.alloc (.cells #[.int .i64 t.kind, .int .i64 t.num, s] TV)).alloc (.cells #[.int .i64 x.kind, .int .i64 x.num, xs] TV)).alloc (.cells #[ws, zs] T2W) := ⟨_, rfl⟩
  have hb1 := below_new w (.cells #[.int .i64 t.kind, .int .i64 t.num, s] TV)
  have hb2 := hb1.trans ((below_new (w.alloc (.cells #[.int .i64 t.kind, .int .i64 t.num, s] TV)) (.cells #[.int .i64 x.kind, .int .i64 x.num, xs] TV)).mono (by simp))
  have hb0 : Below w.heap.size w W0 := by rw [hW0]; exact hb2.trans ((below_new _ _).mono (by simp; omega))
  have hA0 : VarIs W0 K t s := by rw [hW0, hK]; exact ((VarIs.new _ rfl h).below (below_new _ _)).below (below_new _ _)
  have hB0 : VarIs W0 (K + 1) x xs := by rw [hW0, hK]; exact (VarIs.new _ (by simp) (hx.below hb1)).below (below_new _ _)
  have hC0 : Box W0 (K + 2) T2W #[ws, zs] := by rw [hW0, hK]; exact Box.new _ _ _ _ (by simp)
  have HV : Hid (∀ w', Below W0.heap.size W0 w' → VarIs w' K t s ∧ VarIs w' (K + 1) x xs ∧ Box w' (K + 2) T2W #[ws, zs] ∧ (Ways (fun _ => True) w' a ws ∧ Ways (fun _ => True) w' b zs) ∧ Below w.heap.size w w') := Lib.hid fun w' hb => ⟨hA0.below hb, hB0.below hb, hC0.on hb, ⟨(hw.below hb0).below hb, (hz.below hb0).below hb⟩, hb0.trans (hb.mono hb0.size)⟩
  have HI := Lib.hid hi
  have HIX := Lib.hid hix
  have HLN := Lib.hid hln
  obtain ⟨A, cap, rfl, hlen⟩ := hw.form
  obtain ⟨Z, zcap, rfl, hlenz⟩ := hz.form
  obtain ⟨A1, cap1, rfl, _⟩ := h.form
  obtain ⟨A2, cap2, rfl, _⟩ := hx.form
  obtain ⟨L, hL⟩ : ∃ L, L = a.length := ⟨_, rfl⟩
  obtain ⟨M, hM⟩ : ∃ M, M = b.length := ⟨_, rfl⟩
  obtain ⟨n1, hn1⟩ : ∃ n1, n1 = t.kids.length := ⟨_, rfl⟩
  obtain ⟨n2, hn2⟩ : ∃ n2, n2 = x.kids.length := ⟨_, rfl⟩
  have HLL := Lib.hid hL
  have HMM := Lib.hid hM
  rw [← hL, ← hM, ← hn1, ← hn2] at HV
  rw [← hL, ← hM, ← hn1, ← hn2] at hW0
  rw [← hL] at hlen
  rw [← hM] at hlenz
  rw [← hL, ← hM, ← hn1, ← hn2]
  clear h hx hw hz hi hix hln hb1 hb2 hb0 hA0 hB0 hC0 hL hM hn1 hn2
  go_enter Try.func5, Try.ntmps5
  go_wp2_with (fail)
  have e2 : w.heap.size + 1 + 1 = w.heap.size + 2 := rfl
  rw [e2, ← hW0, ← hK]
  clear hW0 hK e2
  refine (works_any W0).mono ?_
  rintro e w1 ⟨rfl, h1⟩
  have H1 := Lib.hid h1
  clear h1
  obtain ⟨VT_, VX_, VB_, _, _⟩ := HV.out w1 H1.out
  obtain ⟨⟨at0, at1, at2⟩, _, atz⟩ := VT_
  obtain ⟨⟨ax0, ax1, ax2⟩, _, axz⟩ := VX_
  have l0 : w1.cell? ⟨K + 2, 0, none⟩ = some (.slice A L cap) := VB_.cell 0
  have l1 : w1.cell? ⟨K + 2, 1, none⟩ = some (.slice Z M zcap) := VB_.cell 1
  have lz := VB_.lt
  clear VB_
  go_wp2_with (fail)
  clear at0 at1 at2 ax0 ax1 ax2 l0 l1
  refine (small_any t _ w1 (HV.out w1 H1.out).1.2.1).mono ?_
  rintro e w2 ⟨rfl, hb⟩
  have H2 := Lib.hid (H1.out.trans (hb.mono H1.out.size))
  clear hb
  rcases smallI_cases t with hS | hS
  · rw [hS]
    go_wp2_with (fail)
    refine (works_any w2).mono ?_
    rintro e w9 ⟨rfl, hb⟩
    have H9 := Lib.hid (H2.out.trans (hb.mono H2.out.size))
    clear hb
    go_wp2_with (fail)
    go_ret
    exact ⟨rfl, (HV.out w9 H9.out).2.2.2.2⟩
  · rw [hS]
    obtain ⟨VT_, VX_, VB_, _, _⟩ := HV.out w2 H2.out
    obtain ⟨⟨ax0, ax1, ax2⟩, _, axz⟩ := VX_
    have l0 : w2.cell? ⟨K + 2, 0, none⟩ = some (.slice A L cap) := VB_.cell 0
    have l1 : w2.cell? ⟨K + 2, 1, none⟩ = some (.slice Z M zcap) := VB_.cell 1
    have lz := VB_.lt
    clear VB_
    go_wp2_with (fail)
    clear ax0 ax1 ax2 l0 l1
    refine (small_any x _ w2 (HV.out w2 H2.out).2.1.2.1).mono ?_
    rintro e w3 ⟨rfl, hb⟩
    have H3 := Lib.hid (H2.out.trans (hb.mono H2.out.size))
    clear hb
    rcases smallI_cases x with hS2 | hS2
    · rw [hS2]
      go_wp2_with (fail)
      refine (works_any w3).mono ?_
      rintro e w9 ⟨rfl, hb⟩
      have H9 := Lib.hid (H3.out.trans (hb.mono H3.out.size))
      clear hb
      go_wp2_with (fail)
      go_ret
      exact ⟨rfl, (HV.out w9 H9.out).2.2.2.2⟩
    · rw [hS2]
      obtain ⟨VT_, VX_, VB_, _, _⟩ := HV.out w3 H3.out
      have l0 : w3.cell? ⟨K + 2, 0, none⟩ = some (.slice A L cap) := VB_.cell 0
      have l1 : w3.cell? ⟨K + 2, 1, none⟩ = some (.slice Z M zcap) := VB_.cell 1
      have lz := VB_.lt
      clear VB_
      by_cases hLn : 20 < L
      · have hLi : (20 : Int) < (L : Int) := by omega
        go_wp2_with (fail)
        clear l0 l1
        refine (works_any w3).mono ?_
        rintro e w9 ⟨rfl, hb⟩
        have H9 := Lib.hid (H3.out.trans (hb.mono H3.out.size))
        clear hb
        go_wp2_with (fail)
        go_ret
        exact ⟨rfl, (HV.out w9 H9.out).2.2.2.2⟩
      · have hLi : ¬ (20 : Int) < (L : Int) := by omega
        by_cases hMn : 20 < M
        · have hMi : (20 : Int) < (M : Int) := by omega
          go_wp2_with (fail)
          clear l0 l1
          refine (works_any w3).mono ?_
          rintro e w9 ⟨rfl, hb⟩
          have H9 := Lib.hid (H3.out.trans (hb.mono H3.out.size))
          clear hb
          go_wp2_with (fail)
          go_ret
          exact ⟨rfl, (HV.out w9 H9.out).2.2.2.2⟩
        · have hMi : ¬ (20 : Int) < (M : Int) := by omega
          have hd1 : decide ((20 : Int) < (L : Int)) = false := by simp; omega
          have hd2 : decide ((20 : Int) < (M : Int)) = false := by simp; omega
          go_wp2_with (fail)
          go_quiet (fail)
          clear l0 l1
          have HQ0 := Lib.hid (below_drewN H3.out nq)
          obtain ⟨wq, hwq⟩ : ∃ wq, wq = w3.drewN nq := ⟨_, rfl⟩
          rw [← hwq] at HQ0 ⊢
          clear hwq
          go_wp2
          go_loopw [9, 10] (fun p i wr => BesRel W0 a b p i wr) (fun _ i _ => L - (intOf i).toNat)
          case atStart => unfold BesRel; exact ⟨0, false, rfl, rfl, ⟨Nat.zero_le _, Nat.zero_le _⟩, Lib.hid (fun e => by cases e), HQ0⟩
          case round =>
            obtain ⟨k, q, rfl, rfl, ⟨hk, hk2⟩, HP, HB⟩ := hrel
            rw [← HLL.out] at hk
            have HR := Lib.hid (HV.out wr HB.out)
            by_cases h1 : k < L
            · have h1' : (k : Int) < (L : Int) := by omega
              by_cases h2 : k < M
              · have h2' : (k : Int) < (M : Int) := by omega
                have hka : k < a.length := by have := HLL.out; omega
                have hkb : k < b.length := by have := HMM.out; omega
                have hws := HR.out.2.2.2.1.1
                have hzs := HR.out.2.2.2.1.2
                obtain ⟨ba, oa, ca, hsa, _, _, _, c1⟩ := hws.step (Below.refl _ _) k hka
                obtain ⟨bb, ob, cb, hsb, _, _, _, c2⟩ := hzs.step (Below.refl _ _) k hkb
                injection hsa with e1 e2 e3
                injection hsb with e4 e5 e6
                subst e1 e3 e4 e6
                clear e2 e5 hws hzs
                have i0 : (0 : Int) ≤ (k : Int) := by omega
                cases q
                · obtain ⟨na, hna⟩ : ∃ na, na = a[k].2 := ⟨_, rfl⟩
                  obtain ⟨nb, hnb⟩ : ∃ nb, nb = b[k].2 := ⟨_, rfl⟩
                  rw [← hna] at c1
                  rw [← hnb] at c2
                  have HN := Lib.hid (And.intro hna hnb)
                  clear hna hnb
                  by_cases hn : na = nb
                  · subst hn
                    go_wp2_with (fail)
                    go_quiet (fail)
                    go_wp2
                    go_roundw
                    case rel => unfold BesRel; exact ⟨k + 1, false, by go_num, rfl, ⟨by omega, by omega⟩, Lib.hid (fun e => by cases e), Lib.hid (below_drewN HB.out _)⟩
                    case measure => simp [intOf]; omega
                  · have hn' : (na == nb) = false := by simpa using hn
                    go_wp2_with (fail)
                    go_quiet (fail)
                    go_wp2
                    go_roundw
                    case rel => unfold BesRel; exact ⟨k + 1, (na != nb), by go_num, rfl, ⟨by omega, by omega⟩, Lib.hid (fun _ => parts_here hka hkb (by rw [← HN.out.1, ← HN.out.2]; exact hn)), Lib.hid (below_drewN HB.out _)⟩
                    case measure => simp [intOf]; omega
                · go_wp2_with (fail)
                  go_quiet (fail)
                  go_wp2
                  go_roundw
                  case rel => unfold BesRel; exact ⟨k + 1, true, by go_num, rfl, ⟨by omega, by omega⟩, Lib.hid (fun _ => parts_on (by first | exact HP.out rfl | exact HP.out trivial)), Lib.hid (below_drewN HB.out _)⟩
                  case measure => simp [intOf]; omega
              · have h2' : ¬ (k : Int) < (M : Int) := by omega
                have hbr := HB.out
                obtain ⟨VT_, VX_, VB_, _, _⟩ := HV.out wr hbr
                obtain ⟨⟨at0, at1, at2⟩, _, atz⟩ := VT_
                obtain ⟨⟨ax0, ax1, ax2⟩, _, axz⟩ := VX_
                clear VB_ hbr
                go_wp2_with (fail)
                clear at0 at1 at2 ax0 ax1 ax2
                refine (set_any t x _ _ a _ wr HI.out HIX.out HLN.out HR.out.1.2.1 HR.out.2.1.2.1 HR.out.2.2.2.1.1).mono ?_
                obtain ⟨p3, hp3⟩ : ∃ p, p = setT t x a := ⟨_, rfl⟩
                rw [← hp3]
                have HP3 := Lib.hid hp3
                clear hp3
                rintro e v1 ⟨s, rfl, hk, hb⟩
                obtain ⟨B1, c1, rfl, _⟩ := hk.form
                obtain ⟨m1, hm1⟩ : ∃ m1, m1 = p3.1.kids.length := ⟨_, rfl⟩
                rw [← hm1] at hk ⊢
                clear hm1
                have hv1 := HB.out.trans (hb.mono HB.out.size)
                obtain ⟨⟨⟨at0, at1, at2⟩, _, atz⟩, _, _, _, _⟩ := HV.out v1 hv1
                have hn := below_new v1 (.cells #[.int .i64 p3.1.kind, .int .i64 p3.1.num, .slice B1 m1 c1] TV)
                have hvn : VarIs (v1.alloc (.cells #[.int .i64 p3.1.kind, .int .i64 p3.1.num, .slice B1 m1 c1] TV)) v1.heap.size p3.1 (.slice B1 m1 c1) := VarIs.new _ rfl hk
                have HX1 := Lib.hid (And.intro (hv1.trans (hn.mono hv1.size)) hvn)
                clear hk hb hv1 hn hvn
                go_wp2_with (fail)
                clear at0 at1 at2
                obtain ⟨X1, hX⟩ : ∃ X, X = v1.alloc (.cells #[.int .i64 p3.1.kind, .int .i64 p3.1.num, .slice B1 m1 c1] TV) := ⟨_, rfl⟩
                obtain ⟨b1, hb1⟩ : ∃ b, b = v1.heap.size := ⟨_, rfl⟩
                rw [← hX, ← hb1] at HX1 ⊢
                clear hX hb1
                refine (at_any t _ b _ X1 HI.out (HV.out X1 HX1.out.1).1.2.1 (HV.out X1 HX1.out.1).2.2.2.1.2).mono ?_
                obtain ⟨p1, hp1⟩ : ∃ p, p = ended (atT t b) := ⟨_, rfl⟩
                rw [← hp1]
                have HP1 := Lib.hid hp1
                clear hp1
                rintro e v2 ⟨s, rfl, hk, hb⟩
                obtain ⟨B2, c2, rfl, _⟩ := hk.form
                obtain ⟨m2, hm2⟩ : ∃ m2, m2 = p1.1.kids.length := ⟨_, rfl⟩
                rw [← hm2] at hk ⊢
                clear hm2
                have hv2 := HX1.out.1.trans (hb.mono HX1.out.1.size)
                have hc2 := HX1.out.2.below hb
                have hn := below_new v2 (.cells #[.int .i64 p1.1.kind, .int .i64 p1.1.num, .slice B2 m2 c2] TV)
                have hvn : VarIs (v2.alloc (.cells #[.int .i64 p1.1.kind, .int .i64 p1.1.num, .slice B2 m2 c2] TV)) v2.heap.size p1.1 (.slice B2 m2 c2) := VarIs.new _ rfl hk
                have HX2 := Lib.hid (And.intro (hv2.trans (hn.mono hv2.size)) (And.intro (hc2.below hn) hvn))
                obtain ⟨⟨a10, a11, a12⟩, _, a1z⟩ := hc2
                clear hk hb hv2 hn hvn
                cases q
                · go_wp2_with (fail)
                  go_ret
                  exact ⟨rfl, (HV.out _ HX2.out.1).2.2.2.2⟩
                · by_cases hz3 : p3.2 = 0
                  · by_cases hz1 : p1.2 = 0
                    · have HQ : Hid (ended (atT p3.1 b) = p1) := Lib.hid (by rw [HP1.out] at hz1 ⊢; rw [HP3.out] at hz3 ⊢; exact beside_at (by first | exact HP.out rfl | exact HP.out trivial) hz3 hz1)
                      have HPI : Hid (I64 p3.1.kind ∧ I64 p3.1.num) := Lib.hid (by rw [HP3.out]; exact setT_i64 HI.out HIX.out)
                      have hz3' : (p3.2 == 0) = true := by simpa using hz3
                      have hz1' : (p1.2 == 0) = true := by simpa using hz1
                      go_wp2_with (fail)
                      clear a10 a11 a12
                      obtain ⟨X2, hX⟩ : ∃ X, X = v2.alloc (.cells #[.int .i64 p1.1.kind, .int .i64 p1.1.num, .slice B2 m2 c2] TV) := ⟨_, rfl⟩
                      obtain ⟨b2, hb2⟩ : ∃ b, b = v2.heap.size := ⟨_, rfl⟩
                      rw [← hX, ← hb2] at HX2 ⊢
                      clear hX hb2
                      refine (at_any p3.1 _ b _ X2 HPI.out HX2.out.2.1.2.1 (HV.out X2 HX2.out.1).2.2.2.1.2).mono ?_
                      rw [HQ.out]
                      rintro e v3 ⟨s, rfl, hk, hb⟩
                      obtain ⟨B3, c3, rfl, _⟩ := hk.form
                      obtain ⟨m3, hm3⟩ : ∃ m3, m3 = p1.1.kids.length := ⟨_, rfl⟩
                      rw [← hm3] at hk ⊢
                      clear hm3
                      have hw3 := HX2.out.2.2.below hb
                      have hn := below_new v3 (.cells #[.int .i64 p1.1.kind, .int .i64 p1.1.num, .slice B3 m3 c3] TV)
                      have HSA := Lib.hid (rsame_any p1.1 p1.1 _ _ (v3.alloc (.cells #[.int .i64 p1.1.kind, .int .i64 p1.1.num, .slice B3 m3 c3] TV)) (hw3.2.1.below hn) (hk.below hn))
                      have hv3 := HX2.out.1.trans (hb.mono HX2.out.1.size)
                      have HBL := Lib.hid (HV.out _ (hv3.trans (hn.mono hv3.size))).2.2.2.2
                      obtain ⟨⟨a20, a21, a22⟩, _, a2z⟩ := hw3
                      clear hk hb hn hv3 hz1 hz3
                      go_wp2_with (fail)
                      refine HSA.out.mono ?_
                      rintro e w9 ⟨rfl, h9⟩
                      rw [eqB_self]
                      go_wp2_with (fail)
                      go_ret
                      exact ⟨rfl, HBL.out.trans (h9.mono HBL.out.size)⟩
                    · have hz3' : (p3.2 == 0) = true := by simpa using hz3
                      have hz1' : (p1.2 == 0) = false := by simpa using hz1
                      go_wp2_with (fail)
                      go_ret
                      exact ⟨rfl, (HV.out _ HX2.out.1).2.2.2.2⟩
                  · have hz3' : (p3.2 == 0) = false := by simpa using hz3
                    go_wp2_with (fail)
                    go_ret
                    exact ⟨rfl, (HV.out _ HX2.out.1).2.2.2.2⟩
            · have h1' : ¬ (k : Int) < (L : Int) := by omega
              have hbr := HB.out
              obtain ⟨VT_, VX_, VB_, _, _⟩ := HV.out wr hbr
              obtain ⟨⟨at0, at1, at2⟩, _, atz⟩ := VT_
              obtain ⟨⟨ax0, ax1, ax2⟩, _, axz⟩ := VX_
              clear VB_ hbr
              go_wp2_with (fail)
              clear at0 at1 at2 ax0 ax1 ax2
              refine (set_any t x _ _ a _ wr HI.out HIX.out HLN.out HR.out.1.2.1 HR.out.2.1.2.1 HR.out.2.2.2.1.1).mono ?_
              obtain ⟨p3, hp3⟩ : ∃ p, p = setT t x a := ⟨_, rfl⟩
              rw [← hp3]
              have HP3 := Lib.hid hp3
              clear hp3
              rintro e v1 ⟨s, rfl, hk, hb⟩
              obtain ⟨B1, c1, rfl, _⟩ := hk.form
              obtain ⟨m1, hm1⟩ : ∃ m1, m1 = p3.1.kids.length := ⟨_, rfl⟩
              rw [← hm1] at hk ⊢
              clear hm1
              have hv1 := HB.out.trans (hb.mono HB.out.size)
              obtain ⟨⟨⟨at0, at1, at2⟩, _, atz⟩, _, _, _, _⟩ := HV.out v1 hv1
              have hn := below_new v1 (.cells #[.int .i64 p3.1.kind, .int .i64 p3.1.num, .slice B1 m1 c1] TV)
              have hvn : VarIs (v1.alloc (.cells #[.int .i64 p3.1.kind, .int .i64 p3.1.num, .slice B1 m1 c1] TV)) v1.heap.size p3.1 (.slice B1 m1 c1) := VarIs.new _ rfl hk
              have HX1 := Lib.hid (And.intro (hv1.trans (hn.mono hv1.size)) hvn)
              clear hk hb hv1 hn hvn
              go_wp2_with (fail)
              clear at0 at1 at2
              obtain ⟨X1, hX⟩ : ∃ X, X = v1.alloc (.cells #[.int .i64 p3.1.kind, .int .i64 p3.1.num, .slice B1 m1 c1] TV) := ⟨_, rfl⟩
              obtain ⟨b1, hb1⟩ : ∃ b, b = v1.heap.size := ⟨_, rfl⟩
              rw [← hX, ← hb1] at HX1 ⊢
              clear hX hb1
              refine (at_any t _ b _ X1 HI.out (HV.out X1 HX1.out.1).1.2.1 (HV.out X1 HX1.out.1).2.2.2.1.2).mono ?_
              obtain ⟨p1, hp1⟩ : ∃ p, p = ended (atT t b) := ⟨_, rfl⟩
              rw [← hp1]
              have HP1 := Lib.hid hp1
              clear hp1
              rintro e v2 ⟨s, rfl, hk, hb⟩
              obtain ⟨B2, c2, rfl, _⟩ := hk.form
              obtain ⟨m2, hm2⟩ : ∃ m2, m2 = p1.1.kids.length := ⟨_, rfl⟩
              rw [← hm2] at hk ⊢
              clear hm2
              have hv2 := HX1.out.1.trans (hb.mono HX1.out.1.size)
              have hc2 := HX1.out.2.below hb
              have hn := below_new v2 (.cells #[.int .i64 p1.1.kind, .int .i64 p1.1.num, .slice B2 m2 c2] TV)
              have hvn : VarIs (v2.alloc (.cells #[.int .i64 p1.1.kind, .int .i64 p1.1.num, .slice B2 m2 c2] TV)) v2.heap.size p1.1 (.slice B2 m2 c2) := VarIs.new _ rfl hk
              have HX2 := Lib.hid (And.intro (hv2.trans (hn.mono hv2.size)) (And.intro (hc2.below hn) hvn))
              obtain ⟨⟨a10, a11, a12⟩, _, a1z⟩ := hc2
              clear hk hb hv2 hn hvn
              cases q
              · go_wp2_with (fail)
                go_ret
                exact ⟨rfl, (HV.out _ HX2.out.1).2.2.2.2⟩
              · by_cases hz3 : p3.2 = 0
                · by_cases hz1 : p1.2 = 0
                  · have HQ : Hid (ended (atT p3.1 b) = p1) := Lib.hid (by rw [HP1.out] at hz1 ⊢; rw [HP3.out] at hz3 ⊢; exact beside_at (by first | exact HP.out rfl | exact HP.out trivial) hz3 hz1)
                    have HPI : Hid (I64 p3.1.kind ∧ I64 p3.1.num) := Lib.hid (by rw [HP3.out]; exact setT_i64 HI.out HIX.out)
                    have hz3' : (p3.2 == 0) = true := by simpa using hz3
                    have hz1' : (p1.2 == 0) = true := by simpa using hz1
                    go_wp2_with (fail)
                    clear a10 a11 a12
                    obtain ⟨X2, hX⟩ : ∃ X, X = v2.alloc (.cells #[.int .i64 p1.1.kind, .int .i64 p1.1.num, .slice B2 m2 c2] TV) := ⟨_, rfl⟩
                    obtain ⟨b2, hb2⟩ : ∃ b, b = v2.heap.size := ⟨_, rfl⟩
                    rw [← hX, ← hb2] at HX2 ⊢
                    clear hX hb2
                    refine (at_any p3.1 _ b _ X2 HPI.out HX2.out.2.1.2.1 (HV.out X2 HX2.out.1).2.2.2.1.2).mono ?_
                    rw [HQ.out]
                    rintro e v3 ⟨s, rfl, hk, hb⟩
                    obtain ⟨B3, c3, rfl, _⟩ := hk.form
                    obtain ⟨m3, hm3⟩ : ∃ m3, m3 = p1.1.kids.length := ⟨_, rfl⟩
                    rw [← hm3] at hk ⊢
                    clear hm3
                    have hw3 := HX2.out.2.2.below hb
                    have hn := below_new v3 (.cells #[.int .i64 p1.1.kind, .int .i64 p1.1.num, .slice B3 m3 c3] TV)
                    have HSA := Lib.hid (rsame_any p1.1 p1.1 _ _ (v3.alloc (.cells #[.int .i64 p1.1.kind, .int .i64 p1.1.num, .slice B3 m3 c3] TV)) (hw3.2.1.below hn) (hk.below hn))
                    have hv3 := HX2.out.1.trans (hb.mono HX2.out.1.size)
                    have HBL := Lib.hid (HV.out _ (hv3.trans (hn.mono hv3.size))).2.2.2.2
                    obtain ⟨⟨a20, a21, a22⟩, _, a2z⟩ := hw3
                    clear hk hb hn hv3 hz1 hz3
                    go_wp2_with (fail)
                    refine HSA.out.mono ?_
                    rintro e w9 ⟨rfl, h9⟩
                    rw [eqB_self]
                    go_wp2_with (fail)
                    go_ret
                    exact ⟨rfl, HBL.out.trans (h9.mono HBL.out.size)⟩
                  · have hz3' : (p3.2 == 0) = true := by simpa using hz3
                    have hz1' : (p1.2 == 0) = false := by simpa using hz1
                    go_wp2_with (fail)
                    go_ret
                    exact ⟨rfl, (HV.out _ HX2.out.1).2.2.2.2⟩
                · have hz3' : (p3.2 == 0) = false := by simpa using hz3
                  go_wp2_with (fail)
                  go_ret
                  exact ⟨rfl, (HV.out _ HX2.out.1).2.2.2.2⟩
end Go.Proofs.Ytlejcmojimkjeaa.vt

/- The law on arrays of one value, and arrays and records of any. -/
import Derived.Test.YtlejcmojimkjeaaPathGoesLaw
import Derived.Test.YtlejcmojimkjeaaPathRefFill
import Derived.Test.YtlejcmojimkjeaaPathRefMake
namespace Go.Proofs.Ytlejcmojimkjeaa.vt
open Go.RowKit mem

theorem make_len {l : List VT} (h : (makeT 2 l).2 = 0) : lenI (makeT 2 l).1 = (l.length : Int) := by
  unfold makeT at h ⊢
  split at h
  · rename_i hc
    rw [if_pos hc]
    unfold fitsT at h ⊢
    split at h
    · rename_i hs; rw [if_pos hs]; rfl
    · exact absurd h (by decide)
  · exact absurd h (by decide)
theorem sum_step {l : List VT} {k z : Nat} (hk : k < l.length) (hz : z = sizeL (l.take k)) (hs : sizeL l ≤ 1048576) :
    wrap64 (l[k].size : Int) = (l[k].size : Int) ∧ IntKind.i64.wrap ((z : Int) + (l[k].size : Int)) = (z : Int) + (l[k].size : Int) ∧ (z + l[k].size = sizeL (l.take (k + 1)) ∧ z + l[k].size ≤ 1048576) ∧ l[k].size ≤ 1048576 := by
  have h1 := sizeL_take l k hk
  have h2 := sizeL_take_le l (k + 1)
  refine ⟨?_, IntWalk.i64_in _ (by omega), ⟨by omega, by omega⟩, by omega⟩
  unfold wrap64; omega
def SumRel (W0 : World) (l : List VT) (N : Nat) (sm i : Value) (wr : World) : Prop :=
  ∃ k m : Nat, k ≤ N ∧ i = .int .i64 k ∧ sm = .int .i64 m ∧ m ≤ 1048576 ∧ Hid (m = sizeL (l.take k)) ∧ Hid (Below W0.heap.size W0 wr)
def KindRel (W0 : World) (i : Value) (wr : World) : Prop := ∃ kd : Int, i = .int .i64 kd ∧ (-1 ≤ kd ∧ kd ≤ 5) ∧ Hid (Below W0.heap.size W0 wr)
set_option maxHeartbeats 4000000 in
set_option maxRecDepth 100000 in
theorem pmakes_law (n : Int) (t : VT) (s ls : Value) (l : List VT) (w : World) (hi : I64 t.kind ∧ I64 t.num) (h : Kids (fun _ => True) w t.kids s) (hl : Kids (fun _ => True) w l ls) (hst : t.size ≤ 1048576) (hsl : sizeL l ≤ 1048576) :
    Calls Try.prog 4 #[.int .i64 n, .agg #[.int .i64 t.kind, .int .i64 t.num, s], ls] w (LawHolds w) := by
  obtain ⟨K, hK⟩ : ∃ K, K = w.heap.size := ⟨_, rfl⟩
  obtain ⟨W0, hW0⟩ : ∃ W0, W0 = w.alloc (.cells #[.int .i64 t.kind, .int .i64 t.num, s] TV) := ⟨_, rfl⟩
  have hb0 : Below w.heap.size w W0 := by rw [hW0]; exact below_new w _
  have hA0 : VarIs W0 K t s := by rw [hW0, hK]; exact VarIs.new _ rfl h
  have HV : Hid (∀ w', Below W0.heap.size W0 w' → VarIs w' K t s ∧ Kids (fun _ => True) w' l ls ∧ Below w.heap.size w w') := Lib.hid fun w' hb => ⟨hA0.below hb, (hl.below hb0).below hb, hb0.trans (hb.mono hb0.size)⟩
  have HI := Lib.hid hi
  obtain ⟨A, cap, rfl, hlen⟩ := hl.form
  obtain ⟨A1, cap1, rfl, _⟩ := h.form
  have hll := len_le_sizeL l
  obtain ⟨L, hL⟩ : ∃ L, L = l.length := ⟨_, rfl⟩
  obtain ⟨n1, hn1⟩ : ∃ n1, n1 = t.kids.length := ⟨_, rfl⟩
  have HLL := Lib.hid hL
  have HSL := Lib.hid hsl
  rw [← hL, ← hn1] at HV
  rw [← hn1] at hW0
  rw [← hL] at hlen hll
  rw [← hL, ← hn1]
  clear h hl hi hb0 hA0 hL hn1
  go_enter Try.func4, Try.ntmps4
  go_wp2_with (fail)
  rw [← hW0, ← hK]
  clear hW0 hK
  refine (works_any W0).mono ?_
  rintro e w1 ⟨rfl, h1⟩
  obtain ⟨⟨⟨at0, at1, at2⟩, _, atz⟩, _, _⟩ := HV.out w1 h1
  have H1 := Lib.hid h1
  clear h1
  go_wp2_with (fail)
  clear at0 at1 at2
  refine (rsize_any t _ w1 (HV.out w1 H1.out).1.2.1).mono ?_
  rintro e w2 ⟨rfl, hb⟩
  have H2 := Lib.hid (H1.out.trans (hb.mono H1.out.size))
  clear hb
  obtain ⟨m, hm⟩ : ∃ m, m = wrap64 (t.size : Int) := ⟨_, rfl⟩
  rw [← hm]
  have HM := Lib.hid hm
  clear hm
  by_cases hX : 5000 < m
  · go_wp2_with (fail)
    refine (works_any w2).mono ?_
    rintro e w9 ⟨rfl, hb⟩
    have H9 := Lib.hid (H2.out.trans (hb.mono H2.out.size))
    clear hb
    go_wp2_with (fail)
    go_ret
    exact ⟨rfl, (HV.out w9 H9.out).2.2⟩
  · by_cases hLn : 400 < L
    · have hLi : (400 : Int) < (L : Int) := by omega
      go_wp2_with (fail)
      refine (works_any w2).mono ?_
      rintro e w9 ⟨rfl, hb⟩
      have H9 := Lib.hid (H2.out.trans (hb.mono H2.out.size))
      clear hb
      go_wp2_with (fail)
      go_ret
      exact ⟨rfl, (HV.out w9 H9.out).2.2⟩
    · have hLi : ¬ (400 : Int) < (L : Int) := by omega
      have hd1 : decide ((400 : Int) < (L : Int)) = false := by simp; omega
      have hd2 : decide ((5000 : Int) < m) = false := by simp; omega
      go_wp2_with (fail)
      go_loopw [7, 8] (fun sm i wr => SumRel W0 l L sm i wr) (fun _ i _ => L - (intOf i).toNat)
      case atStart => unfold SumRel; exact ⟨0, 0, Nat.zero_le _, rfl, rfl, Nat.zero_le _, Lib.hid (by simp [sizeL]), H2⟩
      case round =>
        obtain ⟨k, z, hk, rfl, rfl, hz, HZ, HB⟩ := hrel
        have HR := Lib.hid (HV.out wr HB.out)
        by_cases hlt : k < L
        · have hkl : k < l.length := by have := HLL.out; omega
          have hkk := HR.out.2.1
          rw [HLL.out] at hkk
          obtain ⟨b, off, cp2, hs, _, i1, i2, k0, k1, s', k2, hku⟩ := hkk.at_ k hkl
          injection hs with e1 e2 e3
          subst e1 e3
          clear e2 hkk
          obtain ⟨A3, cp3, rfl, _⟩ := hku.form
          have hst4 := sum_step hkl HZ.out HSL.out
          obtain ⟨u, hu⟩ : ∃ u, u = l[k] := ⟨_, rfl⟩
          rw [← hu] at k0 k1 k2 hku hst4
          obtain ⟨n3, hn3⟩ : ∃ n3, n3 = u.kids.length := ⟨_, rfl⟩
          have HSZ := Lib.hid (rsize_any u _ wr hku)
          rw [← hn3] at k2 HSZ
          obtain ⟨hu1, hsum, HN0, hus2⟩ := hst4
          rw [hu1] at HSZ
          have HN := Lib.hid HN0
          clear HN0
          obtain ⟨us, hus⟩ : ∃ us, us = u.size := ⟨_, rfl⟩
          rw [← hus] at HSZ hsum HN hus2
          have i0 : (0 : Int) ≤ (k : Int) := by omega
          have i3 : (k : Int) < (L : Int) := by omega
          clear hku hu hn3 hu1 hus
          go_wp2_with (go_at_call 8; refine HSZ.out.mono ?_; rintro e w3 ⟨rfl, hb⟩)
          go_roundw
          case rel => unfold SumRel; exact ⟨k + 1, z + us, by omega, by go_num, by go_num, HN.out.2, Lib.hid HN.out.1, Lib.hid (HB.out.trans (hb.mono HB.out.size))⟩
          case measure => simp [intOf]; omega
        · have hzz : Hid (z = sizeL l) := Lib.hid (by rw [HZ.out, List.take_of_length_le (by have := HLL.out; omega)])
          have hlt' : ¬ (k : Int) < (L : Int) := by omega
          obtain ⟨⟨⟨at0, at1, at2⟩, _, atz⟩, _, _⟩ := HV.out wr HB.out
          by_cases h9 : 9000 < z
          · have h9' : (9000 : Int) < (z : Int) := by omega
            go_wp2_with (fail)
            go_ret
            exact ⟨rfl, HR.out.2.2⟩
          · have h9' : ¬ (9000 : Int) < (z : Int) := by omega
            go_wp2_with (fail)
            clear at0 at1 at2
            refine (fill_any n t _ wr HI.out HR.out.1.2.1).mono ?_
            obtain ⟨p, hp⟩ : ∃ p, p = fillT n t := ⟨_, rfl⟩
            rw [← hp]
            have HP := Lib.hid hp
            clear hp
            rintro e v1 ⟨s, rfl, hk', hb⟩
            obtain ⟨B1, c1, rfl, _⟩ := hk'.form
            obtain ⟨m1, hm1⟩ : ∃ m1, m1 = p.1.kids.length := ⟨_, rfl⟩
            rw [← hm1] at hk' ⊢
            clear hm1
            have hv1 := HB.out.trans (hb.mono HB.out.size)
            obtain ⟨⟨⟨at0, at1, at2⟩, _, atz⟩, _, _⟩ := HV.out v1 hv1
            have hn := below_new v1 (.cells #[.int .i64 p.1.kind, .int .i64 p.1.num, .slice B1 m1 c1] TV)
            have hvn : VarIs (v1.alloc (.cells #[.int .i64 p.1.kind, .int .i64 p.1.num, .slice B1 m1 c1] TV)) v1.heap.size p.1 (.slice B1 m1 c1) := VarIs.new _ rfl hk'
            have HX1 := Lib.hid (And.intro (hv1.trans (hn.mono hv1.size)) hvn)
            clear hk' hb hv1 hn hvn
            go_wp2_with (fail)
            clear at0 at1 at2
            obtain ⟨X1, hX⟩ : ∃ X, X = v1.alloc (.cells #[.int .i64 p.1.kind, .int .i64 p.1.num, .slice B1 m1 c1] TV) := ⟨_, rfl⟩
            obtain ⟨b1, hb1⟩ : ∃ b, b = v1.heap.size := ⟨_, rfl⟩
            rw [← hX, ← hb1] at HX1 ⊢
            clear hX hb1
            refine (rfill_any n t _ X1 HI.out hst (HV.out X1 HX1.out.1).1.2.1).mono ?_
            rw [← HP.out]
            rintro e v2 ⟨s, rfl, hk', hb⟩
            obtain ⟨B2, c2, rfl, _⟩ := hk'.form
            obtain ⟨m2, hm2⟩ : ∃ m2, m2 = p.1.kids.length := ⟨_, rfl⟩
            rw [← hm2] at hk' ⊢
            clear hm2
            have hv2 := HX1.out.1.trans (hb.mono HX1.out.1.size)
            have hc2 := HX1.out.2.below hb
            have hn := below_new v2 (.cells #[.int .i64 p.1.kind, .int .i64 p.1.num, .slice B2 m2 c2] TV)
            have HSA := Lib.hid (rsame_any p.1 p.1 _ _ (v2.alloc (.cells #[.int .i64 p.1.kind, .int .i64 p.1.num, .slice B2 m2 c2] TV)) (hc2.2.1.below hn) (hk'.below hn))
            have HX2 := Lib.hid (hv2.trans (hn.mono hv2.size))
            obtain ⟨⟨a10, a11, a12⟩, _, a1z⟩ := hc2
            clear hk' hb hv2 hn
            go_wp2_with (fail)
            clear a10 a11 a12
            refine HSA.out.mono ?_
            rintro e w5 ⟨rfl, h5⟩
            rw [eqB_self]
            have H5 := Lib.hid (HX2.out.trans (h5.mono HX2.out.size))
            clear h5
            go_wp2_with (fail)
            go_loopw [13] (fun i wr => KindRel W0 i wr) (fun i _ => (5 - intOf i).toNat)
            case atStart => unfold KindRel; exact ⟨-1, rfl, by omega, H5⟩
            case round =>
              obtain ⟨kd, rfl, hkd, HC⟩ := hrel
              have HD := Lib.hid (HV.out wr HC.out)
              by_cases hk5 : kd < 5
              · go_wp2_with (fail)
                refine (make_any kd l _ wr (by have := HLL.out; omega) HD.out.2.1).mono ?_
                obtain ⟨q, hq⟩ : ∃ q, q = makeT kd l := ⟨_, rfl⟩
                rw [← hq]
                have HQ := Lib.hid hq
                clear hq
                rintro e v3 ⟨s, rfl, hk', hb⟩
                obtain ⟨B3, c3, rfl, _⟩ := hk'.form
                obtain ⟨m3, hm3⟩ : ∃ m3, m3 = q.1.kids.length := ⟨_, rfl⟩
                rw [← hm3] at hk' ⊢
                clear hm3
                have hv3 := HC.out.trans (hb.mono HC.out.size)
                have hn := below_new v3 (.cells #[.int .i64 q.1.kind, .int .i64 q.1.num, .slice B3 m3 c3] TV)
                have hvn : VarIs (v3.alloc (.cells #[.int .i64 q.1.kind, .int .i64 q.1.num, .slice B3 m3 c3] TV)) v3.heap.size q.1 (.slice B3 m3 c3) := VarIs.new _ rfl (hk'.mono fun _ _ => trivial)
                have HX3 := Lib.hid (And.intro (hv3.trans (hn.mono hv3.size)) hvn)
                clear hk' hb hv3 hn hvn
                go_wp2_with (fail)
                obtain ⟨X3, hX⟩ : ∃ X, X = v3.alloc (.cells #[.int .i64 q.1.kind, .int .i64 q.1.num, .slice B3 m3 c3] TV) := ⟨_, rfl⟩
                obtain ⟨b3, hb3⟩ : ∃ b, b = v3.heap.size := ⟨_, rfl⟩
                rw [← hX, ← hb3] at HX3 ⊢
                clear hX hb3
                refine (rmake_any kd l _ X3 (by have := HLL.out; omega) (by rw [size_mk]; have := HSL.out; omega) (HV.out X3 HX3.out.1).2.1).mono ?_
                rw [← HQ.out]
                rintro e v4 ⟨s, rfl, hk', hb⟩
                obtain ⟨B4, c4, rfl, _⟩ := hk'.form
                obtain ⟨m4, hm4⟩ : ∃ m4, m4 = q.1.kids.length := ⟨_, rfl⟩
                rw [← hm4] at hk' ⊢
                clear hm4
                have hv4 := HX3.out.1.trans (hb.mono HX3.out.1.size)
                have hc4 := HX3.out.2.below hb
                have hn := below_new v4 (.cells #[.int .i64 q.1.kind, .int .i64 q.1.num, .slice B4 m4 c4] TV)
                have HSB := Lib.hid (rsame_any q.1 q.1 _ _ (v4.alloc (.cells #[.int .i64 q.1.kind, .int .i64 q.1.num, .slice B4 m4 c4] TV)) (hc4.2.1.below hn) (hk'.below hn))
                have HC4 := Lib.hid (hc4.below hn)
                have HX4 := Lib.hid (hv4.trans (hn.mono hv4.size))
                obtain ⟨⟨a30, a31, a32⟩, _, a3z⟩ := hc4
                clear hk' hb hv4 hn
                go_wp2_with (fail)
                clear a30 a31 a32
                refine HSB.out.mono ?_
                rintro e w6 ⟨rfl, h6⟩
                rw [eqB_self]
                have hc6 := HC4.out.below h6
                have H6 := Lib.hid (HX4.out.trans (h6.mono HX4.out.size))
                clear h6
                by_cases hz0 : q.2 = 0
                · have hz0' : (q.2 == 0) = true := by simpa using hz0
                  by_cases hk2 : kd = 2
                  · subst hk2
                    have hln : lenI q.1 = (L : Int) := by rw [HQ.out] at hz0 ⊢; rw [make_len hz0, HLL.out]
                    have HLE := Lib.hid (len_any q.1 _ w6 hc6.2.1)
                    rw [hln] at HLE
                    obtain ⟨⟨a30, a31, a32⟩, _, a3z⟩ := hc6
                    clear hln hz0
                    go_wp2_with (go_at_call 19; refine HLE.out.mono ?_; rintro e w7 ⟨rfl, hb⟩; have H7 := Lib.hid (H6.out.trans (hb.mono H6.out.size)); clear hb)
                    go_roundw
                    case rel => unfold KindRel; exact ⟨3, by go_num, by omega, H7⟩
                    case measure => simp [intOf]
                  · have hk2' : (kd == 2) = false := by simpa using hk2
                    clear hc6
                    go_wp2_with (fail)
                    go_roundw
                    case rel => unfold KindRel; exact ⟨kd + 1, by go_num, by omega, H6⟩
                    case measure => simp [intOf]; omega
                · have hz0' : (q.2 == 0) = false := by simpa using hz0
                  clear hc6
                  go_wp2_with (fail)
                  go_roundw
                  case rel => unfold KindRel; exact ⟨kd + 1, by go_num, by omega, H6⟩
                  case measure => simp [intOf]; omega
              · go_wp2_with (fail)
                go_ret
                exact ⟨rfl, HD.out.2.2⟩
end Go.Proofs.Ytlejcmojimkjeaa.vt

/- The document's own answer: which nodes are programs. -/
import Derived.Test.YtkmkeaeaalnbjaaDoorCNodeDecl
namespace Go.Proofs.YtkmkeaeaalnbjaaDoor.nt
open Go.RowKit mem wd lx
open vt (I64 own_form)
def lastB (l : List NT) : Bool := match l.getLast? with | some b => b.blk | none => false
/-- a program -/
def progN (t : NT) : Bool := decide (t.kind = 55) && aloneN t.num t.name && lastB t.kids && (t.kids.take (t.kids.length - 1)).all declN
theorem prog_mk (k a n : Int) (s : List UInt8) (l : List NT) : progN (.mk k a n s l) = (decide (k = 55) && aloneN n s && lastB l && (l.take (l.length - 1)).all declN) := rfl
def PgRel (W : World) (m : Nat) (l : List NT) (i : Value) (wr : World) : Prop := ∃ k : Nat, k ≤ m ∧ i = .int .i64 k ∧ Hid ((l.take k).all declN = true) ∧ Below W.heap.size W wr
set_option maxHeartbeats 2000000 in
set_option maxRecDepth 100000 in
theorem rprog_mk {G : Nat → Prop} (k a n : Int) (nm : List UInt8) (l : List NT) : IsOf G 36 progN (.mk k a n nm l) := by
  intro hd s w h
  have hdd := hd
  obtain ⟨_, _, _, hnm⟩ := hd
  change nm.length ≤ _ at hnm
  change Kids G w l s at h
  obtain ⟨A, cap, rfl, hl⟩ := h.form
  show Calls Tryd.prog 36 #[.agg #[.int .i64 k, .int .i64 a, .int .i64 n, .string ⟨nm.toArray⟩, .slice A l.length cap]] w fun e w' => e = .returned (.bool (progN (NT.mk k a n nm l))) ∧ Below w.heap.size w w'
  have HT := Lib.hid (prog_mk k a n nm l)
  obtain ⟨R, hR⟩ : ∃ R, R = (progN (NT.mk k a n nm l)) := ⟨_, rfl⟩
  rw [← hR] at HT ⊢
  obtain ⟨H, hH⟩ : ∃ H, H = w.heap.size := ⟨_, rfl⟩
  obtain ⟨W, hW⟩ : ∃ W, W = w.alloc (.cells #[.int .i64 k, .int .i64 a, .int .i64 n, .string ⟨nm.toArray⟩, .slice A l.length cap] NodeT) := ⟨_, rfl⟩
  obtain ⟨⟨x0, x1, x2, x3, x4⟩, HB, HHW⟩ := boxed hH hW
  have HX := Lib.hid (And.intro x0 (And.intro x1 (And.intro x2 (And.intro x3 x4))))
  have HAL : Hid (∀ w', Below W.heap.size W w' → Calls Tryd.prog 49 #[.agg #[.int .i64 k, .int .i64 a, .int .i64 n, .string ⟨nm.toArray⟩, .slice A l.length cap]] w' fun e w'' => e = .returned (.bool (aloneN n nm)) ∧ Below W.heap.size W w'') := Lib.hid fun w' hb => (ralone_any (.mk k a n nm l) (.slice A l.length cap) w').mono fun e w'' ⟨h1, h2⟩ => ⟨h1, hb.trans (h2.mono hb.size)⟩
  have HNM : Hid (∀ w', Below W.heap.size W w' → Calls Tryd.prog 48 #[.string ⟨nm.toArray⟩] w' fun e w'' => e = .returned (.bool (named nm)) ∧ Below W.heap.size W w'') := Lib.hid fun w' hb => (rnamed_any nm w' hnm).mono fun e w'' ⟨h1, h2⟩ => ⟨h1, hb.trans (h2.mono hb.size)⟩
  have HK := Lib.hid (h.below HB.out)
  obtain ⟨N, hN⟩ : ∃ N, N = l.length := ⟨_, rfl⟩
  rw [← hN] at hl x4 hW HX HK HAL ⊢
  have HW := Lib.hid hW
  have HHH := Lib.hid hH
  have HNN := Lib.hid hN
  have HB0 : Hid (Below W.heap.size W W) := Lib.hid (Below.refl _ _)
  obtain ⟨al, hal⟩ : ∃ al, al = aloneN n nm := ⟨_, rfl⟩
  rw [← hal] at HT HAL
  obtain ⟨B, hB⟩ : ∃ B, B = named nm := ⟨_, rfl⟩
  rw [← hB] at HNM
  have HAQ := Lib.hid hal
  have HBQ := Lib.hid hB
  clear h hN hW hH hR hdd hal hB
  clear HNM HBQ HAQ
  by_cases c1 : k = 55
  · subst c1
    cases al
    · have HR : Hid (R = false) := Lib.hid (by rw [HT.out]; rfl)
      clear HT
      go_enter Tryd.func36, Tryd.ntmps36
      go_wp2_with (first | (rw [← HW.out, ← HHH.out]))
      refine (HAL.out _ HB0.out).mono ?_
      rintro e w1 ⟨rfl, hb1⟩
      obtain ⟨y10, y11, y12, y13, y14⟩ := boxed_on HX.out HHW.out hb1
      have HB1 := Lib.hid hb1
      clear hb1 x0 x1 x2 x3 x4
      go_wp2_with (fail)
      go_ret
      exact ⟨by rw [HR.out]; rfl, HB.out.trans (HB1.out.mono HB.out.size)⟩
    · have HT2 : Hid (R = (lastB l && (l.take (l.length - 1)).all declN)) := Lib.hid (by rw [HT.out]; rfl)
      clear HT
      by_cases hN1 : N = 0
      · have HR : Hid (R = false) := Lib.hid (by rw [HT2.out, List.eq_nil_of_length_eq_zero (l := l) (by rw [← HNN.out]; exact hN1)]; rfl)
        subst hN1
        clear HT2
        go_enter Tryd.func36, Tryd.ntmps36
        go_wp2_with (first | (rw [← HW.out, ← HHH.out]))
        refine (HAL.out _ HB0.out).mono ?_
        rintro e w1 ⟨rfl, hb1⟩
        obtain ⟨y10, y11, y12, y13, y14⟩ := boxed_on HX.out HHW.out hb1
        have HB1 := Lib.hid hb1
        clear hb1 x0 x1 x2 x3 x4
        go_wp2_with (fail)
        go_ret
        exact ⟨by rw [HR.out]; rfl, HB.out.trans (HB1.out.mono HB.out.size)⟩
      · have eN0 : ((N : Int) == 0) = false := beq_eq_false_iff_ne.2 (by omega)
        have hl0 : 0 < l.length := by rw [← HNN.out]; omega
        obtain ⟨m, hm⟩ : ∃ m, l.length = m + 1 := ⟨l.length - 1, by omega⟩
        have hml : m < l.length := by omega
        have hNm : (N : Int) - 1 = (m : Int) := by have := HNN.out; omega
        have hNm2 : (m : Int) < (N : Int) := by have := HNN.out; omega
        have hNm3 : (N : Int) = (m : Int) + 1 := by have := HNN.out; omega
        obtain ⟨bb, off, hA⟩ := kids_addr HK.out hl0
        subst hA
        obtain ⟨A0, M0, p0, k0, a0, n0, s0, hq0, hd0, hz0⟩ := kid_in HK.out m hml
        have HZ0 := Lib.hid (fun w' hb => (hz0 w' hb).1)
        have HI := Lib.hid (kid_kind 30 hq0 hd0 (rstmt_any _) (fun w' hb' => (hz0 w' hb').2))
        have HBL : Hid ((decide (k0 = 30) && l[m].stmt) = lastB l) := Lib.hid (by
          unfold lastB
          rw [List.getLast?_eq_getElem?, show l.length - 1 = m by omega, List.getElem?_eq_getElem hml]
          unfold NT.blk; rw [hq0.1])
        obtain ⟨bl, hbl⟩ : ∃ bl, bl = (decide (k0 = 30) && l[m].stmt) := ⟨_, rfl⟩
        rw [← hbl] at HI HBL
        have HT3 : Hid (R = (bl && (l.take m).all declN)) := Lib.hid (by rw [HT2.out, HBL.out, show l.length - 1 = m by omega])
        have HMM := Lib.hid hm
        have HM3 := Lib.hid hNm3
        clear hbl hz0 hq0 hd0 HT2 hm hNm3
        cases bl
        · have HR : Hid (R = false) := Lib.hid (by rw [HT3.out]; rfl)
          go_enter Tryd.func36, Tryd.ntmps36
          go_wp2_with (first | (rw [← HW.out, ← HHH.out]))
          refine (HAL.out _ HB0.out).mono ?_
          rintro e w1 ⟨rfl, hb1⟩
          obtain ⟨y0, y1, y2, y3, y4⟩ := boxed_on HX.out HHW.out hb1
          obtain ⟨q0, q1, q2, q3, q4⟩ := HZ0.out w1 hb1
          have HB1 := Lib.hid hb1
          clear hb1 x0 x1 x2 x3 x4
          go_wp2_with (fail)
          refine (HI.out _ HB1.out).mono ?_
          rintro e w2 ⟨rfl, hb2⟩
          obtain ⟨v0, v1, v2, v3, v4⟩ := boxed_on HX.out HHW.out hb2
          have HB2 := Lib.hid hb2
          clear hb2 y0 y1 y2 y3 y4 q0 q1 q2 q3 q4
          go_wp2_with (fail)
          go_ret
          exact ⟨by rw [HR.out]; rfl, HB.out.trans (HB2.out.mono HB.out.size)⟩
        · have HR : Hid (R = (l.take m).all declN) := Lib.hid (by rw [HT3.out]; simp)
          go_enter Tryd.func36, Tryd.ntmps36
          go_wp2_with (first | (rw [← HW.out, ← HHH.out]))
          refine (HAL.out _ HB0.out).mono ?_
          rintro e w1 ⟨rfl, hb1⟩
          obtain ⟨y0, y1, y2, y3, y4⟩ := boxed_on HX.out HHW.out hb1
          obtain ⟨q0, q1, q2, q3, q4⟩ := HZ0.out w1 hb1
          have HB1 := Lib.hid hb1
          clear hb1 x0 x1 x2 x3 x4
          go_wp2_with (fail)
          refine (HI.out _ HB1.out).mono ?_
          rintro e w2 ⟨rfl, hb2⟩
          obtain ⟨v0, v1, v2, v3, v4⟩ := boxed_on HX.out HHW.out hb2
          have HB2 := Lib.hid hb2
          clear hb2 y0 y1 y2 y3 y4 q0 q1 q2 q3 q4
          go_wp2_with (fail)
          go_loopw [4] (fun i wr => PgRel W m l i wr) (fun i _ => m - (intOf i).toNat)
          case atStart => unfold PgRel; exact ⟨0, Nat.zero_le _, rfl, Lib.hid (by rw [List.take_zero]; rfl), HB2.out⟩
          case round =>
            obtain ⟨j, hj, rfl, HM, hb⟩ := hrel
            obtain ⟨z0, z1, z2, z3, z4⟩ := boxed_on HX.out HHW.out hb
            have hw5 := IntWalk.i64_in ((j : Int) + 1) (by omega)
            by_cases hlt : j < m
            · have hjl : j < l.length := by omega
              have hjN : (j : Int) < (N : Int) := by omega
              have hjN2 : (j : Int) + 1 < (N : Int) := by have := HM3.out; omega
              obtain ⟨A1, M1, p1, k1, a1, n1, s1, hq1, hd1, hz1⟩ := kid_in HK.out j hjl
              obtain ⟨⟨c0, c1, c2, c3, c4⟩, hkk⟩ := hz1 wr hb
              have HID := Lib.hid (kid_is (f := declN) hq1 hd1 (rdecl_any _) (fun w' hb' => (hz1 w' hb').2) wr hb)
              have HU := Lib.hid (all_take declN l j hjl)
              have HU2 := Lib.hid (all_bad declN l m j hlt hjl)
              obtain ⟨r, hr⟩ : ∃ r, r = declN l[j] := ⟨_, rfl⟩
              rw [← hr] at HID HU HU2
              clear hkk hr hq1 hd1 hz1 hb
              cases r
              · go_wp2_with (fail)
                refine HID.out.mono ?_
                rintro e w3 ⟨rfl, hb3⟩
                have HB3 := Lib.hid hb3
                clear hb3
                go_wp2_with (fail)
                go_ret
                exact ⟨by rw [HR.out, HU2.out (by simp)]; rfl, HB.out.trans (HB3.out.mono HB.out.size)⟩
              · go_wp2_with (fail)
                refine HID.out.mono ?_
                rintro e w3 ⟨rfl, hb3⟩
                have HB3 := Lib.hid hb3
                clear hb3
                go_wp2_with (fail)
                go_roundw
                case rel => unfold PgRel; exact ⟨j + 1, by omega, by go_num, Lib.hid (by rw [HU.out, HM.out]; rfl), HB3.out⟩
                case measure => simp [intOf]; omega
            · obtain rfl : m = j := by omega
              have hjN2 : ¬ (m : Int) + 1 < (N : Int) := by have := HM3.out; omega
              have HBR := Lib.hid hb
              clear hb
              go_wp2_with (fail)
              go_ret
              exact ⟨by rw [HR.out, HM.out]; rfl, HB.out.trans (HBR.out.mono HB.out.size)⟩
  · have e1 : (k != 55) = true := by rw [bne_iff_ne]; exact c1
    have HR : Hid (R = false) := Lib.hid (by rw [HT.out]; simp [c1])
    clear HT c1
    go_enter Tryd.func36, Tryd.ntmps36
    go_wp2_with (first | (rw [← HW.out, ← HHH.out]))
    go_ret
    exact ⟨by rw [HR.out]; rfl, HB.out.trans (HB0.out.mono HB.out.size)⟩

theorem rprog_any {G : Nat → Prop} (t : NT) : IsOf G 36 progN t := by
  obtain ⟨k, a, n, nm, l⟩ := t
  exact rprog_mk k a n nm l
end Go.Proofs.YtkmkeaeaalnbjaaDoor.nt

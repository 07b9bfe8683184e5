/- The package's Same, Deep and Clean. -/
import Derived.Test.YtkmkeaeaalnbjaaDoorCGSame
import Derived.Test.YtkmkeaeaalnbjaaDoorCGrowRow
namespace Go.Proofs.YtkmkeaeaalnbjaaDoor.nt
open Go.RowKit mem wd lx
open vt (I64 own_form)

set_option maxHeartbeats 2000000 in
set_option maxRecDepth 100000 in
theorem psame_of {G : Nat → Prop} (t : NT) : SameOf G 21 t := by
  induction t using NT.ind with
  | h k a n nm l ih =>
    intro hd u s s' w hd' h h'
    obtain ⟨k', a', n', nm', l'⟩ := u
    obtain ⟨_, _, _, hnm⟩ := hd
    obtain ⟨_, _, _, hnm'⟩ := hd'
    change nm.length ≤ _ at hnm
    change nm'.length ≤ _ at hnm'
    change Kids G w l s at h
    change Kids G w l' s' at h'
    obtain ⟨A, cap, rfl, hl⟩ := h.form
    obtain ⟨A', cap', rfl, hl'⟩ := h'.form
    show Calls Tryd.prog 21 #[.agg #[.int .i64 k, .int .i64 a, .int .i64 n, .string ⟨nm.toArray⟩, .slice A l.length cap], .agg #[.int .i64 k', .int .i64 a', .int .i64 n', .string ⟨nm'.toArray⟩, .slice A' l'.length cap']] w _
    have HE := Lib.hid (sameN_mk k a n k' a' n' nm nm' l l')
    obtain ⟨R, hR⟩ : ∃ R, R = sameN (.mk k a n nm l) (.mk k' a' n' nm' l') := ⟨_, rfl⟩
    rw [← hR] at HE ⊢
    obtain ⟨H, hH⟩ : ∃ H, H = w.heap.size := ⟨_, rfl⟩
    obtain ⟨W0, hW0⟩ : ∃ W, W = w.alloc (.cells #[.int .i64 k, .int .i64 a, .int .i64 n, .string ⟨nm.toArray⟩, .slice A l.length cap] NodeT) := ⟨_, rfl⟩
    obtain ⟨hx, HB0, HHW0⟩ := boxed hH hW0
    obtain ⟨W, hW⟩ : ∃ W, W = W0.alloc (.cells #[.int .i64 k', .int .i64 a', .int .i64 n', .string ⟨nm'.toArray⟩, .slice A' l'.length cap'] NodeT) := ⟨_, rfl⟩
    obtain ⟨H2, hH2⟩ : ∃ H, H = W0.heap.size := ⟨_, rfl⟩
    obtain ⟨⟨y0, y1, y2, y3, y4⟩, HB1, HHW1⟩ := boxed hH2 hW
    obtain ⟨x0, x1, x2, x3, x4⟩ := boxed_on hx HHW0.out HB1.out
    have HBW : Hid (Below w.heap.size w W) := Lib.hid (HB0.out.trans (HB1.out.mono HB0.out.size))
    have hHW : H < W.heap.size := by have := HB1.out.size; have := HHW0.out; omega
    have hHW2 : H2 < W.heap.size := HHW1.out
    have HK := Lib.hid (h.below HBW.out)
    have HK' := Lib.hid (h'.below HBW.out)
    have IH := Lib.hid ih
    obtain ⟨N, hN⟩ : ∃ N, N = l.length := ⟨_, rfl⟩
    obtain ⟨N', hN'⟩ : ∃ N', N' = l'.length := ⟨_, rfl⟩
    rw [← hN] at hl x4 hW0 HK ⊢
    rw [← hN'] at hl' y4 hW HK' ⊢
    have HX := Lib.hid (And.intro x4 y4)
    have HW0 := Lib.hid hW0
    have HW := Lib.hid hW
    have HHH := Lib.hid hH
    have HHH2 := Lib.hid hH2
    have HN := Lib.hid hN
    have HN' := Lib.hid hN'
    clear h h' ih hN hN' hH hH2 hW hW0 hR hx HB0 HHW0 HB1 HHW1
    by_cases c1 : k = k'
    · subst c1
      by_cases c2 : n = n'
      · subst c2
        by_cases c3 : nm = nm'
        · subst c3
          have HR : Hid (R = sameL l l') := Lib.hid (by rw [HE.out]; simp)
          clear HE
          by_cases c4 : N = N'
          · subst c4
            go_enter Tryd.func21, Tryd.ntmps21
            go_wp2_with (first | (rw [← HW0.out, ← HHH.out]) | (rw [← HW.out, ← HHH2.out]))
            go_loopw [37] (fun i wr => SmRel W N l l' i wr) (fun i _ => N - (intOf i).toNat)
            case atStart => unfold SmRel; exact ⟨0, Nat.zero_le _, rfl, Lib.hid rfl, Below.refl _ _⟩
            case round =>
              obtain ⟨j, hj, rfl, HM, hb⟩ := hrel
              have w4 := (hb.cell (p := ⟨H, 4, none⟩) hHW).trans HX.out.1
              have v4 := (hb.cell (p := ⟨H2, 4, none⟩) hHW2).trans HX.out.2
              by_cases hlt : j < N
              · have hjl : j < l.length := by have := HN.out; omega
                have hjm : j < l'.length := by have := HN'.out; omega
                obtain ⟨b, off, cq, q, hs, hlt1, hd1, c0, c1, c2, c3, c4, hkk⟩ := HK.out.kid hb j hjl
                injection hs with hA hL hC
                subst hA
                subst hC
                clear hL
                obtain ⟨b2, off2, cq2, q2, hs, hlt2, hd2, d0, d1, d2, d3, d4, hkk2⟩ := HK'.out.kid hb j hjm
                injection hs with hA hL hC
                subst hA
                subst hC
                clear hL
                obtain ⟨Aq, cc, rfl, _⟩ := hkk.form
                obtain ⟨Aq2, cc2, rfl, _⟩ := hkk2.form
                have HI := Lib.hid (IH.out l[j] (List.getElem_mem hjl) hd1 l'[j] _ _ wr.drew hd2 (hkk.keep (fun _ _ _ _ => rfl)) (hkk2.keep (fun _ _ _ _ => rfl)))
                have HU := Lib.hid (same_more j hjl hjm HM.out)
                have HU2 := Lib.hid (same_bad (a := l) (b := l') j hjl hjm)
                obtain ⟨u, hu⟩ : ∃ u, u = l[j] := ⟨_, rfl⟩
                obtain ⟨v, hv⟩ : ∃ v, v = l'[j] := ⟨_, rfl⟩
                rw [← hu] at c0 c1 c2 c3 c4 HI HU HU2 hkk
                rw [← hv] at d0 d1 d2 d3 d4 HI HU HU2 hkk2
                obtain ⟨M, hM⟩ : ∃ M, M = u.kids.length := ⟨_, rfl⟩
                rw [← hM] at c4 HI
                obtain ⟨M2, hM2⟩ : ∃ M2, M2 = v.kids.length := ⟨_, rfl⟩
                rw [← hM2] at d4 HI
                obtain ⟨r, hr⟩ : ∃ r, r = sameN u v := ⟨_, rfl⟩
                rw [← hr] at HI HU HU2
                have HB := Lib.hid hb
                clear hkk hkk2 hM hM2 hd1 hd2 hu hv hr hb
                go_wp2_with (fail)
                go_still_tail 10, (by kernel_rfl)
                change wpList _ _ _ _ _ wr.drew
                cases r
                · go_wp2_with (go_at_call 21; refine HI.out.mono ?_; rintro e w1 ⟨rfl, hb1⟩)
                  go_ret
                  exact ⟨by rw [HR.out, HU2.out (by simp)]; rfl, HBW.out.trans ((HB.out.drew.trans (hb1.mono HB.out.size)).mono HBW.out.size)⟩
                · go_wp2_with (go_at_call 21; refine HI.out.mono ?_; rintro e w1 ⟨rfl, hb1⟩)
                  go_roundw
                  case rel => unfold SmRel; exact ⟨j + 1, by omega, by go_num, Lib.hid (HU.out (by simp)), HB.out.drew.trans (hb1.mono HB.out.size)⟩
                  case measure => simp [intOf]; omega
              · have HF : Hid (R = true) := Lib.hid (by
                  rw [HR.out]
                  exact same_all N HN.out HN'.out (by have : j = N := by omega
                                                      rw [← this]; exact HM.out))
                have HB := Lib.hid hb
                clear hb
                go_wp2_with (fail)
                go_ret
                exact ⟨by rw [HF.out]; rfl, HBW.out.trans (HB.out.mono HBW.out.size)⟩
          · have e4 : ((N : Int) == N') = false := beq_eq_false_iff_ne.2 (by omega)
            have HF : Hid (R = false) := Lib.hid (by rw [HR.out]; exact same_len (by have := HN.out; have := HN'.out; omega))
            go_enter Tryd.func21, Tryd.ntmps21
            go_wp2_with (first | (rw [← HW0.out, ← HHH.out]) | (rw [← HW.out, ← HHH2.out]))
            go_ret
            exact ⟨by rw [HF.out]; rfl, HBW.out⟩
        · have e3 : (nm == nm') = false := beq_eq_false_iff_ne.2 c3
          have HF : Hid (R = false) := Lib.hid (by rw [HE.out]; simp [c3])
          clear c3 HE
          go_enter Tryd.func21, Tryd.ntmps21
          go_wp2_with (first | (rw [← HW0.out, ← HHH.out]) | (rw [← HW.out, ← HHH2.out]))
          go_ret
          exact ⟨by rw [HF.out]; rfl, HBW.out⟩
      · have e2 : (n != n') = true := by rw [bne_iff_ne]; exact c2
        have HF : Hid (R = false) := Lib.hid (by rw [HE.out]; simp [c2])
        clear c2 HE
        go_enter Tryd.func21, Tryd.ntmps21
        go_wp2_with (first | (rw [← HW0.out, ← HHH.out]) | (rw [← HW.out, ← HHH2.out]))
        go_ret
        exact ⟨by rw [HF.out]; rfl, HBW.out⟩
    · have e1 : (k != k') = true := by rw [bne_iff_ne]; exact c1
      have HF : Hid (R = false) := Lib.hid (by rw [HE.out]; simp [c1])
      clear c1 HE
      go_enter Tryd.func21, Tryd.ntmps21
      go_wp2_with (first | (rw [← HW0.out, ← HHH.out]) | (rw [← HW.out, ← HHH2.out]))
      go_ret
      exact ⟨by rw [HF.out]; rfl, HBW.out⟩
set_option maxHeartbeats 1000000 in
theorem pdeep_of {G : Nat → Prop} (t : NT) : Hd t → ∀ (s : Value) (w : World), Kids G w t.kids s →
    Calls Tryd.prog 23 #[.agg #[.int .i64 t.kind, .int .i64 t.at_, .int .i64 t.num, .string ⟨t.name.toArray⟩, s]] w fun e w' => e = .returned (.int .i64 t.deepW) ∧ Below w.heap.size w w' := by
  induction t using NT.ind with
  | h k a n nm l ih =>
    intro hd s w h
    obtain ⟨_, _, _, hnm⟩ := hd
    change nm.length ≤ _ at hnm
    change Kids G w l s at h
    obtain ⟨A, cap, rfl, hl⟩ := h.form
    show Calls Tryd.prog 23 #[.agg #[.int .i64 k, .int .i64 a, .int .i64 n, .string ⟨nm.toArray⟩, .slice A l.length cap]] w _
    have HD0 := Lib.hid (deepW_mk k a n nm l)
    obtain ⟨R, hR⟩ : ∃ R, R = (NT.mk k a n nm l).deepW := ⟨_, rfl⟩
    rw [← hR] at HD0 ⊢
    obtain ⟨H, hH⟩ : ∃ H, H = w.heap.size := ⟨_, rfl⟩
    obtain ⟨W, hW⟩ : ∃ W, W = w.alloc (.cells #[.int .i64 k, .int .i64 a, .int .i64 n, .string ⟨nm.toArray⟩, .slice A l.length cap] NodeT) := ⟨_, rfl⟩
    obtain ⟨⟨x0, x1, x2, x3, x4⟩, HB, HHW⟩ := boxed hH hW
    have HK := Lib.hid (h.below HB.out)
    have IH := Lib.hid ih
    obtain ⟨N, hN⟩ : ∃ N, N = l.length := ⟨_, rfl⟩
    rw [← hN] at hl x4 hW HK ⊢
    have HX4 := Lib.hid x4
    have HW := Lib.hid hW
    have HHH := Lib.hid hH
    have HN := Lib.hid hN
    clear h ih hN hW hH hR
    go_enter Tryd.func23, Tryd.ntmps23
    go_wp2_with (first | (rw [← HW.out, ← HHH.out]))
    go_loopw [3, 9] (fun n i wr => DpRel W N l n i wr) (fun _ i _ => N - (intOf i).toNat)
    case atStart => unfold DpRel; exact ⟨0, 0, Nat.zero_le _, rfl, rfl, ⟨by omega, by omega⟩, Lib.hid (by simp [deepL]), Below.refl _ _⟩
    case round =>
      obtain ⟨j, m, hj, rfl, rfl, hm, HM, hb⟩ := hrel
      have w4 := (hb.cell (p := ⟨H, 4, none⟩) HHW.out).trans HX4.out
      by_cases hlt : j < N
      · have hjl : j < l.length := by have := HN.out; omega
        obtain ⟨b, off, cq, q, hs, hlt1, hd1, c0, c1, c2, c3, c4, hkk⟩ := HK.out.kid hb j hjl
        injection hs with hA hL hC
        subst hA
        subst hC
        clear hL
        obtain ⟨Aq, cc, rfl, _⟩ := hkk.form
        obtain ⟨K2, hK2⟩ : ∃ K2, K2 = wr.heap.size := ⟨_, rfl⟩
        obtain ⟨V, hV⟩ : ∃ V, V = wr.alloc (.cells #[.int .i64 l[j].kind, .int .i64 l[j].at_, .int .i64 l[j].num, .string ⟨l[j].name.toArray⟩, .slice Aq l[j].kids.length cc] NodeT) := ⟨_, rfl⟩
        obtain ⟨⟨v0, v1, v2, v3, v4⟩, HBV, HHV⟩ := boxed hK2 hV
        have HI := Lib.hid (IH.out l[j] (List.getElem_mem hjl) hd1 _ V (hkk.below HBV.out))
        have HS := Lib.hid (deep_step l j hjl m)
        have hub := deepW_bd l[j]
        obtain ⟨dp, hdp⟩ : ∃ dp, dp = l[j].deepW := ⟨_, rfl⟩
        rw [← hdp] at hub HI
        have HD := Lib.hid hdp
        obtain ⟨u, hu⟩ : ∃ u, u = l[j] := ⟨_, rfl⟩
        rw [← hu] at c0 c1 c2 c3 c4 HI hkk hV v0 v1 v2 v3 v4
        obtain ⟨M, hM⟩ : ∃ M, M = u.kids.length := ⟨_, rfl⟩
        rw [← hM] at c4 HI hV v4
        have HBR := Lib.hid (hb.trans (HBV.out.mono hb.size))
        have HV := Lib.hid hV
        have HK2 := Lib.hid hK2
        clear hkk hM hd1 hu hdp hb hV hK2
        go_wp2_with (first | (rw [← HV.out, ← HK2.out]) | go_at_call 23; refine HI.out.mono ?_; rintro e w1 ⟨rfl, hb1⟩)
        all_goals
          go_roundw
          case rel => unfold DpRel; exact ⟨j + 1, _, by omega, by go_num, rfl, ⟨by omega, by omega⟩, Lib.hid (HS.out _ _ HM.out HD.out (by omega)), HBR.out.trans (hb1.mono HBR.out.size)⟩
          case measure => simp [intOf]; omega
      · have HF : Hid (wrap64 (1 + m) = R) := Lib.hid (by rw [HD0.out, Int.add_comm 1 m, HM.out, List.take_of_length_le (by have := HN.out; omega)])
        have HBR := Lib.hid hb
        clear hb
        go_wp2_with (fail)
        go_ret
        exact ⟨by rw [← HF.out]; rfl, HB.out.trans (HBR.out.mono HB.out.size)⟩
/-! ### without places -/
theorem node_retc {fn : Func} (hr : fn.results = #[ResultVar.cell 2 NodeT]) {tm : Array Value} {w2 : World} {R : Nat} {a b c d e : Value} (h4 : tm.getD 2 undef = .pointer (some ⟨R, 0, none⟩)) (hb : Box w2 R NodeT #[a, b, c, d, e]) :
    (results fn tm).run Tryd.prog w2 = .ok (.agg #[a, b, c, d, e]) w2 := by
  have x0 := hb.cell 0
  have x1 := hb.cell 1
  have x2 := hb.cell 2
  have x3 := hb.cell 3
  have x4 := hb.cell 4
  simp only [List.getElem?_toArray, List.getElem?_cons_zero, List.getElem?_cons_succ] at x0 x1 x2 x3 x4
  have h4' : tm[2]?.getD undef = .pointer (some ⟨R, 0, none⟩) := by simpa using h4
  simp [results, hr, go_sem, h4', x0, x1, x2, x3, x4]
theorem below_fiveC {B : Nat} {w w1 : World} {R : Nat} (h : Below B w w1) (hR : B ≤ R) (a b c d e : Value) : Below B w (five w1 R a b c d e) :=
  ((((h.setCell (p := ⟨R, 0, none⟩) hR a).setCell (p := ⟨R, 1, none⟩) hR b).setCell (p := ⟨R, 2, none⟩) hR c).setCell (p := ⟨R, 3, none⟩) hR d).setCell (p := ⟨R, 4, none⟩) hR e
theorem grown_end {w w' : World} (h : w.grownBy w' (some w.heap.size)) : Below w.heap.size w w' := ⟨h.os, h.tape, h.output, h.size, fun k hk => h.block k hk (by simpa using (by omega : k ≠ w.heap.size))⟩
theorem end_grown {w w' : World} (h : Below w.heap.size w w') : w.grownBy w' (some w.heap.size) := ⟨h.os, h.tape, h.output, h.size, fun k hk _ => h.block k hk⟩
theorem cleanL_step (l : List NT) (k : Nat) (h : k < l.length) : cleanL (l.take (k + 1)) = cleanL (l.take k) ++ [l[k].clean] := by
  rw [List.take_succ_eq_append_getElem h, cleanL_map, cleanL_map, List.map_append]; rfl
theorem cleanL_len (l : List NT) : (cleanL l).length = l.length := by rw [cleanL_map, List.length_map]
def ClRel (W : World) (N : Nat) (l : List NT) (o i : Value) (wr : World) : Prop :=
  ∃ j : Nat, j ≤ N ∧ i = .int .i64 j ∧ Hid (Own2 W.heap.size wr (cleanL (l.take j)) o) ∧ Below W.heap.size W wr
set_option maxHeartbeats 2000000 in
theorem pclean_of (t : NT) : ∀ (G : Nat → Prop), Hd t → t.size ≤ 1073741824 → ∀ (s : Value) (w : World), Kids G w t.kids s →
    Calls Tryd.prog 20 #[.agg #[.int .i64 t.kind, .int .i64 t.at_, .int .i64 t.num, .string ⟨t.name.toArray⟩, s]] w fun e w' => ∃ s', e = .returned (.agg #[.int .i64 t.kind, .int .i64 0, .int .i64 t.num, .string ⟨t.name.toArray⟩, s']) ∧ Kids (fun b => w.heap.size ≤ b) w' (cleanL t.kids) s' ∧ Below w.heap.size w w' := by
  induction t using NT.ind with
  | h k a n nm l ih =>
    intro G hd hz s w h
    obtain ⟨ik, ia, in_, hnm⟩ := hd
    rw [size_mk] at hz
    change nm.length ≤ _ at hnm
    change Kids G w l s at h
    obtain ⟨A, cap, rfl, hl⟩ := h.form
    show Calls Tryd.prog 20 #[.agg #[.int .i64 k, .int .i64 a, .int .i64 n, .string ⟨nm.toArray⟩, .slice A l.length cap]] w fun e w' => ∃ s', e = .returned (.agg #[.int .i64 k, .int .i64 0, .int .i64 n, .string ⟨nm.toArray⟩, s']) ∧ Kids (fun b => w.heap.size ≤ b) w' (cleanL l) s' ∧ Below w.heap.size w w'
    obtain ⟨H, hH⟩ : ∃ H, H = w.heap.size := ⟨_, rfl⟩
    obtain ⟨W0, hW0⟩ : ∃ W, W = w.alloc (.cells #[.int .i64 k, .int .i64 a, .int .i64 n, .string ⟨nm.toArray⟩, .slice A l.length cap] NodeT) := ⟨_, rfl⟩
    obtain ⟨hx, HB0, HHW0⟩ := boxed hH hW0
    obtain ⟨R, hR⟩ : ∃ R, R = W0.heap.size := ⟨_, rfl⟩
    obtain ⟨W, hW⟩ : ∃ W, W = W0.alloc (.cells #[.int .i64 0, .int .i64 0, .int .i64 0, .string ⟨#[]⟩, .slice none 0 0] NodeT) := ⟨_, rfl⟩
    have hbx : Box W R NodeT #[.int .i64 0, .int .i64 0, .int .i64 0, .string ⟨#[]⟩, .slice none 0 0] := by rw [hW]; exact Box.new _ _ _ _ hR
    have hb0 : Below W0.heap.size W0 W := by rw [hW]; exact (Below.refl _ _).alloc (Nat.le_refl _) _
    obtain ⟨x0, x1, x2, x3, x4⟩ := boxed_on hx HHW0.out hb0
    have HX := Lib.hid (And.intro x0 (And.intro x1 (And.intro x2 (And.intro x3 x4))))
    have HBX := Lib.hid hbx
    have HBW : Hid (Below w.heap.size w W) := Lib.hid (HB0.out.trans (hb0.mono HB0.out.size))
    have HRW : Hid (w.heap.size ≤ R ∧ R < W.heap.size ∧ H < W.heap.size) := Lib.hid ⟨by have := HB0.out.size; omega, hbx.lt, by have := hb0.size; have := HHW0.out; omega⟩
    have HK := Lib.hid (h.below HBW.out)
    have IH := Lib.hid ih
    have HSZ := Lib.hid hz
    obtain ⟨N, hN⟩ : ∃ N, N = l.length := ⟨_, rfl⟩
    rw [← hN] at hl x4 hW0 HK HX ⊢
    have HW0 := Lib.hid hW0
    have HW := Lib.hid hW
    have HHH := Lib.hid hH
    have HHR := Lib.hid hR
    have HN := Lib.hid hN
    clear h ih hN hH hR hW hW0 hx HB0 HHW0 hb0 hbx hz
    go_enter Tryd.func20, Tryd.ntmps20
    go_wp2_with (first | (rw [← HW0.out, ← HHH.out]) | (rw [← HW.out, ← HHR.out]))
    go_loopw [3, 9] (fun o i wr => ClRel W N l o i wr) (fun _ i _ => N - (intOf i).toNat)
    case atStart => unfold ClRel; exact ⟨0, Nat.zero_le _, rfl, Lib.hid (Own2.nil_ _ _), Below.refl _ _⟩
    case round =>
      unfold ClRel at hrel
      obtain ⟨j, hj, rfl, ho, hb⟩ := hrel
      obtain ⟨Ao, co, rfl⟩ := ho.out.form
      rw [cleanL_len, List.length_take] at ho ⊢
      by_cases hlt : j < N
      · have hjl : j < l.length := by have := HN.out; omega
        rw [show min j l.length = j by omega] at ho ⊢
        obtain ⟨b, off, cq, q, hs, hlt1, hd1, c0, c1, c2, c3, c4, hkk⟩ := HK.out.kid hb j hjl
        injection hs with hA hL hC
        subst hA
        subst hC
        clear hL
        obtain ⟨Aq, cc, rfl, _⟩ := hkk.form
        have hszj : l[j].size ≤ 1073741824 := by have := mem_sizeL (List.getElem_mem hjl); have := HSZ.out; omega
        have HST := Lib.hid (cleanL_step l j hjl)
        have hIH := IH.out l[j] (List.getElem_mem hjl)
        have hjs : j ≤ 1099511627776 := by have := len_le_sizeL l; have := HSZ.out; omega
        obtain ⟨K2, hK2⟩ : ∃ K2, K2 = wr.heap.size := ⟨_, rfl⟩
        obtain ⟨⟨uk, ua, un, us, ul⟩, hu⟩ : ∃ u, u = l[j] := ⟨_, rfl⟩
        rw [← hu] at c0 c1 c2 c3 c4 hIH hkk hszj hd1 HST
        simp only [NT.kind, NT.at_, NT.num, NT.name, NT.kids] at c0 c1 c2 c3 c4 hIH hkk
        obtain ⟨V, hV⟩ : ∃ V, V = wr.alloc (.cells #[.int .i64 uk, .int .i64 ua, .int .i64 un, .string ⟨us.toArray⟩, .slice Aq ul.length cc] NodeT) := ⟨_, rfl⟩
        obtain ⟨⟨v0, v1, v2, v3, v4⟩, HBV, HHV⟩ := boxed hK2 hV
        have HI := Lib.hid (hIH G hd1 hszj _ V (hkk.below HBV.out))
        have hbV := hb.trans (HBV.out.mono hb.size)
        have HDC : Hid (Hd (NT.mk uk 0 un us (cleanL ul))) := Lib.hid ⟨hd1.1, by show I64 0; unfold I64; omega, hd1.2.2.1, hd1.2.2.2⟩
        obtain ⟨M, hM⟩ : ∃ M, M = ul.length := ⟨_, rfl⟩
        rw [← hM] at c4 HI hV v4
        have HBR := Lib.hid hb
        have HBRV := Lib.hid hbV
        have HV := Lib.hid hV
        have HK2 := Lib.hid hK2
        have HOV := Lib.hid (ho.out.below HBV.out)
        have HLEN : Hid (j = (cleanL (l.take j)).length) := Lib.hid (by rw [cleanL_len, List.length_take]; omega)
        obtain ⟨L, hLL⟩ : ∃ L, L = cleanL (l.take j) := ⟨_, rfl⟩
        rw [← hLL] at HOV HLEN HST
        clear hkk hM hu hszj hd1 hIH hV hK2 hb hbV ho hLL
        go_wp2_with (first | (rw [← HV.out, ← HK2.out]))
        refine HI.out.mono ?_
        rintro e w2 ⟨s2, rfl, hk2, hb2⟩
        obtain ⟨A5, c5, rfl, _⟩ := hk2.form
        have HB2 := Lib.hid (HBRV.out.trans (hb2.mono HBRV.out.size))
        have HO2 := Lib.hid (HOV.out.below hb2)
        have HG2 := Lib.hid (end_grown HB2.out)
        have HK5 : Hid (Kids (fun b => W.heap.size ≤ b ∧ some b ≠ (Value.slice Ao j co).ownBlock) w2 (cleanL ul) (.slice A5 (cleanL ul).length c5)) := Lib.hid (hk2.mono fun b hb => by
          have h1 := HBRV.out.size
          refine ⟨by omega, fun e => ?_⟩
          have := (HOV.out.lt b e.symm).2
          omega)
        obtain ⟨m5, hm5⟩ : ∃ m5, m5 = (cleanL ul).length := ⟨_, rfl⟩
        rw [← hm5] at HK5
        have hBr := HB2.out.size
        have hc5 : (cleanL ul).length = m5 := hm5.symm
        rw [hc5]
        clear hk2 hb2 HI hm5 hc5
        go_wp2_with (at_builtin; (refine wpList_node (p := W.heap.size) (w0 := W) (wr := w2) rfl (.tmp 13) (.tmp 16) rfl W.heap.size j L (NT.mk uk 0 un us (cleanL ul)) (.slice Ao j co) (.slice A5 m5 c5) w2.heap.size rfl rfl HO2.out HDC.out HK5.out HG2.out (Nat.le_refl _) hBr HLEN.out hjs rfl ?_); intro A4 c4 w4 ho4 hg4 hk4; have HO4 := Lib.hid ho4; have HG4 := Lib.hid hg4; clear ho4 hg4 hk4)
        go_roundw
        case rel =>
          unfold ClRel
          exact ⟨j + 1, by omega, by go_num, Lib.hid (by rw [HST.out, clean_mk]; exact HO4.out), grown_end HG4.out⟩
        case measure => simp [intOf]; omega
      · have hjN : j = N := by omega
        have hfull : l.take j = l := List.take_of_length_le (by have := HN.out; omega)
        rw [hfull] at ho
        rw [show min j l.length = N by have := HN.out; omega] at ho ⊢
        have BX := HBX.out.on hb
        have f0 := BX.frozen 0
        have f1 := BX.frozen 1
        have f2 := BX.frozen 2
        have f3 := BX.frozen 3
        have f4 := BX.frozen 4
        have y0 := BX.cell 0
        have y1 := BX.cell 1
        have y2 := BX.cell 2
        have y3 := BX.cell 3
        have y4 := BX.cell 4
        simp only [List.getElem?_toArray, List.getElem?_cons_zero, List.getElem?_cons_succ] at y0 y1 y2 y3 y4
        have HBX2 := Lib.hid BX
        obtain ⟨z0, z1, z2, z3, z4⟩ := boxed_on HX.out HRW.out.2.2 hb
        have HBR := Lib.hid hb
        clear hb BX hfull
        go_wp2_with (fail)
        try simp only [Exit.inBlock, Exit.then]
        refine bodyPost_ret (node_retc rfl rfl (box_five HBX2.out _ _ _ _ _)) rfl ?_
        exact ⟨_, rfl, (kids_five ho.out.kids (fun b hb => by have := HRW.out.2.1; omega) _ _ _ _ _).mono (fun b hb => by have := HBW.out.size; omega), below_fiveC (HBW.out.trans (HBR.out.mono HBW.out.size)) HRW.out.1 _ _ _ _ _⟩
end Go.Proofs.YtkmkeaeaalnbjaaDoor.nt

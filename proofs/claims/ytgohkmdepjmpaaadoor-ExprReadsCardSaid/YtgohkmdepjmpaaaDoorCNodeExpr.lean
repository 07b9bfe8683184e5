/- The document's own answer: which nodes are expressions. -/
import Derived.Test.YtgohkmdepjmpaaaDoorCGNode
namespace Go.Proofs.YtgohkmdepjmpaaaDoor.nt
open Go.RowKit mem wd lx
open vt (I64 own_form)

theorem newL_cons (v : NT) (r : List NT) : newL (v :: r) = (v.typ && exprL r) := by rw [newL]
theorem newL_nil : newL [] = false := by rw [newL]
/-- the kinds of expressions, and others -/
theorem kinds_of (k : Int) : k = 10 ∨ k = 11 ∨ k = 12 ∨ k = 13 ∨ k = 14 ∨ k = 15 ∨ k = 16 ∨ k = 17 ∨ k = 18 ∨ ((k == 10) = false ∧ (k == 11) = false ∧ (k == 12) = false ∧ (k == 13) = false ∧ (k == 14) = false ∧ (k == 15) = false ∧ (k == 16) = false ∧ (k == 17) = false ∧ (k == 18) = false) := by
  simp only [beq_eq_false_iff_ne]
  omega
set_option maxHeartbeats 2000000 in
set_option maxRecDepth 100000 in
theorem rexpr_any {G : Nat → Prop} (t : NT) : IsOf G 11 NT.expr t := by
  induction t using NT.ind with
  | h k a n nm l ih =>
    intro hd s w h
    obtain ⟨_, _, hn64, hnm⟩ := hd
    change nm.length ≤ _ at hnm
    change I64 n at hn64
    change Kids G w l s at h
    obtain ⟨A, cap, rfl, hl⟩ := h.form
    show Calls Tryd.prog 11 #[.agg #[.int .i64 k, .int .i64 a, .int .i64 n, .string ⟨nm.toArray⟩, .slice A l.length cap]] w fun e w' => e = .returned (.bool (NT.mk k a n nm l).expr) ∧ Below w.heap.size w w'
    have HT := Lib.hid (expr_mk k a n nm l)
    obtain ⟨H, hH⟩ : ∃ H, H = w.heap.size := ⟨_, rfl⟩
    obtain ⟨W, hW⟩ : ∃ W, W = w.alloc (.cells #[.int .i64 k, .int .i64 a, .int .i64 n, .string ⟨nm.toArray⟩, .slice A l.length cap] NodeT) := ⟨_, rfl⟩
    obtain ⟨⟨x0, x1, x2, x3, x4⟩, HB, HHW⟩ := boxed hH hW
    have HX := Lib.hid (And.intro x0 (And.intro x1 (And.intro x2 (And.intro x3 x4))))
    have HAL := Lib.hid (fun w' => ralone_any (.mk k a n nm l) (.slice A l.length cap) w')
    have HN := Lib.hid (fun w' => rnamed_any nm w' hnm)
    have HBI := Lib.hid (fun w' => rbind_any n w' hn64)
    have HK : Hid (∀ w', Below W.heap.size W w' → Kids G w' l (.slice A l.length cap)) := Lib.hid fun w' hb => (h.below HB.out).below hb
    have HES := Lib.hid (rexprs_any l ih _ W (HK.out W (Below.refl _ _)))
    have IH := Lib.hid ih
    simp only [NT.kind, NT.at_, NT.num, NT.name] at HAL
    obtain ⟨N, hN⟩ : ∃ N, N = l.length := ⟨_, rfl⟩
    rw [← hN] at hl x4 hW HX HK HT HAL HES ⊢
    have HW := Lib.hid hW
    have HHH := Lib.hid hH
    have HNN := Lib.hid hN
    clear h ih hN hW hH
    by_cases c0 : k = 19
    · subst c0
      have HR : Hid ((NT.mk 19 a n nm l).expr = (aloneN n nm && newL l)) := Lib.hid (by rw [HT.out, if_pos rfl])
      obtain ⟨R, hR⟩ : ∃ R, R = (NT.mk 19 a n nm l).expr := ⟨_, rfl⟩
      rw [← hR] at HR ⊢
      obtain ⟨al, hal⟩ : ∃ al, al = aloneN n nm := ⟨_, rfl⟩
      rw [← hal] at HR HAL
      clear hR hal HT HES HBI HN
      cases al
      · go_enter Tryd.func11, Tryd.ntmps11
        go_wp2_with (first | (rw [← HW.out, ← HHH.out]))
        refine (HAL.out _).mono ?_
        rintro e w1 ⟨rfl, hb1⟩
        have HB1 := Lib.hid (HB.out.trans (hb1.mono HB.out.size))
        clear hb1
        go_wp2_with (fail)
        go_ret
        exact ⟨by rw [HR.out]; rfl, HB1.out⟩
      · by_cases c1 : N = 0
        · have HR2 : Hid (R = false) := Lib.hid (by rw [HR.out, List.eq_nil_of_length_eq_zero (l := l) (by rw [← HNN.out]; exact c1), newL_nil]; rfl)
          subst c1
          go_enter Tryd.func11, Tryd.ntmps11
          go_wp2_with (first | (rw [← HW.out, ← HHH.out]))
          refine (HAL.out _).mono ?_
          rintro e w1 ⟨rfl, hb1⟩
          have HB1 := Lib.hid (HB.out.trans (hb1.mono HB.out.size))
          clear hb1
          go_wp2_with (fail)
          go_ret
          exact ⟨by rw [HR2.out]; rfl, HB1.out⟩
        · have hN0 : 0 < (N : Int) := by omega
          have hl0 : 0 < l.length := by rw [← HNN.out]; omega
          have HNL : Hid (newL l = (l[0].typ && exprL (l.drop 1))) := Lib.hid (by
            cases l with
            | nil => exact absurd hl0 (by simp)
            | cons v r => rw [newL_cons]; rfl)
          have IH2 := Lib.hid (fun u (hu : u ∈ l.drop 1) => IH.out u (List.mem_of_mem_drop hu))
          obtain ⟨b0, off0, cap0, s0, hs0, _, hd0, z00, z01, z02, z03, z04, hk0⟩ := (HK.out W (Below.refl _ _)).kid (Below.refl _ _) 0 hl0
          injection hs0 with hA0 hln0 hc0
          subst hA0
          subst hc0
          clear hln0
          have HTY := Lib.hid (fun w' (hb : Below W.heap.size W w') => rtyp_any (G := G) l[0] hd0 s0 w' (hk0.below hb))
          have HES2 := Lib.hid (fun w' (hb : Below W.heap.size W w') => rexprs_any (l.drop 1) (fun u hu => IH2.out u hu) _ w' (Kids.drop (HK.out w' hb) 1 (by omega)))
          obtain ⟨u, hu⟩ : ∃ u, u = l[0] := ⟨_, rfl⟩
          rw [Nat.zero_mul, Nat.add_zero] at z00 z01 z02 z03 z04
          rw [← hu] at z00 z01 z02 z03 HTY HNL hk0
          obtain ⟨A2, c2, rfl, _⟩ := hk0.form
          obtain ⟨M, hM⟩ : ∃ M, M = u.kids.length := ⟨_, rfl⟩
          rw [← hM] at z04 HTY
          obtain ⟨tb, htb⟩ : ∃ tb, tb = u.typ := ⟨_, rfl⟩
          rw [← htb] at HTY HNL
          obtain ⟨es, hes⟩ : ∃ es, es = exprL (l.drop 1) := ⟨_, rfl⟩
          rw [← hes] at HES2 HNL
          obtain ⟨k0, hk00⟩ : ∃ k0, k0 = u.kind := ⟨_, rfl⟩
          obtain ⟨k1, hk1⟩ : ∃ k1, k1 = u.at_ := ⟨_, rfl⟩
          obtain ⟨k2, hk2⟩ : ∃ k2, k2 = u.num := ⟨_, rfl⟩
          obtain ⟨k3, hk3⟩ : ∃ k3, k3 = u.name := ⟨_, rfl⟩
          rw [← hk00] at z00 HTY
          rw [← hk1] at z01 HTY
          rw [← hk2] at z02 HTY
          rw [← hk3] at z03 HTY
          have HZ := Lib.hid (fun w' (hb : Below W.heap.size W w') => (show (w'.cell? ⟨b0, off0, none⟩ = some (.int .i64 k0) ∧ w'.cell? ⟨b0, off0 + 1, none⟩ = some (.int .i64 k1) ∧ w'.cell? ⟨b0, off0 + 2, none⟩ = some (.int .i64 k2) ∧ w'.cell? ⟨b0, off0 + 3, none⟩ = some (.string ⟨k3.toArray⟩) ∧ w'.cell? ⟨b0, off0 + 4, none⟩ = some (.slice A2 M c2)) from
            ⟨(hb.cell (p := ⟨b0, off0, none⟩) (World.block_lt_of_cell? _ _ z00)).trans z00, (hb.cell (p := ⟨b0, off0 + 1, none⟩) (World.block_lt_of_cell? _ _ z01)).trans z01, (hb.cell (p := ⟨b0, off0 + 2, none⟩) (World.block_lt_of_cell? _ _ z02)).trans z02, (hb.cell (p := ⟨b0, off0 + 3, none⟩) (World.block_lt_of_cell? _ _ z03)).trans z03, (hb.cell (p := ⟨b0, off0 + 4, none⟩) (World.block_lt_of_cell? _ _ z04)).trans z04⟩))
          have hsl : ∀ w, (Instr.slice 27 (.slice (some ⟨b0, off0, none⟩) N cap) (some (.int .i64 1)) none none).run Tryd.prog w = .ok (sliced (some ⟨b0, off0, none⟩) 1 N cap 5) w := slice_from 1 N (by omega) (some ⟨b0, off0, none⟩) cap
          obtain ⟨A3, c3, hsf⟩ := sliced_form (some ⟨b0, off0, none⟩) 1 N cap
          rw [hsf] at hsl HES2
          have HR2 : Hid (R = (tb && es)) := Lib.hid (by rw [HR.out, HNL.out]; simp)
          clear hu hM htb hes hk00 hk1 hk2 hk3 hk0 hd0 z00 z01 z02 z03 z04 c1 hl0 HNL IH IH2 HR hsf
          go_enter Tryd.func11, Tryd.ntmps11
          go_wp2_with (first | (rw [← HW.out, ← HHH.out]))
          refine (HAL.out _).mono ?_
          rintro e w1 ⟨rfl, hb1⟩
          obtain ⟨y0, y1, y2, y3, y4⟩ := boxed_on HX.out HHW.out hb1
          obtain ⟨z0, z1, z2, z3, z4⟩ := HZ.out w1 hb1
          have HB1 := Lib.hid hb1
          clear hb1 x0 x1 x2 x3 x4
          go_wp2_with (fail)
          refine (HTY.out w1 HB1.out).mono ?_
          rintro e w2 ⟨rfl, hb2⟩
          have hbb := HB1.out.trans (hb2.mono HB1.out.size)
          obtain ⟨v0, v1, v2, v3, v4⟩ := boxed_on HX.out HHW.out hbb
          have HB2 := Lib.hid hbb
          clear hb2 hbb y0 y1 y2 y3 y4 z0 z1 z2 z3 z4
          cases tb
          · go_wp2_with (fail)
            go_ret
            exact ⟨by rw [HR2.out]; rfl, HB.out.trans (HB2.out.mono HB.out.size)⟩
          · go_wp2_with (fail)
            with_reducible refine (HES2.out w2 HB2.out).mono ?_
            rintro e w3 ⟨rfl, hb3⟩
            have HB3 := Lib.hid (HB2.out.trans (hb3.mono HB2.out.size))
            clear hb3
            go_wp2_with (fail)
            go_ret
            exact ⟨by rw [HR2.out]; rfl, HB.out.trans (HB3.out.mono HB.out.size)⟩
    · have e0 : (k == 19) = false := beq_eq_false_iff_ne.2 c0
      have HR : Hid ((NT.mk k a n nm l).expr = (exprL l && exprHead k n nm N)) := Lib.hid (by rw [HT.out, if_neg c0])
      obtain ⟨E, hE⟩ : ∃ E, E = exprL l := ⟨_, rfl⟩
      rw [← hE] at HES HR
      clear HT c0 hE IH HK
      cases E
      · go_enter Tryd.func11, Tryd.ntmps11
        go_wp2_with (first | (rw [← HW.out, ← HHH.out]))
        refine HES.out.mono ?_
        rintro e w1 ⟨rfl, hb1⟩
        have HB1 := Lib.hid (HB.out.trans (hb1.mono HB.out.size))
        clear hb1
        go_wp2_with (fail)
        go_ret
        exact ⟨by rw [HR.out]; rfl, HB1.out⟩
      · have HR2 : Hid ((NT.mk k a n nm l).expr = exprHead k n nm N) := Lib.hid (by rw [HR.out]; simp)
        clear HR
        obtain ⟨R, hR⟩ : ∃ R, R = (NT.mk k a n nm l).expr := ⟨_, rfl⟩
        rw [← hR] at HR2 ⊢
        clear hR
        go_enter Tryd.func11, Tryd.ntmps11
        go_wp2_with (first | (rw [← HW.out, ← HHH.out]))
        refine HES.out.mono ?_
        rintro e w1 ⟨rfl, hb1⟩
        obtain ⟨y0, y1, y2, y3, y4⟩ := boxed_on HX.out HHW.out hb1
        have HY := Lib.hid (And.intro y0 (And.intro y1 (And.intro y2 (And.intro y3 y4))))
        have hz1 : H < w1.heap.size := by have := HHW.out; have := hb1.size; omega
        have HB1 := Lib.hid (HB.out.trans (hb1.mono HB.out.size))
        clear hb1 x0 x1 x2 x3 x4 HX HES HW
        obtain ⟨B, hB⟩ : ∃ B, B = named nm := ⟨_, rfl⟩
        rw [← hB] at HN
        have HBN := Lib.hid hB
        clear hB
        obtain ⟨al, hal⟩ : ∃ al, al = aloneN n nm := ⟨_, rfl⟩
        rw [← hal] at HAL
        obtain ⟨bi, hbi⟩ : ∃ bi, bi = bindF n := ⟨_, rfl⟩
        rw [← hbi] at HBI
        have HAB : Hid (al = aloneN n nm ∧ bi = bindF n ∧ B = named nm) := Lib.hid ⟨hal, hbi, HBN.out⟩
        clear hal hbi HBN
        rcases kinds_of k with rfl | rfl | rfl | rfl | rfl | rfl | rfl | rfl | rfl | ⟨d1, d2, d3, d4, d5, d6, d7, d8, d9⟩
        all_goals
          cases B
          all_goals
            go_wp2_with (first
            | (go_at_call 21; refine (HAL.out _).mono ?_; rintro e w2 ⟨rfl, hb2⟩; have HB2 := Lib.hid (HB1.out.trans (hb2.mono HB1.out.size)); clear hb2)
            | (go_at_call 23; refine (HBI.out _).mono ?_; rintro e w2 ⟨rfl, rfl⟩)
            | (go_at_call 24; refine (HN.out _).mono ?_; rintro e w2 ⟨rfl, hb2⟩; obtain ⟨z0, z1, z2, z3, z4⟩ := boxed_on HY.out hz1 hb2; have HB2 := Lib.hid (HB1.out.trans (hb2.mono HB1.out.size)); clear hb2))
            all_goals
              go_ret
              refine ⟨congrArg (fun b => Ending.returned (Value.bool b)) ?_, by first | exact HB2.out | exact HB1.out⟩
              have hr := HR2.out
              obtain ⟨q1, q2, q3⟩ := HAB.out
              rw [hr]
              clear HAL HBI HN HY HB HHW HHH HNN HB1 y0 y1 y2 y3 y4 HAB HR2 hr hz1
              try clear HB2
              try clear z0 z1 z2 z3 z4
              have bN : ∀ c : Nat, ((N : Int) == (c : Int)) = decide (N = c) := fun c => by rw [Bool.eq_iff_iff]; simp; omega
              have bN0 := bN 0
              have bN1 := bN 1
              have bN2 := bN 2
              simp only [Int.cast_ofNat_Int] at bN0 bN1 bN2
              have bn : ∀ c : Int, (n == c) = decide (n = c) := fun c => rfl
              clear bN
              unfold exprHead
              first | (simp_all; done) | (simp_all; omega) | (unfold aloneN at *; simp_all; done) | (unfold aloneN at *; simp_all; omega)
end Go.Proofs.YtgohkmdepjmpaaaDoor.nt

/- The package's Expr. -/
import Derived.Test.YtkmkeaeaalnbjaaDoorCTreeType
namespace Go.Proofs.YtkmkeaeaalnbjaaDoor.nt
open Go.RowKit mem wd lx
open vt (I64 own_form)

theorem isf_expr : IsFn 11 := Go.Proofs.enters_of Tryd.func11 (by kernel_rfl) rfl
set_option maxHeartbeats 4000000 in
theorem pexpr_mk (k a n : Int) (nm : List UInt8) (l : List NT) (ih : ∀ u ∈ l, SortOf 11 NT.expr u) : SortOf 11 NT.expr (.mk k a n nm l) := by
  intro G hd s w hL h
  change Kids G w l s at h
  obtain ⟨A, cap, rfl, hl⟩ := h.form
  show Calls Tryd.prog 11 #[.agg #[.int .i64 k, .int .i64 a, .int .i64 n, .string ⟨nm.toArray⟩, .slice A l.length cap]] w fun e w' => e = .returned (.bool (NT.expr (NT.mk k a n nm l))) ∧ Below w.heap.size w w'
  obtain ⟨W, H, hA⟩ := ask_of hd hL h
  have HA := Lib.hid hA
  have HW := Lib.hid hA.hW
  have HHH := Lib.hid hA.hH
  have HB := Lib.hid hA.bel
  obtain ⟨x0, x1, x2, x3, x4⟩ := hA.cells
  have HX : Hid (∀ w', Below W.heap.size W w' → _) := Lib.hid fun w' hb => HA.out.on (w' := w') hb
  have HB0 : Hid (Below W.heap.size W W) := Lib.hid (Below.refl _ _)
  have HBARE : Hid (∀ w', Below W.heap.size W w' → _) := Lib.hid fun w' hb => HA.out.bare (w' := w') hb (.slice A l.length cap)
  have HNAMED : Hid (∀ w', Below W.heap.size W w' → _) := Lib.hid fun w' hb => HA.out.named (w' := w') hb (.slice A l.length cap)
  have HR0 : Hid (∀ w', Below W.heap.size W w' → Calls Tryd.prog 26 #[.slice A l.length cap, .slice none 0 0] w' fun e w'' => e = .returned (.bool (areP l [])) ∧ Below W.heap.size W w'') := Lib.hid fun w' hb => HA.out.are (w' := w') hb [] [] rfl (by simp) (by simp) (by simp) _ (fns_nil _)
  have HR1 : Hid (∀ w', Below W.heap.size W w' → Calls Tryd.prog 26 #[.slice A l.length cap, .slice (some ⟨w'.heap.size, 0, none⟩) 1 1] (w'.alloc (.cells #[.func (.func 11) #[] #[]] FnT)) fun e w'' => e = .returned (.bool (areP l [NT.expr])) ∧ Below W.heap.size W w'') := Lib.hid fun w' hb => HA.out.are_new (w' := w') hb [11] [NT.expr] rfl (by simp) (by simp [isf_expr]) (row1 (ih))
  have HR2 : Hid (∀ w', Below W.heap.size W w' → Calls Tryd.prog 26 #[.slice A l.length cap, .slice (some ⟨w'.heap.size, 0, none⟩) 2 2] (w'.alloc (.cells #[.func (.func 11) #[] #[], .func (.func 11) #[] #[]] FnT)) fun e w'' => e = .returned (.bool (areP l [NT.expr, NT.expr])) ∧ Below W.heap.size W w'') := Lib.hid fun w' hb => HA.out.are_new (w' := w') hb [11, 11] [NT.expr, NT.expr] rfl (by simp) (by simp [isf_expr]) (row2 (ih) (ih))
  have HAL : Hid (∀ w', Below W.heap.size W w' → Calls Tryd.prog 29 #[.slice A l.length cap, .func (.func 11) #[] #[]] w' fun e w'' => e = .returned (.bool (l.all NT.expr)) ∧ Below W.heap.size W w'') := Lib.hid fun w' hb => HA.out.all (w' := w') hb 11 NT.expr isf_expr (ih)
  have HBI : Hid (∀ w', Below W.heap.size W w' → _) := Lib.hid fun w' hb => (wd.bind_any n w' hd.2.2.1 (HA.out.ld.on hb)).mono fun _ _ ⟨h1, h2⟩ => (⟨h1, hb.trans (h2.mono hb.size)⟩ : _ ∧ Below W.heap.size W _)
  obtain ⟨R, hR⟩ : ∃ R, R = NT.expr (NT.mk k a n nm l) := ⟨_, rfl⟩
  rw [← hR]
  obtain ⟨N, hN⟩ : ∃ N, N = l.length := ⟨_, rfl⟩
  rw [← hN] at x4 hl HW HX HBARE HNAMED HR0 HR1 HR2 HAL ⊢
  obtain ⟨al, hal⟩ : ∃ al, al = aloneN n nm := ⟨_, rfl⟩
  rw [← hal] at HBARE
  obtain ⟨nb, hnb⟩ : ∃ nb, nb = nmN n nm := ⟨_, rfl⟩
  rw [← hnb] at HNAMED
  obtain ⟨rr0, hrr0⟩ : ∃ rr0, rr0 = areP l [] := ⟨_, rfl⟩
  rw [← hrr0] at HR0
  obtain ⟨rr1, hrr1⟩ : ∃ rr1, rr1 = areP l [NT.expr] := ⟨_, rfl⟩
  rw [← hrr1] at HR1
  obtain ⟨rr2, hrr2⟩ : ∃ rr2, rr2 = areP l [NT.expr, NT.expr] := ⟨_, rfl⟩
  rw [← hrr2] at HR2
  obtain ⟨ral, hral⟩ : ∃ ral, ral = l.all NT.expr := ⟨_, rfl⟩
  rw [← hral] at HAL
  have HN := Lib.hid hN
  clear hN hA hL h hd
  by_cases c10 : k = 10
  · subst c10
    have HR : Hid (R = _) := Lib.hid (hR.trans expr_10)
    rw [← hrr0] at HR
    clear hR hal hnb hrr0 hrr1 hrr2 hral
    by_cases hn : 0 ≤ n
    · rw [decide_eq_true hn] at HR
      cases nm with
      | nil =>
        go_enter Tryd.func11, Tryd.ntmps11
        go_wp2_with (first | (rw [← HW.out, ← HHH.out]) | (go_at_call 26; (with_reducible refine (HR0.out W HB0.out).mono ?_); rintro e w1 ⟨rfl, hb1⟩; obtain ⟨y10, y11, y12, y13, y14⟩ := HX.out w1 hb1))
        go_ret
        exact ⟨by rw [HR.out]; rfl, HB.out.trans (hb1.mono HB.out.size)⟩
      | cons c r =>
        go_enter Tryd.func11, Tryd.ntmps11
        go_wp2_with (first | (rw [← HW.out, ← HHH.out]))
        go_ret
        exact ⟨by rw [HR.out]; rfl, HB.out⟩
    · have hn' : decide (0 ≤ n) = false := decide_eq_false hn
      rw [hn'] at HR
      go_enter Tryd.func11, Tryd.ntmps11
      go_wp2_with (first | (rw [← HW.out, ← HHH.out]))
      go_ret
      exact ⟨by rw [HR.out]; rfl, HB.out⟩
  have d10 : (k == 10) = false := beq_eq_false_iff_ne.2 c10
  by_cases c11 : k = 11
  · subst c11
    have HR : Hid (R = _) := Lib.hid (hR.trans expr_11)
    rw [← hrr0] at HR
    clear hR hal hnb hrr0 hrr1 hrr2 hral
    by_cases hn1 : n = 0
    · subst hn1
      cases nm with
      | nil =>
        go_enter Tryd.func11, Tryd.ntmps11
        go_wp2_with (first | (rw [← HW.out, ← HHH.out]) | (go_at_call 26; (with_reducible refine (HR0.out W HB0.out).mono ?_); rintro e w1 ⟨rfl, hb1⟩; obtain ⟨y10, y11, y12, y13, y14⟩ := HX.out w1 hb1))
        go_ret
        exact ⟨by rw [HR.out]; rfl, HB.out.trans (hb1.mono HB.out.size)⟩
      | cons c r =>
        go_enter Tryd.func11, Tryd.ntmps11
        go_wp2_with (first | (rw [← HW.out, ← HHH.out]))
        go_ret
        exact ⟨by rw [HR.out]; rfl, HB.out⟩
    · have n1 : (n == 0) = false := beq_eq_false_iff_ne.2 hn1
      by_cases hn2 : n = 1
      · subst hn2
        cases nm with
        | nil =>
          go_enter Tryd.func11, Tryd.ntmps11
          go_wp2_with (first | (rw [← HW.out, ← HHH.out]) | (go_at_call 26; (with_reducible refine (HR0.out W HB0.out).mono ?_); rintro e w1 ⟨rfl, hb1⟩; obtain ⟨y10, y11, y12, y13, y14⟩ := HX.out w1 hb1))
          go_ret
          exact ⟨by rw [HR.out]; rfl, HB.out.trans (hb1.mono HB.out.size)⟩
        | cons c r =>
          go_enter Tryd.func11, Tryd.ntmps11
          go_wp2_with (first | (rw [← HW.out, ← HHH.out]))
          go_ret
          exact ⟨by rw [HR.out]; rfl, HB.out⟩
      · have n2 : (n == 1) = false := beq_eq_false_iff_ne.2 hn2
        rw [decide_eq_false hn1, decide_eq_false hn2] at HR
        go_enter Tryd.func11, Tryd.ntmps11
        go_wp2_with (first | (rw [← HW.out, ← HHH.out]))
        go_ret
        exact ⟨by rw [HR.out]; rfl, HB.out⟩
  have d11 : (k == 11) = false := beq_eq_false_iff_ne.2 c11
  by_cases c12 : k = 12
  · subst c12
    have HR : Hid (R = _) := Lib.hid (hR.trans (expr_12))
    rw [← hnb, ← hrr0] at HR
    clear hR hal hnb hrr0 hrr1 hrr2 hral 
    cases nb
    · go_enter Tryd.func11, Tryd.ntmps11
      go_wp2_with (first | (rw [← HW.out, ← HHH.out]) | (go_at_call 27; (with_reducible refine (HNAMED.out W HB0.out).mono ?_); rintro e w1 ⟨rfl, hb1⟩; obtain ⟨y10, y11, y12, y13, y14⟩ := HX.out w1 hb1))
      go_ret
      exact ⟨by rw [HR.out]; rfl, HB.out.trans (hb1.mono HB.out.size)⟩
    · go_enter Tryd.func11, Tryd.ntmps11
      go_wp2_with (first | (rw [← HW.out, ← HHH.out]) | (go_at_call 27; (with_reducible refine (HNAMED.out W HB0.out).mono ?_); rintro e w1 ⟨rfl, hb1⟩; obtain ⟨y10, y11, y12, y13, y14⟩ := HX.out w1 hb1) | (go_at_call 26; (with_reducible refine (HR0.out w1 hb1).mono ?_); rintro e w2 ⟨rfl, hb2⟩; obtain ⟨y20, y21, y22, y23, y24⟩ := HX.out w2 hb2))
      go_ret
      exact ⟨by rw [HR.out]; rfl, HB.out.trans (hb2.mono HB.out.size)⟩
  have d12 : (k == 12) = false := beq_eq_false_iff_ne.2 c12
  by_cases c13 : k = 13
  · subst c13
    have HR : Hid (R = _) := Lib.hid (hR.trans (expr_13))
    rw [← hal, ← hrr2] at HR
    clear hR hal hnb hrr0 hrr1 hrr2 hral 
    cases al
    · go_enter Tryd.func11, Tryd.ntmps11
      go_wp2_with (first | (rw [← HW.out, ← HHH.out]) | (go_at_call 25; (with_reducible refine (HBARE.out W HB0.out).mono ?_); rintro e w1 ⟨rfl, hb1⟩; obtain ⟨y10, y11, y12, y13, y14⟩ := HX.out w1 hb1))
      go_ret
      exact ⟨by rw [HR.out]; rfl, HB.out.trans (hb1.mono HB.out.size)⟩
    · go_enter Tryd.func11, Tryd.ntmps11
      go_wp2_with (first | (rw [← HW.out, ← HHH.out]) | (go_at_call 25; (with_reducible refine (HBARE.out W HB0.out).mono ?_); rintro e w1 ⟨rfl, hb1⟩; obtain ⟨y10, y11, y12, y13, y14⟩ := HX.out w1 hb1) | (go_at_call 26; (with_reducible refine (HR2.out w1 hb1).mono ?_); rintro e w2 ⟨rfl, hb2⟩; obtain ⟨y20, y21, y22, y23, y24⟩ := HX.out w2 hb2))
      go_ret
      exact ⟨by rw [HR.out]; rfl, HB.out.trans (hb2.mono HB.out.size)⟩
  have d13 : (k == 13) = false := beq_eq_false_iff_ne.2 c13
  by_cases c14 : k = 14
  · subst c14
    have HR : Hid (R = _) := Lib.hid (hR.trans (expr_14))
    rw [← hnb, ← hrr1] at HR
    clear hR hal hnb hrr0 hrr1 hrr2 hral 
    cases nb
    · go_enter Tryd.func11, Tryd.ntmps11
      go_wp2_with (first | (rw [← HW.out, ← HHH.out]) | (go_at_call 27; (with_reducible refine (HNAMED.out W HB0.out).mono ?_); rintro e w1 ⟨rfl, hb1⟩; obtain ⟨y10, y11, y12, y13, y14⟩ := HX.out w1 hb1))
      go_ret
      exact ⟨by rw [HR.out]; rfl, HB.out.trans (hb1.mono HB.out.size)⟩
    · go_enter Tryd.func11, Tryd.ntmps11
      go_wp2_with (first | (rw [← HW.out, ← HHH.out]) | (go_at_call 27; (with_reducible refine (HNAMED.out W HB0.out).mono ?_); rintro e w1 ⟨rfl, hb1⟩; obtain ⟨y10, y11, y12, y13, y14⟩ := HX.out w1 hb1) | (go_at_call 26; (with_reducible refine (HR1.out w1 hb1).mono ?_); rintro e w2 ⟨rfl, hb2⟩; obtain ⟨y20, y21, y22, y23, y24⟩ := HX.out w2 hb2))
      go_ret
      exact ⟨by rw [HR.out]; rfl, HB.out.trans (hb2.mono HB.out.size)⟩
  have d14 : (k == 14) = false := beq_eq_false_iff_ne.2 c14
  by_cases c15 : k = 15
  · subst c15
    have HR : Hid (R = _) := Lib.hid (hR.trans expr_15)
    rw [← hrr1] at HR
    clear hR hal hnb hrr0 hrr1 hrr2 hral
    by_cases hn1 : n = 2
    · subst hn1
      cases nm with
      | nil =>
        go_enter Tryd.func11, Tryd.ntmps11
        go_wp2_with (first | (rw [← HW.out, ← HHH.out]) | (go_at_call 26; (with_reducible refine (HR1.out W HB0.out).mono ?_); rintro e w1 ⟨rfl, hb1⟩; obtain ⟨y10, y11, y12, y13, y14⟩ := HX.out w1 hb1))
        go_ret
        exact ⟨by rw [HR.out]; rfl, HB.out.trans (hb1.mono HB.out.size)⟩
      | cons c r =>
        go_enter Tryd.func11, Tryd.ntmps11
        go_wp2_with (first | (rw [← HW.out, ← HHH.out]))
        go_ret
        exact ⟨by rw [HR.out]; rfl, HB.out⟩
    · have n1 : (n == 2) = false := beq_eq_false_iff_ne.2 hn1
      by_cases hn2 : n = 14
      · subst hn2
        cases nm with
        | nil =>
          go_enter Tryd.func11, Tryd.ntmps11
          go_wp2_with (first | (rw [← HW.out, ← HHH.out]) | (go_at_call 26; (with_reducible refine (HR1.out W HB0.out).mono ?_); rintro e w1 ⟨rfl, hb1⟩; obtain ⟨y10, y11, y12, y13, y14⟩ := HX.out w1 hb1))
          go_ret
          exact ⟨by rw [HR.out]; rfl, HB.out.trans (hb1.mono HB.out.size)⟩
        | cons c r =>
          go_enter Tryd.func11, Tryd.ntmps11
          go_wp2_with (first | (rw [← HW.out, ← HHH.out]))
          go_ret
          exact ⟨by rw [HR.out]; rfl, HB.out⟩
      · have n2 : (n == 14) = false := beq_eq_false_iff_ne.2 hn2
        rw [decide_eq_false hn1, decide_eq_false hn2] at HR
        go_enter Tryd.func11, Tryd.ntmps11
        go_wp2_with (first | (rw [← HW.out, ← HHH.out]))
        go_ret
        exact ⟨by rw [HR.out]; rfl, HB.out⟩
  have d15 : (k == 15) = false := beq_eq_false_iff_ne.2 c15
  by_cases c16 : k = 16
  · subst c16
    have HR : Hid (R = _) := Lib.hid (hR.trans expr_16)
    rw [← hrr2] at HR
    obtain ⟨bi, hbi⟩ : ∃ bi, bi = bindF n := ⟨_, rfl⟩
    rw [← hbi] at HR HBI
    clear hR hbi hal hnb hrr0 hrr1 hrr2 hral
    by_cases hn : 0 < bi
    · rw [decide_eq_true hn] at HR
      cases nm with
      | nil =>
        go_enter Tryd.func11, Tryd.ntmps11
        go_wp2_with (first | (rw [← HW.out, ← HHH.out]) | (go_at_call 28; (with_reducible refine (HBI.out W HB0.out).mono ?_); rintro e w1 ⟨rfl, hb1⟩; obtain ⟨y10, y11, y12, y13, y14⟩ := HX.out w1 hb1) | (go_at_call 26; (with_reducible refine (HR2.out w1 hb1).mono ?_); rintro e w2 ⟨rfl, hb2⟩; obtain ⟨y20, y21, y22, y23, y24⟩ := HX.out w2 hb2))
        go_ret
        exact ⟨by rw [HR.out]; rfl, HB.out.trans (hb2.mono HB.out.size)⟩
      | cons c r =>
        go_enter Tryd.func11, Tryd.ntmps11
        go_wp2_with (first | (rw [← HW.out, ← HHH.out]) | (go_at_call 28; (with_reducible refine (HBI.out W HB0.out).mono ?_); rintro e w1 ⟨rfl, hb1⟩; obtain ⟨y10, y11, y12, y13, y14⟩ := HX.out w1 hb1))
        go_ret
        exact ⟨by rw [HR.out]; rfl, HB.out.trans (hb1.mono HB.out.size)⟩
    · have hn' : decide (0 < bi) = false := decide_eq_false hn
      rw [hn'] at HR
      go_enter Tryd.func11, Tryd.ntmps11
      go_wp2_with (first | (rw [← HW.out, ← HHH.out]) | (go_at_call 28; (with_reducible refine (HBI.out W HB0.out).mono ?_); rintro e w1 ⟨rfl, hb1⟩; obtain ⟨y10, y11, y12, y13, y14⟩ := HX.out w1 hb1))
      go_ret
      exact ⟨by rw [HR.out]; rfl, HB.out.trans (hb1.mono HB.out.size)⟩
  have d16 : (k == 16) = false := beq_eq_false_iff_ne.2 c16
  by_cases c17 : k = 17
  · subst c17
    have HR : Hid (R = _) := Lib.hid (hR.trans (expr_callC (by omega)))
    rw [← hnb, ← hral] at HR
    clear hR hal hnb hrr0 hrr1 hrr2 hral 
    cases nb
    · go_enter Tryd.func11, Tryd.ntmps11
      go_wp2_with (first | (rw [← HW.out, ← HHH.out]) | (go_at_call 27; (with_reducible refine (HNAMED.out W HB0.out).mono ?_); rintro e w1 ⟨rfl, hb1⟩; obtain ⟨y10, y11, y12, y13, y14⟩ := HX.out w1 hb1))
      go_ret
      exact ⟨by rw [HR.out]; rfl, HB.out.trans (hb1.mono HB.out.size)⟩
    · go_enter Tryd.func11, Tryd.ntmps11
      go_wp2_with (first | (rw [← HW.out, ← HHH.out]) | (go_at_call 27; (with_reducible refine (HNAMED.out W HB0.out).mono ?_); rintro e w1 ⟨rfl, hb1⟩; obtain ⟨y10, y11, y12, y13, y14⟩ := HX.out w1 hb1) | (go_at_call 29; (with_reducible refine (HAL.out w1 hb1).mono ?_); rintro e w2 ⟨rfl, hb2⟩; obtain ⟨y20, y21, y22, y23, y24⟩ := HX.out w2 hb2))
      go_ret
      exact ⟨by rw [HR.out]; rfl, HB.out.trans (hb2.mono HB.out.size)⟩
  have d17 : (k == 17) = false := beq_eq_false_iff_ne.2 c17
  by_cases c18 : k = 18
  · subst c18
    have HR : Hid (R = _) := Lib.hid (hR.trans (expr_callC (by omega)))
    rw [← hnb, ← hral] at HR
    clear hR hal hnb hrr0 hrr1 hrr2 hral 
    cases nb
    · go_enter Tryd.func11, Tryd.ntmps11
      go_wp2_with (first | (rw [← HW.out, ← HHH.out]) | (go_at_call 27; (with_reducible refine (HNAMED.out W HB0.out).mono ?_); rintro e w1 ⟨rfl, hb1⟩; obtain ⟨y10, y11, y12, y13, y14⟩ := HX.out w1 hb1))
      go_ret
      exact ⟨by rw [HR.out]; rfl, HB.out.trans (hb1.mono HB.out.size)⟩
    · go_enter Tryd.func11, Tryd.ntmps11
      go_wp2_with (first | (rw [← HW.out, ← HHH.out]) | (go_at_call 27; (with_reducible refine (HNAMED.out W HB0.out).mono ?_); rintro e w1 ⟨rfl, hb1⟩; obtain ⟨y10, y11, y12, y13, y14⟩ := HX.out w1 hb1) | (go_at_call 29; (with_reducible refine (HAL.out w1 hb1).mono ?_); rintro e w2 ⟨rfl, hb2⟩; obtain ⟨y20, y21, y22, y23, y24⟩ := HX.out w2 hb2))
      go_ret
      exact ⟨by rw [HR.out]; rfl, HB.out.trans (hb2.mono HB.out.size)⟩
  have d18 : (k == 18) = false := beq_eq_false_iff_ne.2 c18
  by_cases c19 : k = 19
  · subst c19
    have HR : Hid (R = _) := Lib.hid (hR.trans expr_19)
    rw [← hal] at HR
    by_cases h0 : N = 0
    · have HR2 : Hid (R = false) := Lib.hid (by
        rw [HR.out, List.eq_nil_of_length_eq_zero (HN.out.symm.trans h0)]; simp)
      clear hR HR hal hnb hrr0 hrr1 hrr2 hral
      have HR := HR2
      clear HR2
      subst h0
      cases al
      · go_enter Tryd.func11, Tryd.ntmps11
        go_wp2_with (first | (rw [← HW.out, ← HHH.out]) | (go_at_call 25; (with_reducible refine (HBARE.out W HB0.out).mono ?_); rintro e w1 ⟨rfl, hb1⟩; obtain ⟨y10, y11, y12, y13, y14⟩ := HX.out w1 hb1))
        go_ret
        exact ⟨by rw [HR.out]; rfl, HB.out.trans (hb1.mono HB.out.size)⟩
      · go_enter Tryd.func11, Tryd.ntmps11
        go_wp2_with (first | (rw [← HW.out, ← HHH.out]) | (go_at_call 25; (with_reducible refine (HBARE.out W HB0.out).mono ?_); rintro e w1 ⟨rfl, hb1⟩; obtain ⟨y10, y11, y12, y13, y14⟩ := HX.out w1 hb1))
        go_ret
        exact ⟨by rw [HR.out]; rfl, HB.out.trans (hb1.mono HB.out.size)⟩
    · have hl0 : 0 < l.length := by have := HN.out; omega
      obtain ⟨b0, off0, cq, q, hs, _, hd0, z00, z01, z02, z03, z04, hk0⟩ := HA.out.kids.kid (Below.refl _ _) 0 hl0
      injection hs with hA1 _ hC1
      subst hA1
      subst hC1
      rw [Nat.zero_mul, Nat.add_zero] at z00 z01 z02 z03 z04
      obtain ⟨u, rr, hur⟩ := List.exists_cons_of_length_pos hl0
      have hu0 : l[0] = u := by simp [hur]
      obtain ⟨A2, c2, rfl, _⟩ := hk0.form
      have HTY : Hid (∀ w', Below W.heap.size W w' → _) := Lib.hid fun w' hb => (ptyp_of l[0] G hd0 _ w' (HA.out.ld.on hb) (hk0.below hb)).mono fun _ _ ⟨h1, h2⟩ => (⟨h1, hb.trans (h2.mono hb.size)⟩ : _ ∧ Below W.heap.size W _)
      have hdr : l.drop 1 = rr := by rw [hur]; rfl
      have HES : Hid (∀ w', Below W.heap.size W w' → _) := Lib.hid fun w' hb => (pall_any G (l.drop 1) 11 NT.expr isf_expr (fun v hv => ih v (List.mem_of_mem_drop hv)) _ w' (HA.out.ld.on hb) ((HA.out.kids.below hb).drop 1 (by omega))).mono fun _ _ ⟨h1, h2⟩ => (⟨h1, hb.trans (h2.mono hb.size)⟩ : _ ∧ Below W.heap.size W _)
      have HR2 : Hid (R = (al && (u.typ && rr.all NT.expr))) := Lib.hid (by rw [HR.out, hur])
      have HZ := Lib.hid (fun w' (hb : Below W.heap.size W w') => (show (w'.cell? ⟨b0, off0, none⟩ = _ ∧ w'.cell? ⟨b0, off0 + 1, none⟩ = _ ∧ w'.cell? ⟨b0, off0 + 2, none⟩ = _ ∧ w'.cell? ⟨b0, off0 + 3, none⟩ = _ ∧ w'.cell? ⟨b0, off0 + 4, none⟩ = _) from
        ⟨(hb.cell (p := ⟨b0, off0, none⟩) (World.block_lt_of_cell? _ _ z00)).trans z00, (hb.cell (p := ⟨b0, off0 + 1, none⟩) (World.block_lt_of_cell? _ _ z01)).trans z01, (hb.cell (p := ⟨b0, off0 + 2, none⟩) (World.block_lt_of_cell? _ _ z02)).trans z02, (hb.cell (p := ⟨b0, off0 + 3, none⟩) (World.block_lt_of_cell? _ _ z03)).trans z03, (hb.cell (p := ⟨b0, off0 + 4, none⟩) (World.block_lt_of_cell? _ _ z04)).trans z04⟩))
      rw [hdr] at HES
      rw [hu0] at HTY HZ
      rw [← HN.out] at HES
      have hsl : ∀ w, (Instr.slice 22 (.slice (some ⟨b0, off0, none⟩) N cap) (some (.int .i64 1)) none none).run Tryd.prog w = .ok (sliced (some ⟨b0, off0, none⟩) 1 N cap 5) w := slice_from 1 N (by omega) (some ⟨b0, off0, none⟩) cap
      obtain ⟨A3, c3, hsf⟩ := sliced_form (some ⟨b0, off0, none⟩) 1 N cap
      rw [hsf] at hsl HES
      obtain ⟨M, hM⟩ : ∃ M, M = u.kids.length := ⟨_, rfl⟩
      have hMl : l[0].kids.length = M := by rw [hu0, hM]
      rw [← hM] at HTY HZ
      obtain ⟨tb, htb⟩ : ∃ tb, tb = u.typ := ⟨_, rfl⟩
      rw [← htb] at HTY HR2
      obtain ⟨es, hes⟩ : ∃ es, es = rr.all NT.expr := ⟨_, rfl⟩
      rw [← hes] at HES HR2
      obtain ⟨k0, hk00⟩ : ∃ k0, k0 = u.kind := ⟨_, rfl⟩
      obtain ⟨k1, hk1⟩ : ∃ k1, k1 = u.at_ := ⟨_, rfl⟩
      obtain ⟨k2, hk2⟩ : ∃ k2, k2 = u.num := ⟨_, rfl⟩
      obtain ⟨k3, hk3⟩ : ∃ k3, k3 = u.name := ⟨_, rfl⟩
      rw [← hk00, ← hk1, ← hk2, ← hk3] at HZ HTY
      have hNp : (0 : Int) < (N : Int) := by omega
      clear hR HR hal hnb hrr0 hrr1 hrr2 hral
      have HR := HR2
      clear HR2 hk00 hk1 hk2 hk3 hes htb hMl hM hsf hdr hu0 hur z00 z01 z02 z03 z04 hd0 hk0
      cases al
      · go_enter Tryd.func11, Tryd.ntmps11
        go_wp2_with (first | (rw [← HW.out, ← HHH.out]) | (go_at_call 25; (with_reducible refine (HBARE.out W HB0.out).mono ?_); rintro e w1 ⟨rfl, hb1⟩; obtain ⟨y10, y11, y12, y13, y14⟩ := HX.out w1 hb1))
        go_ret
        exact ⟨by rw [HR.out]; rfl, HB.out.trans (hb1.mono HB.out.size)⟩
      · cases tb
        · go_enter Tryd.func11, Tryd.ntmps11
          go_wp2_with (first | (rw [← HW.out, ← HHH.out]) | (go_at_call 25; (with_reducible refine (HBARE.out W HB0.out).mono ?_); rintro e w1 ⟨rfl, hb1⟩; obtain ⟨y10, y11, y12, y13, y14⟩ := HX.out w1 hb1; obtain ⟨q0, q1, q2, q3, q4⟩ := HZ.out w1 hb1) | (go_at_call 10; (with_reducible refine (HTY.out w1 hb1).mono ?_); rintro e w2 ⟨rfl, hb2⟩; obtain ⟨y20, y21, y22, y23, y24⟩ := HX.out w2 hb2))
          go_ret
          exact ⟨by rw [HR.out]; rfl, HB.out.trans (hb2.mono HB.out.size)⟩
        · go_enter Tryd.func11, Tryd.ntmps11
          go_wp2_with (first | (rw [← HW.out, ← HHH.out]) | (go_at_call 25; (with_reducible refine (HBARE.out W HB0.out).mono ?_); rintro e w1 ⟨rfl, hb1⟩; obtain ⟨y10, y11, y12, y13, y14⟩ := HX.out w1 hb1; obtain ⟨q0, q1, q2, q3, q4⟩ := HZ.out w1 hb1) | (go_at_call 10; (with_reducible refine (HTY.out w1 hb1).mono ?_); rintro e w2 ⟨rfl, hb2⟩; obtain ⟨y20, y21, y22, y23, y24⟩ := HX.out w2 hb2) | (go_at_call 29; (with_reducible refine (HES.out w2 hb2).mono ?_); rintro e w3 ⟨rfl, hb3⟩; obtain ⟨y30, y31, y32, y33, y34⟩ := HX.out w3 hb3))
          go_ret
          exact ⟨by rw [HR.out]; rfl, HB.out.trans (hb3.mono HB.out.size)⟩
  have d19 : (k == 19) = false := beq_eq_false_iff_ne.2 c19
  have HR : Hid (R = false) := Lib.hid (hR.trans (expr_no c10 c11 c12 c13 c14 c15 c16 c17 c18 c19))
  clear hR hal hnb hrr0 hrr1 hrr2 hral
  go_enter Tryd.func11, Tryd.ntmps11
  go_wp2_with (first | (rw [← HW.out, ← HHH.out]))
  go_ret
  exact ⟨by rw [HR.out]; rfl, HB.out⟩
theorem pexpr_of (t : NT) : SortOf 11 NT.expr t := by
  induction t using NT.ind with
  | h k a n nm l ih => exact pexpr_mk k a n nm l ih
end Go.Proofs.YtkmkeaeaalnbjaaDoor.nt

/- The package's places and statements. -/
import Derived.Test.YtkmkeaeaalnbjaaDoorCTreeExpr
namespace Go.Proofs.YtkmkeaeaalnbjaaDoor.nt
open Go.RowKit mem wd lx
open vt (I64 own_form)

theorem isf_place : IsFn 45 := Go.Proofs.enters_of Tryd.func45 (by kernel_rfl) rfl
set_option maxHeartbeats 1000000 in
theorem pplace_mk (k a n : Int) (nm : List UInt8) (l : List NT) (ih : ∀ u ∈ l, SortOf 45 NT.place u) : SortOf 45 NT.place (.mk k a n nm l) := by
  intro G hd s w hL h
  change Kids G w l s at h
  obtain ⟨A, cap, rfl, hl⟩ := h.form
  show Calls Tryd.prog 45 #[.agg #[.int .i64 k, .int .i64 a, .int .i64 n, .string ⟨nm.toArray⟩, .slice A l.length cap]] w fun e w' => e = .returned (.bool (NT.place (NT.mk k a n nm l))) ∧ Below w.heap.size w w'
  obtain ⟨W, H, hA⟩ := ask_of hd hL h
  have HA := Lib.hid hA
  have HW := Lib.hid hA.hW
  have HHH := Lib.hid hA.hH
  have HB := Lib.hid hA.bel
  obtain ⟨x0, x1, x2, x3, x4⟩ := hA.cells
  have HX : Hid (∀ w', Below W.heap.size W w' → _) := Lib.hid fun w' hb => HA.out.on (w' := w') hb
  have HB0 : Hid (Below W.heap.size W W) := Lib.hid (Below.refl _ _)
  have HBARE : Hid (∀ w', Below W.heap.size W w' → _) := Lib.hid fun w' hb => HA.out.bare (w' := w') hb (.slice A l.length cap)
  have HNAMED : Hid (∀ w', Below W.heap.size W w' → _) := Lib.hid fun w' hb => HA.out.named (w' := w') hb (.slice A l.length cap)
  have HR0 : Hid (∀ w', Below W.heap.size W w' → Calls Tryd.prog 26 #[.slice A l.length cap, .slice none 0 0] w' fun e w'' => e = .returned (.bool (areP l [])) ∧ Below W.heap.size W w'') := Lib.hid fun w' hb => HA.out.are (w' := w') hb [] [] rfl (by simp) (by simp) (by simp) _ (fns_nil _)
  have HR1 : Hid (∀ w', Below W.heap.size W w' → Calls Tryd.prog 26 #[.slice A l.length cap, .slice (some ⟨w'.heap.size, 0, none⟩) 1 1] (w'.alloc (.cells #[.func (.func 45) #[] #[]] FnT)) fun e w'' => e = .returned (.bool (areP l [NT.place])) ∧ Below W.heap.size W w'') := Lib.hid fun w' hb => HA.out.are_new (w' := w') hb [45] [NT.place] rfl (by simp) (by simp [isf_place]) (row1 (ih))
  have HR2 : Hid (∀ w', Below W.heap.size W w' → Calls Tryd.prog 26 #[.slice A l.length cap, .slice (some ⟨w'.heap.size, 0, none⟩) 2 2] (w'.alloc (.cells #[.func (.func 45) #[] #[], .func (.func 11) #[] #[]] FnT)) fun e w'' => e = .returned (.bool (areP l [NT.place, NT.expr])) ∧ Below W.heap.size W w'') := Lib.hid fun w' hb => HA.out.are_new (w' := w') hb [45, 11] [NT.place, NT.expr] rfl (by simp) (by simp [isf_expr, isf_place]) (row2 (ih) (fun u _ => pexpr_of u))
  obtain ⟨R, hR⟩ : ∃ R, R = NT.place (NT.mk k a n nm l) := ⟨_, rfl⟩
  rw [← hR]
  obtain ⟨N, hN⟩ : ∃ N, N = l.length := ⟨_, rfl⟩
  rw [← hN] at x4 hl HW HX HBARE HNAMED HR0 HR1 HR2 ⊢
  obtain ⟨al, hal⟩ : ∃ al, al = aloneN n nm := ⟨_, rfl⟩
  rw [← hal] at HBARE
  obtain ⟨nb, hnb⟩ : ∃ nb, nb = nmN n nm := ⟨_, rfl⟩
  rw [← hnb] at HNAMED
  obtain ⟨rr0, hrr0⟩ : ∃ rr0, rr0 = areP l [] := ⟨_, rfl⟩
  rw [← hrr0] at HR0
  obtain ⟨rr1, hrr1⟩ : ∃ rr1, rr1 = areP l [NT.place] := ⟨_, rfl⟩
  rw [← hrr1] at HR1
  obtain ⟨rr2, hrr2⟩ : ∃ rr2, rr2 = areP l [NT.place, NT.expr] := ⟨_, rfl⟩
  rw [← hrr2] at HR2
  have HN := Lib.hid hN
  clear hN hA hL h hd
  by_cases c12 : k = 12
  · subst c12
    have HR : Hid (R = _) := Lib.hid (hR.trans (place_12))
    rw [← hnb, ← hrr0] at HR
    clear hR hal hnb hrr0 hrr1 hrr2 
    cases nb
    · go_enter Tryd.func45, Tryd.ntmps45
      go_wp2_with (first | (rw [← HW.out, ← HHH.out]) | (go_at_call 27; (with_reducible refine (HNAMED.out W HB0.out).mono ?_); rintro e w1 ⟨rfl, hb1⟩; obtain ⟨y10, y11, y12, y13, y14⟩ := HX.out w1 hb1))
      go_ret
      exact ⟨by rw [HR.out]; rfl, HB.out.trans (hb1.mono HB.out.size)⟩
    · go_enter Tryd.func45, Tryd.ntmps45
      go_wp2_with (first | (rw [← HW.out, ← HHH.out]) | (go_at_call 27; (with_reducible refine (HNAMED.out W HB0.out).mono ?_); rintro e w1 ⟨rfl, hb1⟩; obtain ⟨y10, y11, y12, y13, y14⟩ := HX.out w1 hb1) | (go_at_call 26; (with_reducible refine (HR0.out w1 hb1).mono ?_); rintro e w2 ⟨rfl, hb2⟩; obtain ⟨y20, y21, y22, y23, y24⟩ := HX.out w2 hb2))
      go_ret
      exact ⟨by rw [HR.out]; rfl, HB.out.trans (hb2.mono HB.out.size)⟩
  have d12 : (k == 12) = false := beq_eq_false_iff_ne.2 c12
  by_cases c13 : k = 13
  · subst c13
    have HR : Hid (R = _) := Lib.hid (hR.trans (place_13))
    rw [← hal, ← hrr2] at HR
    clear hR hal hnb hrr0 hrr1 hrr2 
    cases al
    · go_enter Tryd.func45, Tryd.ntmps45
      go_wp2_with (first | (rw [← HW.out, ← HHH.out]) | (go_at_call 25; (with_reducible refine (HBARE.out W HB0.out).mono ?_); rintro e w1 ⟨rfl, hb1⟩; obtain ⟨y10, y11, y12, y13, y14⟩ := HX.out w1 hb1))
      go_ret
      exact ⟨by rw [HR.out]; rfl, HB.out.trans (hb1.mono HB.out.size)⟩
    · go_enter Tryd.func45, Tryd.ntmps45
      go_wp2_with (first | (rw [← HW.out, ← HHH.out]) | (go_at_call 25; (with_reducible refine (HBARE.out W HB0.out).mono ?_); rintro e w1 ⟨rfl, hb1⟩; obtain ⟨y10, y11, y12, y13, y14⟩ := HX.out w1 hb1) | (go_at_call 26; (with_reducible refine (HR2.out w1 hb1).mono ?_); rintro e w2 ⟨rfl, hb2⟩; obtain ⟨y20, y21, y22, y23, y24⟩ := HX.out w2 hb2))
      go_ret
      exact ⟨by rw [HR.out]; rfl, HB.out.trans (hb2.mono HB.out.size)⟩
  have d13 : (k == 13) = false := beq_eq_false_iff_ne.2 c13
  by_cases c14 : k = 14
  · subst c14
    have HR : Hid (R = _) := Lib.hid (hR.trans (place_14))
    rw [← hnb, ← hrr1] at HR
    clear hR hal hnb hrr0 hrr1 hrr2 
    cases nb
    · go_enter Tryd.func45, Tryd.ntmps45
      go_wp2_with (first | (rw [← HW.out, ← HHH.out]) | (go_at_call 27; (with_reducible refine (HNAMED.out W HB0.out).mono ?_); rintro e w1 ⟨rfl, hb1⟩; obtain ⟨y10, y11, y12, y13, y14⟩ := HX.out w1 hb1))
      go_ret
      exact ⟨by rw [HR.out]; rfl, HB.out.trans (hb1.mono HB.out.size)⟩
    · go_enter Tryd.func45, Tryd.ntmps45
      go_wp2_with (first | (rw [← HW.out, ← HHH.out]) | (go_at_call 27; (with_reducible refine (HNAMED.out W HB0.out).mono ?_); rintro e w1 ⟨rfl, hb1⟩; obtain ⟨y10, y11, y12, y13, y14⟩ := HX.out w1 hb1) | (go_at_call 26; (with_reducible refine (HR1.out w1 hb1).mono ?_); rintro e w2 ⟨rfl, hb2⟩; obtain ⟨y20, y21, y22, y23, y24⟩ := HX.out w2 hb2))
      go_ret
      exact ⟨by rw [HR.out]; rfl, HB.out.trans (hb2.mono HB.out.size)⟩
  have d14 : (k == 14) = false := beq_eq_false_iff_ne.2 c14
  have HR : Hid (R = false) := Lib.hid (hR.trans (place_no c12 c13 c14))
  clear hR hal hnb hrr0 hrr1 hrr2
  go_enter Tryd.func45, Tryd.ntmps45
  go_wp2_with (first | (rw [← HW.out, ← HHH.out]))
  go_ret
  exact ⟨by rw [HR.out]; rfl, HB.out⟩
theorem pplace_of (t : NT) : SortOf 45 NT.place t := by
  induction t using NT.ind with
  | h k a n nm l ih => exact pplace_mk k a n nm l ih
theorem isf_stmt : IsFn 12 := Go.Proofs.enters_of Tryd.func12 (by kernel_rfl) rfl
theorem isf_call : IsFn 47 := Go.Proofs.enters_of Tryd.func47 (by kernel_rfl) rfl
set_option maxHeartbeats 1000000 in
theorem pcall_mk (k a n : Int) (nm : List UInt8) (l : List NT) : SortOf 47 callN (.mk k a n nm l) := by
  intro G hd s w hL h
  change Kids G w l s at h
  obtain ⟨A, cap, rfl, hl⟩ := h.form
  show Calls Tryd.prog 47 #[.agg #[.int .i64 k, .int .i64 a, .int .i64 n, .string ⟨nm.toArray⟩, .slice A l.length cap]] w fun e w' => e = .returned (.bool (callN (NT.mk k a n nm l))) ∧ Below w.heap.size w w'
  obtain ⟨W, H, hA⟩ := ask_of hd hL h
  have HA := Lib.hid hA
  have HW := Lib.hid hA.hW
  have HHH := Lib.hid hA.hH
  have HB := Lib.hid hA.bel
  obtain ⟨x0, x1, x2, x3, x4⟩ := hA.cells
  have HX : Hid (∀ w', Below W.heap.size W w' → _) := Lib.hid fun w' hb => HA.out.on (w' := w') hb
  have HB0 : Hid (Below W.heap.size W W) := Lib.hid (Below.refl _ _)
  have HSELF : Hid (∀ w', Below W.heap.size W w' → Calls Tryd.prog 11 #[.agg #[.int .i64 k, .int .i64 a, .int .i64 n, .string ⟨nm.toArray⟩, .slice A l.length cap]] w' fun e w'' => e = .returned (.bool (NT.expr (NT.mk k a n nm l))) ∧ Below W.heap.size W w'') := Lib.hid fun w' hb => ((pexpr_of (.mk k a n nm l)) G hd (.slice A l.length cap) w' (HA.out.ld.on hb) (HA.out.kids.below hb)).mono fun _ _ ⟨h1, h2⟩ => ⟨h1, hb.trans (h2.mono hb.size)⟩
  obtain ⟨R, hR⟩ : ∃ R, R = callN (NT.mk k a n nm l) := ⟨_, rfl⟩
  rw [← hR]
  obtain ⟨N, hN⟩ : ∃ N, N = l.length := ⟨_, rfl⟩
  rw [← hN] at x4 hl HW HX HSELF ⊢
  obtain ⟨rself, hrself⟩ : ∃ rself, rself = NT.expr (NT.mk k a n nm l) := ⟨_, rfl⟩
  rw [← hrself] at HSELF
  have HN := Lib.hid hN
  clear hN hA hL h hd
  by_cases c : k = 17
  · subst c
    have HR : Hid (R = rself) := Lib.hid (hR.trans (by rw [hrself]; simp [callN, NT.kind]))
    clear hR hrself
    go_enter Tryd.func47, Tryd.ntmps47
    go_wp2_with (first | (rw [← HW.out, ← HHH.out]) | (go_at_call 11; (with_reducible refine (HSELF.out W HB0.out).mono ?_); rintro e w1 ⟨rfl, hb1⟩; obtain ⟨y10, y11, y12, y13, y14⟩ := HX.out w1 hb1))
    go_ret
    exact ⟨by rw [HR.out]; rfl, HB.out.trans (hb1.mono HB.out.size)⟩
  · have d : (k == 17) = false := beq_eq_false_iff_ne.2 c
    have HR : Hid (R = false) := Lib.hid (hR.trans (by simp [callN, NT.kind, c]))
    clear hR hrself
    go_enter Tryd.func47, Tryd.ntmps47
    go_wp2_with (first | (rw [← HW.out, ← HHH.out]))
    go_ret
    exact ⟨by rw [HR.out]; rfl, HB.out⟩
theorem pcall_of (t : NT) : SortOf 47 callN t := by
  obtain ⟨k, a, n, nm, l⟩ := t
  exact pcall_mk k a n nm l
theorem isf_block : IsFn 40 := Go.Proofs.enters_of Tryd.func40 (by kernel_rfl) rfl
set_option maxHeartbeats 1000000 in
theorem pblock_mk (k a n : Int) (nm : List UInt8) (l : List NT) (hs : SortOf 12 NT.stmt (.mk k a n nm l)) : SortOf 40 NT.blk (.mk k a n nm l) := by
  intro G hd s w hL h
  change Kids G w l s at h
  obtain ⟨A, cap, rfl, hl⟩ := h.form
  show Calls Tryd.prog 40 #[.agg #[.int .i64 k, .int .i64 a, .int .i64 n, .string ⟨nm.toArray⟩, .slice A l.length cap]] w fun e w' => e = .returned (.bool (NT.blk (NT.mk k a n nm l))) ∧ Below w.heap.size w w'
  obtain ⟨W, H, hA⟩ := ask_of hd hL h
  have HA := Lib.hid hA
  have HW := Lib.hid hA.hW
  have HHH := Lib.hid hA.hH
  have HB := Lib.hid hA.bel
  obtain ⟨x0, x1, x2, x3, x4⟩ := hA.cells
  have HX : Hid (∀ w', Below W.heap.size W w' → _) := Lib.hid fun w' hb => HA.out.on (w' := w') hb
  have HB0 : Hid (Below W.heap.size W W) := Lib.hid (Below.refl _ _)
  have HSELF : Hid (∀ w', Below W.heap.size W w' → Calls Tryd.prog 12 #[.agg #[.int .i64 k, .int .i64 a, .int .i64 n, .string ⟨nm.toArray⟩, .slice A l.length cap]] w' fun e w'' => e = .returned (.bool (NT.stmt (NT.mk k a n nm l))) ∧ Below W.heap.size W w'') := Lib.hid fun w' hb => (hs G hd (.slice A l.length cap) w' (HA.out.ld.on hb) (HA.out.kids.below hb)).mono fun _ _ ⟨h1, h2⟩ => ⟨h1, hb.trans (h2.mono hb.size)⟩
  obtain ⟨R, hR⟩ : ∃ R, R = NT.blk (NT.mk k a n nm l) := ⟨_, rfl⟩
  rw [← hR]
  obtain ⟨N, hN⟩ : ∃ N, N = l.length := ⟨_, rfl⟩
  rw [← hN] at x4 hl HW HX HSELF ⊢
  obtain ⟨rself, hrself⟩ : ∃ rself, rself = NT.stmt (NT.mk k a n nm l) := ⟨_, rfl⟩
  rw [← hrself] at HSELF
  have HN := Lib.hid hN
  clear hN hA hL h hd
  by_cases c : k = 30
  · subst c
    have HR : Hid (R = rself) := Lib.hid (hR.trans (by rw [hrself]; simp [NT.blk, NT.kind]))
    clear hR hrself
    go_enter Tryd.func40, Tryd.ntmps40
    go_wp2_with (first | (rw [← HW.out, ← HHH.out]) | (go_at_call 12; (with_reducible refine (HSELF.out W HB0.out).mono ?_); rintro e w1 ⟨rfl, hb1⟩; obtain ⟨y10, y11, y12, y13, y14⟩ := HX.out w1 hb1))
    go_ret
    exact ⟨by rw [HR.out]; rfl, HB.out.trans (hb1.mono HB.out.size)⟩
  · have d : (k == 30) = false := beq_eq_false_iff_ne.2 c
    have HR : Hid (R = false) := Lib.hid (hR.trans (by simp [NT.blk, NT.kind, c]))
    clear hR hrself
    go_enter Tryd.func40, Tryd.ntmps40
    go_wp2_with (first | (rw [← HW.out, ← HHH.out]))
    go_ret
    exact ⟨by rw [HR.out]; rfl, HB.out⟩
theorem pblock_of (t : NT) (hs : SortOf 12 NT.stmt t) : SortOf 40 NT.blk t := by
  obtain ⟨k, a, n, nm, l⟩ := t
  exact pblock_mk k a n nm l hs
theorem isf_else : IsFn 46 := Go.Proofs.enters_of Tryd.func46 (by kernel_rfl) rfl
set_option maxHeartbeats 1000000 in
theorem pelse_mk (k a n : Int) (nm : List UInt8) (l : List NT) (hs : SortOf 12 NT.stmt (.mk k a n nm l)) (hb0 : SortOf 40 NT.blk (.mk k a n nm l)) : SortOf 46 elseN (.mk k a n nm l) := by
  intro G hd s w hL h
  change Kids G w l s at h
  obtain ⟨A, cap, rfl, hl⟩ := h.form
  show Calls Tryd.prog 46 #[.agg #[.int .i64 k, .int .i64 a, .int .i64 n, .string ⟨nm.toArray⟩, .slice A l.length cap]] w fun e w' => e = .returned (.bool (elseN (NT.mk k a n nm l))) ∧ Below w.heap.size w w'
  obtain ⟨W, H, hA⟩ := ask_of hd hL h
  have HA := Lib.hid hA
  have HW := Lib.hid hA.hW
  have HHH := Lib.hid hA.hH
  have HB := Lib.hid hA.bel
  obtain ⟨x0, x1, x2, x3, x4⟩ := hA.cells
  have HX : Hid (∀ w', Below W.heap.size W w' → _) := Lib.hid fun w' hb => HA.out.on (w' := w') hb
  have HB0 : Hid (Below W.heap.size W W) := Lib.hid (Below.refl _ _)
  have HSTMT : Hid (∀ w', Below W.heap.size W w' → Calls Tryd.prog 12 #[.agg #[.int .i64 k, .int .i64 a, .int .i64 n, .string ⟨nm.toArray⟩, .slice A l.length cap]] w' fun e w'' => e = .returned (.bool (NT.stmt (NT.mk k a n nm l))) ∧ Below W.heap.size W w'') := Lib.hid fun w' hb => (hs G hd (.slice A l.length cap) w' (HA.out.ld.on hb) (HA.out.kids.below hb)).mono fun _ _ ⟨h1, h2⟩ => ⟨h1, hb.trans (h2.mono hb.size)⟩
  have HBLOCK : Hid (∀ w', Below W.heap.size W w' → Calls Tryd.prog 40 #[.agg #[.int .i64 k, .int .i64 a, .int .i64 n, .string ⟨nm.toArray⟩, .slice A l.length cap]] w' fun e w'' => e = .returned (.bool (NT.blk (NT.mk k a n nm l))) ∧ Below W.heap.size W w'') := Lib.hid fun w' hb => (hb0 G hd (.slice A l.length cap) w' (HA.out.ld.on hb) (HA.out.kids.below hb)).mono fun _ _ ⟨h1, h2⟩ => ⟨h1, hb.trans (h2.mono hb.size)⟩
  obtain ⟨R, hR⟩ : ∃ R, R = elseN (NT.mk k a n nm l) := ⟨_, rfl⟩
  rw [← hR]
  obtain ⟨N, hN⟩ : ∃ N, N = l.length := ⟨_, rfl⟩
  rw [← hN] at x4 hl HW HX HSTMT HBLOCK ⊢
  obtain ⟨rstmt, hrstmt⟩ : ∃ rstmt, rstmt = NT.stmt (NT.mk k a n nm l) := ⟨_, rfl⟩
  rw [← hrstmt] at HSTMT
  obtain ⟨rblock, hrblock⟩ : ∃ rblock, rblock = NT.blk (NT.mk k a n nm l) := ⟨_, rfl⟩
  rw [← hrblock] at HBLOCK
  have HN := Lib.hid hN
  clear hN hA hL h hd
  by_cases c : k = 33
  · subst c
    have HR : Hid (R = (rstmt || rblock)) := Lib.hid (hR.trans (by rw [hrstmt, hrblock]; simp [elseN, NT.kind]))
    clear hR hrstmt hrblock
    cases rstmt
    · go_enter Tryd.func46, Tryd.ntmps46
      go_wp2_with (first | (rw [← HW.out, ← HHH.out]) | (go_at_call 12; (with_reducible refine (HSTMT.out W HB0.out).mono ?_); rintro e w1 ⟨rfl, hb1⟩; obtain ⟨y10, y11, y12, y13, y14⟩ := HX.out w1 hb1) | (go_at_call 40; (with_reducible refine (HBLOCK.out w1 hb1).mono ?_); rintro e w2 ⟨rfl, hb2⟩; obtain ⟨y20, y21, y22, y23, y24⟩ := HX.out w2 hb2))
      go_ret
      exact ⟨by rw [HR.out]; rfl, HB.out.trans (hb2.mono HB.out.size)⟩
    · go_enter Tryd.func46, Tryd.ntmps46
      go_wp2_with (first | (rw [← HW.out, ← HHH.out]) | (go_at_call 12; (with_reducible refine (HSTMT.out W HB0.out).mono ?_); rintro e w1 ⟨rfl, hb1⟩; obtain ⟨y10, y11, y12, y13, y14⟩ := HX.out w1 hb1))
      go_ret
      exact ⟨by rw [HR.out]; rfl, HB.out.trans (hb1.mono HB.out.size)⟩
  · have d : (k == 33) = false := beq_eq_false_iff_ne.2 c
    have HR : Hid (R = rblock) := Lib.hid (hR.trans (by rw [hrblock]; simp [elseN, NT.kind, c]))
    clear hR hrstmt hrblock
    go_enter Tryd.func46, Tryd.ntmps46
    go_wp2_with (first | (rw [← HW.out, ← HHH.out]) | (go_at_call 40; (with_reducible refine (HBLOCK.out W HB0.out).mono ?_); rintro e w1 ⟨rfl, hb1⟩; obtain ⟨y10, y11, y12, y13, y14⟩ := HX.out w1 hb1))
    go_ret
    exact ⟨by rw [HR.out]; rfl, HB.out.trans (hb1.mono HB.out.size)⟩
theorem pelse_of (t : NT) (hs : SortOf 12 NT.stmt t) : SortOf 46 elseN t := by
  obtain ⟨k, a, n, nm, l⟩ := t
  exact pelse_mk k a n nm l hs (pblock_of _ hs)
set_option maxHeartbeats 4000000 in
theorem pholds_mk (k a n : Int) (nm : List UInt8) (l : List NT) (ih : ∀ u ∈ l, SortOf 12 NT.stmt u) : SortOf 30 holdsN (.mk k a n nm l) := by
  intro G hd s w hL h
  change Kids G w l s at h
  obtain ⟨A, cap, rfl, hl⟩ := h.form
  show Calls Tryd.prog 30 #[.agg #[.int .i64 k, .int .i64 a, .int .i64 n, .string ⟨nm.toArray⟩, .slice A l.length cap]] w fun e w' => e = .returned (.bool (holdsN (NT.mk k a n nm l))) ∧ Below w.heap.size w w'
  obtain ⟨W, H, hA⟩ := ask_of hd hL h
  have HA := Lib.hid hA
  have HW := Lib.hid hA.hW
  have HHH := Lib.hid hA.hH
  have HB := Lib.hid hA.bel
  obtain ⟨x0, x1, x2, x3, x4⟩ := hA.cells
  have HX : Hid (∀ w', Below W.heap.size W w' → _) := Lib.hid fun w' hb => HA.out.on (w' := w') hb
  have HB0 : Hid (Below W.heap.size W W) := Lib.hid (Below.refl _ _)
  have HAL : Hid (∀ w', Below W.heap.size W w' → Calls Tryd.prog 29 #[.slice A l.length cap, .func (.func 12) #[] #[]] w' fun e w'' => e = .returned (.bool (l.all NT.stmt)) ∧ Below W.heap.size W w'') := Lib.hid fun w' hb => HA.out.all (w' := w') hb 12 NT.stmt isf_stmt (ih)
  have HR0 : Hid (∀ w', Below W.heap.size W w' → Calls Tryd.prog 26 #[.slice A l.length cap, .slice none 0 0] w' fun e w'' => e = .returned (.bool (areP l [])) ∧ Below W.heap.size W w'') := Lib.hid fun w' hb => HA.out.are (w' := w') hb [] [] rfl (by simp) (by simp) (by simp) _ (fns_nil _)
  have HR1 : Hid (∀ w', Below W.heap.size W w' → Calls Tryd.prog 26 #[.slice A l.length cap, .slice (some ⟨w'.heap.size, 0, none⟩) 1 1] (w'.alloc (.cells #[.func (.func 11) #[] #[]] FnT)) fun e w'' => e = .returned (.bool (areP l [NT.expr])) ∧ Below W.heap.size W w'') := Lib.hid fun w' hb => HA.out.are_new (w' := w') hb [11] [NT.expr] rfl (by simp) (by simp [isf_expr]) (row1 (fun u _ => pexpr_of u))
  have HR2 : Hid (∀ w', Below W.heap.size W w' → Calls Tryd.prog 26 #[.slice A l.length cap, .slice (some ⟨w'.heap.size, 0, none⟩) 2 2] (w'.alloc (.cells #[.func (.func 11) #[] #[], .func (.func 40) #[] #[]] FnT)) fun e w'' => e = .returned (.bool (areP l [NT.expr, NT.blk])) ∧ Below W.heap.size W w'') := Lib.hid fun w' hb => HA.out.are_new (w' := w') hb [11, 40] [NT.expr, NT.blk] rfl (by simp) (by simp [isf_block, isf_expr]) (row2 (fun u _ => pexpr_of u) (fun u hu => pblock_of u (ih u hu)))
  have HR3 : Hid (∀ w', Below W.heap.size W w' → Calls Tryd.prog 26 #[.slice A l.length cap, .slice (some ⟨w'.heap.size, 0, none⟩) 3 3] (w'.alloc (.cells #[.func (.func 11) #[] #[], .func (.func 40) #[] #[], .func (.func 46) #[] #[]] FnT)) fun e w'' => e = .returned (.bool (areP l [NT.expr, NT.blk, elseN])) ∧ Below W.heap.size W w'') := Lib.hid fun w' hb => HA.out.are_new (w' := w') hb [11, 40, 46] [NT.expr, NT.blk, elseN] rfl (by simp) (by simp [isf_block, isf_else, isf_expr]) (row3 (fun u _ => pexpr_of u) (fun u hu => pblock_of u (ih u hu)) (fun u hu => pelse_of u (ih u hu)))
  have HRP : Hid (∀ w', Below W.heap.size W w' → Calls Tryd.prog 26 #[.slice A l.length cap, .slice (some ⟨w'.heap.size, 0, none⟩) 2 2] (w'.alloc (.cells #[.func (.func 45) #[] #[], .func (.func 11) #[] #[]] FnT)) fun e w'' => e = .returned (.bool (areP l [NT.place, NT.expr])) ∧ Below W.heap.size W w'') := Lib.hid fun w' hb => HA.out.are_new (w' := w') hb [45, 11] [NT.place, NT.expr] rfl (by simp) (by simp [isf_expr, isf_place]) (row2 (fun u _ => pplace_of u) (fun u _ => pexpr_of u))
  have HRC : Hid (∀ w', Below W.heap.size W w' → Calls Tryd.prog 26 #[.slice A l.length cap, .slice (some ⟨w'.heap.size, 0, none⟩) 1 1] (w'.alloc (.cells #[.func (.func 47) #[] #[]] FnT)) fun e w'' => e = .returned (.bool (areP l [callN])) ∧ Below W.heap.size W w'') := Lib.hid fun w' hb => HA.out.are_new (w' := w') hb [47] [callN] rfl (by simp) (by simp [isf_call]) (row1 (fun u _ => pcall_of u))
  obtain ⟨R, hR⟩ : ∃ R, R = holdsN (NT.mk k a n nm l) := ⟨_, rfl⟩
  rw [← hR]
  obtain ⟨N, hN⟩ : ∃ N, N = l.length := ⟨_, rfl⟩
  rw [← hN] at x4 hl HW HX HAL HR0 HR1 HR2 HR3 HRP HRC ⊢
  obtain ⟨ral, hral⟩ : ∃ ral, ral = l.all NT.stmt := ⟨_, rfl⟩
  rw [← hral] at HAL
  obtain ⟨rr0, hrr0⟩ : ∃ rr0, rr0 = areP l [] := ⟨_, rfl⟩
  rw [← hrr0] at HR0
  obtain ⟨rr1, hrr1⟩ : ∃ rr1, rr1 = areP l [NT.expr] := ⟨_, rfl⟩
  rw [← hrr1] at HR1
  obtain ⟨rr2, hrr2⟩ : ∃ rr2, rr2 = areP l [NT.expr, NT.blk] := ⟨_, rfl⟩
  rw [← hrr2] at HR2
  obtain ⟨rr3, hrr3⟩ : ∃ rr3, rr3 = areP l [NT.expr, NT.blk, elseN] := ⟨_, rfl⟩
  rw [← hrr3] at HR3
  obtain ⟨rrp, hrrp⟩ : ∃ rrp, rrp = areP l [NT.place, NT.expr] := ⟨_, rfl⟩
  rw [← hrrp] at HRP
  obtain ⟨rrc, hrrc⟩ : ∃ rrc, rrc = areP l [callN] := ⟨_, rfl⟩
  rw [← hrrc] at HRC
  have HN := Lib.hid hN
  clear hN hA hL h hd
  by_cases c30 : k = 30
  · subst c30
    have HR : Hid (R = ral) := Lib.hid (hR.trans (by rw [hral]; rfl))
    clear hR hral hrr0 hrr1 hrr2 hrr3 hrrp hrrc
    go_enter Tryd.func30, Tryd.ntmps30
    go_wp2_with (first | (rw [← HW.out, ← HHH.out]) | (go_at_call 29; (with_reducible refine (HAL.out W HB0.out).mono ?_); rintro e w1 ⟨rfl, hb1⟩; obtain ⟨y10, y11, y12, y13, y14⟩ := HX.out w1 hb1))
    go_ret
    exact ⟨by rw [HR.out]; rfl, HB.out.trans (hb1.mono HB.out.size)⟩
  have d30 : (k == 30) = false := beq_eq_false_iff_ne.2 c30
  by_cases c32 : k = 32
  · subst c32
    have HR : Hid (R = rrp) := Lib.hid (hR.trans (by rw [hrrp]; rfl))
    clear hR hral hrr0 hrr1 hrr2 hrr3 hrrp hrrc
    go_enter Tryd.func30, Tryd.ntmps30
    go_wp2_with (first | (rw [← HW.out, ← HHH.out]) | (go_at_call 26; (with_reducible refine (HRP.out W HB0.out).mono ?_); rintro e w1 ⟨rfl, hb1⟩; obtain ⟨y10, y11, y12, y13, y14⟩ := HX.out w1 hb1))
    go_ret
    exact ⟨by rw [HR.out]; rfl, HB.out.trans (hb1.mono HB.out.size)⟩
  have d32 : (k == 32) = false := beq_eq_false_iff_ne.2 c32
  by_cases c33 : k = 33
  · subst c33
    have HR : Hid (R = (rr2 || rr3)) := Lib.hid (hR.trans (by rw [hrr2, hrr3]; rfl))
    clear hR hral hrr0 hrr1 hrr2 hrr3 hrrp hrrc
    cases rr2
    · go_enter Tryd.func30, Tryd.ntmps30
      go_wp2_with (first | (rw [← HW.out, ← HHH.out]) | (go_at_call 26; (with_reducible refine (HR2.out W HB0.out).mono ?_); rintro e w1 ⟨rfl, hb1⟩; obtain ⟨y10, y11, y12, y13, y14⟩ := HX.out w1 hb1) | (go_at_call 26; (with_reducible refine (HR3.out w1 hb1).mono ?_); rintro e w2 ⟨rfl, hb2⟩; obtain ⟨y20, y21, y22, y23, y24⟩ := HX.out w2 hb2))
      go_ret
      exact ⟨by rw [HR.out]; rfl, HB.out.trans (hb2.mono HB.out.size)⟩
    · go_enter Tryd.func30, Tryd.ntmps30
      go_wp2_with (first | (rw [← HW.out, ← HHH.out]) | (go_at_call 26; (with_reducible refine (HR2.out W HB0.out).mono ?_); rintro e w1 ⟨rfl, hb1⟩; obtain ⟨y10, y11, y12, y13, y14⟩ := HX.out w1 hb1))
      go_ret
      exact ⟨by rw [HR.out]; rfl, HB.out.trans (hb1.mono HB.out.size)⟩
  have d33 : (k == 33) = false := beq_eq_false_iff_ne.2 c33
  by_cases c34 : k = 34
  · subst c34
    have HR : Hid (R = rr2) := Lib.hid (hR.trans (by rw [hrr2]; rfl))
    clear hR hral hrr0 hrr1 hrr2 hrr3 hrrp hrrc
    go_enter Tryd.func30, Tryd.ntmps30
    go_wp2_with (first | (rw [← HW.out, ← HHH.out]) | (go_at_call 26; (with_reducible refine (HR2.out W HB0.out).mono ?_); rintro e w1 ⟨rfl, hb1⟩; obtain ⟨y10, y11, y12, y13, y14⟩ := HX.out w1 hb1))
    go_ret
    exact ⟨by rw [HR.out]; rfl, HB.out.trans (hb1.mono HB.out.size)⟩
  have d34 : (k == 34) = false := beq_eq_false_iff_ne.2 c34
  by_cases c35 : k = 35
  · subst c35
    have HR : Hid (R = (rr0 || rr1)) := Lib.hid (hR.trans (by rw [hrr0, hrr1]; rfl))
    clear hR hral hrr0 hrr1 hrr2 hrr3 hrrp hrrc
    cases rr0
    · go_enter Tryd.func30, Tryd.ntmps30
      go_wp2_with (first | (rw [← HW.out, ← HHH.out]) | (go_at_call 26; (with_reducible refine (HR0.out W HB0.out).mono ?_); rintro e w1 ⟨rfl, hb1⟩; obtain ⟨y10, y11, y12, y13, y14⟩ := HX.out w1 hb1) | (go_at_call 26; (with_reducible refine (HR1.out w1 hb1).mono ?_); rintro e w2 ⟨rfl, hb2⟩; obtain ⟨y20, y21, y22, y23, y24⟩ := HX.out w2 hb2))
      go_ret
      exact ⟨by rw [HR.out]; rfl, HB.out.trans (hb2.mono HB.out.size)⟩
    · go_enter Tryd.func30, Tryd.ntmps30
      go_wp2_with (first | (rw [← HW.out, ← HHH.out]) | (go_at_call 26; (with_reducible refine (HR0.out W HB0.out).mono ?_); rintro e w1 ⟨rfl, hb1⟩; obtain ⟨y10, y11, y12, y13, y14⟩ := HX.out w1 hb1))
      go_ret
      exact ⟨by rw [HR.out]; rfl, HB.out.trans (hb1.mono HB.out.size)⟩
  have d35 : (k == 35) = false := beq_eq_false_iff_ne.2 c35
  by_cases c37 : k = 37
  · subst c37
    have HR : Hid (R = rr1) := Lib.hid (hR.trans (by rw [hrr1]; rfl))
    clear hR hral hrr0 hrr1 hrr2 hrr3 hrrp hrrc
    go_enter Tryd.func30, Tryd.ntmps30
    go_wp2_with (first | (rw [← HW.out, ← HHH.out]) | (go_at_call 26; (with_reducible refine (HR1.out W HB0.out).mono ?_); rintro e w1 ⟨rfl, hb1⟩; obtain ⟨y10, y11, y12, y13, y14⟩ := HX.out w1 hb1))
    go_ret
    exact ⟨by rw [HR.out]; rfl, HB.out.trans (hb1.mono HB.out.size)⟩
  have d37 : (k == 37) = false := beq_eq_false_iff_ne.2 c37
  by_cases c38 : k = 38
  · subst c38
    have HR : Hid (R = rrc) := Lib.hid (hR.trans (by rw [hrrc]; rfl))
    clear hR hral hrr0 hrr1 hrr2 hrr3 hrrp hrrc
    go_enter Tryd.func30, Tryd.ntmps30
    go_wp2_with (first | (rw [← HW.out, ← HHH.out]) | (go_at_call 26; (with_reducible refine (HRC.out W HB0.out).mono ?_); rintro e w1 ⟨rfl, hb1⟩; obtain ⟨y10, y11, y12, y13, y14⟩ := HX.out w1 hb1))
    go_ret
    exact ⟨by rw [HR.out]; rfl, HB.out.trans (hb1.mono HB.out.size)⟩
  have d38 : (k == 38) = false := beq_eq_false_iff_ne.2 c38
  have HR : Hid (R = false) := Lib.hid (hR.trans (by unfold holdsN; simp [NT.kind, c30, c32, c33, c34, c35, c37, c38]))
  clear hR hral hrr0 hrr1 hrr2 hrr3 hrrp hrrc
  go_enter Tryd.func30, Tryd.ntmps30
  go_wp2_with (first | (rw [← HW.out, ← HHH.out]))
  go_ret
  exact ⟨by rw [HR.out]; rfl, HB.out⟩
set_option maxHeartbeats 1000000 in
theorem pstmt_mk (k a n : Int) (nm : List UInt8) (l : List NT) (hh : SortOf 30 holdsN (.mk k a n nm l)) : SortOf 12 NT.stmt (.mk k a n nm l) := by
  intro G hd s w hL h
  change Kids G w l s at h
  obtain ⟨A, cap, rfl, hl⟩ := h.form
  show Calls Tryd.prog 12 #[.agg #[.int .i64 k, .int .i64 a, .int .i64 n, .string ⟨nm.toArray⟩, .slice A l.length cap]] w fun e w' => e = .returned (.bool (NT.stmt (NT.mk k a n nm l))) ∧ Below w.heap.size w w'
  obtain ⟨W, H, hA⟩ := ask_of hd hL h
  have HA := Lib.hid hA
  have HW := Lib.hid hA.hW
  have HHH := Lib.hid hA.hH
  have HB := Lib.hid hA.bel
  obtain ⟨x0, x1, x2, x3, x4⟩ := hA.cells
  have HX : Hid (∀ w', Below W.heap.size W w' → _) := Lib.hid fun w' hb => HA.out.on (w' := w') hb
  have HB0 : Hid (Below W.heap.size W W) := Lib.hid (Below.refl _ _)
  have HBARE : Hid (∀ w', Below W.heap.size W w' → _) := Lib.hid fun w' hb => HA.out.bare (w' := w') hb (.slice A l.length cap)
  have HNAMED : Hid (∀ w', Below W.heap.size W w' → _) := Lib.hid fun w' hb => HA.out.named (w' := w') hb (.slice A l.length cap)
  have HR0 : Hid (∀ w', Below W.heap.size W w' → Calls Tryd.prog 26 #[.slice A l.length cap, .slice none 0 0] w' fun e w'' => e = .returned (.bool (areP l [])) ∧ Below W.heap.size W w'') := Lib.hid fun w' hb => HA.out.are (w' := w') hb [] [] rfl (by simp) (by simp) (by simp) _ (fns_nil _)
  have HR1 : Hid (∀ w', Below W.heap.size W w' → Calls Tryd.prog 26 #[.slice A l.length cap, .slice (some ⟨w'.heap.size, 0, none⟩) 1 1] (w'.alloc (.cells #[.func (.func 11) #[] #[]] FnT)) fun e w'' => e = .returned (.bool (areP l [NT.expr])) ∧ Below W.heap.size W w'') := Lib.hid fun w' hb => HA.out.are_new (w' := w') hb [11] [NT.expr] rfl (by simp) (by simp [isf_expr]) (row1 (fun u _ => pexpr_of u))
  have HHOLDS : Hid (∀ w', Below W.heap.size W w' → Calls Tryd.prog 30 #[.agg #[.int .i64 k, .int .i64 a, .int .i64 n, .string ⟨nm.toArray⟩, .slice A l.length cap]] w' fun e w'' => e = .returned (.bool (holdsN (NT.mk k a n nm l))) ∧ Below W.heap.size W w'') := Lib.hid fun w' hb => (hh G hd (.slice A l.length cap) w' (HA.out.ld.on hb) (HA.out.kids.below hb)).mono fun _ _ ⟨h1, h2⟩ => ⟨h1, hb.trans (h2.mono hb.size)⟩
  obtain ⟨R, hR⟩ : ∃ R, R = NT.stmt (NT.mk k a n nm l) := ⟨_, rfl⟩
  rw [← hR]
  obtain ⟨N, hN⟩ : ∃ N, N = l.length := ⟨_, rfl⟩
  rw [← hN] at x4 hl HW HX HBARE HNAMED HR0 HR1 HHOLDS ⊢
  obtain ⟨al, hal⟩ : ∃ al, al = aloneN n nm := ⟨_, rfl⟩
  rw [← hal] at HBARE
  obtain ⟨nb, hnb⟩ : ∃ nb, nb = nmN n nm := ⟨_, rfl⟩
  rw [← hnb] at HNAMED
  obtain ⟨rr0, hrr0⟩ : ∃ rr0, rr0 = areP l [] := ⟨_, rfl⟩
  rw [← hrr0] at HR0
  obtain ⟨rr1, hrr1⟩ : ∃ rr1, rr1 = areP l [NT.expr] := ⟨_, rfl⟩
  rw [← hrr1] at HR1
  obtain ⟨rholds, hrholds⟩ : ∃ rholds, rholds = holdsN (NT.mk k a n nm l) := ⟨_, rfl⟩
  rw [← hrholds] at HHOLDS
  have HN := Lib.hid hN
  clear hN hA hL h hd
  by_cases c31 : k = 31
  · subst c31
    have HR : Hid (R = _) := Lib.hid (hR.trans (stmtC_31))
    rw [← hnb, ← hrr1] at HR
    clear hR hal hnb hrr0 hrr1 hrholds 
    cases nb
    · go_enter Tryd.func12, Tryd.ntmps12
      go_wp2_with (first | (rw [← HW.out, ← HHH.out]) | (go_at_call 27; (with_reducible refine (HNAMED.out W HB0.out).mono ?_); rintro e w1 ⟨rfl, hb1⟩; obtain ⟨y10, y11, y12, y13, y14⟩ := HX.out w1 hb1))
      go_ret
      exact ⟨by rw [HR.out]; rfl, HB.out.trans (hb1.mono HB.out.size)⟩
    · go_enter Tryd.func12, Tryd.ntmps12
      go_wp2_with (first | (rw [← HW.out, ← HHH.out]) | (go_at_call 27; (with_reducible refine (HNAMED.out W HB0.out).mono ?_); rintro e w1 ⟨rfl, hb1⟩; obtain ⟨y10, y11, y12, y13, y14⟩ := HX.out w1 hb1) | (go_at_call 26; (with_reducible refine (HR1.out w1 hb1).mono ?_); rintro e w2 ⟨rfl, hb2⟩; obtain ⟨y20, y21, y22, y23, y24⟩ := HX.out w2 hb2))
      go_ret
      exact ⟨by rw [HR.out]; rfl, HB.out.trans (hb2.mono HB.out.size)⟩
  have d31 : (k == 31) = false := beq_eq_false_iff_ne.2 c31
  by_cases c36 : k = 36
  · subst c36
    have HR : Hid (R = _) := Lib.hid (hR.trans (stmtC_36))
    rw [← hnb, ← hrr0] at HR
    clear hR hal hnb hrr0 hrr1 hrholds 
    cases nb
    · go_enter Tryd.func12, Tryd.ntmps12
      go_wp2_with (first | (rw [← HW.out, ← HHH.out]) | (go_at_call 27; (with_reducible refine (HNAMED.out W HB0.out).mono ?_); rintro e w1 ⟨rfl, hb1⟩; obtain ⟨y10, y11, y12, y13, y14⟩ := HX.out w1 hb1))
      go_ret
      exact ⟨by rw [HR.out]; rfl, HB.out.trans (hb1.mono HB.out.size)⟩
    · go_enter Tryd.func12, Tryd.ntmps12
      go_wp2_with (first | (rw [← HW.out, ← HHH.out]) | (go_at_call 27; (with_reducible refine (HNAMED.out W HB0.out).mono ?_); rintro e w1 ⟨rfl, hb1⟩; obtain ⟨y10, y11, y12, y13, y14⟩ := HX.out w1 hb1) | (go_at_call 26; (with_reducible refine (HR0.out w1 hb1).mono ?_); rintro e w2 ⟨rfl, hb2⟩; obtain ⟨y20, y21, y22, y23, y24⟩ := HX.out w2 hb2))
      go_ret
      exact ⟨by rw [HR.out]; rfl, HB.out.trans (hb2.mono HB.out.size)⟩
  have d36 : (k == 36) = false := beq_eq_false_iff_ne.2 c36
  have HR : Hid (R = _) := Lib.hid (hR.trans (stmt_holds c31 c36))
  rw [← hal, ← hrholds] at HR
  clear hR hal hnb hrr0 hrr1 hrholds 
  cases al
  · go_enter Tryd.func12, Tryd.ntmps12
    go_wp2_with (first | (rw [← HW.out, ← HHH.out]) | (go_at_call 25; (with_reducible refine (HBARE.out W HB0.out).mono ?_); rintro e w1 ⟨rfl, hb1⟩; obtain ⟨y10, y11, y12, y13, y14⟩ := HX.out w1 hb1))
    go_ret
    exact ⟨by rw [HR.out]; rfl, HB.out.trans (hb1.mono HB.out.size)⟩
  · go_enter Tryd.func12, Tryd.ntmps12
    go_wp2_with (first | (rw [← HW.out, ← HHH.out]) | (go_at_call 25; (with_reducible refine (HBARE.out W HB0.out).mono ?_); rintro e w1 ⟨rfl, hb1⟩; obtain ⟨y10, y11, y12, y13, y14⟩ := HX.out w1 hb1) | (go_at_call 30; (with_reducible refine (HHOLDS.out w1 hb1).mono ?_); rintro e w2 ⟨rfl, hb2⟩; obtain ⟨y20, y21, y22, y23, y24⟩ := HX.out w2 hb2))
    go_ret
    exact ⟨by rw [HR.out]; rfl, HB.out.trans (hb2.mono HB.out.size)⟩
theorem pstmt_of (t : NT) : SortOf 12 NT.stmt t := by
  induction t using NT.ind with
  | h k a n nm l ih => exact pstmt_mk k a n nm l (pholds_mk k a n nm l ih)
end Go.Proofs.YtkmkeaeaalnbjaaDoor.nt

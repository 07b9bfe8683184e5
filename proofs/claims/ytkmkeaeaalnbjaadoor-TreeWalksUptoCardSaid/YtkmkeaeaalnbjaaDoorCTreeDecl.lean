/- The package's declarations and programs. -/
import Derived.Test.YtkmkeaeaalnbjaaDoorCTreeStmt
namespace Go.Proofs.YtkmkeaeaalnbjaaDoor.nt
open Go.RowKit mem wd lx
open vt (I64 own_form)

theorem slice_toN (n D : Nat) (A : Option Addr) (c : Nat) (hn : n ≤ c) (w : World) :
    (Instr.slice 22 (.slice A D c) none (some (.int .i64 n)) none).run Tryd.prog w = .ok (.slice A n c) w := by
  have h := run_slice_h (P := Tryd.prog) (w := w) 22 A D c elemN .i64 (n : Int) (by omega) (by omega)
  rw [h, sizeN, Int.toNat_natCast]
  show Result.ok (Value.slice (if c = 0 then A else A.map (·.add (0 * 5))) (n - 0) (c - 0)) w = _
  have e : (if c = 0 then A else A.map (·.add (0 * 5))) = A := by
    split
    · rfl
    · cases A with
      | none => rfl
      | some a => rfl
  rw [e]
  rfl
theorem Kids.cap_ge {G : Nat → Prop} {w : World} {l : List NT} {A : Option Addr} {n cap : Nat} (h : Kids G w l (.slice A n cap)) : n ≤ cap := by
  obtain ⟨A', cap', hs, hl, _⟩ := h
  injection hs with _ h2 h3
  omega
/-- a head of the kids -/
theorem Kids.take {G : Nat → Prop} {w : World} {l : List NT} {A : Option Addr} {n cap : Nat} (h : Kids G w l (.slice A n cap)) (k : Nat) (hk : k ≤ l.length) : Kids G w (l.take k) (.slice A k cap) := by
  obtain ⟨A', cap', hs, hl, h⟩ := h
  injection hs with h1 h2 h3
  subst h1; subst h3; subst h2
  refine ⟨_, _, by rw [List.length_take, Nat.min_eq_left hk], ⟨by rw [List.length_take]; omega, hl.2.1, by rw [List.length_take]; omega⟩, fun h0 => ?_⟩
  rw [List.length_take] at h0
  obtain ⟨b, off, rfl, hb, h⟩ := h (by omega)
  refine ⟨b, off, rfl, hb, ?_⟩
  rw [← List.take_append_drop k l, row_append] at h
  exact h.1
theorem isf_param : IsFn 54 := Go.Proofs.enters_of Tryd.func54 (by kernel_rfl) rfl
set_option maxHeartbeats 1000000 in
theorem pparam_mk (k a n : Int) (nm : List UInt8) (l : List NT) : SortOf 54 paramN (.mk k a n nm l) := by
  intro G hd s w hL h
  change Kids G w l s at h
  obtain ⟨A, cap, rfl, hl⟩ := h.form
  show Calls Tryd.prog 54 #[.agg #[.int .i64 k, .int .i64 a, .int .i64 n, .string ⟨nm.toArray⟩, .slice A l.length cap]] w fun e w' => e = .returned (.bool (paramN (NT.mk k a n nm l))) ∧ Below w.heap.size w w'
  obtain ⟨W, H, hA⟩ := ask_of hd hL h
  have HA := Lib.hid hA
  have HW := Lib.hid hA.hW
  have HHH := Lib.hid hA.hH
  have HB := Lib.hid hA.bel
  obtain ⟨x0, x1, x2, x3, x4⟩ := hA.cells
  have HX : Hid (∀ w', Below W.heap.size W w' → _) := Lib.hid fun w' hb => HA.out.on (w' := w') hb
  have HB0 : Hid (Below W.heap.size W W) := Lib.hid (Below.refl _ _)
  have HNAMED : Hid (∀ w', Below W.heap.size W w' → _) := Lib.hid fun w' hb => HA.out.named (w' := w') hb (.slice A l.length cap)
  have HR1 : Hid (∀ w', Below W.heap.size W w' → Calls Tryd.prog 26 #[.slice A l.length cap, .slice (some ⟨w'.heap.size, 0, none⟩) 1 1] (w'.alloc (.cells #[.func (.func 10) #[] #[]] FnT)) fun e w'' => e = .returned (.bool (areP l [NT.typ])) ∧ Below W.heap.size W w'') := Lib.hid fun w' hb => HA.out.are_new (w' := w') hb [10] [NT.typ] rfl (by simp) (by simp [isf_typ]) (row1 (fun u _ => ptyp_of u))
  obtain ⟨R, hR⟩ : ∃ R, R = paramN (NT.mk k a n nm l) := ⟨_, rfl⟩
  rw [← hR]
  obtain ⟨N, hN⟩ : ∃ N, N = l.length := ⟨_, rfl⟩
  rw [← hN] at x4 hl HW HX HNAMED HR1 ⊢
  obtain ⟨nb, hnb⟩ : ∃ nb, nb = nmN n nm := ⟨_, rfl⟩
  rw [← hnb] at HNAMED
  obtain ⟨rr1, hrr1⟩ : ∃ rr1, rr1 = areP l [NT.typ] := ⟨_, rfl⟩
  rw [← hrr1] at HR1
  have HN := Lib.hid hN
  clear hN hA hL h hd
  have HP0 := Lib.hid (param_eq (.mk k a n nm l))
  by_cases c : k = 50
  · subst c
    have HR : Hid (R = (nb && rr1)) := Lib.hid (hR.trans (by rw [HP0.out, hnb, hrr1]; simp [paramC, NT.kind, NT.num, NT.name, NT.kids]))
    clear hR HP0 hnb hrr1
    cases nb
    · go_enter Tryd.func54, Tryd.ntmps54
      go_wp2_with (first | (rw [← HW.out, ← HHH.out]) | (go_at_call 27; (with_reducible refine (HNAMED.out W HB0.out).mono ?_); rintro e w1 ⟨rfl, hb1⟩; obtain ⟨y10, y11, y12, y13, y14⟩ := HX.out w1 hb1))
      go_ret
      exact ⟨by rw [HR.out]; rfl, HB.out.trans (hb1.mono HB.out.size)⟩
    · go_enter Tryd.func54, Tryd.ntmps54
      go_wp2_with (first | (rw [← HW.out, ← HHH.out]) | (go_at_call 27; (with_reducible refine (HNAMED.out W HB0.out).mono ?_); rintro e w1 ⟨rfl, hb1⟩; obtain ⟨y10, y11, y12, y13, y14⟩ := HX.out w1 hb1) | (go_at_call 26; (with_reducible refine (HR1.out w1 hb1).mono ?_); rintro e w2 ⟨rfl, hb2⟩; obtain ⟨y20, y21, y22, y23, y24⟩ := HX.out w2 hb2))
      go_ret
      exact ⟨by rw [HR.out]; rfl, HB.out.trans (hb2.mono HB.out.size)⟩
  · have d : (k == 50) = false := beq_eq_false_iff_ne.2 c
    have HR : Hid (R = false) := Lib.hid (hR.trans (by rw [HP0.out]; simp [paramC, NT.kind, c]))
    clear hR HP0 hnb hrr1
    go_enter Tryd.func54, Tryd.ntmps54
    go_wp2_with (first | (rw [← HW.out, ← HHH.out]))
    go_ret
    exact ⟨by rw [HR.out]; rfl, HB.out⟩
theorem pparam_of (t : NT) : SortOf 54 paramN t := by
  obtain ⟨k, a, n, nm, l⟩ := t
  exact pparam_mk k a n nm l
theorem isf_answer : IsFn 56 := Go.Proofs.enters_of Tryd.func56 (by kernel_rfl) rfl
set_option maxHeartbeats 1000000 in
theorem panswer_mk (k a n : Int) (nm : List UInt8) (l : List NT) : SortOf 56 NT.answer (.mk k a n nm l) := by
  intro G hd s w hL h
  change Kids G w l s at h
  obtain ⟨A, cap, rfl, hl⟩ := h.form
  show Calls Tryd.prog 56 #[.agg #[.int .i64 k, .int .i64 a, .int .i64 n, .string ⟨nm.toArray⟩, .slice A l.length cap]] w fun e w' => e = .returned (.bool (NT.answer (NT.mk k a n nm l))) ∧ Below w.heap.size w w'
  obtain ⟨W, H, hA⟩ := ask_of hd hL h
  have HA := Lib.hid hA
  have HW := Lib.hid hA.hW
  have HHH := Lib.hid hA.hH
  have HB := Lib.hid hA.bel
  obtain ⟨x0, x1, x2, x3, x4⟩ := hA.cells
  have HX : Hid (∀ w', Below W.heap.size W w' → _) := Lib.hid fun w' hb => HA.out.on (w' := w') hb
  have HB0 : Hid (Below W.heap.size W W) := Lib.hid (Below.refl _ _)
  have HBARE : Hid (∀ w', Below W.heap.size W w' → _) := Lib.hid fun w' hb => HA.out.bare (w' := w') hb (.slice A l.length cap)
  have HR0 : Hid (∀ w', Below W.heap.size W w' → Calls Tryd.prog 26 #[.slice A l.length cap, .slice none 0 0] w' fun e w'' => e = .returned (.bool (areP l [])) ∧ Below W.heap.size W w'') := Lib.hid fun w' hb => HA.out.are (w' := w') hb [] [] rfl (by simp) (by simp) (by simp) _ (fns_nil _)
  have HSELF : Hid (∀ w', Below W.heap.size W w' → Calls Tryd.prog 10 #[.agg #[.int .i64 k, .int .i64 a, .int .i64 n, .string ⟨nm.toArray⟩, .slice A l.length cap]] w' fun e w'' => e = .returned (.bool (NT.typ (NT.mk k a n nm l))) ∧ Below W.heap.size W w'') := Lib.hid fun w' hb => ((ptyp_of (.mk k a n nm l)) G hd (.slice A l.length cap) w' (HA.out.ld.on hb) (HA.out.kids.below hb)).mono fun _ _ ⟨h1, h2⟩ => ⟨h1, hb.trans (h2.mono hb.size)⟩
  obtain ⟨R, hR⟩ : ∃ R, R = NT.answer (NT.mk k a n nm l) := ⟨_, rfl⟩
  rw [← hR]
  obtain ⟨N, hN⟩ : ∃ N, N = l.length := ⟨_, rfl⟩
  rw [← hN] at x4 hl HW HX HBARE HR0 HSELF ⊢
  obtain ⟨al, hal⟩ : ∃ al, al = aloneN n nm := ⟨_, rfl⟩
  rw [← hal] at HBARE
  obtain ⟨rr0, hrr0⟩ : ∃ rr0, rr0 = areP l [] := ⟨_, rfl⟩
  rw [← hrr0] at HR0
  obtain ⟨rself, hrself⟩ : ∃ rself, rself = NT.typ (NT.mk k a n nm l) := ⟨_, rfl⟩
  rw [← hrself] at HSELF
  have HN := Lib.hid hN
  clear hN hA hL h hd
  have HP0 := Lib.hid (answer_eq (.mk k a n nm l))
  by_cases c : k = 0
  · subst c
    have HR : Hid (R = ((al && rr0) || rself)) := Lib.hid (hR.trans (by rw [HP0.out, hal, hrr0, hrself]; simp [answerC, NT.kind, NT.num, NT.name, NT.kids]))
    clear hR HP0 hal hrr0 hrself
    cases al
    · go_enter Tryd.func56, Tryd.ntmps56
      go_wp2_with (first | (rw [← HW.out, ← HHH.out]) | (go_at_call 25; (with_reducible refine (HBARE.out W HB0.out).mono ?_); rintro e w1 ⟨rfl, hb1⟩; obtain ⟨y10, y11, y12, y13, y14⟩ := HX.out w1 hb1) | (go_at_call 10; (with_reducible refine (HSELF.out w1 hb1).mono ?_); rintro e w2 ⟨rfl, hb2⟩; obtain ⟨y20, y21, y22, y23, y24⟩ := HX.out w2 hb2))
      go_ret
      exact ⟨by rw [HR.out]; rfl, HB.out.trans (hb2.mono HB.out.size)⟩
    · cases rr0
      · go_enter Tryd.func56, Tryd.ntmps56
        go_wp2_with (first | (rw [← HW.out, ← HHH.out]) | (go_at_call 25; (with_reducible refine (HBARE.out W HB0.out).mono ?_); rintro e w1 ⟨rfl, hb1⟩; obtain ⟨y10, y11, y12, y13, y14⟩ := HX.out w1 hb1) | (go_at_call 26; (with_reducible refine (HR0.out w1 hb1).mono ?_); rintro e w2 ⟨rfl, hb2⟩; obtain ⟨y20, y21, y22, y23, y24⟩ := HX.out w2 hb2) | (go_at_call 10; (with_reducible refine (HSELF.out w2 hb2).mono ?_); rintro e w3 ⟨rfl, hb3⟩; obtain ⟨y30, y31, y32, y33, y34⟩ := HX.out w3 hb3))
        go_ret
        exact ⟨by rw [HR.out]; rfl, HB.out.trans (hb3.mono HB.out.size)⟩
      · go_enter Tryd.func56, Tryd.ntmps56
        go_wp2_with (first | (rw [← HW.out, ← HHH.out]) | (go_at_call 25; (with_reducible refine (HBARE.out W HB0.out).mono ?_); rintro e w1 ⟨rfl, hb1⟩; obtain ⟨y10, y11, y12, y13, y14⟩ := HX.out w1 hb1) | (go_at_call 26; (with_reducible refine (HR0.out w1 hb1).mono ?_); rintro e w2 ⟨rfl, hb2⟩; obtain ⟨y20, y21, y22, y23, y24⟩ := HX.out w2 hb2))
        go_ret
        exact ⟨by rw [HR.out]; rfl, HB.out.trans (hb2.mono HB.out.size)⟩
  · have d : (k == 0) = false := beq_eq_false_iff_ne.2 c
    have HR : Hid (R = rself) := Lib.hid (hR.trans (by rw [HP0.out, hrself]; simp [answerC, NT.kind, c]))
    clear hR HP0 hal hrr0 hrself
    go_enter Tryd.func56, Tryd.ntmps56
    go_wp2_with (first | (rw [← HW.out, ← HHH.out]) | (go_at_call 10; (with_reducible refine (HSELF.out W HB0.out).mono ?_); rintro e w1 ⟨rfl, hb1⟩; obtain ⟨y10, y11, y12, y13, y14⟩ := HX.out w1 hb1))
    go_ret
    exact ⟨by rw [HR.out]; rfl, HB.out.trans (hb1.mono HB.out.size)⟩
theorem panswer_of (t : NT) : SortOf 56 NT.answer t := by
  obtain ⟨k, a, n, nm, l⟩ := t
  exact panswer_mk k a n nm l
theorem isf_mname : IsFn 55 := Go.Proofs.enters_of Tryd.func55 (by kernel_rfl) rfl
set_option maxHeartbeats 1000000 in
theorem pmname_mk (k a n : Int) (nm : List UInt8) (l : List NT) : SortOf 55 mnameN (.mk k a n nm l) := by
  intro G hd s w hL h
  change Kids G w l s at h
  obtain ⟨A, cap, rfl, hl⟩ := h.form
  show Calls Tryd.prog 55 #[.agg #[.int .i64 k, .int .i64 a, .int .i64 n, .string ⟨nm.toArray⟩, .slice A l.length cap]] w fun e w' => e = .returned (.bool (mnameN (NT.mk k a n nm l))) ∧ Below w.heap.size w w'
  obtain ⟨W, H, hA⟩ := ask_of hd hL h
  have HA := Lib.hid hA
  have HW := Lib.hid hA.hW
  have HHH := Lib.hid hA.hH
  have HB := Lib.hid hA.bel
  obtain ⟨x0, x1, x2, x3, x4⟩ := hA.cells
  have HX : Hid (∀ w', Below W.heap.size W w' → _) := Lib.hid fun w' hb => HA.out.on (w' := w') hb
  have HB0 : Hid (Below W.heap.size W W) := Lib.hid (Below.refl _ _)
  have HSELF : Hid (∀ w', Below W.heap.size W w' → Calls Tryd.prog 11 #[.agg #[.int .i64 k, .int .i64 a, .int .i64 n, .string ⟨nm.toArray⟩, .slice A l.length cap]] w' fun e w'' => e = .returned (.bool (NT.expr (NT.mk k a n nm l))) ∧ Below W.heap.size W w'') := Lib.hid fun w' hb => ((pexpr_of (.mk k a n nm l)) G hd (.slice A l.length cap) w' (HA.out.ld.on hb) (HA.out.kids.below hb)).mono fun _ _ ⟨h1, h2⟩ => ⟨h1, hb.trans (h2.mono hb.size)⟩
  obtain ⟨R, hR⟩ : ∃ R, R = mnameN (NT.mk k a n nm l) := ⟨_, rfl⟩
  rw [← hR]
  obtain ⟨N, hN⟩ : ∃ N, N = l.length := ⟨_, rfl⟩
  rw [← hN] at x4 hl HW HX HSELF ⊢
  obtain ⟨rself, hrself⟩ : ∃ rself, rself = NT.expr (NT.mk k a n nm l) := ⟨_, rfl⟩
  rw [← hrself] at HSELF
  have HN := Lib.hid hN
  clear hN hA hL h hd
  by_cases c : k = 12
  · subst c
    have HR : Hid (R = rself) := Lib.hid (hR.trans (by rw [hrself]; simp [mnameN, NT.kind]))
    clear hR hrself
    go_enter Tryd.func55, Tryd.ntmps55
    go_wp2_with (first | (rw [← HW.out, ← HHH.out]) | (go_at_call 11; (with_reducible refine (HSELF.out W HB0.out).mono ?_); rintro e w1 ⟨rfl, hb1⟩; obtain ⟨y10, y11, y12, y13, y14⟩ := HX.out w1 hb1))
    go_ret
    exact ⟨by rw [HR.out]; rfl, HB.out.trans (hb1.mono HB.out.size)⟩
  · have d : (k == 12) = false := beq_eq_false_iff_ne.2 c
    have HR : Hid (R = false) := Lib.hid (hR.trans (by simp [mnameN, NT.kind, c]))
    clear hR hrself
    go_enter Tryd.func55, Tryd.ntmps55
    go_wp2_with (first | (rw [← HW.out, ← HHH.out]))
    go_ret
    exact ⟨by rw [HR.out]; rfl, HB.out⟩
theorem pmname_of (t : NT) : SortOf 55 mnameN t := by
  obtain ⟨k, a, n, nm, l⟩ := t
  exact pmname_mk k a n nm l
theorem isf_decl : IsFn 34 := Go.Proofs.enters_of Tryd.func34 (by kernel_rfl) rfl
set_option maxHeartbeats 4000000 in
theorem pdecl_mk (k a n : Int) (nm : List UInt8) (l : List NT) : SortOf 34 declN (.mk k a n nm l) := by
  intro G hd s w hL h
  change Kids G w l s at h
  obtain ⟨A, cap, rfl, hl⟩ := h.form
  show Calls Tryd.prog 34 #[.agg #[.int .i64 k, .int .i64 a, .int .i64 n, .string ⟨nm.toArray⟩, .slice A l.length cap]] w fun e w' => e = .returned (.bool (declN (NT.mk k a n nm l))) ∧ Below w.heap.size w w'
  obtain ⟨W, H, hA⟩ := ask_of hd hL h
  have HA := Lib.hid hA
  have HW := Lib.hid hA.hW
  have HHH := Lib.hid hA.hH
  have HB := Lib.hid hA.bel
  obtain ⟨x0, x1, x2, x3, x4⟩ := hA.cells
  have HX : Hid (∀ w', Below W.heap.size W w' → _) := Lib.hid fun w' hb => HA.out.on (w' := w') hb
  have HB0 : Hid (Below W.heap.size W W) := Lib.hid (Below.refl _ _)
  have HNAMED : Hid (∀ w', Below W.heap.size W w' → _) := Lib.hid fun w' hb => HA.out.named (w' := w') hb (.slice A l.length cap)
  have HAL : Hid (∀ w', Below W.heap.size W w' → Calls Tryd.prog 29 #[.slice A l.length cap, .func (.func 54) #[] #[]] w' fun e w'' => e = .returned (.bool (l.all paramN)) ∧ Below W.heap.size W w'') := Lib.hid fun w' hb => HA.out.all (w' := w') hb 54 paramN isf_param (fun u _ => pparam_of u)
  have HR1 : Hid (∀ w', Below W.heap.size W w' → Calls Tryd.prog 26 #[.slice A l.length cap, .slice (some ⟨w'.heap.size, 0, none⟩) 1 1] (w'.alloc (.cells #[.func (.func 10) #[] #[]] FnT)) fun e w'' => e = .returned (.bool (areP l [NT.typ])) ∧ Below W.heap.size W w'') := Lib.hid fun w' hb => HA.out.are_new (w' := w') hb [10] [NT.typ] rfl (by simp) (by simp [isf_typ]) (row1 (fun u _ => ptyp_of u))
  have HR2 : Hid (∀ w', Below W.heap.size W w' → Calls Tryd.prog 26 #[.slice A l.length cap, .slice (some ⟨w'.heap.size, 0, none⟩) 2 2] (w'.alloc (.cells #[.func (.func 10) #[] #[], .func (.func 55) #[] #[]] FnT)) fun e w'' => e = .returned (.bool (areP l [NT.typ, mnameN])) ∧ Below W.heap.size W w'') := Lib.hid fun w' hb => HA.out.are_new (w' := w') hb [10, 55] [NT.typ, mnameN] rfl (by simp) (by simp [isf_mname, isf_typ]) (row2 (fun u _ => ptyp_of u) (fun u _ => pmname_of u))
  have HR4 : Hid (∀ w', Below W.heap.size W w' → Calls Tryd.prog 26 #[.slice A l.length cap, .slice (some ⟨w'.heap.size, 0, none⟩) 4 4] (w'.alloc (.cells #[.func (.func 54) #[] #[], .func (.func 54) #[] #[], .func (.func 54) #[] #[], .func (.func 40) #[] #[]] FnT)) fun e w'' => e = .returned (.bool (areP l [paramN, paramN, paramN, NT.blk])) ∧ Below W.heap.size W w'') := Lib.hid fun w' hb => HA.out.are_new (w' := w') hb [54, 54, 54, 40] [paramN, paramN, paramN, NT.blk] rfl (by simp) (by simp [isf_block, isf_param]) (row4 (fun u _ => pparam_of u) (fun u _ => pparam_of u) (fun u _ => pparam_of u) (fun u _ => pblock_of u (pstmt_of u)))
  have HISN : Hid (∀ w', Below W.heap.size W w' → _) := Lib.hid fun w' hb => (pis_name nm w' hd.2.2.2 (HA.out.ld.on hb)).mono fun _ _ ⟨h1, h2⟩ => (⟨h1, hb.trans (h2.mono hb.size)⟩ : _ ∧ Below W.heap.size W _)
  obtain ⟨R, hR⟩ : ∃ R, R = declN (NT.mk k a n nm l) := ⟨_, rfl⟩
  rw [← hR]
  obtain ⟨N, hN⟩ : ∃ N, N = l.length := ⟨_, rfl⟩
  rw [← hN] at x4 hl HW HX HNAMED HAL HR1 HR2 HR4 ⊢
  obtain ⟨nb, hnb⟩ : ∃ nb, nb = nmN n nm := ⟨_, rfl⟩
  rw [← hnb] at HNAMED
  obtain ⟨ral, hral⟩ : ∃ ral, ral = l.all paramN := ⟨_, rfl⟩
  rw [← hral] at HAL
  obtain ⟨rr1, hrr1⟩ : ∃ rr1, rr1 = areP l [NT.typ] := ⟨_, rfl⟩
  rw [← hrr1] at HR1
  obtain ⟨rr2, hrr2⟩ : ∃ rr2, rr2 = areP l [NT.typ, mnameN] := ⟨_, rfl⟩
  rw [← hrr2] at HR2
  obtain ⟨rr4, hrr4⟩ : ∃ rr4, rr4 = areP l [paramN, paramN, paramN, NT.blk] := ⟨_, rfl⟩
  rw [← hrr4] at HR4
  have HN := Lib.hid hN
  clear hN hA hL h hd
  by_cases c51 : k = 51
  · subst c51
    have HR : Hid (R = (nb && (!l.isEmpty && ral))) := Lib.hid (hR.trans (by rw [hnb, hral]; exact declC_51))
    clear hR hnb hral hrr1 hrr2 hrr4
    cases nb
    · go_enter Tryd.func34, Tryd.ntmps34
      go_wp2_with (first | (rw [← HW.out, ← HHH.out]) | (go_at_call 27; (with_reducible refine (HNAMED.out W HB0.out).mono ?_); rintro e w1 ⟨rfl, hb1⟩; obtain ⟨y10, y11, y12, y13, y14⟩ := HX.out w1 hb1))
      go_ret
      exact ⟨by rw [HR.out]; rfl, HB.out.trans (hb1.mono HB.out.size)⟩
    · by_cases h0 : N = 0
      · subst h0
        have HR2 : Hid (R = false) := Lib.hid (by rw [HR.out, List.eq_nil_of_length_eq_zero HN.out.symm]; rfl)
        clear HR
        have HR := HR2
        clear HR2
        go_enter Tryd.func34, Tryd.ntmps34
        go_wp2_with (first | (rw [← HW.out, ← HHH.out]) | (go_at_call 27; (with_reducible refine (HNAMED.out W HB0.out).mono ?_); rintro e w1 ⟨rfl, hb1⟩; obtain ⟨y10, y11, y12, y13, y14⟩ := HX.out w1 hb1))
        go_ret
        exact ⟨by rw [HR.out]; rfl, HB.out.trans (hb1.mono HB.out.size)⟩
      · have HR2 : Hid (R = ral) := Lib.hid (by
          rw [HR.out, show l.isEmpty = false from by cases hl0 : l with | nil => exact absurd (by rw [HN.out, hl0]; rfl) h0 | cons _ _ => rfl]; rfl)
        clear HR
        have HR := HR2
        clear HR2
        have hNp : (0 : Int) < (N : Int) := by omega
        go_enter Tryd.func34, Tryd.ntmps34
        go_wp2_with (first | (rw [← HW.out, ← HHH.out]) | (go_at_call 27; (with_reducible refine (HNAMED.out W HB0.out).mono ?_); rintro e w1 ⟨rfl, hb1⟩; obtain ⟨y10, y11, y12, y13, y14⟩ := HX.out w1 hb1) | (go_at_call 29; (with_reducible refine (HAL.out w1 hb1).mono ?_); rintro e w2 ⟨rfl, hb2⟩; obtain ⟨y20, y21, y22, y23, y24⟩ := HX.out w2 hb2))
        go_ret
        exact ⟨by rw [HR.out]; rfl, HB.out.trans (hb2.mono HB.out.size)⟩
  have d51 : (k == 51) = false := beq_eq_false_iff_ne.2 c51
  by_cases c52 : k = 52
  · subst c52
    obtain ⟨nn, hnn⟩ : ∃ nn, nn = named nm := ⟨_, rfl⟩
    rw [← hnn] at HISN
    have HR : Hid (R = (decide (0 ≤ n) && (nn && (rr1 || rr2)))) := Lib.hid (hR.trans (by rw [hnn, hrr1, hrr2]; exact decl_52c))
    clear hR hnn hnb hral hrr1 hrr2 hrr4
    by_cases hn : 0 ≤ n
    · rw [decide_eq_true hn] at HR
      cases nn
      · go_enter Tryd.func34, Tryd.ntmps34
        go_wp2_with (first | (rw [← HW.out, ← HHH.out]) | (go_at_call 44; (with_reducible refine (HISN.out W HB0.out).mono ?_); rintro e w1 ⟨rfl, hb1⟩; obtain ⟨y10, y11, y12, y13, y14⟩ := HX.out w1 hb1))
        go_ret
        exact ⟨by rw [HR.out]; rfl, HB.out.trans (hb1.mono HB.out.size)⟩
      · cases rr1
        · go_enter Tryd.func34, Tryd.ntmps34
          go_wp2_with (first | (rw [← HW.out, ← HHH.out]) | (go_at_call 44; (with_reducible refine (HISN.out W HB0.out).mono ?_); rintro e w1 ⟨rfl, hb1⟩; obtain ⟨y10, y11, y12, y13, y14⟩ := HX.out w1 hb1) | (go_at_call 26; (with_reducible refine (HR1.out w1 hb1).mono ?_); rintro e w2 ⟨rfl, hb2⟩; obtain ⟨y20, y21, y22, y23, y24⟩ := HX.out w2 hb2) | (go_at_call 26; (with_reducible refine (HR2.out w2 hb2).mono ?_); rintro e w3 ⟨rfl, hb3⟩; obtain ⟨y30, y31, y32, y33, y34⟩ := HX.out w3 hb3))
          go_ret
          exact ⟨by rw [HR.out]; rfl, HB.out.trans (hb3.mono HB.out.size)⟩
        · go_enter Tryd.func34, Tryd.ntmps34
          go_wp2_with (first | (rw [← HW.out, ← HHH.out]) | (go_at_call 44; (with_reducible refine (HISN.out W HB0.out).mono ?_); rintro e w1 ⟨rfl, hb1⟩; obtain ⟨y10, y11, y12, y13, y14⟩ := HX.out w1 hb1) | (go_at_call 26; (with_reducible refine (HR1.out w1 hb1).mono ?_); rintro e w2 ⟨rfl, hb2⟩; obtain ⟨y20, y21, y22, y23, y24⟩ := HX.out w2 hb2))
          go_ret
          exact ⟨by rw [HR.out]; rfl, HB.out.trans (hb2.mono HB.out.size)⟩
    · have hn' : decide (0 ≤ n) = false := decide_eq_false hn
      rw [hn'] at HR
      go_enter Tryd.func34, Tryd.ntmps34
      go_wp2_with (first | (rw [← HW.out, ← HHH.out]))
      go_ret
      exact ⟨by rw [HR.out]; rfl, HB.out⟩
  have d52 : (k == 52) = false := beq_eq_false_iff_ne.2 c52
  by_cases c53 : k = 53
  · subst c53
    have HR : Hid (R = _) := Lib.hid (hR.trans decl_53c)
    rw [← hnb, ← HN.out] at HR
    clear hR hnb hral hrr1 hrr2 hrr4
    cases nb
    · go_enter Tryd.func34, Tryd.ntmps34
      go_wp2_with (first | (rw [← HW.out, ← HHH.out]) | (go_at_call 27; (with_reducible refine (HNAMED.out W HB0.out).mono ?_); rintro e w1 ⟨rfl, hb1⟩; obtain ⟨y10, y11, y12, y13, y14⟩ := HX.out w1 hb1))
      go_ret
      exact ⟨by rw [HR.out]; rfl, HB.out.trans (hb1.mono HB.out.size)⟩
    · by_cases h2 : 2 ≤ N
      · obtain ⟨M, hM⟩ : ∃ M, M = N - 2 := ⟨_, rfl⟩
        rw [← hM, decide_eq_true h2] at HR
        have hNM : ((N : Int) - 2) = (M : Int) := by omega
        have hMN : M ≤ N := by omega
        have HKW := Lib.hid HA.out.kids
        rw [← HN.out] at HKW
        have hcap := HKW.out.cap_ge
        have hl1 := HN.out
        have HALL : Hid (∀ w', Below W.heap.size W w' → _) := Lib.hid fun w' hb => (pall_any G (l.take M) 54 paramN isf_param (fun u _ => pparam_of u) _ w' (HA.out.ld.on hb) ((HKW.out.below hb).take M (by omega))).mono fun _ _ ⟨h1, h2⟩ => (⟨h1, hb.trans (h2.mono hb.size)⟩ : _ ∧ Below W.heap.size W _)
        have HARE : Hid (∀ w', Below W.heap.size W w' → _) := Lib.hid fun w' hb => (pare_any G (l.drop M) [56, 40] [NT.answer, NT.blk] rfl (by simp [isf_answer, isf_block]) (row2 (fun u _ => panswer_of u) (fun u _ => pblock_of u (pstmt_of u))) (by simp) _ (.slice (some ⟨w'.heap.size, 0, none⟩) 2 2) (w'.alloc (.cells #[.func (.func 56) #[] #[], .func (.func 40) #[] #[]] FnT)) (HA.out.ld.on (hb.alloc hb.size _)) ((HKW.out.below (hb.alloc hb.size _)).drop M (by omega)) (fns_at w' [.func (.func 56) #[] #[], .func (.func 40) #[] #[]] [56, 40] rfl _ rfl)).mono fun _ _ ⟨h1, h2⟩ => (⟨h1, (hb.alloc hb.size _).trans (h2.mono (hb.alloc hb.size _).size)⟩ : _ ∧ Below W.heap.size W _)
        have hsl1 : ∀ w, (Instr.slice 22 (.slice A N cap) none (some (.int .i64 M)) none).run Tryd.prog w = .ok (.slice A M cap) w := slice_toN M N A cap (by omega)
        have hsl2 : ∀ w, (Instr.slice 22 (.slice A N cap) (some (.int .i64 M)) none none).run Tryd.prog w = .ok (sliced A M N cap 5) w := slice_from M N (by omega) A cap
        obtain ⟨A3, c3, hsf⟩ := sliced_form A M N cap
        rw [hsf] at hsl2 HARE
        obtain ⟨r1, hr1⟩ : ∃ r1, r1 = (l.take M).all paramN := ⟨_, rfl⟩
        rw [← hr1] at HALL HR
        obtain ⟨r2, hr2⟩ : ∃ r2, r2 = areP (l.drop M) [NT.answer, NT.blk] := ⟨_, rfl⟩
        rw [← hr2] at HARE HR
        have h2' : (2 : Int) ≤ (N : Int) := by omega
        have hM0 : (0 : Int) ≤ (M : Int) := by omega
        clear hM hl1 hsf hr1 hr2 hcap
        cases r1
        · go_enter Tryd.func34, Tryd.ntmps34
          go_wp2_with (first | (rw [← HW.out, ← HHH.out]) | (go_at_call 27; (with_reducible refine (HNAMED.out W HB0.out).mono ?_); rintro e w1 ⟨rfl, hb1⟩; obtain ⟨y10, y11, y12, y13, y14⟩ := HX.out w1 hb1) | (go_at_call 29; (with_reducible refine (HALL.out w1 hb1).mono ?_); rintro e w2 ⟨rfl, hb2⟩; obtain ⟨y20, y21, y22, y23, y24⟩ := HX.out w2 hb2))
          go_ret
          exact ⟨by rw [HR.out]; rfl, HB.out.trans (hb2.mono HB.out.size)⟩
        · go_enter Tryd.func34, Tryd.ntmps34
          go_wp2_with (first | (rw [← HW.out, ← HHH.out]) | (go_at_call 27; (with_reducible refine (HNAMED.out W HB0.out).mono ?_); rintro e w1 ⟨rfl, hb1⟩; obtain ⟨y10, y11, y12, y13, y14⟩ := HX.out w1 hb1) | (go_at_call 29; (with_reducible refine (HALL.out w1 hb1).mono ?_); rintro e w2 ⟨rfl, hb2⟩; obtain ⟨y20, y21, y22, y23, y24⟩ := HX.out w2 hb2) | (go_at_call 26; (with_reducible refine (HARE.out w2 hb2).mono ?_); rintro e w3 ⟨rfl, hb3⟩; obtain ⟨y30, y31, y32, y33, y34⟩ := HX.out w3 hb3))
          go_ret
          exact ⟨by rw [HR.out]; rfl, HB.out.trans (hb3.mono HB.out.size)⟩
      · rw [decide_eq_false h2] at HR
        have h2' : decide ((0 : Int) ≤ (N : Int) - 2) = false := by rw [decide_eq_false_iff_not]; omega
        have h3' : decide ((2 : Int) ≤ (N : Int)) = false := by rw [decide_eq_false_iff_not]; omega
        have h4' : (N : Int) < 2 := by omega
        go_enter Tryd.func34, Tryd.ntmps34
        go_wp2_with (first | (rw [← HW.out, ← HHH.out]) | (go_at_call 27; (with_reducible refine (HNAMED.out W HB0.out).mono ?_); rintro e w1 ⟨rfl, hb1⟩; obtain ⟨y10, y11, y12, y13, y14⟩ := HX.out w1 hb1))
        go_ret
        exact ⟨by rw [HR.out]; rfl, HB.out.trans (hb1.mono HB.out.size)⟩
  have d53 : (k == 53) = false := beq_eq_false_iff_ne.2 c53
  by_cases c54 : k = 54
  · subst c54
    have HR : Hid (R = _) := Lib.hid (hR.trans (declC_54))
    rw [← hnb, ← hrr4] at HR
    clear hR hnb hral hrr1 hrr2 hrr4 
    cases nb
    · go_enter Tryd.func34, Tryd.ntmps34
      go_wp2_with (first | (rw [← HW.out, ← HHH.out]) | (go_at_call 27; (with_reducible refine (HNAMED.out W HB0.out).mono ?_); rintro e w1 ⟨rfl, hb1⟩; obtain ⟨y10, y11, y12, y13, y14⟩ := HX.out w1 hb1))
      go_ret
      exact ⟨by rw [HR.out]; rfl, HB.out.trans (hb1.mono HB.out.size)⟩
    · go_enter Tryd.func34, Tryd.ntmps34
      go_wp2_with (first | (rw [← HW.out, ← HHH.out]) | (go_at_call 27; (with_reducible refine (HNAMED.out W HB0.out).mono ?_); rintro e w1 ⟨rfl, hb1⟩; obtain ⟨y10, y11, y12, y13, y14⟩ := HX.out w1 hb1) | (go_at_call 26; (with_reducible refine (HR4.out w1 hb1).mono ?_); rintro e w2 ⟨rfl, hb2⟩; obtain ⟨y20, y21, y22, y23, y24⟩ := HX.out w2 hb2))
      go_ret
      exact ⟨by rw [HR.out]; rfl, HB.out.trans (hb2.mono HB.out.size)⟩
  have d54 : (k == 54) = false := beq_eq_false_iff_ne.2 c54
  have HR : Hid (R = false) := Lib.hid (hR.trans (decl_no c51 c52 c53 c54))
  clear hR hnb hral hrr1 hrr2 hrr4
  go_enter Tryd.func34, Tryd.ntmps34
  go_wp2_with (first | (rw [← HW.out, ← HHH.out]))
  go_ret
  exact ⟨by rw [HR.out]; rfl, HB.out⟩
theorem pdecl_of (t : NT) : SortOf 34 declN t := by
  obtain ⟨k, a, n, nm, l⟩ := t
  exact pdecl_mk k a n nm l
set_option maxHeartbeats 2000000 in
theorem pprog_mk (k a n : Int) (nm : List UInt8) (l : List NT) : SortOf 16 progN (.mk k a n nm l) := by
  intro G hd s w hL h
  change Kids G w l s at h
  obtain ⟨A, cap, rfl, hl⟩ := h.form
  show Calls Tryd.prog 16 #[.agg #[.int .i64 k, .int .i64 a, .int .i64 n, .string ⟨nm.toArray⟩, .slice A l.length cap]] w fun e w' => e = .returned (.bool (progN (NT.mk k a n nm l))) ∧ Below w.heap.size w w'
  obtain ⟨W, H, hA⟩ := ask_of hd hL h
  have HA := Lib.hid hA
  have HW := Lib.hid hA.hW
  have HHH := Lib.hid hA.hH
  have HB := Lib.hid hA.bel
  obtain ⟨x0, x1, x2, x3, x4⟩ := hA.cells
  have HX : Hid (∀ w', Below W.heap.size W w' → _) := Lib.hid fun w' hb => HA.out.on (w' := w') hb
  have HB0 : Hid (Below W.heap.size W W) := Lib.hid (Below.refl _ _)
  have HBARE : Hid (∀ w', Below W.heap.size W w' → _) := Lib.hid fun w' hb => HA.out.bare (w' := w') hb (.slice A l.length cap)
  have HC := Lib.hid (prog_code (k := k) (a := a) (n := n) (s := nm) (l := l))
  have HKW := Lib.hid HA.out.kids
  obtain ⟨R, hR⟩ : ∃ R, R = progN (NT.mk k a n nm l) := ⟨_, rfl⟩
  rw [← hR] at HC ⊢
  obtain ⟨N, hN⟩ : ∃ N, N = l.length := ⟨_, rfl⟩
  rw [← hN] at x4 hl HW HX HBARE HC HKW ⊢
  obtain ⟨al, hal⟩ : ∃ al, al = aloneN n nm := ⟨_, rfl⟩
  rw [← hal] at HBARE HC
  have HN := Lib.hid hN
  have HLD := Lib.hid hA.ld
  clear hN hA hL h hd hR hal
  by_cases c : k = 55
  · subst c
    cases al
    · have HR : Hid (R = false) := Lib.hid (by rw [HC.out]; rfl)
      clear HC
      go_enter Tryd.func16, Tryd.ntmps16
      go_wp2_with (first | (rw [← HW.out, ← HHH.out]) | (go_at_call 25; (with_reducible refine (HBARE.out W HB0.out).mono ?_); rintro e w1 ⟨rfl, hb1⟩; obtain ⟨y10, y11, y12, y13, y14⟩ := HX.out w1 hb1))
      go_ret
      exact ⟨by rw [HR.out]; rfl, HB.out.trans (hb1.mono HB.out.size)⟩
    · by_cases h0 : N = 0
      · subst h0
        have HR : Hid (R = false) := Lib.hid (by rw [HC.out, List.eq_nil_of_length_eq_zero HN.out.symm]; rfl)
        clear HC
        go_enter Tryd.func16, Tryd.ntmps16
        go_wp2_with (first | (rw [← HW.out, ← HHH.out]) | (go_at_call 25; (with_reducible refine (HBARE.out W HB0.out).mono ?_); rintro e w1 ⟨rfl, hb1⟩; obtain ⟨y10, y11, y12, y13, y14⟩ := HX.out w1 hb1))
        go_ret
        exact ⟨by rw [HR.out]; rfl, HB.out.trans (hb1.mono HB.out.size)⟩
      · obtain ⟨M, hM⟩ : ∃ M, M = N - 1 := ⟨_, rfl⟩
        have hNM : ((N : Int) - 1) = (M : Int) := by omega
        have hMl : M < l.length := by have := HN.out; omega
        have hcap := HKW.out.cap_ge
        have hl1 := HN.out
        have hlast : l.getLast? = some l[M] := by rw [List.getLast?_eq_getElem?, List.getElem?_eq_getElem (by omega)]; congr 1; simp only [← hl1, ← hM]
        have HR0 : Hid (R = ((l.take M).all declN && l[M].blk)) := Lib.hid (by rw [HC.out, hlast, ← hM]; simp)
        have HALL : Hid (∀ w', Below W.heap.size W w' → _) := Lib.hid fun w' hb => (pall_any G (l.take M) 34 declN isf_decl (fun u _ => pdecl_of u) _ w' (HLD.out.on hb) ((HKW.out.below hb).take M (by omega))).mono fun _ _ ⟨h1, h2⟩ => (⟨h1, hb.trans (h2.mono hb.size)⟩ : _ ∧ Below W.heap.size W _)
        obtain ⟨b0, off0, cq, q, hs, _, hd0, z00, z01, z02, z03, z04, hk0⟩ := HKW.out.kid (Below.refl _ _) M hMl
        injection hs with hA1 hL1 hC1
        clear hL1
        subst hA1
        subst hC1
        obtain ⟨A2, c2, rfl, hkl⟩ := hk0.form
        have HBK : Hid (∀ w', Below W.heap.size W w' → _) := Lib.hid fun w' hb => (pblock_of l[M] (pstmt_of _) G hd0 _ w' (HLD.out.on hb) (hk0.below hb)).mono fun _ _ ⟨h1, h2⟩ => (⟨h1, hb.trans (h2.mono hb.size)⟩ : _ ∧ Below W.heap.size W _)
        have HZ := Lib.hid (fun w' (hb : Below W.heap.size W w') => (show (w'.cell? ⟨b0, off0 + M * 5, none⟩ = _ ∧ w'.cell? ⟨b0, off0 + M * 5 + 1, none⟩ = _ ∧ w'.cell? ⟨b0, off0 + M * 5 + 2, none⟩ = _ ∧ w'.cell? ⟨b0, off0 + M * 5 + 3, none⟩ = _ ∧ w'.cell? ⟨b0, off0 + M * 5 + 4, none⟩ = _) from
          ⟨(hb.cell (p := ⟨b0, off0 + M * 5, none⟩) (World.block_lt_of_cell? _ _ z00)).trans z00, (hb.cell (p := ⟨b0, off0 + M * 5 + 1, none⟩) (World.block_lt_of_cell? _ _ z01)).trans z01, (hb.cell (p := ⟨b0, off0 + M * 5 + 2, none⟩) (World.block_lt_of_cell? _ _ z02)).trans z02, (hb.cell (p := ⟨b0, off0 + M * 5 + 3, none⟩) (World.block_lt_of_cell? _ _ z03)).trans z03, (hb.cell (p := ⟨b0, off0 + M * 5 + 4, none⟩) (World.block_lt_of_cell? _ _ z04)).trans z04⟩))
        have hsl1 : ∀ w, (Instr.slice 22 (.slice (some ⟨b0, off0, none⟩) N cap) none (some (.int .i64 M)) none).run Tryd.prog w = .ok (.slice (some ⟨b0, off0, none⟩) M cap) w := slice_toN M N _ cap (by omega)
        obtain ⟨u, hu⟩ : ∃ u, u = l[M] := ⟨_, rfl⟩
        rw [← hu] at HBK HZ HR0
        obtain ⟨Q, hQ⟩ : ∃ Q, Q = u.kids.length := ⟨_, rfl⟩
        rw [← hQ] at HBK HZ
        obtain ⟨r1, hr1⟩ : ∃ r1, r1 = (l.take M).all declN := ⟨_, rfl⟩
        rw [← hr1] at HALL HR0
        obtain ⟨r2, hr2⟩ : ∃ r2, r2 = u.blk := ⟨_, rfl⟩
        rw [← hr2] at HBK HR0
        obtain ⟨k0, hk00⟩ : ∃ k0, k0 = u.kind := ⟨_, rfl⟩
        obtain ⟨k1, hk1⟩ : ∃ k1, k1 = u.at_ := ⟨_, rfl⟩
        obtain ⟨k2, hk2⟩ : ∃ k2, k2 = u.num := ⟨_, rfl⟩
        obtain ⟨k3, hk3⟩ : ∃ k3, k3 = u.name := ⟨_, rfl⟩
        rw [← hk00, ← hk1, ← hk2, ← hk3] at HZ HBK
        have HR := HR0
        have hM0 : (0 : Int) ≤ (M : Int) := by omega
        have hMN : (M : Int) < (N : Int) := by omega
        have hMN2 : M < N := by omega
        have hN1 : (1 : Int) ≤ (N : Int) := by omega
        clear HC HR0 hk00 hk1 hk2 hk3 hr1 hr2 hQ hu hkl hk0 z00 z01 z02 z03 z04 hd0 hlast hl1 hM hcap hMl h0
        cases r1
        · go_enter Tryd.func16, Tryd.ntmps16
          go_wp2_with (first | (rw [← HW.out, ← HHH.out]) | (go_at_call 25; (with_reducible refine (HBARE.out W HB0.out).mono ?_); rintro e w1 ⟨rfl, hb1⟩; obtain ⟨y10, y11, y12, y13, y14⟩ := HX.out w1 hb1) | (go_at_call 29; (with_reducible refine (HALL.out w1 hb1).mono ?_); rintro e w2 ⟨rfl, hb2⟩; obtain ⟨y20, y21, y22, y23, y24⟩ := HX.out w2 hb2))
          go_ret
          exact ⟨by rw [HR.out]; rfl, HB.out.trans (hb2.mono HB.out.size)⟩
        · go_enter Tryd.func16, Tryd.ntmps16
          go_wp2_with (first | (rw [← HW.out, ← HHH.out]) | (go_at_call 25; (with_reducible refine (HBARE.out W HB0.out).mono ?_); rintro e w1 ⟨rfl, hb1⟩; obtain ⟨y10, y11, y12, y13, y14⟩ := HX.out w1 hb1) | (go_at_call 29; (with_reducible refine (HALL.out w1 hb1).mono ?_); rintro e w2 ⟨rfl, hb2⟩; obtain ⟨y20, y21, y22, y23, y24⟩ := HX.out w2 hb2; obtain ⟨q0, q1, q2, q3, q4⟩ := HZ.out w2 hb2) | (go_at_call 40; (with_reducible refine (HBK.out w2 hb2).mono ?_); rintro e w3 ⟨rfl, hb3⟩; obtain ⟨y30, y31, y32, y33, y34⟩ := HX.out w3 hb3))
          go_ret
          exact ⟨by rw [HR.out]; rfl, HB.out.trans (hb3.mono HB.out.size)⟩
  · have d : (k == 55) = false := beq_eq_false_iff_ne.2 c
    have HR : Hid (R = false) := Lib.hid (by rw [HC.out, decide_eq_false c]; rfl)
    clear HC
    go_enter Tryd.func16, Tryd.ntmps16
    go_wp2_with (first | (rw [← HW.out, ← HHH.out]))
    go_ret
    exact ⟨by rw [HR.out]; rfl, HB.out⟩
theorem pprog_of (t : NT) : SortOf 16 progN t := by
  obtain ⟨k, a, n, nm, l⟩ := t
  exact pprog_mk k a n nm l
end Go.Proofs.YtkmkeaeaalnbjaaDoor.nt

/- The document's own answers: which nodes are parameters, declarations, programs. -/
import Derived.Test.YtkmkeaeaalnbjaaDoorCNodeStmt
namespace Go.Proofs.YtkmkeaeaalnbjaaDoor.nt
open Go.RowKit mem wd lx
open vt (I64 own_form)

theorem param_mk (k a n : Int) (s : List UInt8) (l : List NT) : paramN (.mk k a n s l) = (decide (k = 50) && decide (n = 0) && named s && typ1 l) := rfl
set_option maxHeartbeats 2000000 in
set_option maxRecDepth 100000 in
theorem rparam_mk {G : Nat → Prop} (k a n : Int) (nm : List UInt8) (l : List NT) : IsOf G 57 paramN (.mk k a n nm l) := by
  intro hd s w h
  have hdd := hd
  obtain ⟨_, _, _, hnm⟩ := hd
  change nm.length ≤ _ at hnm
  change Kids G w l s at h
  obtain ⟨A, cap, rfl, hl⟩ := h.form
  show Calls Tryd.prog 57 #[.agg #[.int .i64 k, .int .i64 a, .int .i64 n, .string ⟨nm.toArray⟩, .slice A l.length cap]] w fun e w' => e = .returned (.bool (paramN (NT.mk k a n nm l))) ∧ Below w.heap.size w w'
  have HT := Lib.hid (param_mk k a n nm l)
  obtain ⟨R, hR⟩ : ∃ R, R = (paramN (NT.mk k a n nm l)) := ⟨_, rfl⟩
  rw [← hR] at HT ⊢
  obtain ⟨H, hH⟩ : ∃ H, H = w.heap.size := ⟨_, rfl⟩
  obtain ⟨W, hW⟩ : ∃ W, W = w.alloc (.cells #[.int .i64 k, .int .i64 a, .int .i64 n, .string ⟨nm.toArray⟩, .slice A l.length cap] NodeT) := ⟨_, rfl⟩
  obtain ⟨⟨x0, x1, x2, x3, x4⟩, HB, HHW⟩ := boxed hH hW
  have HX := Lib.hid (And.intro x0 (And.intro x1 (And.intro x2 (And.intro x3 x4))))
  have HAL : Hid (∀ w', Below W.heap.size W w' → Calls Tryd.prog 49 #[.agg #[.int .i64 k, .int .i64 a, .int .i64 n, .string ⟨nm.toArray⟩, .slice A l.length cap]] w' fun e w'' => e = .returned (.bool (aloneN n nm)) ∧ Below W.heap.size W w'') := Lib.hid fun w' hb => (ralone_any (.mk k a n nm l) (.slice A l.length cap) w').mono fun e w'' ⟨h1, h2⟩ => ⟨h1, hb.trans (h2.mono hb.size)⟩
  have HNM : Hid (∀ w', Below W.heap.size W w' → Calls Tryd.prog 48 #[.string ⟨nm.toArray⟩] w' fun e w'' => e = .returned (.bool (named nm)) ∧ Below W.heap.size W w'') := Lib.hid fun w' hb => (rnamed_any nm w' hnm).mono fun e w'' ⟨h1, h2⟩ => ⟨h1, hb.trans (h2.mono hb.size)⟩
  have HK := Lib.hid (h.below HB.out)
  obtain ⟨N, hN⟩ : ∃ N, N = l.length := ⟨_, rfl⟩
  rw [← hN] at hl x4 hW HX HK HAL ⊢
  have HW := Lib.hid hW
  have HHH := Lib.hid hH
  have HNN := Lib.hid hN
  have HB0 : Hid (Below W.heap.size W W) := Lib.hid (Below.refl _ _)
  obtain ⟨al, hal⟩ : ∃ al, al = aloneN n nm := ⟨_, rfl⟩
  rw [← hal] at HAL
  obtain ⟨B, hB⟩ : ∃ B, B = named nm := ⟨_, rfl⟩
  rw [← hB] at HT HNM
  have HAQ := Lib.hid hal
  have HBQ := Lib.hid hB
  clear h hN hW hH hR hdd hal hB
  clear HAL HAQ
  by_cases c1 : k = 50
  · subst c1
    by_cases c2 : n = 0
    · subst c2
      cases B
      · have HR : Hid (R = false) := Lib.hid (by rw [HT.out]; rfl)
        clear HT
        go_enter Tryd.func57, Tryd.ntmps57
        go_wp2_with (first | (rw [← HW.out, ← HHH.out]))
        refine (HNM.out _ HB0.out).mono ?_
        rintro e w1 ⟨rfl, hb1⟩
        obtain ⟨y10, y11, y12, y13, y14⟩ := boxed_on HX.out HHW.out hb1
        have HB1 := Lib.hid hb1
        clear hb1 x0 x1 x2 x3 x4
        go_wp2_with (fail)
        go_ret
        exact ⟨by rw [HR.out]; rfl, HB.out.trans (HB1.out.mono HB.out.size)⟩
      · by_cases hN1 : N = 1
        · have hl1 := HNN.out.symm.trans hN1
          have hl0 : 1 ≤ l.length := by omega
          obtain ⟨b, off, hA⟩ := kids_addr HK.out (by omega)
          subst hA
          obtain ⟨A0, M0, p0, k0, a0, n0, s0, hq0, hd0, hz0⟩ := kid_in HK.out 0 (by omega)
          have HZ0 := Lib.hid (fun w' hb => (hz0 w' hb).1)
          have hkk0 := fun w' hb => (hz0 w' hb).2
          have HCE := Lib.hid (kid_is (f := NT.typ) hq0 hd0 (rtyp_any _) hkk0)
          obtain ⟨E, hE⟩ : ∃ E, E = l[0].typ := ⟨_, rfl⟩
          rw [← hE] at HCE
          have HEE := Lib.hid hE
          clear hE
          have HR : Hid (R = E) := Lib.hid (by rw [HT.out, HEE.out]; obtain ⟨v, rfl⟩ := List.length_eq_one_iff.1 hl1; simp [typ1_one])
          subst hN1
          clear HT hz0 hq0 hd0 hkk0 hl1 hl0 HEE
          cases E
          all_goals
            go_enter Tryd.func57, Tryd.ntmps57
            obtain ⟨u00, u01, u02, u03, u04⟩ := HZ0.out W HB0.out
            rw [Nat.zero_mul, Nat.add_zero] at u00 u01 u02 u03 u04
            go_wp2_with (first | (rw [← HW.out, ← HHH.out]))
            refine (HNM.out _ HB0.out).mono ?_
            rintro e w1 ⟨rfl, hb1⟩
            obtain ⟨y10, y11, y12, y13, y14⟩ := boxed_on HX.out HHW.out hb1
            obtain ⟨v100, v101, v102, v103, v104⟩ := HZ0.out w1 hb1
            rw [Nat.zero_mul, Nat.add_zero] at v100 v101 v102 v103 v104
            have HB1 := Lib.hid hb1
            clear hb1 x0 x1 x2 x3 x4
            clear u00 u01 u02 u03 u04
            go_wp2_with (fail)
            refine (HCE.out _ HB1.out).mono ?_
            rintro e w2 ⟨rfl, hb2⟩
            obtain ⟨y20, y21, y22, y23, y24⟩ := boxed_on HX.out HHW.out hb2
            obtain ⟨v200, v201, v202, v203, v204⟩ := HZ0.out w2 hb2
            rw [Nat.zero_mul, Nat.add_zero] at v200 v201 v202 v203 v204
            have HB2 := Lib.hid hb2
            clear hb2 y10 y11 y12 y13 y14
            clear v100 v101 v102 v103 v104
            go_wp2_with (fail)
            go_ret
            exact ⟨by rw [HR.out]; rfl, HB.out.trans (HB2.out.mono HB.out.size)⟩
        · have e2 : ((N : Int) == 1) = false := beq_eq_false_iff_ne.2 (by omega)
          have HR : Hid (R = false) := Lib.hid (by rw [HT.out, typ1_no (l := l) (by rw [← HNN.out]; exact hN1)]; simp)
          clear HT hN1
          go_enter Tryd.func57, Tryd.ntmps57
          go_wp2_with (first | (rw [← HW.out, ← HHH.out]))
          refine (HNM.out _ HB0.out).mono ?_
          rintro e w1 ⟨rfl, hb1⟩
          obtain ⟨y10, y11, y12, y13, y14⟩ := boxed_on HX.out HHW.out hb1
          have HB1 := Lib.hid hb1
          clear hb1 x0 x1 x2 x3 x4
          go_wp2_with (fail)
          go_ret
          exact ⟨by rw [HR.out]; rfl, HB.out.trans (HB1.out.mono HB.out.size)⟩
    · have e2 : (n == 0) = false := beq_eq_false_iff_ne.2 c2
      have HR : Hid (R = false) := Lib.hid (by rw [HT.out]; simp [c2])
      clear HT c2
      go_enter Tryd.func57, Tryd.ntmps57
      go_wp2_with (first | (rw [← HW.out, ← HHH.out]))
      go_ret
      exact ⟨by rw [HR.out]; rfl, HB.out.trans (HB0.out.mono HB.out.size)⟩
  · have e1 : (k == 50) = false := beq_eq_false_iff_ne.2 c1
    have HR : Hid (R = false) := Lib.hid (by rw [HT.out]; simp [c1])
    clear HT c1
    go_enter Tryd.func57, Tryd.ntmps57
    go_wp2_with (first | (rw [← HW.out, ← HHH.out]))
    go_ret
    exact ⟨by rw [HR.out]; rfl, HB.out.trans (HB0.out.mono HB.out.size)⟩

theorem rparam_any {G : Nat → Prop} (t : NT) : IsOf G 57 paramN t := by
  obtain ⟨k, a, n, nm, l⟩ := t
  exact rparam_mk k a n nm l
/-- a declaration, as the parts come: how many Params, and what stands behind them -/
def declP (k : Int) (l : List NT) : Int := if k = 53 then (l.length : Int) - 2 else if k = 54 then (l.length : Int) - 1 else l.length
/-- what stands behind the Params -/
def declE (k : Int) (l : List NT) : Bool :=
  if k = 51 then true
  else if k = 54 then decide (l.length = 4) && (match l.getLast? with | some b => b.blk | none => false)
  else if k = 53 then decide (2 ≤ l.length) && (match l.getLast? with | some b => b.blk | none => false) && (match l[l.length - 2]? with | some a => a.answer | none => false)
  else false
def isoN (l : List NT) : Bool :=
  match l with
  | [v] => v.typ
  | [v, u] => v.typ && (decide (u.kind = 12) && u.expr)
  | _ => false
def declN (t : NT) : Bool :=
  named t.name && !t.kids.isEmpty && (if t.kind = 52 then decide (0 ≤ t.num) && isoN t.kids else decide (t.num = 0) && (t.kids.take (declP t.kind t.kids).toNat).all paramN && declE t.kind t.kids)
theorem decl_mk (k a n : Int) (s : List UInt8) (l : List NT) : declN (.mk k a n s l) = (named s && !l.isEmpty && (if k = 52 then decide (0 ≤ n) && isoN l else decide (n = 0) && (l.take (declP k l).toNat).all paramN && declE k l)) := rfl
set_option maxHeartbeats 2000000 in
set_option maxRecDepth 100000 in
theorem decl_none {G : Nat → Prop} (k a n : Int) (nm : List UInt8) (l : List NT) (hc : named nm = false ∨ l = []) : IsOf G 35 declN (.mk k a n nm l) := by
  intro hd s w h
  have hdd := hd
  obtain ⟨_, _, _, hnm⟩ := hd
  change nm.length ≤ _ at hnm
  change Kids G w l s at h
  obtain ⟨A, cap, rfl, hl⟩ := h.form
  show Calls Tryd.prog 35 #[.agg #[.int .i64 k, .int .i64 a, .int .i64 n, .string ⟨nm.toArray⟩, .slice A l.length cap]] w fun e w' => e = .returned (.bool (declN (NT.mk k a n nm l))) ∧ Below w.heap.size w w'
  have HT := Lib.hid (decl_mk k a n nm l)
  obtain ⟨R, hR⟩ : ∃ R, R = (declN (NT.mk k a n nm l)) := ⟨_, rfl⟩
  rw [← hR] at HT ⊢
  obtain ⟨H, hH⟩ : ∃ H, H = w.heap.size := ⟨_, rfl⟩
  obtain ⟨W, hW⟩ : ∃ W, W = w.alloc (.cells #[.int .i64 k, .int .i64 a, .int .i64 n, .string ⟨nm.toArray⟩, .slice A l.length cap] NodeT) := ⟨_, rfl⟩
  obtain ⟨⟨x0, x1, x2, x3, x4⟩, HB, HHW⟩ := boxed hH hW
  have HX := Lib.hid (And.intro x0 (And.intro x1 (And.intro x2 (And.intro x3 x4))))
  have HAL : Hid (∀ w', Below W.heap.size W w' → Calls Tryd.prog 49 #[.agg #[.int .i64 k, .int .i64 a, .int .i64 n, .string ⟨nm.toArray⟩, .slice A l.length cap]] w' fun e w'' => e = .returned (.bool (aloneN n nm)) ∧ Below W.heap.size W w'') := Lib.hid fun w' hb => (ralone_any (.mk k a n nm l) (.slice A l.length cap) w').mono fun e w'' ⟨h1, h2⟩ => ⟨h1, hb.trans (h2.mono hb.size)⟩
  have HNM : Hid (∀ w', Below W.heap.size W w' → Calls Tryd.prog 48 #[.string ⟨nm.toArray⟩] w' fun e w'' => e = .returned (.bool (named nm)) ∧ Below W.heap.size W w'') := Lib.hid fun w' hb => (rnamed_any nm w' hnm).mono fun e w'' ⟨h1, h2⟩ => ⟨h1, hb.trans (h2.mono hb.size)⟩
  have HK := Lib.hid (h.below HB.out)
  obtain ⟨N, hN⟩ : ∃ N, N = l.length := ⟨_, rfl⟩
  rw [← hN] at hl x4 hW HX HK HAL ⊢
  have HW := Lib.hid hW
  have HHH := Lib.hid hH
  have HNN := Lib.hid hN
  have HB0 : Hid (Below W.heap.size W W) := Lib.hid (Below.refl _ _)
  obtain ⟨al, hal⟩ : ∃ al, al = aloneN n nm := ⟨_, rfl⟩
  rw [← hal] at HAL
  obtain ⟨B, hB⟩ : ∃ B, B = named nm := ⟨_, rfl⟩
  rw [← hB] at HT HNM
  have HAQ := Lib.hid hal
  have HBQ := Lib.hid hB
  clear h hN hW hH hR hdd hal hB
  clear HAL HAQ
  cases B
  · have HR : Hid (R = false) := Lib.hid (by rw [HT.out]; rfl)
    clear HT hc
    go_enter Tryd.func35, Tryd.ntmps35
    go_wp2_with (first | (rw [← HW.out, ← HHH.out]))
    refine (HNM.out _ HB0.out).mono ?_
    rintro e w1 ⟨rfl, hb1⟩
    obtain ⟨y10, y11, y12, y13, y14⟩ := boxed_on HX.out HHW.out hb1
    have HB1 := Lib.hid hb1
    clear hb1 x0 x1 x2 x3 x4
    go_wp2_with (fail)
    go_ret
    exact ⟨by rw [HR.out]; rfl, HB.out.trans (HB1.out.mono HB.out.size)⟩
  · have hc2 : l = [] := by rcases hc with hc | hc
                            · have := HBQ.out; rw [hc] at this; cases this
                            · exact hc
    have hN1 : N = 0 := by rw [HNN.out, hc2]; rfl
    have HR : Hid (R = false) := Lib.hid (by rw [HT.out, hc2]; rfl)
    subst hN1
    clear HT hc hc2
    go_enter Tryd.func35, Tryd.ntmps35
    go_wp2_with (first | (rw [← HW.out, ← HHH.out]))
    refine (HNM.out _ HB0.out).mono ?_
    rintro e w1 ⟨rfl, hb1⟩
    obtain ⟨y10, y11, y12, y13, y14⟩ := boxed_on HX.out HHW.out hb1
    have HB1 := Lib.hid hb1
    clear hb1 x0 x1 x2 x3 x4
    go_wp2_with (fail)
    go_ret
    exact ⟨by rw [HR.out]; rfl, HB.out.trans (HB1.out.mono HB.out.size)⟩

set_option maxHeartbeats 2000000 in
set_option maxRecDepth 100000 in
theorem decl_52 {G : Nat → Prop} (k a n : Int) (nm : List UInt8) (l : List NT) (ck : k = 52) (hnamed : named nm = true) (hl0 : 0 < l.length) : IsOf G 35 declN (.mk k a n nm l) := by
  intro hd s w h
  have hdd := hd
  obtain ⟨_, _, _, hnm⟩ := hd
  change nm.length ≤ _ at hnm
  change Kids G w l s at h
  obtain ⟨A, cap, rfl, hl⟩ := h.form
  show Calls Tryd.prog 35 #[.agg #[.int .i64 k, .int .i64 a, .int .i64 n, .string ⟨nm.toArray⟩, .slice A l.length cap]] w fun e w' => e = .returned (.bool (declN (NT.mk k a n nm l))) ∧ Below w.heap.size w w'
  have HT := Lib.hid (decl_mk k a n nm l)
  obtain ⟨R, hR⟩ : ∃ R, R = (declN (NT.mk k a n nm l)) := ⟨_, rfl⟩
  rw [← hR] at HT ⊢
  obtain ⟨H, hH⟩ : ∃ H, H = w.heap.size := ⟨_, rfl⟩
  obtain ⟨W, hW⟩ : ∃ W, W = w.alloc (.cells #[.int .i64 k, .int .i64 a, .int .i64 n, .string ⟨nm.toArray⟩, .slice A l.length cap] NodeT) := ⟨_, rfl⟩
  obtain ⟨⟨x0, x1, x2, x3, x4⟩, HB, HHW⟩ := boxed hH hW
  have HX := Lib.hid (And.intro x0 (And.intro x1 (And.intro x2 (And.intro x3 x4))))
  have HAL : Hid (∀ w', Below W.heap.size W w' → Calls Tryd.prog 49 #[.agg #[.int .i64 k, .int .i64 a, .int .i64 n, .string ⟨nm.toArray⟩, .slice A l.length cap]] w' fun e w'' => e = .returned (.bool (aloneN n nm)) ∧ Below W.heap.size W w'') := Lib.hid fun w' hb => (ralone_any (.mk k a n nm l) (.slice A l.length cap) w').mono fun e w'' ⟨h1, h2⟩ => ⟨h1, hb.trans (h2.mono hb.size)⟩
  have HNM : Hid (∀ w', Below W.heap.size W w' → Calls Tryd.prog 48 #[.string ⟨nm.toArray⟩] w' fun e w'' => e = .returned (.bool (named nm)) ∧ Below W.heap.size W w'') := Lib.hid fun w' hb => (rnamed_any nm w' hnm).mono fun e w'' ⟨h1, h2⟩ => ⟨h1, hb.trans (h2.mono hb.size)⟩
  have HK := Lib.hid (h.below HB.out)
  obtain ⟨N, hN⟩ : ∃ N, N = l.length := ⟨_, rfl⟩
  rw [← hN] at hl x4 hW HX HK HAL ⊢
  have HW := Lib.hid hW
  have HHH := Lib.hid hH
  have HNN := Lib.hid hN
  have HB0 : Hid (Below W.heap.size W W) := Lib.hid (Below.refl _ _)
  obtain ⟨al, hal⟩ : ∃ al, al = aloneN n nm := ⟨_, rfl⟩
  rw [← hal] at HAL
  obtain ⟨B, hB⟩ : ∃ B, B = named nm := ⟨_, rfl⟩
  rw [← hB] at HT HNM
  have HAQ := Lib.hid hal
  have HBQ := Lib.hid hB
  clear h hN hW hH hR hdd hal hB
  obtain rfl : B = true := by rw [HBQ.out]; exact hnamed
  clear HAL HAQ HBQ hnamed
  have hN0 : 0 < N := by rw [HNN.out]; exact hl0
  have eN0 : ((N : Int) == 0) = false := beq_eq_false_iff_ne.2 (by omega)
  subst ck
  have HT2 : Hid (R = (decide (0 ≤ n) && isoN l)) := Lib.hid (by rw [HT.out]; simp; intro _ _ h; rw [h] at hl0; simp at hl0)
  clear HT
  by_cases c1 : n < 0
  · have HR : Hid (R = false) := Lib.hid (by rw [HT2.out]; simp; omega)
    clear HT2
    go_enter Tryd.func35, Tryd.ntmps35
    go_wp2_with (first | (rw [← HW.out, ← HHH.out]))
    refine (HNM.out _ HB0.out).mono ?_
    rintro e w1 ⟨rfl, hb1⟩
    obtain ⟨y10, y11, y12, y13, y14⟩ := boxed_on HX.out HHW.out hb1
    have HB1 := Lib.hid hb1
    clear hb1 x0 x1 x2 x3 x4
    go_wp2_with (fail)
    go_ret
    exact ⟨by rw [HR.out]; rfl, HB.out.trans (HB1.out.mono HB.out.size)⟩
  · have c1b : 0 ≤ n := by omega
    have HT3 : Hid (R = isoN l) := Lib.hid (by rw [HT2.out]; simp [c1b])
    clear HT2
    obtain ⟨b, off, hA⟩ := kids_addr HK.out hl0
    subst hA
    obtain ⟨A0, M0, p0, k0, a0, n0, s0, hq0, hd0, hz0⟩ := kid_in HK.out 0 hl0
    have HZ0 := Lib.hid (fun w' hb => (hz0 w' hb).1)
    have hkk0 := fun w' hb => (hz0 w' hb).2
    have HCE := Lib.hid (kid_is (f := NT.typ) hq0 hd0 (rtyp_any _) hkk0)
    obtain ⟨E, hE⟩ : ∃ E, E = l[0].typ := ⟨_, rfl⟩
    rw [← hE] at HCE
    have HEE := Lib.hid hE
    clear hE
    cases E
    · have HR : Hid (R = false) := Lib.hid (by
          rw [HT3.out]
          have q := HEE.out
          match l, hl0 with
          | [v], _ => simp at q; simp [isoN, q]
          | [v, u], _ => simp at q; simp [isoN, q]
          | _ :: _ :: _ :: _, _ => rfl)
      clear HT3 hz0 hq0 hd0 hkk0 HEE
      go_enter Tryd.func35, Tryd.ntmps35
      obtain ⟨u00, u01, u02, u03, u04⟩ := HZ0.out W HB0.out
      rw [Nat.zero_mul, Nat.add_zero] at u00 u01 u02 u03 u04
      go_wp2_with (first | (rw [← HW.out, ← HHH.out]))
      refine (HNM.out _ HB0.out).mono ?_
      rintro e w1 ⟨rfl, hb1⟩
      obtain ⟨y10, y11, y12, y13, y14⟩ := boxed_on HX.out HHW.out hb1
      obtain ⟨v100, v101, v102, v103, v104⟩ := HZ0.out w1 hb1
      rw [Nat.zero_mul, Nat.add_zero] at v100 v101 v102 v103 v104
      have HB1 := Lib.hid hb1
      clear hb1 x0 x1 x2 x3 x4
      clear u00 u01 u02 u03 u04
      go_wp2_with (fail)
      refine (HCE.out _ HB1.out).mono ?_
      rintro e w2 ⟨rfl, hb2⟩
      obtain ⟨y20, y21, y22, y23, y24⟩ := boxed_on HX.out HHW.out hb2
      obtain ⟨v200, v201, v202, v203, v204⟩ := HZ0.out w2 hb2
      rw [Nat.zero_mul, Nat.add_zero] at v200 v201 v202 v203 v204
      have HB2 := Lib.hid hb2
      clear hb2 y10 y11 y12 y13 y14
      clear v100 v101 v102 v103 v104
      go_wp2_with (fail)
      go_ret
      exact ⟨by rw [HR.out]; rfl, HB.out.trans (HB2.out.mono HB.out.size)⟩
    · by_cases hN1 : N = 1
      · have hl1 := HNN.out.symm.trans hN1
        have HR : Hid (R = true) := Lib.hid (by rw [HT3.out]; have q := HEE.out; obtain ⟨v, rfl⟩ := List.length_eq_one_iff.1 hl1; simp at q; simp [isoN, q])
        subst hN1
        clear HT3 hz0 hq0 hd0 hkk0 HEE hl1
        go_enter Tryd.func35, Tryd.ntmps35
        obtain ⟨u00, u01, u02, u03, u04⟩ := HZ0.out W HB0.out
        rw [Nat.zero_mul, Nat.add_zero] at u00 u01 u02 u03 u04
        go_wp2_with (first | (rw [← HW.out, ← HHH.out]))
        refine (HNM.out _ HB0.out).mono ?_
        rintro e w1 ⟨rfl, hb1⟩
        obtain ⟨y10, y11, y12, y13, y14⟩ := boxed_on HX.out HHW.out hb1
        obtain ⟨v100, v101, v102, v103, v104⟩ := HZ0.out w1 hb1
        rw [Nat.zero_mul, Nat.add_zero] at v100 v101 v102 v103 v104
        have HB1 := Lib.hid hb1
        clear hb1 x0 x1 x2 x3 x4
        clear u00 u01 u02 u03 u04
        go_wp2_with (fail)
        refine (HCE.out _ HB1.out).mono ?_
        rintro e w2 ⟨rfl, hb2⟩
        obtain ⟨y20, y21, y22, y23, y24⟩ := boxed_on HX.out HHW.out hb2
        obtain ⟨v200, v201, v202, v203, v204⟩ := HZ0.out w2 hb2
        rw [Nat.zero_mul, Nat.add_zero] at v200 v201 v202 v203 v204
        have HB2 := Lib.hid hb2
        clear hb2 y10 y11 y12 y13 y14
        clear v100 v101 v102 v103 v104
        go_wp2_with (fail)
        go_ret
        exact ⟨by rw [HR.out]; rfl, HB.out.trans (HB2.out.mono HB.out.size)⟩
      · have e1 : ((N : Int) == 1) = false := beq_eq_false_iff_ne.2 (by omega)
        by_cases hN2 : N = 2
        · have hl1 := HNN.out.symm.trans hN2
          obtain ⟨A1, M1, p1, k1, a1, n1, s1, hq1, hd1, hz1⟩ := kid_in HK.out 1 (by omega)
          have HZ1 := Lib.hid (fun w' hb => (hz1 w' hb).1)
          have hkk1 := fun w' hb => (hz1 w' hb).2
          have HCF := Lib.hid (kid_is (f := NT.expr) hq1 hd1 (rexpr_any _) hkk1)
          obtain ⟨F, hF⟩ : ∃ E, E = l[1].expr := ⟨_, rfl⟩
          rw [← hF] at HCF
          have HEF := Lib.hid hF
          clear hF
          by_cases c12 : k1 = 12
          · have HR : Hid (R = F) := Lib.hid (by
                rw [HT3.out, HEF.out]
                have q := HEE.out
                have q1 := hq1.1
                rw [c12] at q1
                match l, hl1 with
                | [v, u], _ => simp at q q1; simp [isoN, ← q, ← q1])
            subst hN2
            subst c12
            clear HT3 hz0 hq0 hd0 hkk0 hz1 hq1 hd1 hkk1 HEE HEF hl1 hN1
            cases F
            all_goals
              go_enter Tryd.func35, Tryd.ntmps35
              obtain ⟨u00, u01, u02, u03, u04⟩ := HZ0.out W HB0.out
              obtain ⟨u10, u11, u12, u13, u14⟩ := HZ1.out W HB0.out
              rw [Nat.zero_mul, Nat.add_zero] at u00 u01 u02 u03 u04
              rw [Nat.one_mul] at u10 u11 u12 u13 u14
              go_wp2_with (first | (rw [← HW.out, ← HHH.out]))
              refine (HNM.out _ HB0.out).mono ?_
              rintro e w1 ⟨rfl, hb1⟩
              obtain ⟨y10, y11, y12, y13, y14⟩ := boxed_on HX.out HHW.out hb1
              obtain ⟨v100, v101, v102, v103, v104⟩ := HZ0.out w1 hb1
              obtain ⟨v110, v111, v112, v113, v114⟩ := HZ1.out w1 hb1
              rw [Nat.zero_mul, Nat.add_zero] at v100 v101 v102 v103 v104
              rw [Nat.one_mul] at v110 v111 v112 v113 v114
              have HB1 := Lib.hid hb1
              clear hb1 x0 x1 x2 x3 x4
              clear u00 u01 u02 u03 u04
              clear u10 u11 u12 u13 u14
              go_wp2_with (fail)
              refine (HCE.out _ HB1.out).mono ?_
              rintro e w2 ⟨rfl, hb2⟩
              obtain ⟨y20, y21, y22, y23, y24⟩ := boxed_on HX.out HHW.out hb2
              obtain ⟨v200, v201, v202, v203, v204⟩ := HZ0.out w2 hb2
              obtain ⟨v210, v211, v212, v213, v214⟩ := HZ1.out w2 hb2
              rw [Nat.zero_mul, Nat.add_zero] at v200 v201 v202 v203 v204
              rw [Nat.one_mul] at v210 v211 v212 v213 v214
              have HB2 := Lib.hid hb2
              clear hb2 y10 y11 y12 y13 y14
              clear v100 v101 v102 v103 v104
              clear v110 v111 v112 v113 v114
              go_wp2_with (fail)
              refine (HCF.out _ HB2.out).mono ?_
              rintro e w3 ⟨rfl, hb3⟩
              obtain ⟨y30, y31, y32, y33, y34⟩ := boxed_on HX.out HHW.out hb3
              obtain ⟨v300, v301, v302, v303, v304⟩ := HZ0.out w3 hb3
              obtain ⟨v310, v311, v312, v313, v314⟩ := HZ1.out w3 hb3
              rw [Nat.zero_mul, Nat.add_zero] at v300 v301 v302 v303 v304
              rw [Nat.one_mul] at v310 v311 v312 v313 v314
              have HB3 := Lib.hid hb3
              clear hb3 y20 y21 y22 y23 y24
              clear v200 v201 v202 v203 v204
              clear v210 v211 v212 v213 v214
              go_wp2_with (fail)
              go_ret
              exact ⟨by rw [HR.out]; rfl, HB.out.trans (HB3.out.mono HB.out.size)⟩
          · have e12 : (k1 == 12) = false := beq_eq_false_iff_ne.2 c12
            have HR : Hid (R = false) := Lib.hid (by
                rw [HT3.out]
                have q1 := hq1.1
                match l, hl1 with
                | [v, u], _ => simp at q1; simp [isoN]; intro _ h; exact absurd (q1.trans h) c12)
            subst hN2
            clear HT3 hz0 hq0 hd0 hkk0 hz1 hq1 hd1 hkk1 HEE HEF hl1 HCF c12 hN1
            go_enter Tryd.func35, Tryd.ntmps35
            obtain ⟨u00, u01, u02, u03, u04⟩ := HZ0.out W HB0.out
            obtain ⟨u10, u11, u12, u13, u14⟩ := HZ1.out W HB0.out
            rw [Nat.zero_mul, Nat.add_zero] at u00 u01 u02 u03 u04
            rw [Nat.one_mul] at u10 u11 u12 u13 u14
            go_wp2_with (first | (rw [← HW.out, ← HHH.out]))
            refine (HNM.out _ HB0.out).mono ?_
            rintro e w1 ⟨rfl, hb1⟩
            obtain ⟨y10, y11, y12, y13, y14⟩ := boxed_on HX.out HHW.out hb1
            obtain ⟨v100, v101, v102, v103, v104⟩ := HZ0.out w1 hb1
            obtain ⟨v110, v111, v112, v113, v114⟩ := HZ1.out w1 hb1
            rw [Nat.zero_mul, Nat.add_zero] at v100 v101 v102 v103 v104
            rw [Nat.one_mul] at v110 v111 v112 v113 v114
            have HB1 := Lib.hid hb1
            clear hb1 x0 x1 x2 x3 x4
            clear u00 u01 u02 u03 u04
            clear u10 u11 u12 u13 u14
            go_wp2_with (fail)
            refine (HCE.out _ HB1.out).mono ?_
            rintro e w2 ⟨rfl, hb2⟩
            obtain ⟨y20, y21, y22, y23, y24⟩ := boxed_on HX.out HHW.out hb2
            obtain ⟨v200, v201, v202, v203, v204⟩ := HZ0.out w2 hb2
            obtain ⟨v210, v211, v212, v213, v214⟩ := HZ1.out w2 hb2
            rw [Nat.zero_mul, Nat.add_zero] at v200 v201 v202 v203 v204
            rw [Nat.one_mul] at v210 v211 v212 v213 v214
            have HB2 := Lib.hid hb2
            clear hb2 y10 y11 y12 y13 y14
            clear v100 v101 v102 v103 v104
            clear v110 v111 v112 v113 v114
            go_wp2_with (fail)
            go_ret
            exact ⟨by rw [HR.out]; rfl, HB.out.trans (HB2.out.mono HB.out.size)⟩
        · have e3 : 2 < (N : Int) := by omega
          have HR : Hid (R = false) := Lib.hid (by
              rw [HT3.out]
              have q1 : l.length ≠ 1 := by rw [← HNN.out]; exact hN1
              have q2 : l.length ≠ 2 := by rw [← HNN.out]; exact hN2
              match l, hl0, q1, q2 with
              | [v], _, q1, _ => simp at q1
              | [v, u], _, _, q2 => simp at q2
              | _ :: _ :: _ :: _, _, _, _ => rfl)
          clear HT3 hz0 hq0 hd0 hkk0 HEE hN1 hN2
          go_enter Tryd.func35, Tryd.ntmps35
          obtain ⟨u00, u01, u02, u03, u04⟩ := HZ0.out W HB0.out
          rw [Nat.zero_mul, Nat.add_zero] at u00 u01 u02 u03 u04
          go_wp2_with (first | (rw [← HW.out, ← HHH.out]))
          refine (HNM.out _ HB0.out).mono ?_
          rintro e w1 ⟨rfl, hb1⟩
          obtain ⟨y10, y11, y12, y13, y14⟩ := boxed_on HX.out HHW.out hb1
          obtain ⟨v100, v101, v102, v103, v104⟩ := HZ0.out w1 hb1
          rw [Nat.zero_mul, Nat.add_zero] at v100 v101 v102 v103 v104
          have HB1 := Lib.hid hb1
          clear hb1 x0 x1 x2 x3 x4
          clear u00 u01 u02 u03 u04
          go_wp2_with (fail)
          refine (HCE.out _ HB1.out).mono ?_
          rintro e w2 ⟨rfl, hb2⟩
          obtain ⟨y20, y21, y22, y23, y24⟩ := boxed_on HX.out HHW.out hb2
          obtain ⟨v200, v201, v202, v203, v204⟩ := HZ0.out w2 hb2
          rw [Nat.zero_mul, Nat.add_zero] at v200 v201 v202 v203 v204
          have HB2 := Lib.hid hb2
          clear hb2 y10 y11 y12 y13 y14
          clear v100 v101 v102 v103 v104
          go_wp2_with (fail)
          go_ret
          exact ⟨by rw [HR.out]; rfl, HB.out.trans (HB2.out.mono HB.out.size)⟩

set_option maxHeartbeats 2000000 in
set_option maxRecDepth 100000 in
theorem decl_num {G : Nat → Prop} (k a n : Int) (nm : List UInt8) (l : List NT) (ck : k ≠ 52) (cn : n ≠ 0) (hnamed : named nm = true) (hl0 : 0 < l.length) : IsOf G 35 declN (.mk k a n nm l) := by
  intro hd s w h
  have hdd := hd
  obtain ⟨_, _, _, hnm⟩ := hd
  change nm.length ≤ _ at hnm
  change Kids G w l s at h
  obtain ⟨A, cap, rfl, hl⟩ := h.form
  show Calls Tryd.prog 35 #[.agg #[.int .i64 k, .int .i64 a, .int .i64 n, .string ⟨nm.toArray⟩, .slice A l.length cap]] w fun e w' => e = .returned (.bool (declN (NT.mk k a n nm l))) ∧ Below w.heap.size w w'
  have HT := Lib.hid (decl_mk k a n nm l)
  obtain ⟨R, hR⟩ : ∃ R, R = (declN (NT.mk k a n nm l)) := ⟨_, rfl⟩
  rw [← hR] at HT ⊢
  obtain ⟨H, hH⟩ : ∃ H, H = w.heap.size := ⟨_, rfl⟩
  obtain ⟨W, hW⟩ : ∃ W, W = w.alloc (.cells #[.int .i64 k, .int .i64 a, .int .i64 n, .string ⟨nm.toArray⟩, .slice A l.length cap] NodeT) := ⟨_, rfl⟩
  obtain ⟨⟨x0, x1, x2, x3, x4⟩, HB, HHW⟩ := boxed hH hW
  have HX := Lib.hid (And.intro x0 (And.intro x1 (And.intro x2 (And.intro x3 x4))))
  have HAL : Hid (∀ w', Below W.heap.size W w' → Calls Tryd.prog 49 #[.agg #[.int .i64 k, .int .i64 a, .int .i64 n, .string ⟨nm.toArray⟩, .slice A l.length cap]] w' fun e w'' => e = .returned (.bool (aloneN n nm)) ∧ Below W.heap.size W w'') := Lib.hid fun w' hb => (ralone_any (.mk k a n nm l) (.slice A l.length cap) w').mono fun e w'' ⟨h1, h2⟩ => ⟨h1, hb.trans (h2.mono hb.size)⟩
  have HNM : Hid (∀ w', Below W.heap.size W w' → Calls Tryd.prog 48 #[.string ⟨nm.toArray⟩] w' fun e w'' => e = .returned (.bool (named nm)) ∧ Below W.heap.size W w'') := Lib.hid fun w' hb => (rnamed_any nm w' hnm).mono fun e w'' ⟨h1, h2⟩ => ⟨h1, hb.trans (h2.mono hb.size)⟩
  have HK := Lib.hid (h.below HB.out)
  obtain ⟨N, hN⟩ : ∃ N, N = l.length := ⟨_, rfl⟩
  rw [← hN] at hl x4 hW HX HK HAL ⊢
  have HW := Lib.hid hW
  have HHH := Lib.hid hH
  have HNN := Lib.hid hN
  have HB0 : Hid (Below W.heap.size W W) := Lib.hid (Below.refl _ _)
  obtain ⟨al, hal⟩ : ∃ al, al = aloneN n nm := ⟨_, rfl⟩
  rw [← hal] at HAL
  obtain ⟨B, hB⟩ : ∃ B, B = named nm := ⟨_, rfl⟩
  rw [← hB] at HT HNM
  have HAQ := Lib.hid hal
  have HBQ := Lib.hid hB
  clear h hN hW hH hR hdd hal hB
  obtain rfl : B = true := by rw [HBQ.out]; exact hnamed
  clear HAL HAQ HBQ hnamed
  have hN0 : 0 < N := by rw [HNN.out]; exact hl0
  have eN0 : ((N : Int) == 0) = false := beq_eq_false_iff_ne.2 (by omega)
  have e1 : (k == 52) = false := beq_eq_false_iff_ne.2 ck
  have e2 : (n != 0) = true := by rw [bne_iff_ne]; exact cn
  have HR : Hid (R = false) := Lib.hid (by rw [HT.out]; simp [ck, cn])
  clear HT ck cn
  go_enter Tryd.func35, Tryd.ntmps35
  go_wp2_with (first | (rw [← HW.out, ← HHH.out]))
  refine (HNM.out _ HB0.out).mono ?_
  rintro e w1 ⟨rfl, hb1⟩
  obtain ⟨y10, y11, y12, y13, y14⟩ := boxed_on HX.out HHW.out hb1
  have HB1 := Lib.hid hb1
  clear hb1 x0 x1 x2 x3 x4
  go_wp2_with (fail)
  go_ret
  exact ⟨by rw [HR.out]; rfl, HB.out.trans (HB1.out.mono HB.out.size)⟩

theorem kid_is2 {G : Nat → Prop} {W : World} {l : List NT} {F : FuncId} {f : NT → Bool} {i : Nat} {hi : i < l.length} {A2 : Option Addr} {M c2 : Nat} {k a n : Int} {s : List UInt8} (hq : k = l[i].kind ∧ a = l[i].at_ ∧ n = l[i].num ∧ s = l[i].name) (hd : Hd l[i]) (hf : IsOf G F f l[i]) (hk : ∀ w', Below W.heap.size W w' → Kids G w' l[i].kids (.slice A2 M c2)) :
    ∀ w', Below W.heap.size W w' → Calls Tryd.prog F #[.agg #[.int .i64 k, .int .i64 a, .int .i64 n, .string ⟨s.toArray⟩, .slice A2 M c2]] w' fun e w'' => e = .returned (.bool (f l[i])) ∧ Below w'.heap.size w' w'' := by
  intro w' hb
  obtain ⟨rfl, rfl, rfl, rfl⟩ := hq
  exact hf hd _ w' (hk w' hb)
theorem sliced_in {b off P N cap : Nat} (h1 : P < N) (h2 : N ≤ cap) : sliced (some ⟨b, off, none⟩) P N cap 5 = .slice (some ⟨b, off + P * 5, none⟩) (N - P) (cap - P) := by
  unfold sliced
  rw [if_neg (by omega)]
  show Value.slice (some ((⟨b, off, none⟩ : Addr).add (P * 5))) _ _ = _
  rw [vt.cells_add]
theorem kids_cap {G : Nat → Prop} {W : World} {l : List NT} {A : Option Addr} {N cap : Nat} (h : Kids G W l (.slice A N cap)) : l.length ≤ cap := by
  obtain ⟨A', cap', hs, hl, _⟩ := h
  injection hs with _ _ h3
  subst h3
  exact hl.2.2
theorem kid_alone {l : List NT} {i : Nat} {hi : i < l.length} {k a n : Int} {s : List UInt8} (hq : k = l[i].kind ∧ a = l[i].at_ ∧ n = l[i].num ∧ s = l[i].name) (v : Value) :
    ∀ w', Calls Tryd.prog 49 #[.agg #[.int .i64 k, .int .i64 a, .int .i64 n, .string ⟨s.toArray⟩, v]] w' fun e w'' => e = .returned (.bool (aloneN n s)) ∧ Below w'.heap.size w' w'' := by
  intro w'
  obtain ⟨rfl, rfl, rfl, rfl⟩ := hq
  exact ralone_any _ v w'
def DcRel (W : World) (p : Nat) (l : List NT) (i : Value) (wr : World) : Prop := ∃ k : Nat, k ≤ p ∧ i = .int .i64 k ∧ Hid ((l.take k).all paramN = true) ∧ Below W.heap.size W wr
theorem all_take (f : NT → Bool) (l : List NT) (k : Nat) (h : k < l.length) : (l.take (k + 1)).all f = ((l.take k).all f && f l[k]) := by
  rw [List.take_succ_eq_append_getElem h, List.all_append]; simp
theorem all_bad (f : NT → Bool) (l : List NT) (p k : Nat) (hp : k < p) (h : k < l.length) (hr : f l[k] = false) : (l.take p).all f = false := by
  rw [List.all_eq_false]
  exact ⟨l[k], List.mem_take_iff_getElem.2 ⟨k, by omega, rfl⟩, by simp [hr]⟩
set_option maxHeartbeats 2000000 in
set_option maxRecDepth 100000 in
theorem decl_51 {G : Nat → Prop} (k a n : Int) (nm : List UInt8) (l : List NT) (ck : k = 51) (cn : n = 0) (hnamed : named nm = true) (hl0 : 0 < l.length) : IsOf G 35 declN (.mk k a n nm l) := by
  intro hd s w h
  have hdd := hd
  obtain ⟨_, _, _, hnm⟩ := hd
  change nm.length ≤ _ at hnm
  change Kids G w l s at h
  obtain ⟨A, cap, rfl, hl⟩ := h.form
  show Calls Tryd.prog 35 #[.agg #[.int .i64 k, .int .i64 a, .int .i64 n, .string ⟨nm.toArray⟩, .slice A l.length cap]] w fun e w' => e = .returned (.bool (declN (NT.mk k a n nm l))) ∧ Below w.heap.size w w'
  have HT := Lib.hid (decl_mk k a n nm l)
  obtain ⟨R, hR⟩ : ∃ R, R = (declN (NT.mk k a n nm l)) := ⟨_, rfl⟩
  rw [← hR] at HT ⊢
  obtain ⟨H, hH⟩ : ∃ H, H = w.heap.size := ⟨_, rfl⟩
  obtain ⟨W, hW⟩ : ∃ W, W = w.alloc (.cells #[.int .i64 k, .int .i64 a, .int .i64 n, .string ⟨nm.toArray⟩, .slice A l.length cap] NodeT) := ⟨_, rfl⟩
  obtain ⟨⟨x0, x1, x2, x3, x4⟩, HB, HHW⟩ := boxed hH hW
  have HX := Lib.hid (And.intro x0 (And.intro x1 (And.intro x2 (And.intro x3 x4))))
  have HAL : Hid (∀ w', Below W.heap.size W w' → Calls Tryd.prog 49 #[.agg #[.int .i64 k, .int .i64 a, .int .i64 n, .string ⟨nm.toArray⟩, .slice A l.length cap]] w' fun e w'' => e = .returned (.bool (aloneN n nm)) ∧ Below W.heap.size W w'') := Lib.hid fun w' hb => (ralone_any (.mk k a n nm l) (.slice A l.length cap) w').mono fun e w'' ⟨h1, h2⟩ => ⟨h1, hb.trans (h2.mono hb.size)⟩
  have HNM : Hid (∀ w', Below W.heap.size W w' → Calls Tryd.prog 48 #[.string ⟨nm.toArray⟩] w' fun e w'' => e = .returned (.bool (named nm)) ∧ Below W.heap.size W w'') := Lib.hid fun w' hb => (rnamed_any nm w' hnm).mono fun e w'' ⟨h1, h2⟩ => ⟨h1, hb.trans (h2.mono hb.size)⟩
  have HK := Lib.hid (h.below HB.out)
  obtain ⟨N, hN⟩ : ∃ N, N = l.length := ⟨_, rfl⟩
  rw [← hN] at hl x4 hW HX HK HAL ⊢
  have HW := Lib.hid hW
  have HHH := Lib.hid hH
  have HNN := Lib.hid hN
  have HB0 : Hid (Below W.heap.size W W) := Lib.hid (Below.refl _ _)
  obtain ⟨al, hal⟩ : ∃ al, al = aloneN n nm := ⟨_, rfl⟩
  rw [← hal] at HAL
  obtain ⟨B, hB⟩ : ∃ B, B = named nm := ⟨_, rfl⟩
  rw [← hB] at HT HNM
  have HAQ := Lib.hid hal
  have HBQ := Lib.hid hB
  clear h hN hW hH hR hdd hal hB
  obtain rfl : B = true := by rw [HBQ.out]; exact hnamed
  clear HAL HAQ HBQ hnamed
  have hN0 : 0 < N := by rw [HNN.out]; exact hl0
  have eN0 : ((N : Int) == 0) = false := beq_eq_false_iff_ne.2 (by omega)
  subst cn
  subst ck
  have hP : N = N := rfl
  have hPN : N ≤ N := by omega
  have hP0 : ¬ (N : Int) < 0 := by omega
  have HT2 : Hid (R = ((l.take N).all paramN && declE 51 l)) := Lib.hid (by
      have e : (declP 51 l).toNat = N := by unfold declP; rw [← HNN.out]; simp
      rw [HT.out, e]
      have hne : l.isEmpty = false := by rw [List.isEmpty_eq_false_iff]; intro h; rw [h] at hl0; simp at hl0
      rw [hne]; simp)
  clear HT
  have HP := Lib.hid hP
  clear hP
  go_enter Tryd.func35, Tryd.ntmps35
  go_wp2_with (first | (rw [← HW.out, ← HHH.out]))
  refine (HNM.out _ HB0.out).mono ?_
  rintro e w1 ⟨rfl, hb1⟩
  obtain ⟨y0, y1, y2, y3, y4⟩ := boxed_on HX.out HHW.out hb1
  have HB1 := Lib.hid hb1
  clear hb1 x0 x1 x2 x3 x4
  go_wp2_with (fail)
  go_loopw [5] (fun i wr => DcRel W N l i wr) (fun i _ => N - (intOf i).toNat)
  case atStart => unfold DcRel; exact ⟨0, Nat.zero_le _, rfl, Lib.hid (by rw [List.take_zero]; rfl), HB1.out⟩
  case round =>
    obtain ⟨j, hj, rfl, HM, hb⟩ := hrel
    obtain ⟨z0, z1, z2, z3, z4⟩ := boxed_on HX.out HHW.out hb
    by_cases hlt : j < N
    · have hjl : j < l.length := by have := HNN.out; omega
      obtain ⟨bb, off, hA⟩ := kids_addr HK.out hl0
      subst hA
      obtain ⟨A0, M0, p0, k0, a0, n0, s0, hq0, hd0, hz0⟩ := kid_in HK.out j hjl
      obtain ⟨⟨c0, c1, c2, c3, c4⟩, hkk⟩ := hz0 wr hb
      have HI := Lib.hid (kid_is (f := paramN) hq0 hd0 (rparam_any _) (fun w' hb' => (hz0 w' hb').2) wr hb)
      have HU := Lib.hid (all_take paramN l j hjl)
      have HU2 := Lib.hid (all_bad paramN l N j hlt hjl)
      obtain ⟨r, hr⟩ : ∃ r, r = paramN l[j] := ⟨_, rfl⟩
      rw [← hr] at HI HU HU2
      have hjN : (j : Int) < (N : Int) := by omega
      clear hkk hr hq0 hd0 hz0 hb
      cases r
      · go_wp2_with (fail)
        refine HI.out.mono ?_
        rintro e w2 ⟨rfl, hb2⟩
        have HB2 := Lib.hid hb2
        clear hb2
        go_wp2_with (fail)
        go_ret
        exact ⟨by rw [HT2.out, HU2.out (by simp)]; rfl, HB.out.trans (HB2.out.mono HB.out.size)⟩
      · go_wp2_with (fail)
        refine HI.out.mono ?_
        rintro e w2 ⟨rfl, hb2⟩
        have HB2 := Lib.hid hb2
        clear hb2
        go_wp2_with (fail)
        go_roundw
        case rel => unfold DcRel; exact ⟨j + 1, by omega, by go_num, Lib.hid (by rw [HU.out, HM.out]; rfl), HB2.out⟩
        case measure => simp [intOf]; omega
    · obtain rfl : N = j := by omega
      have HF : Hid ((l.take N).all paramN = true) := Lib.hid HM.out
      have HT3 : Hid (R = declE 51 l) := Lib.hid (by rw [HT2.out, HF.out]; simp)
      have HBR := Lib.hid hb
      clear hb
      go_wp2_with (fail)
      go_ret
      exact ⟨by rw [HT3.out]; rfl, HB.out.trans (HBR.out.mono HB.out.size)⟩

set_option maxHeartbeats 2000000 in
set_option maxRecDepth 100000 in
theorem decl_54 {G : Nat → Prop} (k a n : Int) (nm : List UInt8) (l : List NT) (ck : k = 54) (cn : n = 0) (hnamed : named nm = true) (hl0 : 0 < l.length) : IsOf G 35 declN (.mk k a n nm l) := by
  intro hd s w h
  have hdd := hd
  obtain ⟨_, _, _, hnm⟩ := hd
  change nm.length ≤ _ at hnm
  change Kids G w l s at h
  obtain ⟨A, cap, rfl, hl⟩ := h.form
  show Calls Tryd.prog 35 #[.agg #[.int .i64 k, .int .i64 a, .int .i64 n, .string ⟨nm.toArray⟩, .slice A l.length cap]] w fun e w' => e = .returned (.bool (declN (NT.mk k a n nm l))) ∧ Below w.heap.size w w'
  have HT := Lib.hid (decl_mk k a n nm l)
  obtain ⟨R, hR⟩ : ∃ R, R = (declN (NT.mk k a n nm l)) := ⟨_, rfl⟩
  rw [← hR] at HT ⊢
  obtain ⟨H, hH⟩ : ∃ H, H = w.heap.size := ⟨_, rfl⟩
  obtain ⟨W, hW⟩ : ∃ W, W = w.alloc (.cells #[.int .i64 k, .int .i64 a, .int .i64 n, .string ⟨nm.toArray⟩, .slice A l.length cap] NodeT) := ⟨_, rfl⟩
  obtain ⟨⟨x0, x1, x2, x3, x4⟩, HB, HHW⟩ := boxed hH hW
  have HX := Lib.hid (And.intro x0 (And.intro x1 (And.intro x2 (And.intro x3 x4))))
  have HAL : Hid (∀ w', Below W.heap.size W w' → Calls Tryd.prog 49 #[.agg #[.int .i64 k, .int .i64 a, .int .i64 n, .string ⟨nm.toArray⟩, .slice A l.length cap]] w' fun e w'' => e = .returned (.bool (aloneN n nm)) ∧ Below W.heap.size W w'') := Lib.hid fun w' hb => (ralone_any (.mk k a n nm l) (.slice A l.length cap) w').mono fun e w'' ⟨h1, h2⟩ => ⟨h1, hb.trans (h2.mono hb.size)⟩
  have HNM : Hid (∀ w', Below W.heap.size W w' → Calls Tryd.prog 48 #[.string ⟨nm.toArray⟩] w' fun e w'' => e = .returned (.bool (named nm)) ∧ Below W.heap.size W w'') := Lib.hid fun w' hb => (rnamed_any nm w' hnm).mono fun e w'' ⟨h1, h2⟩ => ⟨h1, hb.trans (h2.mono hb.size)⟩
  have HK := Lib.hid (h.below HB.out)
  obtain ⟨N, hN⟩ : ∃ N, N = l.length := ⟨_, rfl⟩
  rw [← hN] at hl x4 hW HX HK HAL ⊢
  have HW := Lib.hid hW
  have HHH := Lib.hid hH
  have HNN := Lib.hid hN
  have HB0 : Hid (Below W.heap.size W W) := Lib.hid (Below.refl _ _)
  obtain ⟨al, hal⟩ : ∃ al, al = aloneN n nm := ⟨_, rfl⟩
  rw [← hal] at HAL
  obtain ⟨B, hB⟩ : ∃ B, B = named nm := ⟨_, rfl⟩
  rw [← hB] at HT HNM
  have HAQ := Lib.hid hal
  have HBQ := Lib.hid hB
  clear h hN hW hH hR hdd hal hB
  obtain rfl : B = true := by rw [HBQ.out]; exact hnamed
  clear HAL HAQ HBQ hnamed
  have hN0 : 0 < N := by rw [HNN.out]; exact hl0
  have eN0 : ((N : Int) == 0) = false := beq_eq_false_iff_ne.2 (by omega)
  subst cn
  subst ck
  obtain ⟨P, hP⟩ : ∃ P, P = N - 1 := ⟨_, rfl⟩
  have hP2 : (N : Int) - 1 = (P : Int) := by omega
  have hPN : P ≤ N := by omega
  have hP0 : ¬ (P : Int) < 0 := by omega
  have HT2 : Hid (R = ((l.take P).all paramN && declE 54 l)) := Lib.hid (by
      have e : (declP 54 l).toNat = P := by unfold declP; rw [← HNN.out]; simp; omega
      rw [HT.out, e]
      have hne : l.isEmpty = false := by rw [List.isEmpty_eq_false_iff]; intro h; rw [h] at hl0; simp at hl0
      rw [hne]; simp)
  clear HT
  have HP := Lib.hid hP
  clear hP
  go_enter Tryd.func35, Tryd.ntmps35
  go_wp2_with (first | (rw [← HW.out, ← HHH.out]))
  refine (HNM.out _ HB0.out).mono ?_
  rintro e w1 ⟨rfl, hb1⟩
  obtain ⟨y0, y1, y2, y3, y4⟩ := boxed_on HX.out HHW.out hb1
  have HB1 := Lib.hid hb1
  clear hb1 x0 x1 x2 x3 x4
  go_wp2_with (fail)
  go_loopw [5] (fun i wr => DcRel W P l i wr) (fun i _ => P - (intOf i).toNat)
  case atStart => unfold DcRel; exact ⟨0, Nat.zero_le _, rfl, Lib.hid (by rw [List.take_zero]; rfl), HB1.out⟩
  case round =>
    obtain ⟨j, hj, rfl, HM, hb⟩ := hrel
    obtain ⟨z0, z1, z2, z3, z4⟩ := boxed_on HX.out HHW.out hb
    by_cases hlt : j < P
    · have hjl : j < l.length := by have := HNN.out; omega
      obtain ⟨bb, off, hA⟩ := kids_addr HK.out hl0
      subst hA
      obtain ⟨A0, M0, p0, k0, a0, n0, s0, hq0, hd0, hz0⟩ := kid_in HK.out j hjl
      obtain ⟨⟨c0, c1, c2, c3, c4⟩, hkk⟩ := hz0 wr hb
      have HI := Lib.hid (kid_is (f := paramN) hq0 hd0 (rparam_any _) (fun w' hb' => (hz0 w' hb').2) wr hb)
      have HU := Lib.hid (all_take paramN l j hjl)
      have HU2 := Lib.hid (all_bad paramN l P j hlt hjl)
      obtain ⟨r, hr⟩ : ∃ r, r = paramN l[j] := ⟨_, rfl⟩
      rw [← hr] at HI HU HU2
      have hjN : (j : Int) < (N : Int) := by omega
      clear hkk hr hq0 hd0 hz0 hb
      cases r
      · go_wp2_with (fail)
        refine HI.out.mono ?_
        rintro e w2 ⟨rfl, hb2⟩
        have HB2 := Lib.hid hb2
        clear hb2
        go_wp2_with (fail)
        go_ret
        exact ⟨by rw [HT2.out, HU2.out (by simp)]; rfl, HB.out.trans (HB2.out.mono HB.out.size)⟩
      · go_wp2_with (fail)
        refine HI.out.mono ?_
        rintro e w2 ⟨rfl, hb2⟩
        have HB2 := Lib.hid hb2
        clear hb2
        go_wp2_with (fail)
        go_roundw
        case rel => unfold DcRel; exact ⟨j + 1, by omega, by go_num, Lib.hid (by rw [HU.out, HM.out]; rfl), HB2.out⟩
        case measure => simp [intOf]; omega
    · obtain rfl : P = j := by omega
      have HF : Hid ((l.take P).all paramN = true) := Lib.hid HM.out
      have HT3 : Hid (R = declE 54 l) := Lib.hid (by rw [HT2.out, HF.out]; simp)
      have HBR := Lib.hid hb
      obtain ⟨bb, off, hA⟩ := kids_addr HK.out hl0
      subst hA
      obtain ⟨m, hmp⟩ : ∃ m, P = m := ⟨_, rfl⟩
      have hm : l.length = m + 1 := by have := HP.out; have := HNN.out; omega
      have hml : m < l.length := by omega
      obtain ⟨A0, M0, p0, k0, a0, n0, s0, hq0, hd0, hz0⟩ := kid_in HK.out m hml
      obtain ⟨⟨c0, c1, c2, c3, c4⟩, hkk⟩ := hz0 wr hb
      have HI := Lib.hid (kid_kind 30 hq0 hd0 (rstmt_any _) (fun w' hb' => (hz0 w' hb').2) wr hb)
      have hNm : (N : Int) - 1 = (m : Int) := by have := HNN.out; omega
      have hNm2 : (m : Int) < (N : Int) := by have := HNN.out; omega
      have HBL : Hid ((decide (k0 = 30) && l[m].stmt) = l[m].blk) := Lib.hid (by unfold NT.blk; rw [hq0.1])
      have HLA : Hid (l.getLast? = some l[m]) := Lib.hid (by rw [List.getLast?_eq_getElem?, List.getElem?_eq_getElem (by omega)]; congr 2; omega)
      obtain ⟨bl, hbl⟩ : ∃ bl, bl = (decide (k0 = 30) && l[m].stmt) := ⟨_, rfl⟩
      rw [← hbl] at HI HBL
      clear hbl hkk hz0 hb
      subst hmp
      cases bl
      · have HR : Hid (R = false) := Lib.hid (by rw [HT3.out]; unfold declE; rw [HLA.out]; simp [← HBL.out])
        clear hq0 hd0 HT3 HT2
        go_wp2_with (fail)
        refine HI.out.mono ?_
        rintro e w2 ⟨rfl, hb2⟩
        have HB2 := Lib.hid hb2
        clear hb2
        go_wp2_with (fail)
        go_ret
        exact ⟨by rw [HR.out]; rfl, HB.out.trans (HB2.out.mono HB.out.size)⟩
      · have HR : Hid (R = decide (P = 3)) := Lib.hid (by
          rw [HT3.out]; unfold declE; rw [HLA.out]; simp [← HBL.out]
          have := HP.out; have := HNN.out; omega)
        by_cases c3 : P = 3
        · have HR : Hid (R = true) := Lib.hid (by rw [HR.out]; simp [c3])
          subst c3
          clear hq0 hd0 HT3 HT2
          go_wp2_with (fail)
          refine HI.out.mono ?_
          rintro e w2 ⟨rfl, hb2⟩
          obtain ⟨v0, v1, v2, v3, v4⟩ := boxed_on HX.out HHW.out hb2
          have HB2 := Lib.hid hb2
          clear hb2
          go_wp2_with (fail)
          go_ret
          exact ⟨by rw [HR.out]; rfl, HB.out.trans (HB2.out.mono HB.out.size)⟩
        · have HR : Hid (R = false) := Lib.hid (by rw [HR.out]; simp [c3])
          have e3 : ((P : Int) == 3) = false := beq_eq_false_iff_ne.2 (by omega)
          clear hq0 hd0 HT3 HT2 c3
          go_wp2_with (fail)
          refine HI.out.mono ?_
          rintro e w2 ⟨rfl, hb2⟩
          obtain ⟨v0, v1, v2, v3, v4⟩ := boxed_on HX.out HHW.out hb2
          have HB2 := Lib.hid hb2
          clear hb2
          go_wp2_with (fail)
          go_ret
          exact ⟨by rw [HR.out]; rfl, HB.out.trans (HB2.out.mono HB.out.size)⟩

set_option maxHeartbeats 2000000 in
set_option maxRecDepth 100000 in
theorem decl_other {G : Nat → Prop} (k a n : Int) (nm : List UInt8) (l : List NT) (c51 : k ≠ 51) (c52 : k ≠ 52) (c53 : k ≠ 53) (c54 : k ≠ 54) (cn : n = 0) (hnamed : named nm = true) (hl0 : 0 < l.length) : IsOf G 35 declN (.mk k a n nm l) := by
  intro hd s w h
  have hdd := hd
  obtain ⟨_, _, _, hnm⟩ := hd
  change nm.length ≤ _ at hnm
  change Kids G w l s at h
  obtain ⟨A, cap, rfl, hl⟩ := h.form
  show Calls Tryd.prog 35 #[.agg #[.int .i64 k, .int .i64 a, .int .i64 n, .string ⟨nm.toArray⟩, .slice A l.length cap]] w fun e w' => e = .returned (.bool (declN (NT.mk k a n nm l))) ∧ Below w.heap.size w w'
  have HT := Lib.hid (decl_mk k a n nm l)
  obtain ⟨R, hR⟩ : ∃ R, R = (declN (NT.mk k a n nm l)) := ⟨_, rfl⟩
  rw [← hR] at HT ⊢
  obtain ⟨H, hH⟩ : ∃ H, H = w.heap.size := ⟨_, rfl⟩
  obtain ⟨W, hW⟩ : ∃ W, W = w.alloc (.cells #[.int .i64 k, .int .i64 a, .int .i64 n, .string ⟨nm.toArray⟩, .slice A l.length cap] NodeT) := ⟨_, rfl⟩
  obtain ⟨⟨x0, x1, x2, x3, x4⟩, HB, HHW⟩ := boxed hH hW
  have HX := Lib.hid (And.intro x0 (And.intro x1 (And.intro x2 (And.intro x3 x4))))
  have HAL : Hid (∀ w', Below W.heap.size W w' → Calls Tryd.prog 49 #[.agg #[.int .i64 k, .int .i64 a, .int .i64 n, .string ⟨nm.toArray⟩, .slice A l.length cap]] w' fun e w'' => e = .returned (.bool (aloneN n nm)) ∧ Below W.heap.size W w'') := Lib.hid fun w' hb => (ralone_any (.mk k a n nm l) (.slice A l.length cap) w').mono fun e w'' ⟨h1, h2⟩ => ⟨h1, hb.trans (h2.mono hb.size)⟩
  have HNM : Hid (∀ w', Below W.heap.size W w' → Calls Tryd.prog 48 #[.string ⟨nm.toArray⟩] w' fun e w'' => e = .returned (.bool (named nm)) ∧ Below W.heap.size W w'') := Lib.hid fun w' hb => (rnamed_any nm w' hnm).mono fun e w'' ⟨h1, h2⟩ => ⟨h1, hb.trans (h2.mono hb.size)⟩
  have HK := Lib.hid (h.below HB.out)
  obtain ⟨N, hN⟩ : ∃ N, N = l.length := ⟨_, rfl⟩
  rw [← hN] at hl x4 hW HX HK HAL ⊢
  have HW := Lib.hid hW
  have HHH := Lib.hid hH
  have HNN := Lib.hid hN
  have HB0 : Hid (Below W.heap.size W W) := Lib.hid (Below.refl _ _)
  obtain ⟨al, hal⟩ : ∃ al, al = aloneN n nm := ⟨_, rfl⟩
  rw [← hal] at HAL
  obtain ⟨B, hB⟩ : ∃ B, B = named nm := ⟨_, rfl⟩
  rw [← hB] at HT HNM
  have HAQ := Lib.hid hal
  have HBQ := Lib.hid hB
  clear h hN hW hH hR hdd hal hB
  obtain rfl : B = true := by rw [HBQ.out]; exact hnamed
  clear HAL HAQ HBQ hnamed
  have hN0 : 0 < N := by rw [HNN.out]; exact hl0
  have eN0 : ((N : Int) == 0) = false := beq_eq_false_iff_ne.2 (by omega)
  subst cn
  have d51 : (k == 51) = false := beq_eq_false_iff_ne.2 c51
  have d52 : (k == 52) = false := beq_eq_false_iff_ne.2 c52
  have d53 : (k == 53) = false := beq_eq_false_iff_ne.2 c53
  have d54 : (k == 54) = false := beq_eq_false_iff_ne.2 c54
  have hP : N = N := rfl
  have hPN : N ≤ N := by omega
  have hP0 : ¬ (N : Int) < 0 := by omega
  have HT2 : Hid (R = ((l.take N).all paramN && declE k l)) := Lib.hid (by
      have e : (declP k l).toNat = N := by unfold declP; rw [← HNN.out]; simp [c53, c54]
      rw [HT.out, e]
      have hne : l.isEmpty = false := by rw [List.isEmpty_eq_false_iff]; intro h; rw [h] at hl0; simp at hl0
      rw [hne]; simp [c52])
  clear HT
  have HP := Lib.hid hP
  clear hP
  go_enter Tryd.func35, Tryd.ntmps35
  go_wp2_with (first | (rw [← HW.out, ← HHH.out]))
  refine (HNM.out _ HB0.out).mono ?_
  rintro e w1 ⟨rfl, hb1⟩
  obtain ⟨y0, y1, y2, y3, y4⟩ := boxed_on HX.out HHW.out hb1
  have HB1 := Lib.hid hb1
  clear hb1 x0 x1 x2 x3 x4
  go_wp2_with (fail)
  go_loopw [5] (fun i wr => DcRel W N l i wr) (fun i _ => N - (intOf i).toNat)
  case atStart => unfold DcRel; exact ⟨0, Nat.zero_le _, rfl, Lib.hid (by rw [List.take_zero]; rfl), HB1.out⟩
  case round =>
    obtain ⟨j, hj, rfl, HM, hb⟩ := hrel
    obtain ⟨z0, z1, z2, z3, z4⟩ := boxed_on HX.out HHW.out hb
    by_cases hlt : j < N
    · have hjl : j < l.length := by have := HNN.out; omega
      obtain ⟨bb, off, hA⟩ := kids_addr HK.out hl0
      subst hA
      obtain ⟨A0, M0, p0, k0, a0, n0, s0, hq0, hd0, hz0⟩ := kid_in HK.out j hjl
      obtain ⟨⟨c0, c1, c2, c3, c4⟩, hkk⟩ := hz0 wr hb
      have HI := Lib.hid (kid_is (f := paramN) hq0 hd0 (rparam_any _) (fun w' hb' => (hz0 w' hb').2) wr hb)
      have HU := Lib.hid (all_take paramN l j hjl)
      have HU2 := Lib.hid (all_bad paramN l N j hlt hjl)
      obtain ⟨r, hr⟩ : ∃ r, r = paramN l[j] := ⟨_, rfl⟩
      rw [← hr] at HI HU HU2
      have hjN : (j : Int) < (N : Int) := by omega
      clear hkk hr hq0 hd0 hz0 hb
      cases r
      · go_wp2_with (fail)
        refine HI.out.mono ?_
        rintro e w2 ⟨rfl, hb2⟩
        have HB2 := Lib.hid hb2
        clear hb2
        go_wp2_with (fail)
        go_ret
        exact ⟨by rw [HT2.out, HU2.out (by simp)]; rfl, HB.out.trans (HB2.out.mono HB.out.size)⟩
      · go_wp2_with (fail)
        refine HI.out.mono ?_
        rintro e w2 ⟨rfl, hb2⟩
        have HB2 := Lib.hid hb2
        clear hb2
        go_wp2_with (fail)
        go_roundw
        case rel => unfold DcRel; exact ⟨j + 1, by omega, by go_num, Lib.hid (by rw [HU.out, HM.out]; rfl), HB2.out⟩
        case measure => simp [intOf]; omega
    · obtain rfl : N = j := by omega
      have HF : Hid ((l.take N).all paramN = true) := Lib.hid HM.out
      have HT3 : Hid (R = declE k l) := Lib.hid (by rw [HT2.out, HF.out]; simp)
      have HBR := Lib.hid hb
      obtain ⟨bb, off, hA⟩ := kids_addr HK.out hl0
      subst hA
      obtain ⟨m, hm⟩ : ∃ m, l.length = m + 1 := ⟨l.length - 1, by omega⟩
      have hml : m < l.length := by omega
      obtain ⟨A0, M0, p0, k0, a0, n0, s0, hq0, hd0, hz0⟩ := kid_in HK.out m hml
      obtain ⟨⟨c0, c1, c2, c3, c4⟩, hkk⟩ := hz0 wr hb
      have HI := Lib.hid (kid_kind 30 hq0 hd0 (rstmt_any _) (fun w' hb' => (hz0 w' hb').2) wr hb)
      have hNm : (N : Int) - 1 = (m : Int) := by have := HNN.out; omega
      have hNm2 : (m : Int) < (N : Int) := by have := HNN.out; omega
      have HBL : Hid ((decide (k0 = 30) && l[m].stmt) = l[m].blk) := Lib.hid (by unfold NT.blk; rw [hq0.1])
      have HLA : Hid (l.getLast? = some l[m]) := Lib.hid (by rw [List.getLast?_eq_getElem?, List.getElem?_eq_getElem (by omega)]; congr 2; omega)
      obtain ⟨bl, hbl⟩ : ∃ bl, bl = (decide (k0 = 30) && l[m].stmt) := ⟨_, rfl⟩
      rw [← hbl] at HI HBL
      clear hbl hkk hz0 hb
      have hbf : bl = false := by
        rw [HBL.out]
        have h := HF.out
        have hPP : N = m + 1 := by have := HP.out; have := HNN.out; omega
        have hp : paramN l[m] = true := by
          rw [List.all_eq_true] at h
          exact h _ (List.mem_take_iff_getElem.2 ⟨m, by omega, rfl⟩)
        unfold paramN at hp
        simp only [Bool.and_eq_true, decide_eq_true_eq] at hp
        unfold NT.blk
        rw [hp.1.1.1]
        rfl
      subst hbf
      have HR : Hid (R = false) := Lib.hid (by rw [HT3.out]; unfold declE; simp [c51, c53, c54])
      clear hq0 hd0 HT3 HT2 c51 c52 c53 c54
      go_wp2_with (fail)
      refine HI.out.mono ?_
      rintro e w2 ⟨rfl, hb2⟩
      have HB2 := Lib.hid hb2
      clear hb2
      go_wp2_with (fail)
      go_ret
      exact ⟨by rw [HR.out]; rfl, HB.out.trans (HB2.out.mono HB.out.size)⟩

set_option maxHeartbeats 2000000 in
set_option maxRecDepth 100000 in
theorem decl_53 {G : Nat → Prop} (k a n : Int) (nm : List UInt8) (l : List NT) (ck : k = 53) (cn : n = 0) (hnamed : named nm = true) (hl0 : 0 < l.length) : IsOf G 35 declN (.mk k a n nm l) := by
  intro hd s w h
  have hdd := hd
  obtain ⟨_, _, _, hnm⟩ := hd
  change nm.length ≤ _ at hnm
  change Kids G w l s at h
  obtain ⟨A, cap, rfl, hl⟩ := h.form
  show Calls Tryd.prog 35 #[.agg #[.int .i64 k, .int .i64 a, .int .i64 n, .string ⟨nm.toArray⟩, .slice A l.length cap]] w fun e w' => e = .returned (.bool (declN (NT.mk k a n nm l))) ∧ Below w.heap.size w w'
  have HT := Lib.hid (decl_mk k a n nm l)
  obtain ⟨R, hR⟩ : ∃ R, R = (declN (NT.mk k a n nm l)) := ⟨_, rfl⟩
  rw [← hR] at HT ⊢
  obtain ⟨H, hH⟩ : ∃ H, H = w.heap.size := ⟨_, rfl⟩
  obtain ⟨W, hW⟩ : ∃ W, W = w.alloc (.cells #[.int .i64 k, .int .i64 a, .int .i64 n, .string ⟨nm.toArray⟩, .slice A l.length cap] NodeT) := ⟨_, rfl⟩
  obtain ⟨⟨x0, x1, x2, x3, x4⟩, HB, HHW⟩ := boxed hH hW
  have HX := Lib.hid (And.intro x0 (And.intro x1 (And.intro x2 (And.intro x3 x4))))
  have HAL : Hid (∀ w', Below W.heap.size W w' → Calls Tryd.prog 49 #[.agg #[.int .i64 k, .int .i64 a, .int .i64 n, .string ⟨nm.toArray⟩, .slice A l.length cap]] w' fun e w'' => e = .returned (.bool (aloneN n nm)) ∧ Below W.heap.size W w'') := Lib.hid fun w' hb => (ralone_any (.mk k a n nm l) (.slice A l.length cap) w').mono fun e w'' ⟨h1, h2⟩ => ⟨h1, hb.trans (h2.mono hb.size)⟩
  have HNM : Hid (∀ w', Below W.heap.size W w' → Calls Tryd.prog 48 #[.string ⟨nm.toArray⟩] w' fun e w'' => e = .returned (.bool (named nm)) ∧ Below W.heap.size W w'') := Lib.hid fun w' hb => (rnamed_any nm w' hnm).mono fun e w'' ⟨h1, h2⟩ => ⟨h1, hb.trans (h2.mono hb.size)⟩
  have HK := Lib.hid (h.below HB.out)
  obtain ⟨N, hN⟩ : ∃ N, N = l.length := ⟨_, rfl⟩
  rw [← hN] at hl x4 hW HX HK HAL ⊢
  have HW := Lib.hid hW
  have HHH := Lib.hid hH
  have HNN := Lib.hid hN
  have HB0 : Hid (Below W.heap.size W W) := Lib.hid (Below.refl _ _)
  obtain ⟨al, hal⟩ : ∃ al, al = aloneN n nm := ⟨_, rfl⟩
  rw [← hal] at HAL
  obtain ⟨B, hB⟩ : ∃ B, B = named nm := ⟨_, rfl⟩
  rw [← hB] at HT HNM
  have HAQ := Lib.hid hal
  have HBQ := Lib.hid hB
  clear h hN hW hH hR hdd hal hB
  obtain rfl : B = true := by rw [HBQ.out]; exact hnamed
  clear HAL HAQ HBQ hnamed
  have hN0 : 0 < N := by rw [HNN.out]; exact hl0
  have eN0 : ((N : Int) == 0) = false := beq_eq_false_iff_ne.2 (by omega)
  subst cn
  subst ck
  by_cases hN1 : N = 1
  · have HR : Hid (R = false) := Lib.hid (by rw [HT.out]; simp [declE]; intro _ _ _ h; have := HNN.out; omega)
    subst hN1
    clear HT
    go_enter Tryd.func35, Tryd.ntmps35
    go_wp2_with (first | (rw [← HW.out, ← HHH.out]))
    refine (HNM.out _ HB0.out).mono ?_
    rintro e w1 ⟨rfl, hb1⟩
    obtain ⟨y10, y11, y12, y13, y14⟩ := boxed_on HX.out HHW.out hb1
    have HB1 := Lib.hid hb1
    clear hb1 x0 x1 x2 x3 x4
    go_wp2_with (fail)
    go_ret
    exact ⟨by rw [HR.out]; rfl, HB.out.trans (HB1.out.mono HB.out.size)⟩
  obtain ⟨P, hP⟩ : ∃ P, P = N - 2 := ⟨_, rfl⟩
  have hP2 : (N : Int) - 2 = (P : Int) := by omega
  have hw2 : IntKind.i64.wrap ((N : Int) - 2) = (P : Int) := by rw [hP2]; exact IntWalk.i64_in (P : Int) (by omega)
  have hPN : P ≤ N := by omega
  have hP0 : ¬ (P : Int) < 0 := by omega
  have HT2 : Hid (R = ((l.take P).all paramN && declE 53 l)) := Lib.hid (by
      have e : (declP 53 l).toNat = P := by unfold declP; rw [← HNN.out]; simp; omega
      rw [HT.out, e]
      have hne : l.isEmpty = false := by rw [List.isEmpty_eq_false_iff]; intro h; rw [h] at hl0; simp at hl0
      rw [hne]; simp)
  clear HT
  have HP := Lib.hid hP
  clear hP
  go_enter Tryd.func35, Tryd.ntmps35
  go_wp2_with (first | (rw [← HW.out, ← HHH.out]))
  refine (HNM.out _ HB0.out).mono ?_
  rintro e w1 ⟨rfl, hb1⟩
  obtain ⟨y0, y1, y2, y3, y4⟩ := boxed_on HX.out HHW.out hb1
  have HB1 := Lib.hid hb1
  clear hb1 x0 x1 x2 x3 x4
  go_wp2_with (fail)
  go_loopw [5] (fun i wr => DcRel W P l i wr) (fun i _ => P - (intOf i).toNat)
  case atStart => unfold DcRel; exact ⟨0, Nat.zero_le _, rfl, Lib.hid (by rw [List.take_zero]; rfl), HB1.out⟩
  case round =>
    obtain ⟨j, hj, rfl, HM, hb⟩ := hrel
    obtain ⟨z0, z1, z2, z3, z4⟩ := boxed_on HX.out HHW.out hb
    by_cases hlt : j < P
    · have hjl : j < l.length := by have := HNN.out; omega
      obtain ⟨bb, off, hA⟩ := kids_addr HK.out hl0
      subst hA
      obtain ⟨A0, M0, p0, k0, a0, n0, s0, hq0, hd0, hz0⟩ := kid_in HK.out j hjl
      obtain ⟨⟨c0, c1, c2, c3, c4⟩, hkk⟩ := hz0 wr hb
      have HI := Lib.hid (kid_is (f := paramN) hq0 hd0 (rparam_any _) (fun w' hb' => (hz0 w' hb').2) wr hb)
      have HU := Lib.hid (all_take paramN l j hjl)
      have HU2 := Lib.hid (all_bad paramN l P j hlt hjl)
      obtain ⟨r, hr⟩ : ∃ r, r = paramN l[j] := ⟨_, rfl⟩
      rw [← hr] at HI HU HU2
      have hjN : (j : Int) < (N : Int) := by omega
      clear hkk hr hq0 hd0 hz0 hb
      cases r
      · go_wp2_with (fail)
        refine HI.out.mono ?_
        rintro e w2 ⟨rfl, hb2⟩
        have HB2 := Lib.hid hb2
        clear hb2
        go_wp2_with (fail)
        go_ret
        exact ⟨by rw [HT2.out, HU2.out (by simp)]; rfl, HB.out.trans (HB2.out.mono HB.out.size)⟩
      · go_wp2_with (fail)
        refine HI.out.mono ?_
        rintro e w2 ⟨rfl, hb2⟩
        have HB2 := Lib.hid hb2
        clear hb2
        go_wp2_with (fail)
        go_roundw
        case rel => unfold DcRel; exact ⟨j + 1, by omega, by go_num, Lib.hid (by rw [HU.out, HM.out]; rfl), HB2.out⟩
        case measure => simp [intOf]; omega
    · obtain rfl : P = j := by omega
      have HF : Hid ((l.take P).all paramN = true) := Lib.hid HM.out
      have HT3 : Hid (R = declE 53 l) := Lib.hid (by rw [HT2.out, HF.out]; simp)
      have HBR := Lib.hid hb
      obtain ⟨bb, off, hA⟩ := kids_addr HK.out hl0
      subst hA
      obtain ⟨m, hm⟩ : ∃ m, l.length = m + 1 := ⟨l.length - 1, by omega⟩
      have hml : m < l.length := by omega
      obtain ⟨A0, M0, p0, k0, a0, n0, s0, hq0, hd0, hz0⟩ := kid_in HK.out m hml
      obtain ⟨⟨c0, c1, c2, c3, c4⟩, hkk⟩ := hz0 wr hb
      have HI := Lib.hid (kid_kind 30 hq0 hd0 (rstmt_any _) (fun w' hb' => (hz0 w' hb').2) wr hb)
      have hNm : (N : Int) - 1 = (m : Int) := by have := HNN.out; omega
      have hNm2 : (m : Int) < (N : Int) := by have := HNN.out; omega
      have HBL : Hid ((decide (k0 = 30) && l[m].stmt) = l[m].blk) := Lib.hid (by unfold NT.blk; rw [hq0.1])
      have HLA : Hid (l.getLast? = some l[m]) := Lib.hid (by rw [List.getLast?_eq_getElem?, List.getElem?_eq_getElem (by omega)]; congr 2; omega)
      obtain ⟨bl, hbl⟩ : ∃ bl, bl = (decide (k0 = 30) && l[m].stmt) := ⟨_, rfl⟩
      rw [← hbl] at HI HBL
      clear hbl hkk hz0 hb
      cases bl
      · have HR : Hid (R = false) := Lib.hid (by rw [HT3.out]; unfold declE; rw [HLA.out]; simp [← HBL.out])
        clear hq0 hd0 HT3 HT2
        go_wp2_with (fail)
        refine HI.out.mono ?_
        rintro e w2 ⟨rfl, hb2⟩
        have HB2 := Lib.hid hb2
        clear hb2
        go_wp2_with (fail)
        go_ret
        exact ⟨by rw [HR.out]; rfl, HB.out.trans (HB2.out.mono HB.out.size)⟩
      · have hPl : P < l.length := by have := HP.out; have := HNN.out; omega
        have HR : Hid (R = l[P].answer) := Lib.hid (by
          have e : l.length - 2 = P := by have := HP.out; have := HNN.out; omega
          rw [HT3.out]; unfold declE; rw [HLA.out, e, List.getElem?_eq_getElem hPl]; simp [← HBL.out]
          intro _; have := HP.out; have := HNN.out; omega)
        obtain ⟨A1, M1, p1, k1, a1, n1, s1, hq1, hd1, hz1⟩ := kid_in HK.out P hPl
        have HZ1 := Lib.hid (fun w' hb => (hz1 w' hb).1)
        have HTY := Lib.hid (kid_is2 (f := NT.typ) hq1 hd1 (rtyp_any _) (fun w' hb' => (hz1 w' hb').2))
        have HA1 := Lib.hid (kid_alone hq1 (.slice A1 M1 p1))
        have HM1 : Hid (M1 = l[P].kids.length) := Lib.hid (by
          obtain ⟨_, _, hs, _⟩ := (hz1 W (Below.refl _ _)).2
          injection hs)
        have HAN : Hid (l[P].answer = (l[P].typ || (decide (k1 = 0) && aloneN n1 s1 && decide (M1 = 0)))) := Lib.hid (by
          unfold NT.answer
          rw [HM1.out, hq1.1, hq1.2.2.1, hq1.2.2.2]
          congr 2
          rw [Bool.eq_iff_iff]; simp)
        obtain ⟨T, hT⟩ : ∃ T, T = l[P].typ := ⟨_, rfl⟩
        rw [← hT] at HTY HAN
        obtain ⟨al1, hal1⟩ : ∃ al1, al1 = aloneN n1 s1 := ⟨_, rfl⟩
        rw [← hal1] at HA1 HAN
        have HR2 : Hid (R = (T || (decide (k1 = 0) && al1 && decide (M1 = 0)))) := Lib.hid (by rw [HR.out, HAN.out])
        have hcap := kids_cap HK.out
        have hsl : ∀ w, (Instr.slice 22 (.slice (some ⟨bb, off, none⟩) N cap) (some (.int .i64 P)) none none).run Tryd.prog w = .ok (.slice (some ⟨bb, off + P * 5, none⟩) 2 (cap - P)) w := fun w => by
          have hlN := HNN.out
          have hPP := HP.out
          rw [slice_from P N (by omega) (some ⟨bb, off, none⟩) cap w, sliced_in (by omega) (by omega), show N - P = 2 by omega]
        clear hT hal1 HR HAN hq0 hd0 hq1 hd1 hz1 HT3 HT2 hcap HM1
        go_wp2_with (fail)
        refine HI.out.mono ?_
        rintro e w2 ⟨rfl, hb2⟩
        obtain ⟨v0, v1, v2, v3, v4⟩ := boxed_on HX.out HHW.out hb2
        obtain ⟨q0, q1, q2, q3, q4⟩ := HZ1.out w2 hb2
        have HB2 := Lib.hid hb2
        clear hb2 z0 z1 z2 z3 z4 c0 c1 c2 c3 c4
        obtain ⟨V, hV⟩ : ∃ V, V = w2.alloc (.cells #[.int .i64 k1, .int .i64 a1, .int .i64 n1, .string ⟨s1.toArray⟩, .slice A1 M1 p1] NodeT) := ⟨_, rfl⟩
        obtain ⟨H3, hH3⟩ : ∃ H3, H3 = w2.heap.size := ⟨_, rfl⟩
        obtain ⟨hbx, HBV, HHV⟩ := boxed hH3 hV
        have hbV : Below W.heap.size W V := HB2.out.trans (HBV.out.mono HB2.out.size)
        have hxV := boxed_on HX.out HHW.out hbV
        have HBX := Lib.hid hbx
        have HVW := Lib.hid hV
        have HH3 := Lib.hid hH3
        have HBVW := Lib.hid hbV
        have HXV := Lib.hid hxV
        clear hV hH3 hbx hbV hxV
        obtain ⟨g0, g1, g2, g3, g4⟩ := HBX.out
        obtain ⟨f0, f1, f2, f3, f4⟩ := HXV.out
        go_wp2_with (first | (rw [← HVW.out, ← HH3.out]))
        have HVB : Hid (Below W.heap.size W V) := HBVW
        refine (HTY.out V HBVW.out).mono ?_
        rintro e w3 ⟨rfl, hb3⟩
        obtain ⟨r0, r1, r2, r3, r4⟩ := boxed_on HBX.out HHV.out hb3
        have HB3 := Lib.hid (HBVW.out.trans (hb3.mono HBVW.out.size))
        have HV3 := Lib.hid hb3
        clear hb3 g0 g1 g2 g3 g4 f0 f1 f2 f3 f4 v0 v1 v2 v3 v4 q0 q1 q2 q3 q4
        cases T
        · by_cases c0 : k1 = 0
          · subst c0
            cases al1
            · have HR3 : Hid (R = false) := Lib.hid (by rw [HR2.out]; rfl)
              go_wp2_with (fail)
              refine (HA1.out _).mono ?_
              rintro e w4 ⟨rfl, hb4⟩
              have HB4 := Lib.hid (HB3.out.trans (hb4.mono HB3.out.size))
              clear hb4
              go_wp2_with (fail)
              go_ret
              exact ⟨by rw [HR3.out]; rfl, HB.out.trans (HB4.out.mono HB.out.size)⟩
            · by_cases cM : M1 = 0
              · subst cM
                have HR3 : Hid (R = true) := Lib.hid (by rw [HR2.out]; rfl)
                go_wp2_with (fail)
                refine (HA1.out _).mono ?_
                rintro e w4 ⟨rfl, hb4⟩
                obtain ⟨t0, t1, t2, t3, t4⟩ := boxed_on HBX.out HHV.out (HV3.out.trans (hb4.mono HV3.out.size))
                have HB4 := Lib.hid (HB3.out.trans (hb4.mono HB3.out.size))
                clear hb4
                go_wp2_with (fail)
                go_ret
                exact ⟨by rw [HR3.out]; rfl, HB.out.trans (HB4.out.mono HB.out.size)⟩
              · have HR3 : Hid (R = false) := Lib.hid (by rw [HR2.out]; simp [cM])
                have eM : ((M1 : Int) == 0) = false := beq_eq_false_iff_ne.2 (by omega)
                go_wp2_with (fail)
                refine (HA1.out _).mono ?_
                rintro e w4 ⟨rfl, hb4⟩
                obtain ⟨t0, t1, t2, t3, t4⟩ := boxed_on HBX.out HHV.out (HV3.out.trans (hb4.mono HV3.out.size))
                have HB4 := Lib.hid (HB3.out.trans (hb4.mono HB3.out.size))
                clear hb4
                go_wp2_with (fail)
                go_ret
                exact ⟨by rw [HR3.out]; rfl, HB.out.trans (HB4.out.mono HB.out.size)⟩
          · have HR3 : Hid (R = false) := Lib.hid (by rw [HR2.out]; simp [c0])
            have e0 : (k1 == 0) = false := beq_eq_false_iff_ne.2 c0
            clear c0
            go_wp2_with (fail)
            go_ret
            exact ⟨by rw [HR3.out]; rfl, HB.out.trans (HB3.out.mono HB.out.size)⟩
        · have HR3 : Hid (R = true) := Lib.hid (by rw [HR2.out]; rfl)
          go_wp2_with (fail)
          go_ret
          exact ⟨by rw [HR3.out]; rfl, HB.out.trans (HB3.out.mono HB.out.size)⟩

theorem rdecl_any {G : Nat → Prop} (t : NT) : IsOf G 35 declN t := by
  obtain ⟨k, a, n, nm, l⟩ := t
  by_cases h1 : named nm = true
  · by_cases h2 : 0 < l.length
    · by_cases c52 : k = 52
      · exact decl_52 k a n nm l c52 h1 h2
      by_cases cn : n = 0
      · by_cases c51 : k = 51
        · exact decl_51 k a n nm l c51 cn h1 h2
        by_cases c53 : k = 53
        · exact decl_53 k a n nm l c53 cn h1 h2
        by_cases c54 : k = 54
        · exact decl_54 k a n nm l c54 cn h1 h2
        exact decl_other k a n nm l c51 c52 c53 c54 cn h1 h2
      · exact decl_num k a n nm l c52 cn h1 h2
    · exact decl_none k a n nm l (Or.inr (List.eq_nil_of_length_eq_zero (by omega)))
  · exact decl_none k a n nm l (Or.inl (by simpa using h1))
end Go.Proofs.YtkmkeaeaalnbjaaDoor.nt

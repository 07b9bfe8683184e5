/- The document's own answer: which nodes are statements. -/
import Derived.Test.YtkmkeaeaalnbjaaDoorCNodePlace
namespace Go.Proofs.YtkmkeaeaalnbjaaDoor.nt
open Go.RowKit mem wd lx
open vt (I64 own_form)

theorem kids_addr {G : Nat → Prop} {W : World} {l : List NT} {A : Option Addr} {N cap : Nat} (h : Kids G W l (.slice A N cap)) (h0 : 0 < l.length) : ∃ b off, A = some ⟨b, off, none⟩ := by
  obtain ⟨b, off, _, _, hA, _⟩ := kid_all h 0 h0
  exact ⟨b, off, hA⟩
theorem kid_in {G : Nat → Prop} {W : World} {l : List NT} {b off N cap : Nat} (h : Kids G W l (.slice (some ⟨b, off, none⟩) N cap)) (i : Nat) (hi : i < l.length) :
    ∃ A2 M c2 k a n s, (k = l[i].kind ∧ a = l[i].at_ ∧ n = l[i].num ∧ s = l[i].name) ∧ Hd l[i] ∧ ∀ w', Below W.heap.size W w' →
      (w'.cell? ⟨b, off + i * 5, none⟩ = some (.int .i64 k) ∧ w'.cell? ⟨b, off + i * 5 + 1, none⟩ = some (.int .i64 a) ∧ w'.cell? ⟨b, off + i * 5 + 2, none⟩ = some (.int .i64 n) ∧ w'.cell? ⟨b, off + i * 5 + 3, none⟩ = some (.string ⟨s.toArray⟩) ∧ w'.cell? ⟨b, off + i * 5 + 4, none⟩ = some (.slice A2 M c2)) ∧ Kids G w' l[i].kids (.slice A2 M c2) := by
  obtain ⟨b', off', A2, c2, hA, hd, hz⟩ := kid_all h i hi
  injection hA with hA
  injection hA with h1 h2 _
  subst h1; subst h2
  exact ⟨A2, _, c2, _, _, _, _, ⟨rfl, rfl, rfl, rfl⟩, hd, hz⟩
/-- an answer of one of the kids, at whatever world behind -/
theorem kid_is {G : Nat → Prop} {W : World} {l : List NT} {F : FuncId} {f : NT → Bool} {i : Nat} {hi : i < l.length} {A2 : Option Addr} {M c2 : Nat} {k a n : Int} {s : List UInt8} (hq : k = l[i].kind ∧ a = l[i].at_ ∧ n = l[i].num ∧ s = l[i].name) (hd : Hd l[i]) (hf : IsOf G F f l[i]) (hk : ∀ w', Below W.heap.size W w' → Kids G w' l[i].kids (.slice A2 M c2)) :
    ∀ w', Below W.heap.size W w' → Calls Tryd.prog F #[.agg #[.int .i64 k, .int .i64 a, .int .i64 n, .string ⟨s.toArray⟩, .slice A2 M c2]] w' fun e w'' => e = .returned (.bool (f l[i])) ∧ Below W.heap.size W w'' := by
  intro w' hb
  obtain ⟨rfl, rfl, rfl, rfl⟩ := hq
  exact (hf hd _ w' (hk w' hb)).mono fun e w'' ⟨h1, h2⟩ => ⟨h1, hb.trans (h2.mono hb.size)⟩
theorem rkind_of {G : Nat → Prop} (t : NT) (hs : IsOf G 33 NT.stmt t) (q : Int) (hd : Hd t) (s : Value) (w : World) (h : Kids G w t.kids s) :
    Calls Tryd.prog 53 #[.agg #[.int .i64 t.kind, .int .i64 t.at_, .int .i64 t.num, .string ⟨t.name.toArray⟩, s], .int .i64 q] w fun e w' => e = .returned (.bool (decide (t.kind = q) && t.stmt)) ∧ Below w.heap.size w w' := by
  obtain ⟨A, cap, rfl, hl⟩ := h.form
  have HS := Lib.hid (fun w' (hb : Below w.heap.size w w') => hs hd (.slice A t.kids.length cap) w' (h.below hb))
  obtain ⟨N, hN⟩ : ∃ N, N = t.kids.length := ⟨_, rfl⟩
  rw [← hN] at HS ⊢
  obtain ⟨k, hk⟩ : ∃ k, k = t.kind := ⟨_, rfl⟩
  obtain ⟨a, ha⟩ : ∃ a, a = t.at_ := ⟨_, rfl⟩
  obtain ⟨n, hn⟩ : ∃ n, n = t.num := ⟨_, rfl⟩
  obtain ⟨nm, hnm⟩ : ∃ nm, nm = t.name := ⟨_, rfl⟩
  obtain ⟨S, hS⟩ : ∃ S, S = t.stmt := ⟨_, rfl⟩
  rw [← hk, ← ha, ← hn, ← hnm, ← hS] at HS ⊢
  clear h hd hN hk ha hn hnm hS hs hl
  obtain ⟨H, hH⟩ : ∃ H, H = w.heap.size := ⟨_, rfl⟩
  obtain ⟨W, hW⟩ : ∃ W, W = w.alloc (.cells #[.int .i64 k, .int .i64 a, .int .i64 n, .string ⟨nm.toArray⟩, .slice A N cap] NodeT) := ⟨_, rfl⟩
  obtain ⟨⟨x0, x1, x2, x3, x4⟩, HB, HHW⟩ := boxed hH hW
  have HI := Lib.hid (HS.out W HB.out)
  have HW := Lib.hid hW
  have HHH := Lib.hid hH
  clear hW hH HS
  by_cases c1 : k = q
  · subst c1
    go_enter Tryd.func53, Tryd.ntmps53
    go_wp2_with (first | (rw [← HW.out, ← HHH.out]))
    refine HI.out.mono ?_
    rintro e w1 ⟨rfl, hb1⟩
    have HB1 := Lib.hid (HB.out.trans (hb1.mono HB.out.size))
    clear hb1
    go_wp2_with (fail)
    go_ret
    exact ⟨by simp, HB1.out⟩
  · have e1 : (k == q) = false := beq_eq_false_iff_ne.2 c1
    have HR : Hid ((decide (k = q) && S) = false) := Lib.hid (by simp [c1])
    clear c1
    go_enter Tryd.func53, Tryd.ntmps53
    go_wp2_with (first | (rw [← HW.out, ← HHH.out]))
    go_ret
    exact ⟨by rw [HR.out]; rfl, HB.out⟩
theorem kid_kind {G : Nat → Prop} {W : World} {l : List NT} {i : Nat} {hi : i < l.length} {A2 : Option Addr} {M c2 : Nat} {k a n : Int} {s : List UInt8} (q : Int) (hq : k = l[i].kind ∧ a = l[i].at_ ∧ n = l[i].num ∧ s = l[i].name) (hd : Hd l[i]) (hf : IsOf G 33 NT.stmt l[i]) (hk : ∀ w', Below W.heap.size W w' → Kids G w' l[i].kids (.slice A2 M c2)) :
    ∀ w', Below W.heap.size W w' → Calls Tryd.prog 53 #[.agg #[.int .i64 k, .int .i64 a, .int .i64 n, .string ⟨s.toArray⟩, .slice A2 M c2], .int .i64 q] w' fun e w'' => e = .returned (.bool (decide (k = q) && l[i].stmt)) ∧ Below W.heap.size W w'' := by
  intro w' hb
  obtain ⟨rfl, rfl, rfl, rfl⟩ := hq
  exact (rkind_of _ hf q hd _ w' (hk w' hb)).mono fun e w'' ⟨h1, h2⟩ => ⟨h1, hb.trans (h2.mono hb.size)⟩
def StRel (W : World) (N : Nat) (l : List NT) (i : Value) (wr : World) : Prop := ∃ k : Nat, k ≤ N ∧ i = .int .i64 k ∧ Hid (stmtL (l.take k) = true) ∧ Below W.heap.size W wr
theorem stmtL_take (l : List NT) (k : Nat) (h : k < l.length) : stmtL (l.take (k + 1)) = (stmtL (l.take k) && l[k].stmt) := by
  rw [List.take_succ_eq_append_getElem h, stmtL_all, stmtL_all, List.all_append]; simp
theorem stmtL_bad (l : List NT) (k : Nat) (h : k < l.length) (hr : l[k].stmt = false) : stmtL l = false := by
  rw [stmtL_all, List.all_eq_false]; exact ⟨l[k], List.getElem_mem h, by simp [hr]⟩
theorem expr1_one (v : NT) : expr1 [v] = v.expr := rfl
theorem expr1_no {l : List NT} (h : l.length ≠ 1) : expr1 l = false := by
  match l, h with
  | [], _ => rfl
  | [_], h => simp at h
  | _ :: _ :: _, _ => rfl
theorem do1_no {l : List NT} (h : l.length ≠ 1) : do1 l = false := by
  match l, h with
  | [], _ => rfl
  | [_], h => simp at h
  | _ :: _ :: _, _ => rfl
theorem set2_no {l : List NT} (h : l.length ≠ 2) : set2 l = false := by
  match l, h with
  | [], _ => rfl
  | [_], _ => rfl
  | [_, _], h => simp at h
  | _ :: _ :: _ :: _, _ => rfl
theorem ifH_few {b : Bool} {l : List NT} (h : l.length < 2) : ifH b l = false := by
  match l, h with
  | [], _ => rw [ifH]
  | [v], _ => rw [ifH, ifL]; simp
  | _ :: _ :: _, h => simp at h; omega
theorem ifH_two {b : Bool} {u v : NT} : ifH b [u, v] = (u.expr && (decide (v.kind = 30) && v.stmt)) := by rw [ifH, ifL]
theorem ifH_three {b : Bool} {u v x : NT} : ifH b [u, v, x] = (u.expr && (decide (v.kind = 30) && v.stmt && (b && ((decide (x.kind = 30) && x.stmt) || (decide (x.kind = 33) && x.stmt))))) := by rw [ifH, ifL]
theorem ifH_more {b : Bool} {u v x y : NT} {r : List NT} : ifH b (u :: v :: x :: y :: r) = false := by rw [ifH, ifL]; simp

set_option maxHeartbeats 2000000 in
set_option maxRecDepth 100000 in
theorem stmt_alone {G : Nat → Prop} (k a n : Int) (nm : List UInt8) (l : List NT) (ih : ∀ u ∈ l, IsOf G 33 NT.stmt u) (c31 : (k == 31) = false) (c36 : (k == 36) = false) (hal : aloneN n nm = false) : IsOf G 33 NT.stmt (.mk k a n nm l) := by
  intro hd s w h
  have hdd := hd
  obtain ⟨_, _, _, hnm⟩ := hd
  change nm.length ≤ _ at hnm
  change Kids G w l s at h
  obtain ⟨A, cap, rfl, hl⟩ := h.form
  show Calls Tryd.prog 33 #[.agg #[.int .i64 k, .int .i64 a, .int .i64 n, .string ⟨nm.toArray⟩, .slice A l.length cap]] w fun e w' => e = .returned (.bool (NT.mk k a n nm l).stmt) ∧ Below w.heap.size w w'
  have HT := Lib.hid (stmt_mk k a n nm l)
  obtain ⟨R, hR⟩ : ∃ R, R = (NT.mk k a n nm l).stmt := ⟨_, rfl⟩
  rw [← hR] at HT ⊢
  obtain ⟨H, hH⟩ : ∃ H, H = w.heap.size := ⟨_, rfl⟩
  obtain ⟨W, hW⟩ : ∃ W, W = w.alloc (.cells #[.int .i64 k, .int .i64 a, .int .i64 n, .string ⟨nm.toArray⟩, .slice A l.length cap] NodeT) := ⟨_, rfl⟩
  obtain ⟨⟨x0, x1, x2, x3, x4⟩, HB, HHW⟩ := boxed hH hW
  have HX := Lib.hid (And.intro x0 (And.intro x1 (And.intro x2 (And.intro x3 x4))))
  have HAL : Hid (∀ w', Below W.heap.size W w' → Calls Tryd.prog 49 #[.agg #[.int .i64 k, .int .i64 a, .int .i64 n, .string ⟨nm.toArray⟩, .slice A l.length cap]] w' fun e w'' => e = .returned (.bool (aloneN n nm)) ∧ Below W.heap.size W w'') := Lib.hid fun w' hb => (ralone_any (.mk k a n nm l) (.slice A l.length cap) w').mono fun e w'' ⟨h1, h2⟩ => ⟨h1, hb.trans (h2.mono hb.size)⟩
  have HNM : Hid (∀ w', Below W.heap.size W w' → Calls Tryd.prog 48 #[.string ⟨nm.toArray⟩] w' fun e w'' => e = .returned (.bool (named nm)) ∧ Below W.heap.size W w'') := Lib.hid fun w' hb => (rnamed_any nm w' hnm).mono fun e w'' ⟨h1, h2⟩ => ⟨h1, hb.trans (h2.mono hb.size)⟩
  have HK := Lib.hid (h.below HB.out)
  have IH := Lib.hid ih
  obtain ⟨N, hN⟩ : ∃ N, N = l.length := ⟨_, rfl⟩
  rw [← hN] at hl x4 hW HX HK HAL ⊢
  have HW := Lib.hid hW
  have HHH := Lib.hid hH
  have HNN := Lib.hid hN
  have HB0 : Hid (Below W.heap.size W W) := Lib.hid (Below.refl _ _)
  obtain ⟨al, hal⟩ : ∃ al, al = aloneN n nm := ⟨_, rfl⟩
  rw [← hal] at HT HAL
  obtain ⟨B, hB⟩ : ∃ B, B = named nm := ⟨_, rfl⟩
  rw [← hB] at HT HNM
  have HAQ := Lib.hid hal
  have HBQ := Lib.hid hB
  clear h ih hN hW hH hR hdd hal hB
  obtain rfl : al = false := by rw [HAQ.out]; exact hal
  have HR : Hid (R = false) := Lib.hid (by rw [HT.out, if_neg (by have h1 := beq_eq_false_iff_ne.1 c31; have h2 := beq_eq_false_iff_ne.1 c36; omega), if_pos rfl])
  clear hal HAQ HT
  go_enter Tryd.func33, Tryd.ntmps33
  go_wp2_with (first | (rw [← HW.out, ← HHH.out]))
  refine (HAL.out _ HB0.out).mono ?_
  rintro e w1 ⟨rfl, hb1⟩
  obtain ⟨y10, y11, y12, y13, y14⟩ := boxed_on HX.out HHW.out hb1
  have HB1 := Lib.hid hb1
  clear hb1 x0 x1 x2 x3 x4
  go_wp2_with (fail)
  go_ret
  exact ⟨by rw [HR.out]; rfl, HB.out.trans (HB1.out.mono HB.out.size)⟩

set_option maxHeartbeats 2000000 in
set_option maxRecDepth 100000 in
theorem stmt_31 {G : Nat → Prop} (k a n : Int) (nm : List UInt8) (l : List NT) (ih : ∀ u ∈ l, IsOf G 33 NT.stmt u) (ck : k = 31) : IsOf G 33 NT.stmt (.mk k a n nm l) := by
  intro hd s w h
  have hdd := hd
  obtain ⟨_, _, _, hnm⟩ := hd
  change nm.length ≤ _ at hnm
  change Kids G w l s at h
  obtain ⟨A, cap, rfl, hl⟩ := h.form
  show Calls Tryd.prog 33 #[.agg #[.int .i64 k, .int .i64 a, .int .i64 n, .string ⟨nm.toArray⟩, .slice A l.length cap]] w fun e w' => e = .returned (.bool (NT.mk k a n nm l).stmt) ∧ Below w.heap.size w w'
  have HT := Lib.hid (stmt_mk k a n nm l)
  obtain ⟨R, hR⟩ : ∃ R, R = (NT.mk k a n nm l).stmt := ⟨_, rfl⟩
  rw [← hR] at HT ⊢
  obtain ⟨H, hH⟩ : ∃ H, H = w.heap.size := ⟨_, rfl⟩
  obtain ⟨W, hW⟩ : ∃ W, W = w.alloc (.cells #[.int .i64 k, .int .i64 a, .int .i64 n, .string ⟨nm.toArray⟩, .slice A l.length cap] NodeT) := ⟨_, rfl⟩
  obtain ⟨⟨x0, x1, x2, x3, x4⟩, HB, HHW⟩ := boxed hH hW
  have HX := Lib.hid (And.intro x0 (And.intro x1 (And.intro x2 (And.intro x3 x4))))
  have HAL : Hid (∀ w', Below W.heap.size W w' → Calls Tryd.prog 49 #[.agg #[.int .i64 k, .int .i64 a, .int .i64 n, .string ⟨nm.toArray⟩, .slice A l.length cap]] w' fun e w'' => e = .returned (.bool (aloneN n nm)) ∧ Below W.heap.size W w'') := Lib.hid fun w' hb => (ralone_any (.mk k a n nm l) (.slice A l.length cap) w').mono fun e w'' ⟨h1, h2⟩ => ⟨h1, hb.trans (h2.mono hb.size)⟩
  have HNM : Hid (∀ w', Below W.heap.size W w' → Calls Tryd.prog 48 #[.string ⟨nm.toArray⟩] w' fun e w'' => e = .returned (.bool (named nm)) ∧ Below W.heap.size W w'') := Lib.hid fun w' hb => (rnamed_any nm w' hnm).mono fun e w'' ⟨h1, h2⟩ => ⟨h1, hb.trans (h2.mono hb.size)⟩
  have HK := Lib.hid (h.below HB.out)
  have IH := Lib.hid ih
  obtain ⟨N, hN⟩ : ∃ N, N = l.length := ⟨_, rfl⟩
  rw [← hN] at hl x4 hW HX HK HAL ⊢
  have HW := Lib.hid hW
  have HHH := Lib.hid hH
  have HNN := Lib.hid hN
  have HB0 : Hid (Below W.heap.size W W) := Lib.hid (Below.refl _ _)
  obtain ⟨al, hal⟩ : ∃ al, al = aloneN n nm := ⟨_, rfl⟩
  rw [← hal] at HT HAL
  obtain ⟨B, hB⟩ : ∃ B, B = named nm := ⟨_, rfl⟩
  rw [← hB] at HT HNM
  have HAQ := Lib.hid hal
  have HBQ := Lib.hid hB
  clear h ih hN hW hH hR hdd hal hB
  subst ck
  by_cases c1 : n ≠ 0
  · have e1 : (n != 0) = true := by rw [bne_iff_ne]; exact c1
    have HR : Hid (R = false) := Lib.hid (by rw [HT.out]; simp [c1])
    clear c1 HT HAQ
    go_enter Tryd.func33, Tryd.ntmps33
    go_wp2_with (first | (rw [← HW.out, ← HHH.out]))
    go_ret
    exact ⟨by rw [HR.out]; rfl, HB.out.trans (HB0.out.mono HB.out.size)⟩
  · have c1 : n = 0 := by simpa using c1
    subst c1
    cases B
    · have HR : Hid (R = false) := Lib.hid (by rw [HT.out]; simp)
      clear HT HAQ
      go_enter Tryd.func33, Tryd.ntmps33
      go_wp2_with (first | (rw [← HW.out, ← HHH.out]))
      refine (HNM.out _ HB0.out).mono ?_
      rintro e w1 ⟨rfl, hb1⟩
      obtain ⟨y10, y11, y12, y13, y14⟩ := boxed_on HX.out HHW.out hb1
      have HB1 := Lib.hid hb1
      clear hb1 x0 x1 x2 x3 x4
      go_wp2_with (fail)
      go_ret
      exact ⟨by rw [HR.out]; rfl, HB.out.trans (HB1.out.mono HB.out.size)⟩
    · by_cases hN1 : N = 1
      · have hl1 := HNN.out.symm.trans hN1
        have hl0 : 1 ≤ l.length := by omega
        obtain ⟨b, off, hA⟩ := kids_addr HK.out (by omega)
        subst hA
        obtain ⟨A0, M0, p0, k0, a0, n0, s0, hq0, hd0, hz0⟩ := kid_in HK.out 0 (by omega)
        have HZ0 := Lib.hid (fun w' hb => (hz0 w' hb).1)
        have hkk0 := fun w' hb => (hz0 w' hb).2
        have HCE := Lib.hid (kid_is (f := NT.expr) hq0 hd0 (rexpr_any _) hkk0)
        obtain ⟨E, hE⟩ : ∃ E, E = l[0].expr := ⟨_, rfl⟩
        rw [← hE] at HCE
        have HEE := Lib.hid hE
        clear hE
        have HR : Hid (R = E) := Lib.hid (by rw [HT.out, HEE.out]; obtain ⟨v, rfl⟩ := List.length_eq_one_iff.1 hl1; simp [expr1_one])
        subst hN1
        clear HT HAQ hz0 hq0 hd0 hkk0 hl1 hl0 HEE
        cases E
        all_goals
          go_enter Tryd.func33, Tryd.ntmps33
          obtain ⟨u00, u01, u02, u03, u04⟩ := HZ0.out W HB0.out
          rw [Nat.zero_mul, Nat.add_zero] at u00 u01 u02 u03 u04
          go_wp2_with (first | (rw [← HW.out, ← HHH.out]))
          refine (HNM.out _ HB0.out).mono ?_
          rintro e w1 ⟨rfl, hb1⟩
          obtain ⟨y10, y11, y12, y13, y14⟩ := boxed_on HX.out HHW.out hb1
          obtain ⟨v100, v101, v102, v103, v104⟩ := HZ0.out w1 hb1
          rw [Nat.zero_mul, Nat.add_zero] at v100 v101 v102 v103 v104
          have HB1 := Lib.hid hb1
          clear hb1 x0 x1 x2 x3 x4
          clear u00 u01 u02 u03 u04
          go_wp2_with (fail)
          refine (HCE.out _ HB1.out).mono ?_
          rintro e w2 ⟨rfl, hb2⟩
          obtain ⟨y20, y21, y22, y23, y24⟩ := boxed_on HX.out HHW.out hb2
          obtain ⟨v200, v201, v202, v203, v204⟩ := HZ0.out w2 hb2
          rw [Nat.zero_mul, Nat.add_zero] at v200 v201 v202 v203 v204
          have HB2 := Lib.hid hb2
          clear hb2 y10 y11 y12 y13 y14
          clear v100 v101 v102 v103 v104
          go_wp2_with (fail)
          go_ret
          exact ⟨by rw [HR.out]; rfl, HB.out.trans (HB2.out.mono HB.out.size)⟩
      · have e2 : ((N : Int) == 1) = false := beq_eq_false_iff_ne.2 (by omega)
        have HR : Hid (R = false) := Lib.hid (by rw [HT.out, expr1_no (l := l) (by rw [← HNN.out]; exact hN1)]; simp)
        clear HT HAQ hN1
        go_enter Tryd.func33, Tryd.ntmps33
        go_wp2_with (first | (rw [← HW.out, ← HHH.out]))
        refine (HNM.out _ HB0.out).mono ?_
        rintro e w1 ⟨rfl, hb1⟩
        obtain ⟨y10, y11, y12, y13, y14⟩ := boxed_on HX.out HHW.out hb1
        have HB1 := Lib.hid hb1
        clear hb1 x0 x1 x2 x3 x4
        go_wp2_with (fail)
        go_ret
        exact ⟨by rw [HR.out]; rfl, HB.out.trans (HB1.out.mono HB.out.size)⟩

set_option maxHeartbeats 2000000 in
set_option maxRecDepth 100000 in
theorem stmt_36 {G : Nat → Prop} (k a n : Int) (nm : List UInt8) (l : List NT) (ih : ∀ u ∈ l, IsOf G 33 NT.stmt u) (ck : k = 36) : IsOf G 33 NT.stmt (.mk k a n nm l) := by
  intro hd s w h
  have hdd := hd
  obtain ⟨_, _, _, hnm⟩ := hd
  change nm.length ≤ _ at hnm
  change Kids G w l s at h
  obtain ⟨A, cap, rfl, hl⟩ := h.form
  show Calls Tryd.prog 33 #[.agg #[.int .i64 k, .int .i64 a, .int .i64 n, .string ⟨nm.toArray⟩, .slice A l.length cap]] w fun e w' => e = .returned (.bool (NT.mk k a n nm l).stmt) ∧ Below w.heap.size w w'
  have HT := Lib.hid (stmt_mk k a n nm l)
  obtain ⟨R, hR⟩ : ∃ R, R = (NT.mk k a n nm l).stmt := ⟨_, rfl⟩
  rw [← hR] at HT ⊢
  obtain ⟨H, hH⟩ : ∃ H, H = w.heap.size := ⟨_, rfl⟩
  obtain ⟨W, hW⟩ : ∃ W, W = w.alloc (.cells #[.int .i64 k, .int .i64 a, .int .i64 n, .string ⟨nm.toArray⟩, .slice A l.length cap] NodeT) := ⟨_, rfl⟩
  obtain ⟨⟨x0, x1, x2, x3, x4⟩, HB, HHW⟩ := boxed hH hW
  have HX := Lib.hid (And.intro x0 (And.intro x1 (And.intro x2 (And.intro x3 x4))))
  have HAL : Hid (∀ w', Below W.heap.size W w' → Calls Tryd.prog 49 #[.agg #[.int .i64 k, .int .i64 a, .int .i64 n, .string ⟨nm.toArray⟩, .slice A l.length cap]] w' fun e w'' => e = .returned (.bool (aloneN n nm)) ∧ Below W.heap.size W w'') := Lib.hid fun w' hb => (ralone_any (.mk k a n nm l) (.slice A l.length cap) w').mono fun e w'' ⟨h1, h2⟩ => ⟨h1, hb.trans (h2.mono hb.size)⟩
  have HNM : Hid (∀ w', Below W.heap.size W w' → Calls Tryd.prog 48 #[.string ⟨nm.toArray⟩] w' fun e w'' => e = .returned (.bool (named nm)) ∧ Below W.heap.size W w'') := Lib.hid fun w' hb => (rnamed_any nm w' hnm).mono fun e w'' ⟨h1, h2⟩ => ⟨h1, hb.trans (h2.mono hb.size)⟩
  have HK := Lib.hid (h.below HB.out)
  have IH := Lib.hid ih
  obtain ⟨N, hN⟩ : ∃ N, N = l.length := ⟨_, rfl⟩
  rw [← hN] at hl x4 hW HX HK HAL ⊢
  have HW := Lib.hid hW
  have HHH := Lib.hid hH
  have HNN := Lib.hid hN
  have HB0 : Hid (Below W.heap.size W W) := Lib.hid (Below.refl _ _)
  obtain ⟨al, hal⟩ : ∃ al, al = aloneN n nm := ⟨_, rfl⟩
  rw [← hal] at HT HAL
  obtain ⟨B, hB⟩ : ∃ B, B = named nm := ⟨_, rfl⟩
  rw [← hB] at HT HNM
  have HAQ := Lib.hid hal
  have HBQ := Lib.hid hB
  clear h ih hN hW hH hR hdd hal hB
  subst ck
  by_cases c1 : n ≠ 0
  · have e1 : (n != 0) = true := by rw [bne_iff_ne]; exact c1
    have HR : Hid (R = false) := Lib.hid (by rw [HT.out]; simp [c1])
    clear c1 HT HAQ
    go_enter Tryd.func33, Tryd.ntmps33
    go_wp2_with (first | (rw [← HW.out, ← HHH.out]))
    go_ret
    exact ⟨by rw [HR.out]; rfl, HB.out.trans (HB0.out.mono HB.out.size)⟩
  · have c1 : n = 0 := by simpa using c1
    subst c1
    cases B
    · have HR : Hid (R = false) := Lib.hid (by rw [HT.out]; simp)
      clear HT HAQ
      go_enter Tryd.func33, Tryd.ntmps33
      go_wp2_with (first | (rw [← HW.out, ← HHH.out]))
      refine (HNM.out _ HB0.out).mono ?_
      rintro e w1 ⟨rfl, hb1⟩
      obtain ⟨y10, y11, y12, y13, y14⟩ := boxed_on HX.out HHW.out hb1
      have HB1 := Lib.hid hb1
      clear hb1 x0 x1 x2 x3 x4
      go_wp2_with (fail)
      go_ret
      exact ⟨by rw [HR.out]; rfl, HB.out.trans (HB1.out.mono HB.out.size)⟩
    · by_cases hN1 : N = 0
      · subst hN1
        have HR : Hid (R = true) := Lib.hid (by rw [HT.out, List.eq_nil_of_length_eq_zero (l := l) HNN.out.symm]; simp)
        clear HT HAQ
        go_enter Tryd.func33, Tryd.ntmps33
        go_wp2_with (first | (rw [← HW.out, ← HHH.out]))
        refine (HNM.out _ HB0.out).mono ?_
        rintro e w1 ⟨rfl, hb1⟩
        obtain ⟨y10, y11, y12, y13, y14⟩ := boxed_on HX.out HHW.out hb1
        have HB1 := Lib.hid hb1
        clear hb1 x0 x1 x2 x3 x4
        go_wp2_with (fail)
        go_ret
        exact ⟨by rw [HR.out]; rfl, HB.out.trans (HB1.out.mono HB.out.size)⟩
      · have e2 : ((N : Int) == 0) = false := beq_eq_false_iff_ne.2 (by omega)
        have HR : Hid (R = false) := Lib.hid (by
            rw [HT.out]
            cases hl0 : l with
            | nil => exact absurd (by rw [HNN.out, hl0]; rfl) hN1
            | cons _ _ => simp)
        clear HT HAQ hN1
        go_enter Tryd.func33, Tryd.ntmps33
        go_wp2_with (first | (rw [← HW.out, ← HHH.out]))
        refine (HNM.out _ HB0.out).mono ?_
        rintro e w1 ⟨rfl, hb1⟩
        obtain ⟨y10, y11, y12, y13, y14⟩ := boxed_on HX.out HHW.out hb1
        have HB1 := Lib.hid hb1
        clear hb1 x0 x1 x2 x3 x4
        go_wp2_with (fail)
        go_ret
        exact ⟨by rw [HR.out]; rfl, HB.out.trans (HB1.out.mono HB.out.size)⟩

set_option maxHeartbeats 2000000 in
set_option maxRecDepth 100000 in
theorem stmt_35 {G : Nat → Prop} (k a n : Int) (nm : List UInt8) (l : List NT) (ih : ∀ u ∈ l, IsOf G 33 NT.stmt u) (ck : k = 35) (hal : aloneN n nm = true) : IsOf G 33 NT.stmt (.mk k a n nm l) := by
  intro hd s w h
  have hdd := hd
  obtain ⟨_, _, _, hnm⟩ := hd
  change nm.length ≤ _ at hnm
  change Kids G w l s at h
  obtain ⟨A, cap, rfl, hl⟩ := h.form
  show Calls Tryd.prog 33 #[.agg #[.int .i64 k, .int .i64 a, .int .i64 n, .string ⟨nm.toArray⟩, .slice A l.length cap]] w fun e w' => e = .returned (.bool (NT.mk k a n nm l).stmt) ∧ Below w.heap.size w w'
  have HT := Lib.hid (stmt_mk k a n nm l)
  obtain ⟨R, hR⟩ : ∃ R, R = (NT.mk k a n nm l).stmt := ⟨_, rfl⟩
  rw [← hR] at HT ⊢
  obtain ⟨H, hH⟩ : ∃ H, H = w.heap.size := ⟨_, rfl⟩
  obtain ⟨W, hW⟩ : ∃ W, W = w.alloc (.cells #[.int .i64 k, .int .i64 a, .int .i64 n, .string ⟨nm.toArray⟩, .slice A l.length cap] NodeT) := ⟨_, rfl⟩
  obtain ⟨⟨x0, x1, x2, x3, x4⟩, HB, HHW⟩ := boxed hH hW
  have HX := Lib.hid (And.intro x0 (And.intro x1 (And.intro x2 (And.intro x3 x4))))
  have HAL : Hid (∀ w', Below W.heap.size W w' → Calls Tryd.prog 49 #[.agg #[.int .i64 k, .int .i64 a, .int .i64 n, .string ⟨nm.toArray⟩, .slice A l.length cap]] w' fun e w'' => e = .returned (.bool (aloneN n nm)) ∧ Below W.heap.size W w'') := Lib.hid fun w' hb => (ralone_any (.mk k a n nm l) (.slice A l.length cap) w').mono fun e w'' ⟨h1, h2⟩ => ⟨h1, hb.trans (h2.mono hb.size)⟩
  have HNM : Hid (∀ w', Below W.heap.size W w' → Calls Tryd.prog 48 #[.string ⟨nm.toArray⟩] w' fun e w'' => e = .returned (.bool (named nm)) ∧ Below W.heap.size W w'') := Lib.hid fun w' hb => (rnamed_any nm w' hnm).mono fun e w'' ⟨h1, h2⟩ => ⟨h1, hb.trans (h2.mono hb.size)⟩
  have HK := Lib.hid (h.below HB.out)
  have IH := Lib.hid ih
  obtain ⟨N, hN⟩ : ∃ N, N = l.length := ⟨_, rfl⟩
  rw [← hN] at hl x4 hW HX HK HAL ⊢
  have HW := Lib.hid hW
  have HHH := Lib.hid hH
  have HNN := Lib.hid hN
  have HB0 : Hid (Below W.heap.size W W) := Lib.hid (Below.refl _ _)
  obtain ⟨al, hal⟩ : ∃ al, al = aloneN n nm := ⟨_, rfl⟩
  rw [← hal] at HT HAL
  obtain ⟨B, hB⟩ : ∃ B, B = named nm := ⟨_, rfl⟩
  rw [← hB] at HT HNM
  have HAQ := Lib.hid hal
  have HBQ := Lib.hid hB
  clear h ih hN hW hH hR hdd hal hB
  subst ck
  obtain rfl : al = true := by rw [HAQ.out]; exact hal
  clear hal HAQ
  by_cases hN0 : N = 0
  · subst hN0
    have HR : Hid (R = true) := Lib.hid (by rw [HT.out]; simp [← HNN.out])
    clear HT
    go_enter Tryd.func33, Tryd.ntmps33
    go_wp2_with (first | (rw [← HW.out, ← HHH.out]))
    refine (HAL.out _ HB0.out).mono ?_
    rintro e w1 ⟨rfl, hb1⟩
    obtain ⟨y10, y11, y12, y13, y14⟩ := boxed_on HX.out HHW.out hb1
    have HB1 := Lib.hid hb1
    clear hb1 x0 x1 x2 x3 x4
    go_wp2_with (fail)
    go_ret
    exact ⟨by rw [HR.out]; rfl, HB.out.trans (HB1.out.mono HB.out.size)⟩
  have e0 : ((N : Int) == 0) = false := beq_eq_false_iff_ne.2 (by omega)
  by_cases hN1 : N = 1
  · have hl1 := HNN.out.symm.trans hN1
    have hl0 : 1 ≤ l.length := by omega
    obtain ⟨b, off, hA⟩ := kids_addr HK.out (by omega)
    subst hA
    obtain ⟨A0, M0, p0, k0, a0, n0, s0, hq0, hd0, hz0⟩ := kid_in HK.out 0 (by omega)
    have HZ0 := Lib.hid (fun w' hb => (hz0 w' hb).1)
    have hkk0 := fun w' hb => (hz0 w' hb).2
    have HCE := Lib.hid (kid_is (f := NT.expr) hq0 hd0 (rexpr_any _) hkk0)
    obtain ⟨E, hE⟩ : ∃ E, E = l[0].expr := ⟨_, rfl⟩
    rw [← hE] at HCE
    have HEE := Lib.hid hE
    clear hE
    have HR : Hid (R = E) := Lib.hid (by rw [HT.out, HEE.out]; obtain ⟨v, rfl⟩ := List.length_eq_one_iff.1 hl1; simp [expr1_one])
    subst hN1
    clear HT hz0 hq0 hd0 hkk0 hl1 hl0 HEE
    cases E
    all_goals
      go_enter Tryd.func33, Tryd.ntmps33
      obtain ⟨u00, u01, u02, u03, u04⟩ := HZ0.out W HB0.out
      rw [Nat.zero_mul, Nat.add_zero] at u00 u01 u02 u03 u04
      go_wp2_with (first | (rw [← HW.out, ← HHH.out]))
      refine (HAL.out _ HB0.out).mono ?_
      rintro e w1 ⟨rfl, hb1⟩
      obtain ⟨y10, y11, y12, y13, y14⟩ := boxed_on HX.out HHW.out hb1
      obtain ⟨v100, v101, v102, v103, v104⟩ := HZ0.out w1 hb1
      rw [Nat.zero_mul, Nat.add_zero] at v100 v101 v102 v103 v104
      have HB1 := Lib.hid hb1
      clear hb1 x0 x1 x2 x3 x4
      clear u00 u01 u02 u03 u04
      go_wp2_with (fail)
      refine (HCE.out _ HB1.out).mono ?_
      rintro e w2 ⟨rfl, hb2⟩
      obtain ⟨y20, y21, y22, y23, y24⟩ := boxed_on HX.out HHW.out hb2
      obtain ⟨v200, v201, v202, v203, v204⟩ := HZ0.out w2 hb2
      rw [Nat.zero_mul, Nat.add_zero] at v200 v201 v202 v203 v204
      have HB2 := Lib.hid hb2
      clear hb2 y10 y11 y12 y13 y14
      clear v100 v101 v102 v103 v104
      go_wp2_with (fail)
      go_ret
      exact ⟨by rw [HR.out]; rfl, HB.out.trans (HB2.out.mono HB.out.size)⟩
  · have e2 : ((N : Int) == 1) = false := beq_eq_false_iff_ne.2 (by omega)
    have HR : Hid (R = false) := Lib.hid (by rw [HT.out, expr1_no (l := l) (by rw [← HNN.out]; exact hN1)]; have q0 : ¬ l.length = 0 := (by rw [← HNN.out]; exact hN0); simp at q0; simp [q0])
    clear HT hN1 hN0
    go_enter Tryd.func33, Tryd.ntmps33
    go_wp2_with (first | (rw [← HW.out, ← HHH.out]))
    refine (HAL.out _ HB0.out).mono ?_
    rintro e w1 ⟨rfl, hb1⟩
    obtain ⟨y10, y11, y12, y13, y14⟩ := boxed_on HX.out HHW.out hb1
    have HB1 := Lib.hid hb1
    clear hb1 x0 x1 x2 x3 x4
    go_wp2_with (fail)
    go_ret
    exact ⟨by rw [HR.out]; rfl, HB.out.trans (HB1.out.mono HB.out.size)⟩

set_option maxHeartbeats 2000000 in
set_option maxRecDepth 100000 in
theorem stmt_37 {G : Nat → Prop} (k a n : Int) (nm : List UInt8) (l : List NT) (ih : ∀ u ∈ l, IsOf G 33 NT.stmt u) (ck : k = 37) (hal : aloneN n nm = true) : IsOf G 33 NT.stmt (.mk k a n nm l) := by
  intro hd s w h
  have hdd := hd
  obtain ⟨_, _, _, hnm⟩ := hd
  change nm.length ≤ _ at hnm
  change Kids G w l s at h
  obtain ⟨A, cap, rfl, hl⟩ := h.form
  show Calls Tryd.prog 33 #[.agg #[.int .i64 k, .int .i64 a, .int .i64 n, .string ⟨nm.toArray⟩, .slice A l.length cap]] w fun e w' => e = .returned (.bool (NT.mk k a n nm l).stmt) ∧ Below w.heap.size w w'
  have HT := Lib.hid (stmt_mk k a n nm l)
  obtain ⟨R, hR⟩ : ∃ R, R = (NT.mk k a n nm l).stmt := ⟨_, rfl⟩
  rw [← hR] at HT ⊢
  obtain ⟨H, hH⟩ : ∃ H, H = w.heap.size := ⟨_, rfl⟩
  obtain ⟨W, hW⟩ : ∃ W, W = w.alloc (.cells #[.int .i64 k, .int .i64 a, .int .i64 n, .string ⟨nm.toArray⟩, .slice A l.length cap] NodeT) := ⟨_, rfl⟩
  obtain ⟨⟨x0, x1, x2, x3, x4⟩, HB, HHW⟩ := boxed hH hW
  have HX := Lib.hid (And.intro x0 (And.intro x1 (And.intro x2 (And.intro x3 x4))))
  have HAL : Hid (∀ w', Below W.heap.size W w' → Calls Tryd.prog 49 #[.agg #[.int .i64 k, .int .i64 a, .int .i64 n, .string ⟨nm.toArray⟩, .slice A l.length cap]] w' fun e w'' => e = .returned (.bool (aloneN n nm)) ∧ Below W.heap.size W w'') := Lib.hid fun w' hb => (ralone_any (.mk k a n nm l) (.slice A l.length cap) w').mono fun e w'' ⟨h1, h2⟩ => ⟨h1, hb.trans (h2.mono hb.size)⟩
  have HNM : Hid (∀ w', Below W.heap.size W w' → Calls Tryd.prog 48 #[.string ⟨nm.toArray⟩] w' fun e w'' => e = .returned (.bool (named nm)) ∧ Below W.heap.size W w'') := Lib.hid fun w' hb => (rnamed_any nm w' hnm).mono fun e w'' ⟨h1, h2⟩ => ⟨h1, hb.trans (h2.mono hb.size)⟩
  have HK := Lib.hid (h.below HB.out)
  have IH := Lib.hid ih
  obtain ⟨N, hN⟩ : ∃ N, N = l.length := ⟨_, rfl⟩
  rw [← hN] at hl x4 hW HX HK HAL ⊢
  have HW := Lib.hid hW
  have HHH := Lib.hid hH
  have HNN := Lib.hid hN
  have HB0 : Hid (Below W.heap.size W W) := Lib.hid (Below.refl _ _)
  obtain ⟨al, hal⟩ : ∃ al, al = aloneN n nm := ⟨_, rfl⟩
  rw [← hal] at HT HAL
  obtain ⟨B, hB⟩ : ∃ B, B = named nm := ⟨_, rfl⟩
  rw [← hB] at HT HNM
  have HAQ := Lib.hid hal
  have HBQ := Lib.hid hB
  clear h ih hN hW hH hR hdd hal hB
  subst ck
  obtain rfl : al = true := by rw [HAQ.out]; exact hal
  clear hal HAQ
  by_cases hN1 : N = 1
  · have hl1 := HNN.out.symm.trans hN1
    have hl0 : 1 ≤ l.length := by omega
    obtain ⟨b, off, hA⟩ := kids_addr HK.out (by omega)
    subst hA
    obtain ⟨A0, M0, p0, k0, a0, n0, s0, hq0, hd0, hz0⟩ := kid_in HK.out 0 (by omega)
    have HZ0 := Lib.hid (fun w' hb => (hz0 w' hb).1)
    have hkk0 := fun w' hb => (hz0 w' hb).2
    have HCE := Lib.hid (kid_is (f := NT.expr) hq0 hd0 (rexpr_any _) hkk0)
    obtain ⟨E, hE⟩ : ∃ E, E = l[0].expr := ⟨_, rfl⟩
    rw [← hE] at HCE
    have HEE := Lib.hid hE
    clear hE
    have HR : Hid (R = E) := Lib.hid (by rw [HT.out, HEE.out]; obtain ⟨v, rfl⟩ := List.length_eq_one_iff.1 hl1; simp [expr1_one])
    subst hN1
    clear HT hz0 hq0 hd0 hkk0 hl1 hl0 HEE
    cases E
    all_goals
      go_enter Tryd.func33, Tryd.ntmps33
      obtain ⟨u00, u01, u02, u03, u04⟩ := HZ0.out W HB0.out
      rw [Nat.zero_mul, Nat.add_zero] at u00 u01 u02 u03 u04
      go_wp2_with (first | (rw [← HW.out, ← HHH.out]))
      refine (HAL.out _ HB0.out).mono ?_
      rintro e w1 ⟨rfl, hb1⟩
      obtain ⟨y10, y11, y12, y13, y14⟩ := boxed_on HX.out HHW.out hb1
      obtain ⟨v100, v101, v102, v103, v104⟩ := HZ0.out w1 hb1
      rw [Nat.zero_mul, Nat.add_zero] at v100 v101 v102 v103 v104
      have HB1 := Lib.hid hb1
      clear hb1 x0 x1 x2 x3 x4
      clear u00 u01 u02 u03 u04
      go_wp2_with (fail)
      refine (HCE.out _ HB1.out).mono ?_
      rintro e w2 ⟨rfl, hb2⟩
      obtain ⟨y20, y21, y22, y23, y24⟩ := boxed_on HX.out HHW.out hb2
      obtain ⟨v200, v201, v202, v203, v204⟩ := HZ0.out w2 hb2
      rw [Nat.zero_mul, Nat.add_zero] at v200 v201 v202 v203 v204
      have HB2 := Lib.hid hb2
      clear hb2 y10 y11 y12 y13 y14
      clear v100 v101 v102 v103 v104
      go_wp2_with (fail)
      go_ret
      exact ⟨by rw [HR.out]; rfl, HB.out.trans (HB2.out.mono HB.out.size)⟩
  · have e2 : ((N : Int) == 1) = false := beq_eq_false_iff_ne.2 (by omega)
    have HR : Hid (R = false) := Lib.hid (by rw [HT.out, expr1_no (l := l) (by rw [← HNN.out]; exact hN1)]; simp)
    clear HT hN1
    go_enter Tryd.func33, Tryd.ntmps33
    go_wp2_with (first | (rw [← HW.out, ← HHH.out]))
    refine (HAL.out _ HB0.out).mono ?_
    rintro e w1 ⟨rfl, hb1⟩
    obtain ⟨y10, y11, y12, y13, y14⟩ := boxed_on HX.out HHW.out hb1
    have HB1 := Lib.hid hb1
    clear hb1 x0 x1 x2 x3 x4
    go_wp2_with (fail)
    go_ret
    exact ⟨by rw [HR.out]; rfl, HB.out.trans (HB1.out.mono HB.out.size)⟩

set_option maxHeartbeats 2000000 in
set_option maxRecDepth 100000 in
theorem stmt_38 {G : Nat → Prop} (k a n : Int) (nm : List UInt8) (l : List NT) (ih : ∀ u ∈ l, IsOf G 33 NT.stmt u) (ck : k = 38) (hal : aloneN n nm = true) : IsOf G 33 NT.stmt (.mk k a n nm l) := by
  intro hd s w h
  have hdd := hd
  obtain ⟨_, _, _, hnm⟩ := hd
  change nm.length ≤ _ at hnm
  change Kids G w l s at h
  obtain ⟨A, cap, rfl, hl⟩ := h.form
  show Calls Tryd.prog 33 #[.agg #[.int .i64 k, .int .i64 a, .int .i64 n, .string ⟨nm.toArray⟩, .slice A l.length cap]] w fun e w' => e = .returned (.bool (NT.mk k a n nm l).stmt) ∧ Below w.heap.size w w'
  have HT := Lib.hid (stmt_mk k a n nm l)
  obtain ⟨R, hR⟩ : ∃ R, R = (NT.mk k a n nm l).stmt := ⟨_, rfl⟩
  rw [← hR] at HT ⊢
  obtain ⟨H, hH⟩ : ∃ H, H = w.heap.size := ⟨_, rfl⟩
  obtain ⟨W, hW⟩ : ∃ W, W = w.alloc (.cells #[.int .i64 k, .int .i64 a, .int .i64 n, .string ⟨nm.toArray⟩, .slice A l.length cap] NodeT) := ⟨_, rfl⟩
  obtain ⟨⟨x0, x1, x2, x3, x4⟩, HB, HHW⟩ := boxed hH hW
  have HX := Lib.hid (And.intro x0 (And.intro x1 (And.intro x2 (And.intro x3 x4))))
  have HAL : Hid (∀ w', Below W.heap.size W w' → Calls Tryd.prog 49 #[.agg #[.int .i64 k, .int .i64 a, .int .i64 n, .string ⟨nm.toArray⟩, .slice A l.length cap]] w' fun e w'' => e = .returned (.bool (aloneN n nm)) ∧ Below W.heap.size W w'') := Lib.hid fun w' hb => (ralone_any (.mk k a n nm l) (.slice A l.length cap) w').mono fun e w'' ⟨h1, h2⟩ => ⟨h1, hb.trans (h2.mono hb.size)⟩
  have HNM : Hid (∀ w', Below W.heap.size W w' → Calls Tryd.prog 48 #[.string ⟨nm.toArray⟩] w' fun e w'' => e = .returned (.bool (named nm)) ∧ Below W.heap.size W w'') := Lib.hid fun w' hb => (rnamed_any nm w' hnm).mono fun e w'' ⟨h1, h2⟩ => ⟨h1, hb.trans (h2.mono hb.size)⟩
  have HK := Lib.hid (h.below HB.out)
  have IH := Lib.hid ih
  obtain ⟨N, hN⟩ : ∃ N, N = l.length := ⟨_, rfl⟩
  rw [← hN] at hl x4 hW HX HK HAL ⊢
  have HW := Lib.hid hW
  have HHH := Lib.hid hH
  have HNN := Lib.hid hN
  have HB0 : Hid (Below W.heap.size W W) := Lib.hid (Below.refl _ _)
  obtain ⟨al, hal⟩ : ∃ al, al = aloneN n nm := ⟨_, rfl⟩
  rw [← hal] at HT HAL
  obtain ⟨B, hB⟩ : ∃ B, B = named nm := ⟨_, rfl⟩
  rw [← hB] at HT HNM
  have HAQ := Lib.hid hal
  have HBQ := Lib.hid hB
  clear h ih hN hW hH hR hdd hal hB
  subst ck
  obtain rfl : al = true := by rw [HAQ.out]; exact hal
  clear hal HAQ
  by_cases hN1 : N = 1
  · have hl1 := HNN.out.symm.trans hN1
    have hl0 : 1 ≤ l.length := by omega
    obtain ⟨b, off, hA⟩ := kids_addr HK.out (by omega)
    subst hA
    obtain ⟨A0, M0, p0, k0, a0, n0, s0, hq0, hd0, hz0⟩ := kid_in HK.out 0 (by omega)
    have HZ0 := Lib.hid (fun w' hb => (hz0 w' hb).1)
    have hkk0 := fun w' hb => (hz0 w' hb).2
    have HCE := Lib.hid (kid_is (f := NT.expr) hq0 hd0 (rexpr_any _) hkk0)
    obtain ⟨E, hE⟩ : ∃ E, E = l[0].expr := ⟨_, rfl⟩
    rw [← hE] at HCE
    have HEE := Lib.hid hE
    clear hE
    by_cases c17 : k0 = 17
    · have e17 : (k0 == 17) = true := beq_iff_eq.2 c17
      have HR : Hid (R = E) := Lib.hid (by rw [HT.out, HEE.out]; have q := hq0.1; rw [c17] at q; obtain ⟨v, rfl⟩ := List.length_eq_one_iff.1 hl1; simp [do1] at q ⊢; simp [q.symm])
      subst hN1
      subst c17
      clear HT hz0 hq0 hd0 hkk0 hl1 hl0 HEE e17
      cases E
      all_goals
        go_enter Tryd.func33, Tryd.ntmps33
        obtain ⟨u00, u01, u02, u03, u04⟩ := HZ0.out W HB0.out
        rw [Nat.zero_mul, Nat.add_zero] at u00 u01 u02 u03 u04
        go_wp2_with (first | (rw [← HW.out, ← HHH.out]))
        refine (HAL.out _ HB0.out).mono ?_
        rintro e w1 ⟨rfl, hb1⟩
        obtain ⟨y10, y11, y12, y13, y14⟩ := boxed_on HX.out HHW.out hb1
        obtain ⟨v100, v101, v102, v103, v104⟩ := HZ0.out w1 hb1
        rw [Nat.zero_mul, Nat.add_zero] at v100 v101 v102 v103 v104
        have HB1 := Lib.hid hb1
        clear hb1 x0 x1 x2 x3 x4
        clear u00 u01 u02 u03 u04
        go_wp2_with (fail)
        refine (HCE.out _ HB1.out).mono ?_
        rintro e w2 ⟨rfl, hb2⟩
        obtain ⟨y20, y21, y22, y23, y24⟩ := boxed_on HX.out HHW.out hb2
        obtain ⟨v200, v201, v202, v203, v204⟩ := HZ0.out w2 hb2
        rw [Nat.zero_mul, Nat.add_zero] at v200 v201 v202 v203 v204
        have HB2 := Lib.hid hb2
        clear hb2 y10 y11 y12 y13 y14
        clear v100 v101 v102 v103 v104
        go_wp2_with (fail)
        go_ret
        exact ⟨by rw [HR.out]; rfl, HB.out.trans (HB2.out.mono HB.out.size)⟩
    · have e17 : (k0 == 17) = false := beq_eq_false_iff_ne.2 c17
      have HR : Hid (R = false) := Lib.hid (by rw [HT.out]; have q := hq0.1; obtain ⟨v, rfl⟩ := List.length_eq_one_iff.1 hl1; simp [do1] at q ⊢; intro h; exact absurd (q.trans h) c17)
      subst hN1
      clear HT hz0 hq0 hd0 hkk0 hl1 hl0 HEE HCE c17
      go_enter Tryd.func33, Tryd.ntmps33
      obtain ⟨u00, u01, u02, u03, u04⟩ := HZ0.out W HB0.out
      rw [Nat.zero_mul, Nat.add_zero] at u00 u01 u02 u03 u04
      go_wp2_with (first | (rw [← HW.out, ← HHH.out]))
      refine (HAL.out _ HB0.out).mono ?_
      rintro e w1 ⟨rfl, hb1⟩
      obtain ⟨y10, y11, y12, y13, y14⟩ := boxed_on HX.out HHW.out hb1
      obtain ⟨v100, v101, v102, v103, v104⟩ := HZ0.out w1 hb1
      rw [Nat.zero_mul, Nat.add_zero] at v100 v101 v102 v103 v104
      have HB1 := Lib.hid hb1
      clear hb1 x0 x1 x2 x3 x4
      clear u00 u01 u02 u03 u04
      go_wp2_with (fail)
      go_ret
      exact ⟨by rw [HR.out]; rfl, HB.out.trans (HB1.out.mono HB.out.size)⟩
  · have e2 : ((N : Int) == 1) = false := beq_eq_false_iff_ne.2 (by omega)
    have HR : Hid (R = false) := Lib.hid (by rw [HT.out, do1_no (l := l) (by rw [← HNN.out]; exact hN1)]; simp)
    clear HT hN1
    go_enter Tryd.func33, Tryd.ntmps33
    go_wp2_with (first | (rw [← HW.out, ← HHH.out]))
    refine (HAL.out _ HB0.out).mono ?_
    rintro e w1 ⟨rfl, hb1⟩
    obtain ⟨y10, y11, y12, y13, y14⟩ := boxed_on HX.out HHW.out hb1
    have HB1 := Lib.hid hb1
    clear hb1 x0 x1 x2 x3 x4
    go_wp2_with (fail)
    go_ret
    exact ⟨by rw [HR.out]; rfl, HB.out.trans (HB1.out.mono HB.out.size)⟩

set_option maxHeartbeats 2000000 in
set_option maxRecDepth 100000 in
theorem stmt_32 {G : Nat → Prop} (k a n : Int) (nm : List UInt8) (l : List NT) (ih : ∀ u ∈ l, IsOf G 33 NT.stmt u) (ck : k = 32) (hal : aloneN n nm = true) : IsOf G 33 NT.stmt (.mk k a n nm l) := by
  intro hd s w h
  have hdd := hd
  obtain ⟨_, _, _, hnm⟩ := hd
  change nm.length ≤ _ at hnm
  change Kids G w l s at h
  obtain ⟨A, cap, rfl, hl⟩ := h.form
  show Calls Tryd.prog 33 #[.agg #[.int .i64 k, .int .i64 a, .int .i64 n, .string ⟨nm.toArray⟩, .slice A l.length cap]] w fun e w' => e = .returned (.bool (NT.mk k a n nm l).stmt) ∧ Below w.heap.size w w'
  have HT := Lib.hid (stmt_mk k a n nm l)
  obtain ⟨R, hR⟩ : ∃ R, R = (NT.mk k a n nm l).stmt := ⟨_, rfl⟩
  rw [← hR] at HT ⊢
  obtain ⟨H, hH⟩ : ∃ H, H = w.heap.size := ⟨_, rfl⟩
  obtain ⟨W, hW⟩ : ∃ W, W = w.alloc (.cells #[.int .i64 k, .int .i64 a, .int .i64 n, .string ⟨nm.toArray⟩, .slice A l.length cap] NodeT) := ⟨_, rfl⟩
  obtain ⟨⟨x0, x1, x2, x3, x4⟩, HB, HHW⟩ := boxed hH hW
  have HX := Lib.hid (And.intro x0 (And.intro x1 (And.intro x2 (And.intro x3 x4))))
  have HAL : Hid (∀ w', Below W.heap.size W w' → Calls Tryd.prog 49 #[.agg #[.int .i64 k, .int .i64 a, .int .i64 n, .string ⟨nm.toArray⟩, .slice A l.length cap]] w' fun e w'' => e = .returned (.bool (aloneN n nm)) ∧ Below W.heap.size W w'') := Lib.hid fun w' hb => (ralone_any (.mk k a n nm l) (.slice A l.length cap) w').mono fun e w'' ⟨h1, h2⟩ => ⟨h1, hb.trans (h2.mono hb.size)⟩
  have HNM : Hid (∀ w', Below W.heap.size W w' → Calls Tryd.prog 48 #[.string ⟨nm.toArray⟩] w' fun e w'' => e = .returned (.bool (named nm)) ∧ Below W.heap.size W w'') := Lib.hid fun w' hb => (rnamed_any nm w' hnm).mono fun e w'' ⟨h1, h2⟩ => ⟨h1, hb.trans (h2.mono hb.size)⟩
  have HK := Lib.hid (h.below HB.out)
  have IH := Lib.hid ih
  obtain ⟨N, hN⟩ : ∃ N, N = l.length := ⟨_, rfl⟩
  rw [← hN] at hl x4 hW HX HK HAL ⊢
  have HW := Lib.hid hW
  have HHH := Lib.hid hH
  have HNN := Lib.hid hN
  have HB0 : Hid (Below W.heap.size W W) := Lib.hid (Below.refl _ _)
  obtain ⟨al, hal⟩ : ∃ al, al = aloneN n nm := ⟨_, rfl⟩
  rw [← hal] at HT HAL
  obtain ⟨B, hB⟩ : ∃ B, B = named nm := ⟨_, rfl⟩
  rw [← hB] at HT HNM
  have HAQ := Lib.hid hal
  have HBQ := Lib.hid hB
  clear h ih hN hW hH hR hdd hal hB
  subst ck
  obtain rfl : al = true := by rw [HAQ.out]; exact hal
  clear hal HAQ
  by_cases hN1 : N = 2
  · have hl1 := HNN.out.symm.trans hN1
    have hl0 : 2 ≤ l.length := by omega
    obtain ⟨b, off, hA⟩ := kids_addr HK.out (by omega)
    subst hA
    obtain ⟨A0, M0, p0, k0, a0, n0, s0, hq0, hd0, hz0⟩ := kid_in HK.out 0 (by omega)
    have HZ0 := Lib.hid (fun w' hb => (hz0 w' hb).1)
    have hkk0 := fun w' hb => (hz0 w' hb).2
    obtain ⟨A1, M1, p1, k1, a1, n1, s1, hq1, hd1, hz1⟩ := kid_in HK.out 1 (by omega)
    have HZ1 := Lib.hid (fun w' hb => (hz1 w' hb).1)
    have hkk1 := fun w' hb => (hz1 w' hb).2
    have HCE := Lib.hid (kid_is (f := NT.place) hq0 hd0 (rplace_any _) hkk0)
    obtain ⟨E, hE⟩ : ∃ E, E = l[0].place := ⟨_, rfl⟩
    rw [← hE] at HCE
    have HEE := Lib.hid hE
    clear hE
    have HCF := Lib.hid (kid_is (f := NT.expr) hq1 hd1 (rexpr_any _) hkk1)
    obtain ⟨F, hF⟩ : ∃ E, E = l[1].expr := ⟨_, rfl⟩
    rw [← hF] at HCF
    have HEF := Lib.hid hF
    clear hF
    have HR : Hid (R = (E && F)) := Lib.hid (by rw [HT.out, HEE.out, HEF.out]; match l, hl1 with | [u, v], _ => simp [set2])
    subst hN1
    clear HT hz0 hq0 hd0 hkk0 hz1 hq1 hd1 hkk1 hl1 hl0 HEE HEF
    cases E
    · have HR : Hid (R = false) := Lib.hid (by rw [HR.out]; rfl)
      go_enter Tryd.func33, Tryd.ntmps33
      obtain ⟨u00, u01, u02, u03, u04⟩ := HZ0.out W HB0.out
      obtain ⟨u10, u11, u12, u13, u14⟩ := HZ1.out W HB0.out
      rw [Nat.zero_mul, Nat.add_zero] at u00 u01 u02 u03 u04
      rw [Nat.one_mul] at u10 u11 u12 u13 u14
      go_wp2_with (first | (rw [← HW.out, ← HHH.out]))
      refine (HAL.out _ HB0.out).mono ?_
      rintro e w1 ⟨rfl, hb1⟩
      obtain ⟨y10, y11, y12, y13, y14⟩ := boxed_on HX.out HHW.out hb1
      obtain ⟨v100, v101, v102, v103, v104⟩ := HZ0.out w1 hb1
      obtain ⟨v110, v111, v112, v113, v114⟩ := HZ1.out w1 hb1
      rw [Nat.zero_mul, Nat.add_zero] at v100 v101 v102 v103 v104
      rw [Nat.one_mul] at v110 v111 v112 v113 v114
      have HB1 := Lib.hid hb1
      clear hb1 x0 x1 x2 x3 x4
      clear u00 u01 u02 u03 u04
      clear u10 u11 u12 u13 u14
      go_wp2_with (fail)
      refine (HCE.out _ HB1.out).mono ?_
      rintro e w2 ⟨rfl, hb2⟩
      obtain ⟨y20, y21, y22, y23, y24⟩ := boxed_on HX.out HHW.out hb2
      obtain ⟨v200, v201, v202, v203, v204⟩ := HZ0.out w2 hb2
      obtain ⟨v210, v211, v212, v213, v214⟩ := HZ1.out w2 hb2
      rw [Nat.zero_mul, Nat.add_zero] at v200 v201 v202 v203 v204
      rw [Nat.one_mul] at v210 v211 v212 v213 v214
      have HB2 := Lib.hid hb2
      clear hb2 y10 y11 y12 y13 y14
      clear v100 v101 v102 v103 v104
      clear v110 v111 v112 v113 v114
      go_wp2_with (fail)
      go_ret
      exact ⟨by rw [HR.out]; rfl, HB.out.trans (HB2.out.mono HB.out.size)⟩
    · have HR : Hid (R = F) := Lib.hid (by rw [HR.out]; rfl)
      cases F
      all_goals
        go_enter Tryd.func33, Tryd.ntmps33
        obtain ⟨u00, u01, u02, u03, u04⟩ := HZ0.out W HB0.out
        obtain ⟨u10, u11, u12, u13, u14⟩ := HZ1.out W HB0.out
        rw [Nat.zero_mul, Nat.add_zero] at u00 u01 u02 u03 u04
        rw [Nat.one_mul] at u10 u11 u12 u13 u14
        go_wp2_with (first | (rw [← HW.out, ← HHH.out]))
        refine (HAL.out _ HB0.out).mono ?_
        rintro e w1 ⟨rfl, hb1⟩
        obtain ⟨y10, y11, y12, y13, y14⟩ := boxed_on HX.out HHW.out hb1
        obtain ⟨v100, v101, v102, v103, v104⟩ := HZ0.out w1 hb1
        obtain ⟨v110, v111, v112, v113, v114⟩ := HZ1.out w1 hb1
        rw [Nat.zero_mul, Nat.add_zero] at v100 v101 v102 v103 v104
        rw [Nat.one_mul] at v110 v111 v112 v113 v114
        have HB1 := Lib.hid hb1
        clear hb1 x0 x1 x2 x3 x4
        clear u00 u01 u02 u03 u04
        clear u10 u11 u12 u13 u14
        go_wp2_with (fail)
        refine (HCE.out _ HB1.out).mono ?_
        rintro e w2 ⟨rfl, hb2⟩
        obtain ⟨y20, y21, y22, y23, y24⟩ := boxed_on HX.out HHW.out hb2
        obtain ⟨v200, v201, v202, v203, v204⟩ := HZ0.out w2 hb2
        obtain ⟨v210, v211, v212, v213, v214⟩ := HZ1.out w2 hb2
        rw [Nat.zero_mul, Nat.add_zero] at v200 v201 v202 v203 v204
        rw [Nat.one_mul] at v210 v211 v212 v213 v214
        have HB2 := Lib.hid hb2
        clear hb2 y10 y11 y12 y13 y14
        clear v100 v101 v102 v103 v104
        clear v110 v111 v112 v113 v114
        go_wp2_with (fail)
        refine (HCF.out _ HB2.out).mono ?_
        rintro e w3 ⟨rfl, hb3⟩
        obtain ⟨y30, y31, y32, y33, y34⟩ := boxed_on HX.out HHW.out hb3
        obtain ⟨v300, v301, v302, v303, v304⟩ := HZ0.out w3 hb3
        obtain ⟨v310, v311, v312, v313, v314⟩ := HZ1.out w3 hb3
        rw [Nat.zero_mul, Nat.add_zero] at v300 v301 v302 v303 v304
        rw [Nat.one_mul] at v310 v311 v312 v313 v314
        have HB3 := Lib.hid hb3
        clear hb3 y20 y21 y22 y23 y24
        clear v200 v201 v202 v203 v204
        clear v210 v211 v212 v213 v214
        go_wp2_with (fail)
        go_ret
        exact ⟨by rw [HR.out]; rfl, HB.out.trans (HB3.out.mono HB.out.size)⟩
  · have e2 : ((N : Int) == 2) = false := beq_eq_false_iff_ne.2 (by omega)
    have HR : Hid (R = false) := Lib.hid (by rw [HT.out, set2_no (l := l) (by rw [← HNN.out]; exact hN1)]; simp)
    clear HT hN1
    go_enter Tryd.func33, Tryd.ntmps33
    go_wp2_with (first | (rw [← HW.out, ← HHH.out]))
    refine (HAL.out _ HB0.out).mono ?_
    rintro e w1 ⟨rfl, hb1⟩
    obtain ⟨y10, y11, y12, y13, y14⟩ := boxed_on HX.out HHW.out hb1
    have HB1 := Lib.hid hb1
    clear hb1 x0 x1 x2 x3 x4
    go_wp2_with (fail)
    go_ret
    exact ⟨by rw [HR.out]; rfl, HB.out.trans (HB1.out.mono HB.out.size)⟩

set_option maxHeartbeats 2000000 in
set_option maxRecDepth 100000 in
theorem stmt_33 {G : Nat → Prop} (k a n : Int) (nm : List UInt8) (l : List NT) (ih : ∀ u ∈ l, IsOf G 33 NT.stmt u) (ck : k = 33) (hal : aloneN n nm = true) : IsOf G 33 NT.stmt (.mk k a n nm l) := by
  intro hd s w h
  have hdd := hd
  obtain ⟨_, _, _, hnm⟩ := hd
  change nm.length ≤ _ at hnm
  change Kids G w l s at h
  obtain ⟨A, cap, rfl, hl⟩ := h.form
  show Calls Tryd.prog 33 #[.agg #[.int .i64 k, .int .i64 a, .int .i64 n, .string ⟨nm.toArray⟩, .slice A l.length cap]] w fun e w' => e = .returned (.bool (NT.mk k a n nm l).stmt) ∧ Below w.heap.size w w'
  have HT := Lib.hid (stmt_mk k a n nm l)
  obtain ⟨R, hR⟩ : ∃ R, R = (NT.mk k a n nm l).stmt := ⟨_, rfl⟩
  rw [← hR] at HT ⊢
  obtain ⟨H, hH⟩ : ∃ H, H = w.heap.size := ⟨_, rfl⟩
  obtain ⟨W, hW⟩ : ∃ W, W = w.alloc (.cells #[.int .i64 k, .int .i64 a, .int .i64 n, .string ⟨nm.toArray⟩, .slice A l.length cap] NodeT) := ⟨_, rfl⟩
  obtain ⟨⟨x0, x1, x2, x3, x4⟩, HB, HHW⟩ := boxed hH hW
  have HX := Lib.hid (And.intro x0 (And.intro x1 (And.intro x2 (And.intro x3 x4))))
  have HAL : Hid (∀ w', Below W.heap.size W w' → Calls Tryd.prog 49 #[.agg #[.int .i64 k, .int .i64 a, .int .i64 n, .string ⟨nm.toArray⟩, .slice A l.length cap]] w' fun e w'' => e = .returned (.bool (aloneN n nm)) ∧ Below W.heap.size W w'') := Lib.hid fun w' hb => (ralone_any (.mk k a n nm l) (.slice A l.length cap) w').mono fun e w'' ⟨h1, h2⟩ => ⟨h1, hb.trans (h2.mono hb.size)⟩
  have HNM : Hid (∀ w', Below W.heap.size W w' → Calls Tryd.prog 48 #[.string ⟨nm.toArray⟩] w' fun e w'' => e = .returned (.bool (named nm)) ∧ Below W.heap.size W w'') := Lib.hid fun w' hb => (rnamed_any nm w' hnm).mono fun e w'' ⟨h1, h2⟩ => ⟨h1, hb.trans (h2.mono hb.size)⟩
  have HK := Lib.hid (h.below HB.out)
  have IH := Lib.hid ih
  obtain ⟨N, hN⟩ : ∃ N, N = l.length := ⟨_, rfl⟩
  rw [← hN] at hl x4 hW HX HK HAL ⊢
  have HW := Lib.hid hW
  have HHH := Lib.hid hH
  have HNN := Lib.hid hN
  have HB0 : Hid (Below W.heap.size W W) := Lib.hid (Below.refl _ _)
  obtain ⟨al, hal⟩ : ∃ al, al = aloneN n nm := ⟨_, rfl⟩
  rw [← hal] at HT HAL
  obtain ⟨B, hB⟩ : ∃ B, B = named nm := ⟨_, rfl⟩
  rw [← hB] at HT HNM
  have HAQ := Lib.hid hal
  have HBQ := Lib.hid hB
  clear h ih hN hW hH hR hdd hal hB
  subst ck
  obtain rfl : al = true := by rw [HAQ.out]; exact hal
  clear hal HAQ
  have HT2 : Hid (R = ifH true l) := Lib.hid (by rw [HT.out]; simp)
  clear HT
  by_cases hN1 : N < 2
  · have e2 : (N : Int) < 2 := by omega
    have HR : Hid (R = false) := Lib.hid (by rw [HT2.out, ifH_few (by rw [← HNN.out]; exact hN1)])
    clear HT2 hN1
    go_enter Tryd.func33, Tryd.ntmps33
    go_wp2_with (first | (rw [← HW.out, ← HHH.out]))
    refine (HAL.out _ HB0.out).mono ?_
    rintro e w1 ⟨rfl, hb1⟩
    obtain ⟨y10, y11, y12, y13, y14⟩ := boxed_on HX.out HHW.out hb1
    have HB1 := Lib.hid hb1
    clear hb1 x0 x1 x2 x3 x4
    go_wp2_with (fail)
    go_ret
    exact ⟨by rw [HR.out]; rfl, HB.out.trans (HB1.out.mono HB.out.size)⟩
  · have e2 : ¬ (N : Int) < 2 := by omega
    have hl0 : 2 ≤ l.length := by rw [← HNN.out]; omega
    obtain ⟨b, off, hA⟩ := kids_addr HK.out (by omega)
    subst hA
    obtain ⟨A0, M0, p0, k0, a0, n0, s0, hq0, hd0, hz0⟩ := kid_in HK.out 0 (by omega)
    have HZ0 := Lib.hid (fun w' hb => (hz0 w' hb).1)
    have hkk0 := fun w' hb => (hz0 w' hb).2
    obtain ⟨A1, M1, p1, k1, a1, n1, s1, hq1, hd1, hz1⟩ := kid_in HK.out 1 (by omega)
    have HZ1 := Lib.hid (fun w' hb => (hz1 w' hb).1)
    have hkk1 := fun w' hb => (hz1 w' hb).2
    have HCE := Lib.hid (kid_is (f := NT.expr) hq0 hd0 (rexpr_any _) hkk0)
    obtain ⟨E, hE⟩ : ∃ E, E = l[0].expr := ⟨_, rfl⟩
    rw [← hE] at HCE
    have HEE := Lib.hid hE
    clear hE
    have HCF := Lib.hid (kid_kind 30 hq1 hd1 (IH.out _ (List.getElem_mem _)) hkk1)
    obtain ⟨F, hF⟩ : ∃ E, E = (decide (k1 = 30) && l[1].stmt) := ⟨_, rfl⟩
    rw [← hF] at HCF
    have HEF := Lib.hid hF
    clear hF
    have hq11 := hq1.1
    cases E
    · have HR : Hid (R = false) := Lib.hid (by
          rw [HT2.out]
          have q := HEE.out
          cases l with
          | nil => simp at hl0
          | cons v r => rw [ifH]; simp at q; simp [q])
      clear HT2 hz0 hq0 hd0 hkk0 hz1 hq1 hd1 hkk1 hl0 HEE HEF hq11 hN1
      go_enter Tryd.func33, Tryd.ntmps33
      obtain ⟨u00, u01, u02, u03, u04⟩ := HZ0.out W HB0.out
      obtain ⟨u10, u11, u12, u13, u14⟩ := HZ1.out W HB0.out
      rw [Nat.zero_mul, Nat.add_zero] at u00 u01 u02 u03 u04
      rw [Nat.one_mul] at u10 u11 u12 u13 u14
      go_wp2_with (first | (rw [← HW.out, ← HHH.out]))
      refine (HAL.out _ HB0.out).mono ?_
      rintro e w1 ⟨rfl, hb1⟩
      obtain ⟨y10, y11, y12, y13, y14⟩ := boxed_on HX.out HHW.out hb1
      obtain ⟨v100, v101, v102, v103, v104⟩ := HZ0.out w1 hb1
      obtain ⟨v110, v111, v112, v113, v114⟩ := HZ1.out w1 hb1
      rw [Nat.zero_mul, Nat.add_zero] at v100 v101 v102 v103 v104
      rw [Nat.one_mul] at v110 v111 v112 v113 v114
      have HB1 := Lib.hid hb1
      clear hb1 x0 x1 x2 x3 x4
      clear u00 u01 u02 u03 u04
      clear u10 u11 u12 u13 u14
      go_wp2_with (fail)
      refine (HCE.out _ HB1.out).mono ?_
      rintro e w2 ⟨rfl, hb2⟩
      obtain ⟨y20, y21, y22, y23, y24⟩ := boxed_on HX.out HHW.out hb2
      obtain ⟨v200, v201, v202, v203, v204⟩ := HZ0.out w2 hb2
      obtain ⟨v210, v211, v212, v213, v214⟩ := HZ1.out w2 hb2
      rw [Nat.zero_mul, Nat.add_zero] at v200 v201 v202 v203 v204
      rw [Nat.one_mul] at v210 v211 v212 v213 v214
      have HB2 := Lib.hid hb2
      clear hb2 y10 y11 y12 y13 y14
      clear v100 v101 v102 v103 v104
      clear v110 v111 v112 v113 v114
      go_wp2_with (fail)
      go_ret
      exact ⟨by rw [HR.out]; rfl, HB.out.trans (HB2.out.mono HB.out.size)⟩
    cases F
    · have HR : Hid (R = false) := Lib.hid (by
          rw [HT2.out]
          have q := HEF.out
          have q2 := hq11
          match l, hl0 with
          | [u, v], _ => simp at q q2; rw [ifH_two]; simp [← q2]; intro _; exact q
          | [u, v, x], _ => simp at q q2; rw [ifH_three]; simp [← q2]; intro _ h1 h2; exact absurd h2 (by simp [q h1])
          | u :: v :: x :: y :: r, _ => exact ifH_more)
      clear HT2 hz0 hq0 hd0 hkk0 hz1 hq1 hd1 hkk1 hl0 HEE HEF hq11 hN1
      go_enter Tryd.func33, Tryd.ntmps33
      obtain ⟨u00, u01, u02, u03, u04⟩ := HZ0.out W HB0.out
      obtain ⟨u10, u11, u12, u13, u14⟩ := HZ1.out W HB0.out
      rw [Nat.zero_mul, Nat.add_zero] at u00 u01 u02 u03 u04
      rw [Nat.one_mul] at u10 u11 u12 u13 u14
      go_wp2_with (first | (rw [← HW.out, ← HHH.out]))
      refine (HAL.out _ HB0.out).mono ?_
      rintro e w1 ⟨rfl, hb1⟩
      obtain ⟨y10, y11, y12, y13, y14⟩ := boxed_on HX.out HHW.out hb1
      obtain ⟨v100, v101, v102, v103, v104⟩ := HZ0.out w1 hb1
      obtain ⟨v110, v111, v112, v113, v114⟩ := HZ1.out w1 hb1
      rw [Nat.zero_mul, Nat.add_zero] at v100 v101 v102 v103 v104
      rw [Nat.one_mul] at v110 v111 v112 v113 v114
      have HB1 := Lib.hid hb1
      clear hb1 x0 x1 x2 x3 x4
      clear u00 u01 u02 u03 u04
      clear u10 u11 u12 u13 u14
      go_wp2_with (fail)
      refine (HCE.out _ HB1.out).mono ?_
      rintro e w2 ⟨rfl, hb2⟩
      obtain ⟨y20, y21, y22, y23, y24⟩ := boxed_on HX.out HHW.out hb2
      obtain ⟨v200, v201, v202, v203, v204⟩ := HZ0.out w2 hb2
      obtain ⟨v210, v211, v212, v213, v214⟩ := HZ1.out w2 hb2
      rw [Nat.zero_mul, Nat.add_zero] at v200 v201 v202 v203 v204
      rw [Nat.one_mul] at v210 v211 v212 v213 v214
      have HB2 := Lib.hid hb2
      clear hb2 y10 y11 y12 y13 y14
      clear v100 v101 v102 v103 v104
      clear v110 v111 v112 v113 v114
      go_wp2_with (fail)
      refine (HCF.out _ HB2.out).mono ?_
      rintro e w3 ⟨rfl, hb3⟩
      obtain ⟨y30, y31, y32, y33, y34⟩ := boxed_on HX.out HHW.out hb3
      obtain ⟨v300, v301, v302, v303, v304⟩ := HZ0.out w3 hb3
      obtain ⟨v310, v311, v312, v313, v314⟩ := HZ1.out w3 hb3
      rw [Nat.zero_mul, Nat.add_zero] at v300 v301 v302 v303 v304
      rw [Nat.one_mul] at v310 v311 v312 v313 v314
      have HB3 := Lib.hid hb3
      clear hb3 y20 y21 y22 y23 y24
      clear v200 v201 v202 v203 v204
      clear v210 v211 v212 v213 v214
      go_wp2_with (fail)
      go_ret
      exact ⟨by rw [HR.out]; rfl, HB.out.trans (HB3.out.mono HB.out.size)⟩
    by_cases hN2 : N = 2
    · have hl1 := HNN.out.symm.trans hN2
      have HR : Hid (R = true) := Lib.hid (by
          rw [HT2.out]
          have q := HEF.out
          have q1 := HEE.out
          have q2 := hq11
          match l, hl1 with
          | [u, v], _ => simp at q q1 q2; rw [ifH_two]; simp [← q2, ← q1, q])
      subst hN2
      clear HT2 hz0 hq0 hd0 hkk0 hz1 hq1 hd1 hkk1 hl0 hl1 HEE HEF hq11 hN1
      go_enter Tryd.func33, Tryd.ntmps33
      obtain ⟨u00, u01, u02, u03, u04⟩ := HZ0.out W HB0.out
      obtain ⟨u10, u11, u12, u13, u14⟩ := HZ1.out W HB0.out
      rw [Nat.zero_mul, Nat.add_zero] at u00 u01 u02 u03 u04
      rw [Nat.one_mul] at u10 u11 u12 u13 u14
      go_wp2_with (first | (rw [← HW.out, ← HHH.out]))
      refine (HAL.out _ HB0.out).mono ?_
      rintro e w1 ⟨rfl, hb1⟩
      obtain ⟨y10, y11, y12, y13, y14⟩ := boxed_on HX.out HHW.out hb1
      obtain ⟨v100, v101, v102, v103, v104⟩ := HZ0.out w1 hb1
      obtain ⟨v110, v111, v112, v113, v114⟩ := HZ1.out w1 hb1
      rw [Nat.zero_mul, Nat.add_zero] at v100 v101 v102 v103 v104
      rw [Nat.one_mul] at v110 v111 v112 v113 v114
      have HB1 := Lib.hid hb1
      clear hb1 x0 x1 x2 x3 x4
      clear u00 u01 u02 u03 u04
      clear u10 u11 u12 u13 u14
      go_wp2_with (fail)
      refine (HCE.out _ HB1.out).mono ?_
      rintro e w2 ⟨rfl, hb2⟩
      obtain ⟨y20, y21, y22, y23, y24⟩ := boxed_on HX.out HHW.out hb2
      obtain ⟨v200, v201, v202, v203, v204⟩ := HZ0.out w2 hb2
      obtain ⟨v210, v211, v212, v213, v214⟩ := HZ1.out w2 hb2
      rw [Nat.zero_mul, Nat.add_zero] at v200 v201 v202 v203 v204
      rw [Nat.one_mul] at v210 v211 v212 v213 v214
      have HB2 := Lib.hid hb2
      clear hb2 y10 y11 y12 y13 y14
      clear v100 v101 v102 v103 v104
      clear v110 v111 v112 v113 v114
      go_wp2_with (fail)
      refine (HCF.out _ HB2.out).mono ?_
      rintro e w3 ⟨rfl, hb3⟩
      obtain ⟨y30, y31, y32, y33, y34⟩ := boxed_on HX.out HHW.out hb3
      obtain ⟨v300, v301, v302, v303, v304⟩ := HZ0.out w3 hb3
      obtain ⟨v310, v311, v312, v313, v314⟩ := HZ1.out w3 hb3
      rw [Nat.zero_mul, Nat.add_zero] at v300 v301 v302 v303 v304
      rw [Nat.one_mul] at v310 v311 v312 v313 v314
      have HB3 := Lib.hid hb3
      clear hb3 y20 y21 y22 y23 y24
      clear v200 v201 v202 v203 v204
      clear v210 v211 v212 v213 v214
      go_wp2_with (fail)
      go_ret
      exact ⟨by rw [HR.out]; rfl, HB.out.trans (HB3.out.mono HB.out.size)⟩
    have e3 : ((N : Int) == 2) = false := beq_eq_false_iff_ne.2 (by omega)
    by_cases hN3 : N = 3
    · have hl1 := HNN.out.symm.trans hN3
      obtain ⟨A2, M2, p2, k2, a2, n2, s2, hq2, hd2, hz2⟩ := kid_in HK.out 2 (by omega)
      have HZ2 := Lib.hid (fun w' hb => (hz2 w' hb).1)
      have hkk2 := fun w' hb => (hz2 w' hb).2
      have HCD := Lib.hid (kid_kind 30 hq2 hd2 (IH.out _ (List.getElem_mem _)) hkk2)
      obtain ⟨D, hD⟩ : ∃ E, E = (decide (k2 = 30) && l[2].stmt) := ⟨_, rfl⟩
      rw [← hD] at HCD
      have HED := Lib.hid hD
      clear hD
      have HCP := Lib.hid (kid_kind 33 hq2 hd2 (IH.out _ (List.getElem_mem _)) hkk2)
      obtain ⟨P, hP⟩ : ∃ E, E = (decide (k2 = 33) && l[2].stmt) := ⟨_, rfl⟩
      rw [← hP] at HCP
      have HEP := Lib.hid hP
      clear hP
      have HR : Hid (R = (D || P)) := Lib.hid (by
          rw [HT2.out, HED.out, HEP.out]
          have q := HEF.out
          have q1 := HEE.out
          have q2 := hq11
          have q3 := hq2.1
          match l, hl1 with
          | [u, v, x], _ => simp at q q1 q2 q3; rw [ifH_three]; simp [← q2, ← q1, q, q3])
      subst hN3
      clear HT2 hz0 hq0 hd0 hkk0 hz1 hq1 hd1 hkk1 hz2 hq2 hd2 hkk2 hl0 hl1 HEE HEF HED HEP hq11 hN1 hN2
      cases D
      · have HR : Hid (R = P) := Lib.hid (by rw [HR.out]; rfl)
        cases P
        all_goals
          go_enter Tryd.func33, Tryd.ntmps33
          obtain ⟨u00, u01, u02, u03, u04⟩ := HZ0.out W HB0.out
          obtain ⟨u10, u11, u12, u13, u14⟩ := HZ1.out W HB0.out
          obtain ⟨u20, u21, u22, u23, u24⟩ := HZ2.out W HB0.out
          rw [Nat.zero_mul, Nat.add_zero] at u00 u01 u02 u03 u04
          rw [Nat.one_mul] at u10 u11 u12 u13 u14
          rw [show 2 * 5 = 10 from rfl] at u20 u21 u22 u23 u24
          go_wp2_with (first | (rw [← HW.out, ← HHH.out]))
          refine (HAL.out _ HB0.out).mono ?_
          rintro e w1 ⟨rfl, hb1⟩
          obtain ⟨y10, y11, y12, y13, y14⟩ := boxed_on HX.out HHW.out hb1
          obtain ⟨v100, v101, v102, v103, v104⟩ := HZ0.out w1 hb1
          obtain ⟨v110, v111, v112, v113, v114⟩ := HZ1.out w1 hb1
          obtain ⟨v120, v121, v122, v123, v124⟩ := HZ2.out w1 hb1
          rw [Nat.zero_mul, Nat.add_zero] at v100 v101 v102 v103 v104
          rw [Nat.one_mul] at v110 v111 v112 v113 v114
          rw [show 2 * 5 = 10 from rfl] at v120 v121 v122 v123 v124
          have HB1 := Lib.hid hb1
          clear hb1 x0 x1 x2 x3 x4
          clear u00 u01 u02 u03 u04
          clear u10 u11 u12 u13 u14
          clear u20 u21 u22 u23 u24
          go_wp2_with (fail)
          refine (HCE.out _ HB1.out).mono ?_
          rintro e w2 ⟨rfl, hb2⟩
          obtain ⟨y20, y21, y22, y23, y24⟩ := boxed_on HX.out HHW.out hb2
          obtain ⟨v200, v201, v202, v203, v204⟩ := HZ0.out w2 hb2
          obtain ⟨v210, v211, v212, v213, v214⟩ := HZ1.out w2 hb2
          obtain ⟨v220, v221, v222, v223, v224⟩ := HZ2.out w2 hb2
          rw [Nat.zero_mul, Nat.add_zero] at v200 v201 v202 v203 v204
          rw [Nat.one_mul] at v210 v211 v212 v213 v214
          rw [show 2 * 5 = 10 from rfl] at v220 v221 v222 v223 v224
          have HB2 := Lib.hid hb2
          clear hb2 y10 y11 y12 y13 y14
          clear v100 v101 v102 v103 v104
          clear v110 v111 v112 v113 v114
          clear v120 v121 v122 v123 v124
          go_wp2_with (fail)
          refine (HCF.out _ HB2.out).mono ?_
          rintro e w3 ⟨rfl, hb3⟩
          obtain ⟨y30, y31, y32, y33, y34⟩ := boxed_on HX.out HHW.out hb3
          obtain ⟨v300, v301, v302, v303, v304⟩ := HZ0.out w3 hb3
          obtain ⟨v310, v311, v312, v313, v314⟩ := HZ1.out w3 hb3
          obtain ⟨v320, v321, v322, v323, v324⟩ := HZ2.out w3 hb3
          rw [Nat.zero_mul, Nat.add_zero] at v300 v301 v302 v303 v304
          rw [Nat.one_mul] at v310 v311 v312 v313 v314
          rw [show 2 * 5 = 10 from rfl] at v320 v321 v322 v323 v324
          have HB3 := Lib.hid hb3
          clear hb3 y20 y21 y22 y23 y24
          clear v200 v201 v202 v203 v204
          clear v210 v211 v212 v213 v214
          clear v220 v221 v222 v223 v224
          go_wp2_with (fail)
          refine (HCD.out _ HB3.out).mono ?_
          rintro e w4 ⟨rfl, hb4⟩
          obtain ⟨y40, y41, y42, y43, y44⟩ := boxed_on HX.out HHW.out hb4
          obtain ⟨v400, v401, v402, v403, v404⟩ := HZ0.out w4 hb4
          obtain ⟨v410, v411, v412, v413, v414⟩ := HZ1.out w4 hb4
          obtain ⟨v420, v421, v422, v423, v424⟩ := HZ2.out w4 hb4
          rw [Nat.zero_mul, Nat.add_zero] at v400 v401 v402 v403 v404
          rw [Nat.one_mul] at v410 v411 v412 v413 v414
          rw [show 2 * 5 = 10 from rfl] at v420 v421 v422 v423 v424
          have HB4 := Lib.hid hb4
          clear hb4 y30 y31 y32 y33 y34
          clear v300 v301 v302 v303 v304
          clear v310 v311 v312 v313 v314
          clear v320 v321 v322 v323 v324
          go_wp2_with (fail)
          refine (HCP.out _ HB4.out).mono ?_
          rintro e w5 ⟨rfl, hb5⟩
          obtain ⟨y50, y51, y52, y53, y54⟩ := boxed_on HX.out HHW.out hb5
          obtain ⟨v500, v501, v502, v503, v504⟩ := HZ0.out w5 hb5
          obtain ⟨v510, v511, v512, v513, v514⟩ := HZ1.out w5 hb5
          obtain ⟨v520, v521, v522, v523, v524⟩ := HZ2.out w5 hb5
          rw [Nat.zero_mul, Nat.add_zero] at v500 v501 v502 v503 v504
          rw [Nat.one_mul] at v510 v511 v512 v513 v514
          rw [show 2 * 5 = 10 from rfl] at v520 v521 v522 v523 v524
          have HB5 := Lib.hid hb5
          clear hb5 y40 y41 y42 y43 y44
          clear v400 v401 v402 v403 v404
          clear v410 v411 v412 v413 v414
          clear v420 v421 v422 v423 v424
          go_wp2_with (fail)
          go_ret
          exact ⟨by rw [HR.out]; rfl, HB.out.trans (HB5.out.mono HB.out.size)⟩
      · have HR : Hid (R = true) := Lib.hid (by rw [HR.out]; rfl)
        go_enter Tryd.func33, Tryd.ntmps33
        obtain ⟨u00, u01, u02, u03, u04⟩ := HZ0.out W HB0.out
        obtain ⟨u10, u11, u12, u13, u14⟩ := HZ1.out W HB0.out
        obtain ⟨u20, u21, u22, u23, u24⟩ := HZ2.out W HB0.out
        rw [Nat.zero_mul, Nat.add_zero] at u00 u01 u02 u03 u04
        rw [Nat.one_mul] at u10 u11 u12 u13 u14
        rw [show 2 * 5 = 10 from rfl] at u20 u21 u22 u23 u24
        go_wp2_with (first | (rw [← HW.out, ← HHH.out]))
        refine (HAL.out _ HB0.out).mono ?_
        rintro e w1 ⟨rfl, hb1⟩
        obtain ⟨y10, y11, y12, y13, y14⟩ := boxed_on HX.out HHW.out hb1
        obtain ⟨v100, v101, v102, v103, v104⟩ := HZ0.out w1 hb1
        obtain ⟨v110, v111, v112, v113, v114⟩ := HZ1.out w1 hb1
        obtain ⟨v120, v121, v122, v123, v124⟩ := HZ2.out w1 hb1
        rw [Nat.zero_mul, Nat.add_zero] at v100 v101 v102 v103 v104
        rw [Nat.one_mul] at v110 v111 v112 v113 v114
        rw [show 2 * 5 = 10 from rfl] at v120 v121 v122 v123 v124
        have HB1 := Lib.hid hb1
        clear hb1 x0 x1 x2 x3 x4
        clear u00 u01 u02 u03 u04
        clear u10 u11 u12 u13 u14
        clear u20 u21 u22 u23 u24
        go_wp2_with (fail)
        refine (HCE.out _ HB1.out).mono ?_
        rintro e w2 ⟨rfl, hb2⟩
        obtain ⟨y20, y21, y22, y23, y24⟩ := boxed_on HX.out HHW.out hb2
        obtain ⟨v200, v201, v202, v203, v204⟩ := HZ0.out w2 hb2
        obtain ⟨v210, v211, v212, v213, v214⟩ := HZ1.out w2 hb2
        obtain ⟨v220, v221, v222, v223, v224⟩ := HZ2.out w2 hb2
        rw [Nat.zero_mul, Nat.add_zero] at v200 v201 v202 v203 v204
        rw [Nat.one_mul] at v210 v211 v212 v213 v214
        rw [show 2 * 5 = 10 from rfl] at v220 v221 v222 v223 v224
        have HB2 := Lib.hid hb2
        clear hb2 y10 y11 y12 y13 y14
        clear v100 v101 v102 v103 v104
        clear v110 v111 v112 v113 v114
        clear v120 v121 v122 v123 v124
        go_wp2_with (fail)
        refine (HCF.out _ HB2.out).mono ?_
        rintro e w3 ⟨rfl, hb3⟩
        obtain ⟨y30, y31, y32, y33, y34⟩ := boxed_on HX.out HHW.out hb3
        obtain ⟨v300, v301, v302, v303, v304⟩ := HZ0.out w3 hb3
        obtain ⟨v310, v311, v312, v313, v314⟩ := HZ1.out w3 hb3
        obtain ⟨v320, v321, v322, v323, v324⟩ := HZ2.out w3 hb3
        rw [Nat.zero_mul, Nat.add_zero] at v300 v301 v302 v303 v304
        rw [Nat.one_mul] at v310 v311 v312 v313 v314
        rw [show 2 * 5 = 10 from rfl] at v320 v321 v322 v323 v324
        have HB3 := Lib.hid hb3
        clear hb3 y20 y21 y22 y23 y24
        clear v200 v201 v202 v203 v204
        clear v210 v211 v212 v213 v214
        clear v220 v221 v222 v223 v224
        go_wp2_with (fail)
        refine (HCD.out _ HB3.out).mono ?_
        rintro e w4 ⟨rfl, hb4⟩
        obtain ⟨y40, y41, y42, y43, y44⟩ := boxed_on HX.out HHW.out hb4
        obtain ⟨v400, v401, v402, v403, v404⟩ := HZ0.out w4 hb4
        obtain ⟨v410, v411, v412, v413, v414⟩ := HZ1.out w4 hb4
        obtain ⟨v420, v421, v422, v423, v424⟩ := HZ2.out w4 hb4
        rw [Nat.zero_mul, Nat.add_zero] at v400 v401 v402 v403 v404
        rw [Nat.one_mul] at v410 v411 v412 v413 v414
        rw [show 2 * 5 = 10 from rfl] at v420 v421 v422 v423 v424
        have HB4 := Lib.hid hb4
        clear hb4 y30 y31 y32 y33 y34
        clear v300 v301 v302 v303 v304
        clear v310 v311 v312 v313 v314
        clear v320 v321 v322 v323 v324
        go_wp2_with (fail)
        go_ret
        exact ⟨by rw [HR.out]; rfl, HB.out.trans (HB4.out.mono HB.out.size)⟩
    · have e4 : ((N : Int) == 3) = false := beq_eq_false_iff_ne.2 (by omega)
      have HR : Hid (R = false) := Lib.hid (by
          rw [HT2.out]
          have q3 : l.length ≠ 2 := by rw [← HNN.out]; exact hN2
          have q4 : l.length ≠ 3 := by rw [← HNN.out]; exact hN3
          match l, hl0, q3, q4 with
          | [u, v], _, q3, _ => simp at q3
          | [u, v, x], _, _, q4 => simp at q4
          | u :: v :: x :: y :: r, _, _, _ => exact ifH_more)
      clear HT2 hz0 hq0 hd0 hkk0 hz1 hq1 hd1 hkk1 hl0 HEE HEF hq11 hN1 hN2 hN3
      go_enter Tryd.func33, Tryd.ntmps33
      obtain ⟨u00, u01, u02, u03, u04⟩ := HZ0.out W HB0.out
      obtain ⟨u10, u11, u12, u13, u14⟩ := HZ1.out W HB0.out
      rw [Nat.zero_mul, Nat.add_zero] at u00 u01 u02 u03 u04
      rw [Nat.one_mul] at u10 u11 u12 u13 u14
      go_wp2_with (first | (rw [← HW.out, ← HHH.out]))
      refine (HAL.out _ HB0.out).mono ?_
      rintro e w1 ⟨rfl, hb1⟩
      obtain ⟨y10, y11, y12, y13, y14⟩ := boxed_on HX.out HHW.out hb1
      obtain ⟨v100, v101, v102, v103, v104⟩ := HZ0.out w1 hb1
      obtain ⟨v110, v111, v112, v113, v114⟩ := HZ1.out w1 hb1
      rw [Nat.zero_mul, Nat.add_zero] at v100 v101 v102 v103 v104
      rw [Nat.one_mul] at v110 v111 v112 v113 v114
      have HB1 := Lib.hid hb1
      clear hb1 x0 x1 x2 x3 x4
      clear u00 u01 u02 u03 u04
      clear u10 u11 u12 u13 u14
      go_wp2_with (fail)
      refine (HCE.out _ HB1.out).mono ?_
      rintro e w2 ⟨rfl, hb2⟩
      obtain ⟨y20, y21, y22, y23, y24⟩ := boxed_on HX.out HHW.out hb2
      obtain ⟨v200, v201, v202, v203, v204⟩ := HZ0.out w2 hb2
      obtain ⟨v210, v211, v212, v213, v214⟩ := HZ1.out w2 hb2
      rw [Nat.zero_mul, Nat.add_zero] at v200 v201 v202 v203 v204
      rw [Nat.one_mul] at v210 v211 v212 v213 v214
      have HB2 := Lib.hid hb2
      clear hb2 y10 y11 y12 y13 y14
      clear v100 v101 v102 v103 v104
      clear v110 v111 v112 v113 v114
      go_wp2_with (fail)
      refine (HCF.out _ HB2.out).mono ?_
      rintro e w3 ⟨rfl, hb3⟩
      obtain ⟨y30, y31, y32, y33, y34⟩ := boxed_on HX.out HHW.out hb3
      obtain ⟨v300, v301, v302, v303, v304⟩ := HZ0.out w3 hb3
      obtain ⟨v310, v311, v312, v313, v314⟩ := HZ1.out w3 hb3
      rw [Nat.zero_mul, Nat.add_zero] at v300 v301 v302 v303 v304
      rw [Nat.one_mul] at v310 v311 v312 v313 v314
      have HB3 := Lib.hid hb3
      clear hb3 y20 y21 y22 y23 y24
      clear v200 v201 v202 v203 v204
      clear v210 v211 v212 v213 v214
      go_wp2_with (fail)
      go_ret
      exact ⟨by rw [HR.out]; rfl, HB.out.trans (HB3.out.mono HB.out.size)⟩

set_option maxHeartbeats 2000000 in
set_option maxRecDepth 100000 in
theorem stmt_34 {G : Nat → Prop} (k a n : Int) (nm : List UInt8) (l : List NT) (ih : ∀ u ∈ l, IsOf G 33 NT.stmt u) (ck : k = 34) (hal : aloneN n nm = true) : IsOf G 33 NT.stmt (.mk k a n nm l) := by
  intro hd s w h
  have hdd := hd
  obtain ⟨_, _, _, hnm⟩ := hd
  change nm.length ≤ _ at hnm
  change Kids G w l s at h
  obtain ⟨A, cap, rfl, hl⟩ := h.form
  show Calls Tryd.prog 33 #[.agg #[.int .i64 k, .int .i64 a, .int .i64 n, .string ⟨nm.toArray⟩, .slice A l.length cap]] w fun e w' => e = .returned (.bool (NT.mk k a n nm l).stmt) ∧ Below w.heap.size w w'
  have HT := Lib.hid (stmt_mk k a n nm l)
  obtain ⟨R, hR⟩ : ∃ R, R = (NT.mk k a n nm l).stmt := ⟨_, rfl⟩
  rw [← hR] at HT ⊢
  obtain ⟨H, hH⟩ : ∃ H, H = w.heap.size := ⟨_, rfl⟩
  obtain ⟨W, hW⟩ : ∃ W, W = w.alloc (.cells #[.int .i64 k, .int .i64 a, .int .i64 n, .string ⟨nm.toArray⟩, .slice A l.length cap] NodeT) := ⟨_, rfl⟩
  obtain ⟨⟨x0, x1, x2, x3, x4⟩, HB, HHW⟩ := boxed hH hW
  have HX := Lib.hid (And.intro x0 (And.intro x1 (And.intro x2 (And.intro x3 x4))))
  have HAL : Hid (∀ w', Below W.heap.size W w' → Calls Tryd.prog 49 #[.agg #[.int .i64 k, .int .i64 a, .int .i64 n, .string ⟨nm.toArray⟩, .slice A l.length cap]] w' fun e w'' => e = .returned (.bool (aloneN n nm)) ∧ Below W.heap.size W w'') := Lib.hid fun w' hb => (ralone_any (.mk k a n nm l) (.slice A l.length cap) w').mono fun e w'' ⟨h1, h2⟩ => ⟨h1, hb.trans (h2.mono hb.size)⟩
  have HNM : Hid (∀ w', Below W.heap.size W w' → Calls Tryd.prog 48 #[.string ⟨nm.toArray⟩] w' fun e w'' => e = .returned (.bool (named nm)) ∧ Below W.heap.size W w'') := Lib.hid fun w' hb => (rnamed_any nm w' hnm).mono fun e w'' ⟨h1, h2⟩ => ⟨h1, hb.trans (h2.mono hb.size)⟩
  have HK := Lib.hid (h.below HB.out)
  have IH := Lib.hid ih
  obtain ⟨N, hN⟩ : ∃ N, N = l.length := ⟨_, rfl⟩
  rw [← hN] at hl x4 hW HX HK HAL ⊢
  have HW := Lib.hid hW
  have HHH := Lib.hid hH
  have HNN := Lib.hid hN
  have HB0 : Hid (Below W.heap.size W W) := Lib.hid (Below.refl _ _)
  obtain ⟨al, hal⟩ : ∃ al, al = aloneN n nm := ⟨_, rfl⟩
  rw [← hal] at HT HAL
  obtain ⟨B, hB⟩ : ∃ B, B = named nm := ⟨_, rfl⟩
  rw [← hB] at HT HNM
  have HAQ := Lib.hid hal
  have HBQ := Lib.hid hB
  clear h ih hN hW hH hR hdd hal hB
  subst ck
  obtain rfl : al = true := by rw [HAQ.out]; exact hal
  clear hal HAQ
  have HT2 : Hid (R = ifH false l) := Lib.hid (by rw [HT.out]; simp)
  clear HT
  by_cases hN1 : N < 2
  · have e2 : (N : Int) < 2 := by omega
    have HR : Hid (R = false) := Lib.hid (by rw [HT2.out, ifH_few (by rw [← HNN.out]; exact hN1)])
    clear HT2 hN1
    go_enter Tryd.func33, Tryd.ntmps33
    go_wp2_with (first | (rw [← HW.out, ← HHH.out]))
    refine (HAL.out _ HB0.out).mono ?_
    rintro e w1 ⟨rfl, hb1⟩
    obtain ⟨y10, y11, y12, y13, y14⟩ := boxed_on HX.out HHW.out hb1
    have HB1 := Lib.hid hb1
    clear hb1 x0 x1 x2 x3 x4
    go_wp2_with (fail)
    go_ret
    exact ⟨by rw [HR.out]; rfl, HB.out.trans (HB1.out.mono HB.out.size)⟩
  · have e2 : ¬ (N : Int) < 2 := by omega
    have hl0 : 2 ≤ l.length := by rw [← HNN.out]; omega
    obtain ⟨b, off, hA⟩ := kids_addr HK.out (by omega)
    subst hA
    obtain ⟨A0, M0, p0, k0, a0, n0, s0, hq0, hd0, hz0⟩ := kid_in HK.out 0 (by omega)
    have HZ0 := Lib.hid (fun w' hb => (hz0 w' hb).1)
    have hkk0 := fun w' hb => (hz0 w' hb).2
    obtain ⟨A1, M1, p1, k1, a1, n1, s1, hq1, hd1, hz1⟩ := kid_in HK.out 1 (by omega)
    have HZ1 := Lib.hid (fun w' hb => (hz1 w' hb).1)
    have hkk1 := fun w' hb => (hz1 w' hb).2
    have HCE := Lib.hid (kid_is (f := NT.expr) hq0 hd0 (rexpr_any _) hkk0)
    obtain ⟨E, hE⟩ : ∃ E, E = l[0].expr := ⟨_, rfl⟩
    rw [← hE] at HCE
    have HEE := Lib.hid hE
    clear hE
    have HCF := Lib.hid (kid_kind 30 hq1 hd1 (IH.out _ (List.getElem_mem _)) hkk1)
    obtain ⟨F, hF⟩ : ∃ E, E = (decide (k1 = 30) && l[1].stmt) := ⟨_, rfl⟩
    rw [← hF] at HCF
    have HEF := Lib.hid hF
    clear hF
    have hq11 := hq1.1
    cases E
    · have HR : Hid (R = false) := Lib.hid (by
          rw [HT2.out]
          have q := HEE.out
          cases l with
          | nil => simp at hl0
          | cons v r => rw [ifH]; simp at q; simp [q])
      clear HT2 hz0 hq0 hd0 hkk0 hz1 hq1 hd1 hkk1 hl0 HEE HEF hq11 hN1
      go_enter Tryd.func33, Tryd.ntmps33
      obtain ⟨u00, u01, u02, u03, u04⟩ := HZ0.out W HB0.out
      obtain ⟨u10, u11, u12, u13, u14⟩ := HZ1.out W HB0.out
      rw [Nat.zero_mul, Nat.add_zero] at u00 u01 u02 u03 u04
      rw [Nat.one_mul] at u10 u11 u12 u13 u14
      go_wp2_with (first | (rw [← HW.out, ← HHH.out]))
      refine (HAL.out _ HB0.out).mono ?_
      rintro e w1 ⟨rfl, hb1⟩
      obtain ⟨y10, y11, y12, y13, y14⟩ := boxed_on HX.out HHW.out hb1
      obtain ⟨v100, v101, v102, v103, v104⟩ := HZ0.out w1 hb1
      obtain ⟨v110, v111, v112, v113, v114⟩ := HZ1.out w1 hb1
      rw [Nat.zero_mul, Nat.add_zero] at v100 v101 v102 v103 v104
      rw [Nat.one_mul] at v110 v111 v112 v113 v114
      have HB1 := Lib.hid hb1
      clear hb1 x0 x1 x2 x3 x4
      clear u00 u01 u02 u03 u04
      clear u10 u11 u12 u13 u14
      go_wp2_with (fail)
      refine (HCE.out _ HB1.out).mono ?_
      rintro e w2 ⟨rfl, hb2⟩
      obtain ⟨y20, y21, y22, y23, y24⟩ := boxed_on HX.out HHW.out hb2
      obtain ⟨v200, v201, v202, v203, v204⟩ := HZ0.out w2 hb2
      obtain ⟨v210, v211, v212, v213, v214⟩ := HZ1.out w2 hb2
      rw [Nat.zero_mul, Nat.add_zero] at v200 v201 v202 v203 v204
      rw [Nat.one_mul] at v210 v211 v212 v213 v214
      have HB2 := Lib.hid hb2
      clear hb2 y10 y11 y12 y13 y14
      clear v100 v101 v102 v103 v104
      clear v110 v111 v112 v113 v114
      go_wp2_with (fail)
      go_ret
      exact ⟨by rw [HR.out]; rfl, HB.out.trans (HB2.out.mono HB.out.size)⟩
    cases F
    · have HR : Hid (R = false) := Lib.hid (by
          rw [HT2.out]
          have q := HEF.out
          have q2 := hq11
          match l, hl0 with
          | [u, v], _ => simp at q q2; rw [ifH_two]; simp [← q2]; intro _; exact q
          | [u, v, x], _ => rw [ifH_three]; simp
          | u :: v :: x :: y :: r, _ => exact ifH_more)
      clear HT2 hz0 hq0 hd0 hkk0 hz1 hq1 hd1 hkk1 hl0 HEE HEF hq11 hN1
      go_enter Tryd.func33, Tryd.ntmps33
      obtain ⟨u00, u01, u02, u03, u04⟩ := HZ0.out W HB0.out
      obtain ⟨u10, u11, u12, u13, u14⟩ := HZ1.out W HB0.out
      rw [Nat.zero_mul, Nat.add_zero] at u00 u01 u02 u03 u04
      rw [Nat.one_mul] at u10 u11 u12 u13 u14
      go_wp2_with (first | (rw [← HW.out, ← HHH.out]))
      refine (HAL.out _ HB0.out).mono ?_
      rintro e w1 ⟨rfl, hb1⟩
      obtain ⟨y10, y11, y12, y13, y14⟩ := boxed_on HX.out HHW.out hb1
      obtain ⟨v100, v101, v102, v103, v104⟩ := HZ0.out w1 hb1
      obtain ⟨v110, v111, v112, v113, v114⟩ := HZ1.out w1 hb1
      rw [Nat.zero_mul, Nat.add_zero] at v100 v101 v102 v103 v104
      rw [Nat.one_mul] at v110 v111 v112 v113 v114
      have HB1 := Lib.hid hb1
      clear hb1 x0 x1 x2 x3 x4
      clear u00 u01 u02 u03 u04
      clear u10 u11 u12 u13 u14
      go_wp2_with (fail)
      refine (HCE.out _ HB1.out).mono ?_
      rintro e w2 ⟨rfl, hb2⟩
      obtain ⟨y20, y21, y22, y23, y24⟩ := boxed_on HX.out HHW.out hb2
      obtain ⟨v200, v201, v202, v203, v204⟩ := HZ0.out w2 hb2
      obtain ⟨v210, v211, v212, v213, v214⟩ := HZ1.out w2 hb2
      rw [Nat.zero_mul, Nat.add_zero] at v200 v201 v202 v203 v204
      rw [Nat.one_mul] at v210 v211 v212 v213 v214
      have HB2 := Lib.hid hb2
      clear hb2 y10 y11 y12 y13 y14
      clear v100 v101 v102 v103 v104
      clear v110 v111 v112 v113 v114
      go_wp2_with (fail)
      refine (HCF.out _ HB2.out).mono ?_
      rintro e w3 ⟨rfl, hb3⟩
      obtain ⟨y30, y31, y32, y33, y34⟩ := boxed_on HX.out HHW.out hb3
      obtain ⟨v300, v301, v302, v303, v304⟩ := HZ0.out w3 hb3
      obtain ⟨v310, v311, v312, v313, v314⟩ := HZ1.out w3 hb3
      rw [Nat.zero_mul, Nat.add_zero] at v300 v301 v302 v303 v304
      rw [Nat.one_mul] at v310 v311 v312 v313 v314
      have HB3 := Lib.hid hb3
      clear hb3 y20 y21 y22 y23 y24
      clear v200 v201 v202 v203 v204
      clear v210 v211 v212 v213 v214
      go_wp2_with (fail)
      go_ret
      exact ⟨by rw [HR.out]; rfl, HB.out.trans (HB3.out.mono HB.out.size)⟩
    by_cases hN2 : N = 2
    · have hl1 := HNN.out.symm.trans hN2
      have HR : Hid (R = true) := Lib.hid (by
          rw [HT2.out]
          have q := HEF.out
          have q1 := HEE.out
          have q2 := hq11
          match l, hl1 with
          | [u, v], _ => simp at q q1 q2; rw [ifH_two]; simp [← q2, ← q1, q])
      subst hN2
      clear HT2 hz0 hq0 hd0 hkk0 hz1 hq1 hd1 hkk1 hl0 hl1 HEE HEF hq11 hN1
      go_enter Tryd.func33, Tryd.ntmps33
      obtain ⟨u00, u01, u02, u03, u04⟩ := HZ0.out W HB0.out
      obtain ⟨u10, u11, u12, u13, u14⟩ := HZ1.out W HB0.out
      rw [Nat.zero_mul, Nat.add_zero] at u00 u01 u02 u03 u04
      rw [Nat.one_mul] at u10 u11 u12 u13 u14
      go_wp2_with (first | (rw [← HW.out, ← HHH.out]))
      refine (HAL.out _ HB0.out).mono ?_
      rintro e w1 ⟨rfl, hb1⟩
      obtain ⟨y10, y11, y12, y13, y14⟩ := boxed_on HX.out HHW.out hb1
      obtain ⟨v100, v101, v102, v103, v104⟩ := HZ0.out w1 hb1
      obtain ⟨v110, v111, v112, v113, v114⟩ := HZ1.out w1 hb1
      rw [Nat.zero_mul, Nat.add_zero] at v100 v101 v102 v103 v104
      rw [Nat.one_mul] at v110 v111 v112 v113 v114
      have HB1 := Lib.hid hb1
      clear hb1 x0 x1 x2 x3 x4
      clear u00 u01 u02 u03 u04
      clear u10 u11 u12 u13 u14
      go_wp2_with (fail)
      refine (HCE.out _ HB1.out).mono ?_
      rintro e w2 ⟨rfl, hb2⟩
      obtain ⟨y20, y21, y22, y23, y24⟩ := boxed_on HX.out HHW.out hb2
      obtain ⟨v200, v201, v202, v203, v204⟩ := HZ0.out w2 hb2
      obtain ⟨v210, v211, v212, v213, v214⟩ := HZ1.out w2 hb2
      rw [Nat.zero_mul, Nat.add_zero] at v200 v201 v202 v203 v204
      rw [Nat.one_mul] at v210 v211 v212 v213 v214
      have HB2 := Lib.hid hb2
      clear hb2 y10 y11 y12 y13 y14
      clear v100 v101 v102 v103 v104
      clear v110 v111 v112 v113 v114
      go_wp2_with (fail)
      refine (HCF.out _ HB2.out).mono ?_
      rintro e w3 ⟨rfl, hb3⟩
      obtain ⟨y30, y31, y32, y33, y34⟩ := boxed_on HX.out HHW.out hb3
      obtain ⟨v300, v301, v302, v303, v304⟩ := HZ0.out w3 hb3
      obtain ⟨v310, v311, v312, v313, v314⟩ := HZ1.out w3 hb3
      rw [Nat.zero_mul, Nat.add_zero] at v300 v301 v302 v303 v304
      rw [Nat.one_mul] at v310 v311 v312 v313 v314
      have HB3 := Lib.hid hb3
      clear hb3 y20 y21 y22 y23 y24
      clear v200 v201 v202 v203 v204
      clear v210 v211 v212 v213 v214
      go_wp2_with (fail)
      go_ret
      exact ⟨by rw [HR.out]; rfl, HB.out.trans (HB3.out.mono HB.out.size)⟩
    have e3 : ((N : Int) == 2) = false := beq_eq_false_iff_ne.2 (by omega)
    have HR : Hid (R = false) := Lib.hid (by
        rw [HT2.out]
        have q3 : l.length ≠ 2 := by rw [← HNN.out]; exact hN2
        match l, hl0, q3 with
        | [u, v], _, q3 => simp at q3
        | [u, v, x], _, _ => rw [ifH_three]; simp
        | u :: v :: x :: y :: r, _, _ => exact ifH_more)
    clear HT2 hz0 hq0 hd0 hkk0 hz1 hq1 hd1 hkk1 hl0 HEE HEF hq11 hN1 hN2
    go_enter Tryd.func33, Tryd.ntmps33
    obtain ⟨u00, u01, u02, u03, u04⟩ := HZ0.out W HB0.out
    obtain ⟨u10, u11, u12, u13, u14⟩ := HZ1.out W HB0.out
    rw [Nat.zero_mul, Nat.add_zero] at u00 u01 u02 u03 u04
    rw [Nat.one_mul] at u10 u11 u12 u13 u14
    go_wp2_with (first | (rw [← HW.out, ← HHH.out]))
    refine (HAL.out _ HB0.out).mono ?_
    rintro e w1 ⟨rfl, hb1⟩
    obtain ⟨y10, y11, y12, y13, y14⟩ := boxed_on HX.out HHW.out hb1
    obtain ⟨v100, v101, v102, v103, v104⟩ := HZ0.out w1 hb1
    obtain ⟨v110, v111, v112, v113, v114⟩ := HZ1.out w1 hb1
    rw [Nat.zero_mul, Nat.add_zero] at v100 v101 v102 v103 v104
    rw [Nat.one_mul] at v110 v111 v112 v113 v114
    have HB1 := Lib.hid hb1
    clear hb1 x0 x1 x2 x3 x4
    clear u00 u01 u02 u03 u04
    clear u10 u11 u12 u13 u14
    go_wp2_with (fail)
    refine (HCE.out _ HB1.out).mono ?_
    rintro e w2 ⟨rfl, hb2⟩
    obtain ⟨y20, y21, y22, y23, y24⟩ := boxed_on HX.out HHW.out hb2
    obtain ⟨v200, v201, v202, v203, v204⟩ := HZ0.out w2 hb2
    obtain ⟨v210, v211, v212, v213, v214⟩ := HZ1.out w2 hb2
    rw [Nat.zero_mul, Nat.add_zero] at v200 v201 v202 v203 v204
    rw [Nat.one_mul] at v210 v211 v212 v213 v214
    have HB2 := Lib.hid hb2
    clear hb2 y10 y11 y12 y13 y14
    clear v100 v101 v102 v103 v104
    clear v110 v111 v112 v113 v114
    go_wp2_with (fail)
    refine (HCF.out _ HB2.out).mono ?_
    rintro e w3 ⟨rfl, hb3⟩
    obtain ⟨y30, y31, y32, y33, y34⟩ := boxed_on HX.out HHW.out hb3
    obtain ⟨v300, v301, v302, v303, v304⟩ := HZ0.out w3 hb3
    obtain ⟨v310, v311, v312, v313, v314⟩ := HZ1.out w3 hb3
    rw [Nat.zero_mul, Nat.add_zero] at v300 v301 v302 v303 v304
    rw [Nat.one_mul] at v310 v311 v312 v313 v314
    have HB3 := Lib.hid hb3
    clear hb3 y20 y21 y22 y23 y24
    clear v200 v201 v202 v203 v204
    clear v210 v211 v212 v213 v214
    go_wp2_with (fail)
    go_ret
    exact ⟨by rw [HR.out]; rfl, HB.out.trans (HB3.out.mono HB.out.size)⟩

set_option maxHeartbeats 2000000 in
set_option maxRecDepth 100000 in
theorem stmt_other {G : Nat → Prop} (k a n : Int) (nm : List UInt8) (l : List NT) (ih : ∀ u ∈ l, IsOf G 33 NT.stmt u) (c30 : k ≠ 30) (c31 : k ≠ 31) (c32 : k ≠ 32) (c33 : k ≠ 33) (c34 : k ≠ 34) (c35 : k ≠ 35) (c36 : k ≠ 36) (c37 : k ≠ 37) (c38 : k ≠ 38) (hal : aloneN n nm = true) : IsOf G 33 NT.stmt (.mk k a n nm l) := by
  intro hd s w h
  have hdd := hd
  obtain ⟨_, _, _, hnm⟩ := hd
  change nm.length ≤ _ at hnm
  change Kids G w l s at h
  obtain ⟨A, cap, rfl, hl⟩ := h.form
  show Calls Tryd.prog 33 #[.agg #[.int .i64 k, .int .i64 a, .int .i64 n, .string ⟨nm.toArray⟩, .slice A l.length cap]] w fun e w' => e = .returned (.bool (NT.mk k a n nm l).stmt) ∧ Below w.heap.size w w'
  have HT := Lib.hid (stmt_mk k a n nm l)
  obtain ⟨R, hR⟩ : ∃ R, R = (NT.mk k a n nm l).stmt := ⟨_, rfl⟩
  rw [← hR] at HT ⊢
  obtain ⟨H, hH⟩ : ∃ H, H = w.heap.size := ⟨_, rfl⟩
  obtain ⟨W, hW⟩ : ∃ W, W = w.alloc (.cells #[.int .i64 k, .int .i64 a, .int .i64 n, .string ⟨nm.toArray⟩, .slice A l.length cap] NodeT) := ⟨_, rfl⟩
  obtain ⟨⟨x0, x1, x2, x3, x4⟩, HB, HHW⟩ := boxed hH hW
  have HX := Lib.hid (And.intro x0 (And.intro x1 (And.intro x2 (And.intro x3 x4))))
  have HAL : Hid (∀ w', Below W.heap.size W w' → Calls Tryd.prog 49 #[.agg #[.int .i64 k, .int .i64 a, .int .i64 n, .string ⟨nm.toArray⟩, .slice A l.length cap]] w' fun e w'' => e = .returned (.bool (aloneN n nm)) ∧ Below W.heap.size W w'') := Lib.hid fun w' hb => (ralone_any (.mk k a n nm l) (.slice A l.length cap) w').mono fun e w'' ⟨h1, h2⟩ => ⟨h1, hb.trans (h2.mono hb.size)⟩
  have HNM : Hid (∀ w', Below W.heap.size W w' → Calls Tryd.prog 48 #[.string ⟨nm.toArray⟩] w' fun e w'' => e = .returned (.bool (named nm)) ∧ Below W.heap.size W w'') := Lib.hid fun w' hb => (rnamed_any nm w' hnm).mono fun e w'' ⟨h1, h2⟩ => ⟨h1, hb.trans (h2.mono hb.size)⟩
  have HK := Lib.hid (h.below HB.out)
  have IH := Lib.hid ih
  obtain ⟨N, hN⟩ : ∃ N, N = l.length := ⟨_, rfl⟩
  rw [← hN] at hl x4 hW HX HK HAL ⊢
  have HW := Lib.hid hW
  have HHH := Lib.hid hH
  have HNN := Lib.hid hN
  have HB0 : Hid (Below W.heap.size W W) := Lib.hid (Below.refl _ _)
  obtain ⟨al, hal⟩ : ∃ al, al = aloneN n nm := ⟨_, rfl⟩
  rw [← hal] at HT HAL
  obtain ⟨B, hB⟩ : ∃ B, B = named nm := ⟨_, rfl⟩
  rw [← hB] at HT HNM
  have HAQ := Lib.hid hal
  have HBQ := Lib.hid hB
  clear h ih hN hW hH hR hdd hal hB
  obtain rfl : al = true := by rw [HAQ.out]; exact hal
  clear hal HAQ
  have HR : Hid (R = false) := Lib.hid (by rw [HT.out]; simp [c30, c31, c32, c33, c34, c35, c36, c37, c38])
  have d30 : (k == 30) = false := beq_eq_false_iff_ne.2 c30
  have d31 : (k == 31) = false := beq_eq_false_iff_ne.2 c31
  have d32 : (k == 32) = false := beq_eq_false_iff_ne.2 c32
  have d35 : (k == 35) = false := beq_eq_false_iff_ne.2 c35
  have d36 : (k == 36) = false := beq_eq_false_iff_ne.2 c36
  have d37 : (k == 37) = false := beq_eq_false_iff_ne.2 c37
  have d38 : (k == 38) = false := beq_eq_false_iff_ne.2 c38
  have d33 : (k != 33) = true := by rw [bne_iff_ne]; exact c33
  have d34 : (k != 34) = true := by rw [bne_iff_ne]; exact c34
  clear HT c30 c31 c32 c33 c34 c35 c36 c37 c38
  go_enter Tryd.func33, Tryd.ntmps33
  go_wp2_with (first | (rw [← HW.out, ← HHH.out]))
  refine (HAL.out _ HB0.out).mono ?_
  rintro e w1 ⟨rfl, hb1⟩
  obtain ⟨y10, y11, y12, y13, y14⟩ := boxed_on HX.out HHW.out hb1
  have HB1 := Lib.hid hb1
  clear hb1 x0 x1 x2 x3 x4
  go_wp2_with (fail)
  go_ret
  exact ⟨by rw [HR.out]; rfl, HB.out.trans (HB1.out.mono HB.out.size)⟩

set_option maxHeartbeats 2000000 in
set_option maxRecDepth 100000 in
theorem stmt_30 {G : Nat → Prop} (k a n : Int) (nm : List UInt8) (l : List NT) (ih : ∀ u ∈ l, IsOf G 33 NT.stmt u) (ck : k = 30) (hal : aloneN n nm = true) : IsOf G 33 NT.stmt (.mk k a n nm l) := by
  intro hd s w h
  have hdd := hd
  obtain ⟨_, _, _, hnm⟩ := hd
  change nm.length ≤ _ at hnm
  change Kids G w l s at h
  obtain ⟨A, cap, rfl, hl⟩ := h.form
  show Calls Tryd.prog 33 #[.agg #[.int .i64 k, .int .i64 a, .int .i64 n, .string ⟨nm.toArray⟩, .slice A l.length cap]] w fun e w' => e = .returned (.bool (NT.mk k a n nm l).stmt) ∧ Below w.heap.size w w'
  have HT := Lib.hid (stmt_mk k a n nm l)
  obtain ⟨R, hR⟩ : ∃ R, R = (NT.mk k a n nm l).stmt := ⟨_, rfl⟩
  rw [← hR] at HT ⊢
  obtain ⟨H, hH⟩ : ∃ H, H = w.heap.size := ⟨_, rfl⟩
  obtain ⟨W, hW⟩ : ∃ W, W = w.alloc (.cells #[.int .i64 k, .int .i64 a, .int .i64 n, .string ⟨nm.toArray⟩, .slice A l.length cap] NodeT) := ⟨_, rfl⟩
  obtain ⟨⟨x0, x1, x2, x3, x4⟩, HB, HHW⟩ := boxed hH hW
  have HX := Lib.hid (And.intro x0 (And.intro x1 (And.intro x2 (And.intro x3 x4))))
  have HAL : Hid (∀ w', Below W.heap.size W w' → Calls Tryd.prog 49 #[.agg #[.int .i64 k, .int .i64 a, .int .i64 n, .string ⟨nm.toArray⟩, .slice A l.length cap]] w' fun e w'' => e = .returned (.bool (aloneN n nm)) ∧ Below W.heap.size W w'') := Lib.hid fun w' hb => (ralone_any (.mk k a n nm l) (.slice A l.length cap) w').mono fun e w'' ⟨h1, h2⟩ => ⟨h1, hb.trans (h2.mono hb.size)⟩
  have HNM : Hid (∀ w', Below W.heap.size W w' → Calls Tryd.prog 48 #[.string ⟨nm.toArray⟩] w' fun e w'' => e = .returned (.bool (named nm)) ∧ Below W.heap.size W w'') := Lib.hid fun w' hb => (rnamed_any nm w' hnm).mono fun e w'' ⟨h1, h2⟩ => ⟨h1, hb.trans (h2.mono hb.size)⟩
  have HK := Lib.hid (h.below HB.out)
  have IH := Lib.hid ih
  obtain ⟨N, hN⟩ : ∃ N, N = l.length := ⟨_, rfl⟩
  rw [← hN] at hl x4 hW HX HK HAL ⊢
  have HW := Lib.hid hW
  have HHH := Lib.hid hH
  have HNN := Lib.hid hN
  have HB0 : Hid (Below W.heap.size W W) := Lib.hid (Below.refl _ _)
  obtain ⟨al, hal⟩ : ∃ al, al = aloneN n nm := ⟨_, rfl⟩
  rw [← hal] at HT HAL
  obtain ⟨B, hB⟩ : ∃ B, B = named nm := ⟨_, rfl⟩
  rw [← hB] at HT HNM
  have HAQ := Lib.hid hal
  have HBQ := Lib.hid hB
  clear h ih hN hW hH hR hdd hal hB
  subst ck
  obtain rfl : al = true := by rw [HAQ.out]; exact hal
  clear hal HAQ
  have HR : Hid (R = stmtL l) := Lib.hid (by rw [HT.out]; simp)
  clear HT
  go_enter Tryd.func33, Tryd.ntmps33
  go_wp2_with (first | (rw [← HW.out, ← HHH.out]))
  refine (HAL.out _ HB0.out).mono ?_
  rintro e w1 ⟨rfl, hb1⟩
  obtain ⟨y0, y1, y2, y3, y4⟩ := boxed_on HX.out HHW.out hb1
  have HB1 := Lib.hid hb1
  clear hb1 x0 x1 x2 x3 x4
  go_wp2_with (fail)
  go_loopw [4] (fun i wr => StRel W N l i wr) (fun i _ => N - (intOf i).toNat)
  case atStart => unfold StRel; exact ⟨0, Nat.zero_le _, rfl, Lib.hid (by rw [List.take_zero, stmtL]), HB1.out⟩
  case round =>
    obtain ⟨j, hj, rfl, HM, hb⟩ := hrel
    obtain ⟨z0, z1, z2, z3, z4⟩ := boxed_on HX.out HHW.out hb
    by_cases hlt : j < N
    · have hjl : j < l.length := by have := HNN.out; omega
      obtain ⟨bb, off, hA⟩ := kids_addr HK.out (by omega)
      subst hA
      obtain ⟨A0, M0, p0, k0, a0, n0, s0, hq0, hd0, hz0⟩ := kid_in HK.out j hjl
      obtain ⟨⟨c0, c1, c2, c3, c4⟩, hkk⟩ := hz0 wr hb
      have HI := Lib.hid (kid_is (f := NT.stmt) hq0 hd0 (IH.out l[j] (List.getElem_mem hjl)) (fun w' hb' => (hz0 w' hb').2) wr hb)
      have HU := Lib.hid (stmtL_take l j hjl)
      have HU2 := Lib.hid (stmtL_bad l j hjl)
      obtain ⟨r, hr⟩ : ∃ r, r = l[j].stmt := ⟨_, rfl⟩
      rw [← hr] at HI HU HU2
      clear hkk hr hq0 hd0 hz0 hb
      cases r
      · go_wp2_with (fail)
        refine HI.out.mono ?_
        rintro e w2 ⟨rfl, hb2⟩
        have HB2 := Lib.hid hb2
        clear hb2
        go_wp2_with (fail)
        go_ret
        exact ⟨by rw [HR.out, HU2.out (by simp)]; rfl, HB.out.trans (HB2.out.mono HB.out.size)⟩
      · go_wp2_with (fail)
        refine HI.out.mono ?_
        rintro e w2 ⟨rfl, hb2⟩
        have HB2 := Lib.hid hb2
        clear hb2
        go_wp2_with (fail)
        go_roundw
        case rel => unfold StRel; exact ⟨j + 1, by omega, by go_num, Lib.hid (by rw [HU.out, HM.out]; rfl), HB2.out⟩
        case measure => simp [intOf]; omega
    · have HF : Hid (stmtL l = true) := Lib.hid (by have h := HM.out; rw [List.take_of_length_le (by have := HNN.out; omega)] at h; exact h)
      have HBR := Lib.hid hb
      clear hb
      go_wp2_with (fail)
      go_ret
      exact ⟨by rw [HR.out, HF.out]; rfl, HB.out.trans (HBR.out.mono HB.out.size)⟩

theorem rstmt_any {G : Nat → Prop} (t : NT) : IsOf G 33 NT.stmt t := by
  induction t using NT.ind with
  | h k a n nm l ih =>
    by_cases c31 : k = 31
    · exact stmt_31 k a n nm l ih c31
    by_cases c36 : k = 36
    · exact stmt_36 k a n nm l ih c36
    by_cases hal : aloneN n nm = true
    · by_cases c30 : k = 30
      · exact stmt_30 k a n nm l ih c30 hal
      by_cases c32 : k = 32
      · exact stmt_32 k a n nm l ih c32 hal
      by_cases c33 : k = 33
      · exact stmt_33 k a n nm l ih c33 hal
      by_cases c34 : k = 34
      · exact stmt_34 k a n nm l ih c34 hal
      by_cases c35 : k = 35
      · exact stmt_35 k a n nm l ih c35 hal
      by_cases c37 : k = 37
      · exact stmt_37 k a n nm l ih c37 hal
      by_cases c38 : k = 38
      · exact stmt_38 k a n nm l ih c38 hal
      exact stmt_other k a n nm l ih c30 c31 c32 c33 c34 c35 c36 c37 c38 hal
    · exact stmt_alone k a n nm l ih (beq_eq_false_iff_ne.2 c31) (beq_eq_false_iff_ne.2 c36) (by simpa using hal)
end Go.Proofs.YtkmkeaeaalnbjaaDoor.nt

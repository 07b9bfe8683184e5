/- Whether two values are the same: the document's answer, and the package's. -/
import Derived.Test.YtnjcapenkoemlaaValRight
namespace Go.Proofs.Ytnjcapenkoemlaa.vt
open Go.RowKit mem

noncomputable def eqB {α : Type} (a b : α) : Bool := @decide (a = b) (Classical.propDecidable _)
theorem eqB_yes {α : Type} {a b : α} (h : a = b) : eqB a b = true := by unfold eqB; exact @decide_eq_true _ (Classical.propDecidable _) h
theorem eqB_no {α : Type} {a b : α} (h : a ≠ b) : eqB a b = false := by unfold eqB; exact @decide_eq_false _ (Classical.propDecidable _) h
theorem of_eqB {α : Type} {a b : α} (h : eqB a b = true) : a = b := by unfold eqB at h; exact @of_decide_eq_true _ (Classical.propDecidable _) h
theorem not_eqB {α : Type} {a b : α} (h : eqB a b = false) : a ≠ b := fun e => by rw [eqB_yes e] at h; cases h
theorem eqB_self {α : Type} (a : α) : eqB a a = true := eqB_yes rfl
theorem take_more {a b : List VT} (k : Nat) (ha : k < a.length) (hb : k < b.length) (h : a.take k = b.take k) (e : eqB a[k] b[k] = true) : a.take (k + 1) = b.take (k + 1) := by
  rw [List.take_succ_eq_append_getElem ha, List.take_succ_eq_append_getElem hb, h, of_eqB e]
theorem list_no {a b : List VT} (k : Nat) (ha : k < a.length) (hb : k < b.length) (e : eqB a[k] b[k] = false) : eqB a b = false :=
  eqB_no fun h => not_eqB e (by subst h; rfl)
theorem list_yes {a b : List VT} (N : Nat) (ha : N = a.length) (hb : N = b.length) (h : a.take N = b.take N) : eqB a b = true :=
  eqB_yes (by rwa [List.take_of_length_le (by omega), List.take_of_length_le (by omega)] at h)
theorem len_no {a b : List VT} (h : a.length ≠ b.length) : eqB a b = false := eqB_no fun e => h (by rw [e])
theorem eqB_mk (k n k' n' : Int) (l l' : List VT) : eqB (VT.mk k n l) (.mk k' n' l') = (decide (k = k') && (decide (n = n') && eqB l l')) := by
  by_cases h1 : k = k'
  · by_cases h2 : n = n'
    · subst h1; subst h2
      simp only [decide_true, Bool.true_and]
      by_cases h : l = l'
      · rw [eqB_yes h, eqB_yes (by rw [h])]
      · rw [eqB_no h, eqB_no (by intro e; injection e with _ _ e; exact h e)]
    · rw [eqB_no (by intro e; injection e with _ e _; exact h2 e)]; simp [h2]
  · rw [eqB_no (by intro e; injection e with e _ _; exact h1 e)]; simp [h1]
def SameOf (G : Nat → Prop) (F : FuncId) (t : VT) : Prop := ∀ (u : VT) (s s' : Value) (w : World), Kids G w t.kids s → Kids G w u.kids s' →
    Calls Try.prog F #[.agg #[.int .i64 t.kind, .int .i64 t.num, s], .agg #[.int .i64 u.kind, .int .i64 u.num, s']] w fun e w' => e = .returned (.bool (eqB t u)) ∧ Below w.heap.size w w'
def AllOf (G : Nat → Prop) (F : FuncId) (fs : List Value) (l : List VT) : Prop := ∀ (m : List VT) (s s' : Value) (w : World), Kids G w l s → Kids G w m s' →
    Calls Try.prog F (#[s, s'] ++ fs.toArray) w fun e w' => e = .returned (.bool (eqB l m)) ∧ Below w.heap.size w w'
set_option maxHeartbeats 1000000 in
set_option maxRecDepth 100000 in
theorem rsameAll_any {G : Nat → Prop} (l : List VT) (ih : ∀ u ∈ l, SameOf G 13 u) : AllOf G 16 [] l := by
  intro m s s' w h h'
  have HK := Lib.hid h
  have HK' := Lib.hid h'
  have IH := Lib.hid ih
  obtain ⟨A, cap, hs, hl⟩ := h.form
  obtain ⟨A', cap', hs', hl'⟩ := h'.form
  subst hs
  subst hs'
  obtain ⟨N, hN⟩ : ∃ N, N = l.length := ⟨_, rfl⟩
  obtain ⟨N', hN'⟩ : ∃ N', N' = m.length := ⟨_, rfl⟩
  have HN := Lib.hid hN
  have HN' := Lib.hid hN'
  show Calls Try.prog 16 #[_, _] w _
  rw [← hN] at hl ⊢
  rw [← hN'] at hl' ⊢
  clear h h' ih hN hN'
  by_cases hne : N = N'
  · subst hne
    go_enter Try.func16, Try.ntmps16
    go_wp2
    go_loopw [5] (fun i wr => LoopRel w.heap.size w N (fun k => l.take k = m.take k) i wr) (fun i _ => N - (intOf i).toNat)
    case atStart => unfold LoopRel; exact ⟨0, Nat.zero_le _, rfl, Lib.hid rfl, Below.refl _ _⟩
    case round =>
      obtain ⟨k, hk, rfl, HM, hb⟩ := hrel
      by_cases hlt : k < N
      · have hkl : k < l.length := by have := HN.out; omega
        have hkm : k < m.length := by have := HN'.out; omega
        obtain ⟨b, off, cq, q, hs, hlt', _, _, c0, c1, c2, hkk⟩ := HK.out.kid hb k hkl
        injection hs with hA hL hC
        subst hA
        subst hC
        clear hL
        obtain ⟨b2, off2, cq2, q2, hs, hlt2', _, _, d0, d1, d2, hkk2⟩ := HK'.out.kid hb k hkm
        injection hs with hA hL hC
        subst hA
        subst hC
        clear hL
        obtain ⟨Aq, cc, rfl, _⟩ := hkk.form
        obtain ⟨Aq2, cc2, rfl, _⟩ := hkk2.form
        have HI := Lib.hid (IH.out l[k] (List.getElem_mem hkl) m[k] _ _ wr.drew (hkk.keep (fun _ _ _ _ => rfl)) (hkk2.keep (fun _ _ _ _ => rfl)))
        have HU := Lib.hid (take_more k hkl hkm HM.out)
        have HU2 := Lib.hid (list_no (a := l) (b := m) k hkl hkm)
        obtain ⟨u, hu⟩ : ∃ u, u = l[k] := ⟨_, rfl⟩
        obtain ⟨v, hv⟩ : ∃ v, v = m[k] := ⟨_, rfl⟩
        rw [← hu] at c0 c1 c2 HI HU HU2 hkk
        rw [← hv] at d0 d1 d2 HI HU HU2 hkk2
        obtain ⟨M, hM⟩ : ∃ M, M = u.kids.length := ⟨_, rfl⟩
        rw [← hM] at c2 HI
        obtain ⟨M2, hM2⟩ : ∃ M2, M2 = v.kids.length := ⟨_, rfl⟩
        rw [← hM2] at d2 HI
        obtain ⟨r, hr⟩ : ∃ r, r = eqB u v := ⟨_, rfl⟩
        rw [← hr] at HI HU HU2
        clear hkk hkk2 hM hM2 hu hv hr
        have HB := Lib.hid hb
        clear hb
        go_wp2
        go_still_tail 8, (by kernel_rfl)
        change wpList _ _ _ _ _ wr.drew
        cases r
        · go_wp2_with (go_at_call 13; refine HI.out.mono ?_; rintro e w1 ⟨rfl, hb1⟩)
          go_ret
          exact ⟨bool_ret (by rw [HU2.out (by simp)]), HB.out.drew.trans (hb1.mono HB.out.size)⟩
        · go_wp2_with (go_at_call 13; refine HI.out.mono ?_; rintro e w1 ⟨rfl, hb1⟩)
          go_roundw
          case rel => unfold LoopRel; exact ⟨k + 1, by omega, by go_num, Lib.hid (HU.out (by simp)), HB.out.drew.trans (hb1.mono HB.out.size)⟩
          case measure => simp [intOf]; omega
      · have HF : Hid (eqB l m = true) := Lib.hid (list_yes N HN.out HN'.out (by have : k = N := by omega
                                                                                 rw [← this]; exact HM.out))
        have HB := Lib.hid hb
        clear hb
        go_wp2
        go_ret
        exact ⟨bool_ret (by rw [HF.out]), HB.out⟩
  · have e : ((N : Int) == N') = false := beq_ne (by omega)
    have HF : Hid (eqB l m = false) := Lib.hid (len_no (by have := HN.out; have := HN'.out; omega))
    go_enter Try.func16, Try.ntmps16
    go_wp2
    go_ret
    exact ⟨bool_ret (by rw [HF.out]), Below.refl _ _⟩
set_option maxHeartbeats 1000000 in
theorem rsame_any {G : Nat → Prop} (t : VT) : SameOf G 13 t := by
  induction t using VT.ind with
  | h kd nm l ih =>
    intro u s s' w h h'
    obtain ⟨kd', nm', l'⟩ := u
    change Kids G w l s at h
    change Kids G w l' s' at h'
    have HE := Lib.hid (eqB_mk kd nm kd' nm' l l')
    have HA := Lib.hid (fun w' (hb : Below w.heap.size w w') => rsameAll_any l ih l' s s' w' (h.below hb) (h'.below hb))
    obtain ⟨A, cap, hs, hl⟩ := h.form
    obtain ⟨A', cap', hs', hl'⟩ := h'.form
    subst hs
    subst hs'
    clear h h' ih
    show Calls Try.prog 13 #[.agg #[.int .i64 kd, .int .i64 nm, _], .agg #[.int .i64 kd', .int .i64 nm', _]] w _
    have hB : ∀ o o', Hid (Below w.heap.size w ((w.alloc o).alloc o')) := fun o o' => Lib.hid (((Below.refl _ _).alloc (Nat.le_refl _) _).alloc (by simp) _)
    by_cases h1 : kd = kd'
    · subst h1
      by_cases h2 : nm = nm'
      · subst h2
        have HR : Hid (eqB (VT.mk kd nm l) (.mk kd nm l') = eqB l l') := Lib.hid (by rw [HE.out]; simp)
        clear HE
        go_enter Try.func13, Try.ntmps13
        go_wp2_with (go_at_call 16; refine (HA.out _ (hB _ _).out).mono ?_; rintro e w1 ⟨rfl, hb1⟩)
        go_ret
        exact ⟨bool_ret (by rw [HR.out]), (hB _ _).out.trans (hb1.mono (hB _ _).out.size)⟩
      · have HR : Hid (eqB (VT.mk kd nm l) (.mk kd nm' l') = false) := Lib.hid (by rw [HE.out]; simp [h2])
        have e := beq_ne h2
        clear HE
        go_enter Try.func13, Try.ntmps13
        go_wp2
        go_ret
        exact ⟨bool_ret (by rw [HR.out]), (hB _ _).out⟩
    · have HR : Hid (eqB (VT.mk kd nm l) (.mk kd' nm' l') = false) := Lib.hid (by rw [HE.out]; simp [h1])
      have e := beq_ne h1
      clear HE
      go_enter Try.func13, Try.ntmps13
      go_wp2
      go_ret
      exact ⟨bool_ret (by rw [HR.out]), (hB _ _).out⟩
end Go.Proofs.Ytnjcapenkoemlaa.vt

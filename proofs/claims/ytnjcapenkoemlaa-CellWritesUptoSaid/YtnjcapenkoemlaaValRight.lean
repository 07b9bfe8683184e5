/- Whether a value is right: the document's answer, and the package's. -/
import Derived.Test.YtnjcapenkoemlaaValSize
namespace Go.Proofs.Ytnjcapenkoemlaa.vt
open Go.RowKit mem

theorem bool_ret {a b : Bool} (h : a = b) : Ending.returned (.bool a) = .returned (.bool b) := by rw [h]
theorem beq_ne {a b : Int} (h : a ≠ b) : (a == b) = false := by simpa using h
theorem beq_yes {a b : Int} (h : a = b) : (a == b) = true := by simpa using h
def LoopRel (H : Nat) (W : World) (N : Nat) (P : Nat → Prop) (i : Value) (wr : World) : Prop :=
  ∃ k : Nat, k ≤ N ∧ i = .int .i64 k ∧ Hid (P k) ∧ Below H W wr
theorem right_more (l : List VT) (k : Nat) (hk : k < l.length) (h : rightL (l.take k) = true) (hr : l[k].right = true) : rightL (l.take (k + 1)) = true := by
  rw [rightL_take l k hk, h, hr]; rfl
theorem isEmpty_of {l : List VT} {N : Nat} (h : N = l.length) : l.isEmpty = ((N : Int) == 0) := by
  subst h
  cases l with
  | nil => rfl
  | cons a r =>
    have : ((((a :: r).length : Nat) : Int) == 0) = false := beq_ne (by rw [List.length_cons]; omega)
    rw [this]; rfl
def RightOf (G : Nat → Prop) (F : FuncId) (t : VT) : Prop := ∀ (s : Value) (w : World), Kids G w t.kids s →
    Calls Try.prog F #[.agg #[.int .i64 t.kind, .int .i64 t.num, s]] w fun e w' => e = .returned (.bool t.right) ∧ Below w.heap.size w w'
set_option maxHeartbeats 2000000 in
theorem rright_any {G : Nat → Prop} (t : VT) : RightOf G 12 t := by
  induction t using VT.ind with
  | h kd nm l ih =>
    intro s w h
    change Kids G w l s at h
    have HK := Lib.hid h
    have IH := Lib.hid ih
    obtain ⟨A, cap, hs, hl⟩ := h.form
    subst hs
    obtain ⟨N, hN⟩ : ∃ N, N = l.length := ⟨_, rfl⟩
    have HN := Lib.hid hN
    have HE := Lib.hid (isEmpty_of hN)
    show Calls Try.prog 12 #[.agg #[.int .i64 kd, .int .i64 nm, .slice A l.length cap]] w _
    rw [← hN] at hl ⊢
    clear h ih hN
    have hB : ∀ o, Hid (Below w.heap.size w (w.alloc o)) := fun o => Lib.hid ((Below.refl _ _).alloc (Nat.le_refl _) _)
    by_cases h0 : kd = 0
    · subst h0
      have HR : Hid ((VT.mk 0 nm l).right = ((N : Int) == 0)) := Lib.hid (by rw [right_mk, if_pos rfl, HE.out])
      clear HE
      by_cases hn : (N : Int) = 0
      · have e := beq_yes hn
        go_enter Try.func12, Try.ntmps12
        go_wp2
        go_ret
        exact ⟨bool_ret (by rw [HR.out, e]), (hB _).out⟩
      · have e := beq_ne hn
        go_enter Try.func12, Try.ntmps12
        go_wp2
        go_ret
        exact ⟨bool_ret (by rw [HR.out, e]), (hB _).out⟩
    · by_cases h1 : kd = 1
      · subst h1
        have HR : Hid ((VT.mk 1 nm l).right = (decide (nm = 0 ∨ nm = 1) && ((N : Int) == 0))) := Lib.hid (by rw [right_mk, if_neg (by omega), if_pos rfl, HE.out])
        clear HE h0
        by_cases hn : (N : Int) = 0
        · have e := beq_yes hn
          by_cases a0 : nm = 0
          · subst a0
            go_enter Try.func12, Try.ntmps12
            go_wp2
            go_ret
            exact ⟨bool_ret (by rw [HR.out, e]; rfl), (hB _).out⟩
          · by_cases a1 : nm = 1
            · subst a1
              go_enter Try.func12, Try.ntmps12
              go_wp2
              go_ret
              exact ⟨bool_ret (by rw [HR.out, e]; rfl), (hB _).out⟩
            · have HR2 : Hid ((VT.mk 1 nm l).right = false) := Lib.hid (by rw [HR.out]; simp [a0, a1])
              have e0 := beq_ne a0
              have e1 := beq_ne a1
              go_enter Try.func12, Try.ntmps12
              go_wp2
              go_ret
              exact ⟨bool_ret (by rw [HR2.out]), (hB _).out⟩
        · have e := beq_ne hn
          go_enter Try.func12, Try.ntmps12
          go_wp2
          go_ret
          exact ⟨bool_ret (by rw [HR.out, e]; simp), (hB _).out⟩
      · have e0 := beq_ne h0
        have e1 := beq_ne h1
        by_cases h23 : (kd = 2 ∨ kd = 3) ∧ nm = 0
        · obtain ⟨h23, hnm⟩ := h23
          subst hnm
          have HR : Hid ((VT.mk kd 0 l).right = rightL l) := Lib.hid (by rw [right_mk, if_neg h0, if_neg h1, if_pos h23]; rfl)
          have hkind : Hid (∃ c : Bool, (kd == 2) = c ∧ (c = false → (kd == 3) = true)) := Lib.hid (by
            rcases h23 with rfl | rfl
            · exact ⟨true, rfl, fun h => by cases h⟩
            · exact ⟨false, rfl, fun _ => rfl⟩)
          clear HE h0 h1
          rcases h23 with rfl | rfl
          all_goals
            clear hkind
            go_enter Try.func12, Try.ntmps12
            go_wp2
            obtain ⟨H, hH⟩ : ∃ H, H = w.heap.size := ⟨_, rfl⟩
            (first | (obtain ⟨W, hW⟩ : ∃ W, W = w.alloc (.cells #[.int .i64 2, .int .i64 0, .slice A N cap] 24) := ⟨_, rfl⟩; rw [← hW]) | (obtain ⟨W, hW⟩ : ∃ W, W = w.alloc (.cells #[.int .i64 3, .int .i64 0, .slice A N cap] 24) := ⟨_, rfl⟩; rw [← hW]))
            have HB0 : Hid (Below H w W) := Lib.hid (by rw [hW, hH]; exact (Below.refl _ _).alloc (Nat.le_refl _) _)
            have HC : Hid (W.cell? ⟨H, 2, none⟩ = some (.slice A N cap)) := Lib.hid (by rw [hW, hH]; simp)
            have hS : H < W.heap.size := by rw [hW, hH]; simp
            rw [← hH]
            have HW := Lib.hid hW
            have HH := Lib.hid hH
            clear hW hH hB
            go_loopw [3] (fun i wr => LoopRel W.heap.size W N (fun k => rightL (l.take k) = true) i wr) (fun i _ => N - (intOf i).toNat)
            case atStart => unfold LoopRel; exact ⟨0, Nat.zero_le _, rfl, Lib.hid rfl, Below.refl _ _⟩
            case round =>
              obtain ⟨k, hk, rfl, HM, hb⟩ := hrel
              have hc2 := (hb.cell (p := ⟨H, 2, none⟩) hS).trans HC.out
              have hbw : Below w.heap.size w wr := by rw [← HH.out]; exact HB0.out.trans (hb.mono (by omega))
              by_cases hlt : k < N
              · have hkl : k < l.length := by have := HN.out; omega
                obtain ⟨b, off, cap', s', hs, hlt', _, _, c0, c1, c2, hkk⟩ := HK.out.kid hbw k hkl
                injection hs with hA hL hC
                subst hA
                subst hC
                clear hL
                have HBW := Lib.hid hbw
                obtain ⟨A', cc, rfl, _⟩ := hkk.form
                have HI := Lib.hid (IH.out l[k] (List.getElem_mem hkl) _ wr hkk)
                have HU := Lib.hid (right_more l k hkl HM.out)
                have HU2 := Lib.hid (rightL_bad l k hkl)
                obtain ⟨u, hu⟩ : ∃ u, u = l[k] := ⟨_, rfl⟩
                rw [← hu] at c0 c1 c2 HI HU HU2 hkk
                obtain ⟨M, hM⟩ : ∃ M, M = u.kids.length := ⟨_, rfl⟩
                rw [← hM] at c2 HI
                obtain ⟨r, hr⟩ : ∃ r, r = u.right := ⟨_, rfl⟩
                rw [← hr] at HI HU HU2
                clear hkk hbw hM hu hr
                have HB := Lib.hid hb
                clear hb
                cases r
                · go_wp2_with (go_at_call 12; refine HI.out.mono ?_; rintro e w1 ⟨rfl, hb1⟩)
                  go_ret
                  exact ⟨bool_ret (by rw [HR.out, HU2.out (by simp)]), HBW.out.trans (hb1.mono HBW.out.size)⟩
                · go_wp2_with (go_at_call 12; refine HI.out.mono ?_; rintro e w1 ⟨rfl, hb1⟩)
                  go_roundw
                  case rel => unfold LoopRel; exact ⟨k + 1, by omega, by go_num, Lib.hid (HU.out (by simp)), HB.out.trans (hb1.mono HB.out.size)⟩
                  case measure => simp [intOf]; omega
              · have HF : Hid (rightL l = true) := Lib.hid (by have : rightL (l.take k) = true := HM.out; rwa [List.take_of_length_le (by have := HN.out; omega)] at this)
                have HBW := Lib.hid hbw
                clear hbw
                go_wp2
                go_ret
                exact ⟨bool_ret (by rw [HR.out, HF.out]), HBW.out⟩
        · have HR : Hid ((VT.mk kd nm l).right = false) := Lib.hid (by
            rw [right_mk, if_neg h0, if_neg h1]
            by_cases h : kd = 2 ∨ kd = 3
            · rw [if_pos h]
              have : nm ≠ 0 := fun e => h23 ⟨h, e⟩
              simp [this]
            · rw [if_neg h])
          clear HE
          by_cases h2 : kd = 2
          · subst h2
            have en := beq_ne (fun e : nm = 0 => h23 ⟨Or.inl rfl, e⟩)
            clear h23
            go_enter Try.func12, Try.ntmps12
            go_wp2
            go_ret
            exact ⟨bool_ret (by rw [HR.out]), (hB _).out⟩
          · have e2 := beq_ne h2
            by_cases h3 : kd = 3
            · subst h3
              have en := beq_ne (fun e : nm = 0 => h23 ⟨Or.inr rfl, e⟩)
              clear h23
              go_enter Try.func12, Try.ntmps12
              go_wp2
              go_ret
              exact ⟨bool_ret (by rw [HR.out]), (hB _).out⟩
            · have e3 := beq_ne h3
              clear h23
              go_enter Try.func12, Try.ntmps12
              go_wp2
              go_ret
              exact ⟨bool_ret (by rw [HR.out]), (hB _).out⟩
set_option maxHeartbeats 1000000 in
theorem allRight_any {G : Nat → Prop} (l : List VT) (ih : ∀ u ∈ l, RightOf G 20 u) (s : Value) (w : World) (h : Kids G w l s) :
    Calls Try.prog 25 #[s] w fun e w' => e = .returned (.bool (rightL l)) ∧ Below w.heap.size w w' := by
  have HK := Lib.hid h
  have IH := Lib.hid ih
  obtain ⟨A, cap, hs, hl⟩ := h.form
  subst hs
  obtain ⟨N, hN⟩ : ∃ N, N = l.length := ⟨_, rfl⟩
  have HN := Lib.hid hN
  rw [← hN] at hl ⊢
  clear h ih hN
  go_enter Try.func25, Try.ntmps25
  go_wp2
  go_loopw [7] (fun i wr => LoopRel w.heap.size w N (fun k => rightL (l.take k) = true) i wr) (fun i _ => N - (intOf i).toNat)
  case atStart => unfold LoopRel; exact ⟨0, Nat.zero_le _, rfl, Lib.hid rfl, Below.refl _ _⟩
  case round =>
    obtain ⟨k, hk, rfl, HM, hb⟩ := hrel
    by_cases hlt : k < N
    · have hkl : k < l.length := by have := HN.out; omega
      obtain ⟨b, off, cap', s', hs, hlt', _, _, c0, c1, c2, hkk⟩ := HK.out.kid hb k hkl
      injection hs with hA hL hC
      subst hA
      subst hC
      clear hL
      obtain ⟨A', cc, rfl, _⟩ := hkk.form
      have HI := Lib.hid (fun w' (hb' : Below wr.heap.size wr w') => IH.out l[k] (List.getElem_mem hkl) _ w' (hkk.below hb'))
      have HU := Lib.hid (right_more l k hkl HM.out)
      have HU2 := Lib.hid (rightL_bad l k hkl)
      obtain ⟨u, hu⟩ : ∃ u, u = l[k] := ⟨_, rfl⟩
      rw [← hu] at c0 c1 c2 HI HU HU2 hkk
      obtain ⟨M, hM⟩ : ∃ M, M = u.kids.length := ⟨_, rfl⟩
      rw [← hM] at c2 HI
      obtain ⟨r, hr⟩ : ∃ r, r = u.right := ⟨_, rfl⟩
      rw [← hr] at HI HU HU2
      clear hkk hM hu hr
      have HB := Lib.hid hb
      clear hb
      cases r
      · go_wp2_with (go_at_call 20; refine (HI.out _ ((Below.refl _ _).alloc (Nat.le_refl _) _)).mono ?_; rintro e w1 ⟨rfl, hb1⟩)
        go_ret
        exact ⟨bool_ret (by rw [HU2.out (by simp)]), HB.out.trans (((Below.refl _ _).alloc HB.out.size _).trans (hb1.mono (by simp; have := HB.out.size; omega)))⟩
      · go_wp2_with (go_at_call 20; refine (HI.out _ ((Below.refl _ _).alloc (Nat.le_refl _) _)).mono ?_; rintro e w1 ⟨rfl, hb1⟩)
        go_roundw
        case rel => unfold LoopRel; exact ⟨k + 1, by omega, by go_num, Lib.hid (HU.out (by simp)), HB.out.trans (((Below.refl _ _).alloc HB.out.size _).trans (hb1.mono (by simp; have := HB.out.size; omega)))⟩
        case measure => simp [intOf]; omega
    · have HF : Hid (rightL l = true) := Lib.hid (by have : rightL (l.take k) = true := HM.out; rwa [List.take_of_length_le (by have := HN.out; omega)] at this)
      have HB := Lib.hid hb
      clear hb
      go_wp2
      go_ret
      exact ⟨bool_ret (by rw [HF.out]), HB.out⟩
set_option maxHeartbeats 2000000 in
theorem right_any {G : Nat → Prop} (t : VT) : RightOf G 20 t := by
  induction t using VT.ind with
  | h kd nm l ih =>
    intro s w h
    change Kids G w l s at h
    have HK := Lib.hid h
    have IH := Lib.hid ih
    obtain ⟨A, cap, hs, hl⟩ := h.form
    subst hs
    obtain ⟨N, hN⟩ : ∃ N, N = l.length := ⟨_, rfl⟩
    have HE := Lib.hid (isEmpty_of hN)
    show Calls Try.prog 20 #[.agg #[.int .i64 kd, .int .i64 nm, .slice A l.length cap]] w _
    rw [← hN] at hl HK ⊢
    have HA := Lib.hid (fun w' (hb' : Below w.heap.size w w') => allRight_any l IH.out _ w' (HK.out.below hb'))
    clear h ih hN
    have hB : ∀ o, Hid (Below w.heap.size w (w.alloc o)) := fun o => Lib.hid ((Below.refl _ _).alloc (Nat.le_refl _) _)
    by_cases h0 : kd = 0
    · subst h0
      have HR : Hid ((VT.mk 0 nm l).right = ((N : Int) == 0)) := Lib.hid (by rw [right_mk, if_pos rfl, HE.out])
      clear HE
      by_cases hn : (N : Int) = 0
      · have e := beq_yes hn
        go_enter Try.func20, Try.ntmps20
        go_wp2
        go_ret
        exact ⟨bool_ret (by rw [HR.out, e]), (hB _).out⟩
      · have e := beq_ne hn
        go_enter Try.func20, Try.ntmps20
        go_wp2
        go_ret
        exact ⟨bool_ret (by rw [HR.out, e]), (hB _).out⟩
    · by_cases h1 : kd = 1
      · subst h1
        have HR : Hid ((VT.mk 1 nm l).right = (decide (nm = 0 ∨ nm = 1) && ((N : Int) == 0))) := Lib.hid (by rw [right_mk, if_neg (by omega), if_pos rfl, HE.out])
        clear HE h0
        by_cases hn : (N : Int) = 0
        · have e := beq_yes hn
          by_cases a0 : nm = 0
          · subst a0
            go_enter Try.func20, Try.ntmps20
            go_wp2
            go_ret
            exact ⟨bool_ret (by rw [HR.out, e]; rfl), (hB _).out⟩
          · by_cases a1 : nm = 1
            · subst a1
              go_enter Try.func20, Try.ntmps20
              go_wp2
              go_ret
              exact ⟨bool_ret (by rw [HR.out, e]; rfl), (hB _).out⟩
            · have HR2 : Hid ((VT.mk 1 nm l).right = false) := Lib.hid (by rw [HR.out]; simp [a0, a1])
              have e0 := beq_ne a0
              have e1 := beq_ne a1
              go_enter Try.func20, Try.ntmps20
              go_wp2
              go_ret
              exact ⟨bool_ret (by rw [HR2.out]), (hB _).out⟩
        · have e := beq_ne hn
          have HR2 : Hid ((VT.mk 1 nm l).right = false) := Lib.hid (by rw [HR.out, e]; simp)
          by_cases a0 : nm = 0
          · subst a0
            go_enter Try.func20, Try.ntmps20
            go_wp2
            go_ret
            exact ⟨bool_ret (by rw [HR2.out]), (hB _).out⟩
          · have e0 := beq_ne a0
            by_cases a1 : nm = 1
            · subst a1
              go_enter Try.func20, Try.ntmps20
              go_wp2
              go_ret
              exact ⟨bool_ret (by rw [HR2.out]), (hB _).out⟩
            · have e1 := beq_ne a1
              go_enter Try.func20, Try.ntmps20
              go_wp2
              go_ret
              exact ⟨bool_ret (by rw [HR2.out]), (hB _).out⟩
      · have e0 := beq_ne h0
        have e1 := beq_ne h1
        by_cases hnm : nm = 0
        · subst hnm
          by_cases h23 : kd = 2 ∨ kd = 3
          · have HR : Hid ((VT.mk kd 0 l).right = rightL l) := Lib.hid (by rw [right_mk, if_neg h0, if_neg h1, if_pos h23]; rfl)
            clear HE h0 h1
            rcases h23 with rfl | rfl
            all_goals
              go_enter Try.func20, Try.ntmps20
              go_wp2_with (go_at_call 25; refine (HA.out _ ((Below.refl _ _).alloc (Nat.le_refl _) _)).mono ?_; rintro e w1 ⟨rfl, hb1⟩)
              go_ret
              exact ⟨bool_ret (by rw [HR.out]), ((Below.refl _ _).alloc (Nat.le_refl _) _).trans (hb1.mono (by simp))⟩
          · have HR : Hid ((VT.mk kd 0 l).right = false) := Lib.hid (by rw [right_mk, if_neg h0, if_neg h1, if_neg h23])
            have e2 := beq_ne (fun e : kd = 2 => h23 (Or.inl e))
            have e3 := beq_ne (fun e : kd = 3 => h23 (Or.inr e))
            clear HE h23
            go_enter Try.func20, Try.ntmps20
            go_wp2
            go_ret
            exact ⟨bool_ret (by rw [HR.out]), (hB _).out⟩
        · have HR : Hid ((VT.mk kd nm l).right = false) := Lib.hid (by
            rw [right_mk, if_neg h0, if_neg h1]
            by_cases h : kd = 2 ∨ kd = 3
            · rw [if_pos h]; simp [hnm]
            · rw [if_neg h])
          have en := beq_ne hnm
          clear HE
          by_cases h2 : kd = 2
          · subst h2
            go_enter Try.func20, Try.ntmps20
            go_wp2
            go_ret
            exact ⟨bool_ret (by rw [HR.out]), (hB _).out⟩
          · have e2 := beq_ne h2
            by_cases h3 : kd = 3
            · subst h3
              go_enter Try.func20, Try.ntmps20
              go_wp2
              go_ret
              exact ⟨bool_ret (by rw [HR.out]), (hB _).out⟩
            · have e3 := beq_ne h3
              go_enter Try.func20, Try.ntmps20
              go_wp2
              go_ret
              exact ⟨bool_ret (by rw [HR.out]), (hB _).out⟩
end Go.Proofs.Ytnjcapenkoemlaa.vt

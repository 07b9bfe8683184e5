import Derived.Test.YtkmkeaeaalnbjaaDoorCGNode
import Derived.LoopTactic
import Derived.Outline
import Derived.StillTailTactics
import Derived.Deep.RegionHeld3
/- The document's own walk of a node: the row of all nodes. -/
namespace Go.Proofs.YtkmkeaeaalnbjaaDoor.nt
open Go.RowKit mem wd lx
open vt (I64 own_base own_form own_below)

/-- what a walk leaves: a row of all nodes, whose kids lie where they lay -/
def WalkPost (G : Nat → Prop) (t : NT) (w : World) (e : Ending) (w' : World) : Prop :=
  ∃ s, e = .returned s ∧ Own w.heap.size (fun b => G b ∧ b < w.heap.size) w' t.walk s ∧ Below w.heap.size w w'
def WkRel (G : Nat → Prop) (w W : World) (N : Nat) (t : NT) (o i : Value) (wr : World) : Prop :=
  ∃ k : Nat, k ≤ N ∧ i = .int .i64 k ∧ Hid (Own W.heap.size (fun b => (G b ∧ b < w.heap.size) ∧ b < W.heap.size) wr (t :: walkL (t.kids.take k)) o) ∧ Below W.heap.size W wr
theorem walk_step (k a n : Int) (nm : List UInt8) (l : List NT) (j : Nat) (h : j < l.length) : NT.mk k a n nm l :: walkL ((NT.mk k a n nm l).kids.take (j + 1)) = (NT.mk k a n nm l :: walkL ((NT.mk k a n nm l).kids.take j)) ++ l[j].walk := by
  show _ :: walkL (l.take (j + 1)) = _
  rw [walkL_take l j h]; rfl
theorem own_at {B : Nat} {G : Nat → Prop} {w : World} {l : List NT} {A : Option Addr} {n c : Nat} (h : Own B G w l (.slice A n c)) :
    ∃ vs, Nods G w l vs ∧ ∀ b off, A = some ⟨b, off, none⟩ → ∀ j u, vs[j]? = some u → w.cell? ⟨b, off + j, none⟩ = some u := by
  obtain ⟨vs, hv, ho⟩ := h
  refine ⟨vs, hv, fun b off hA j u hu => ?_⟩
  rcases ho.2 with ⟨hs, hn⟩ | ⟨g, cap, cur, hs, hb, hg', hnc, hcm, hcs, htake⟩
  · injection hs with hs _ _
    rw [hs] at hA; cases hA
  · injection hs with hs _ _
    rw [hA] at hs
    injection hs with hs
    injection hs with h1 h2 _
    subst h1; subst h2
    rw [Nat.zero_add, cell_of_row w b j cur NodeT (0, 0) hg']
    rw [← htake, List.getElem?_take] at hu
    split at hu
    · simpa using hu
    · cases hu
set_option maxHeartbeats 2000000 in
theorem rwalk_any {G : Nat → Prop} (t : NT) : Hd t → ∀ (s : Value) (w : World), Kids G w t.kids s → t.size ≤ 1073741824 →
    Calls Tryd.prog 9 #[.agg #[.int .i64 t.kind, .int .i64 t.at_, .int .i64 t.num, .string ⟨t.name.toArray⟩, s]] w (WalkPost G t w) := by
  induction t using NT.ind generalizing G with
  | h k a n nm l ih =>
    intro hd s w h hsz
    have h := h.lt
    rw [size_mk] at hsz
    change Kids (fun b => G b ∧ b < w.heap.size) w l s at h
    obtain ⟨A, cap, rfl, hl⟩ := h.form
    show Calls Tryd.prog 9 #[.agg #[.int .i64 k, .int .i64 a, .int .i64 n, .string ⟨nm.toArray⟩, .slice A l.length cap]] w _
    obtain ⟨H, hH⟩ : ∃ H, H = w.heap.size := ⟨_, rfl⟩
    obtain ⟨W, hW⟩ : ∃ W, W = w.alloc (.cells #[.int .i64 k, .int .i64 a, .int .i64 n, .string ⟨nm.toArray⟩, .slice A l.length cap] NodeT) := ⟨_, rfl⟩
    obtain ⟨⟨x0, x1, x2, x3, x4⟩, HB, HHW⟩ := boxed hH hW
    obtain ⟨V, hV⟩ : ∃ V, V = W.alloc (.cells #[.int .i64 k, .int .i64 a, .int .i64 n, .string ⟨nm.toArray⟩, .slice A l.length cap] NodeT) := ⟨_, rfl⟩
    have hbV : Below W.heap.size W V := by rw [hV]; exact (Below.refl _ _).alloc (Nat.le_refl _) _
    have HO : Hid (Own W.heap.size (fun b => (G b ∧ b < w.heap.size) ∧ b < W.heap.size) V (NT.mk k a n nm l :: walkL ((NT.mk k a n nm l).kids.take 0)) (.slice (some ⟨W.heap.size, 0, none⟩) 1 1)) := Lib.hid (by
      rw [List.take_zero, walkL]
      refine ⟨[.int .i64 k, .int .i64 a, .int .i64 n, .string ⟨nm.toArray⟩, .slice A l.length cap], ?_, ?_⟩
      · rw [Nods]
        exact ⟨_, [], rfl, hd, ((h.below HB.out).below hbV).mono fun b hb => ⟨hb, by have := HB.out.size; omega⟩, by rw [Nods]⟩
      · rw [hV]
        exact World.ownsRow_lit (size := 5) (e := NodeT) W #[.int .i64 k, .int .i64 a, .int .i64 n, .string ⟨nm.toArray⟩, .slice A l.length cap] 1 (base := W.heap.size) (Nat.le_refl _) (by decide) (by simp))
    have HBV := Lib.hid hbV
    have HX4 := Lib.hid x4
    have HK := Lib.hid h
    have IH := Lib.hid ih
    obtain ⟨N, hN⟩ : ∃ N, N = l.length := ⟨_, rfl⟩
    rw [← hN] at hl x4 hW hV HX4 HK ⊢
    have HW := Lib.hid hW
    have HV := Lib.hid hV
    have HHH := Lib.hid hH
    have HNN := Lib.hid hN
    have hHw : H < w.heap.size + 1 := by omega
    have HSZ := Lib.hid hsz
    clear h ih hN hW hH hV hbV hd hsz
    go_enter Tryd.func9, Tryd.ntmps9
    go_wp2_with (first | (rw [← HW.out, ← HHH.out]) | (rw [← HV.out]))
    go_loopw [3, 4] (fun o i wr => WkRel G w W N (NT.mk k a n nm l) o i wr) (fun _ i _ => N - (intOf i).toNat)
    case atStart => unfold WkRel; exact ⟨0, Nat.zero_le _, rfl, HO, HBV.out⟩
    case round =>
      obtain ⟨j, hj, rfl, ho, hb⟩ := hrel
      have hx4 := (hb.cell (p := ⟨H, 4, none⟩) HHW.out).trans HX4.out
      by_cases hlt : j < N
      · have hjl : j < l.length := by have := HNN.out; omega
        have hbw : Below w.heap.size w wr := HB.out.trans (hb.mono HB.out.size)
        obtain ⟨b, off, cap', s', hs, hlt', hdj, c0, c1, c2, c3, c4, hkk⟩ := HK.out.kid hbw j hjl
        injection hs with hA hL hC
        subst hA
        subst hC
        clear hL
        obtain ⟨o1, co, rfl⟩ := ho.out.form
        have hsj := sizeL_take l j hjl
        have hsj2 := sizeL_take_le l (j + 1)
        have HSJ : Hid ((NT.mk k a n nm l :: walkL ((NT.mk k a n nm l).kids.take j)).length + l[j].walk.length ≤ 1099511627776) := Lib.hid (by
          show (_ :: walkL (l.take j)).length + _ ≤ _
          rw [List.length_cons, walkL_len, walk_len]; have := HSZ.out; omega)
        have HST := Lib.hid (walk_step k a n nm l j hjl)
        have HI := Lib.hid (IH.out l[j] (List.getElem_mem hjl) hdj s' wr hkk (by have := HSZ.out; omega))
        have hpos : 0 < l[j].walk.length := by rw [walk_eq]; simp
        obtain ⟨u, hu⟩ : ∃ u, u = l[j] := ⟨_, rfl⟩
        rw [← hu] at c0 c1 c2 c3 HI HSJ HST hpos
        obtain ⟨A2, c2', rfl, _⟩ := hkk.form
        obtain ⟨M, hM⟩ : ∃ M, M = l[j].kids.length := ⟨_, rfl⟩
        rw [← hM] at c4 HI
        have HBR := Lib.hid hb
        clear hkk hM hu hsj hsj2 hdj hbw hb
        go_wp2_with (fail)
        refine HI.out.mono ?_
        rintro e w1 ⟨s1, rfl, hw1, hb1⟩
        obtain ⟨A3, c3', rfl⟩ := hw1.form
        have HB1 := Lib.hid (HBR.out.trans (hb1.mono HBR.out.size))
        have HO1 := Lib.hid (ho.out.below hb1)
        have HM1 : Hid (Kids (fun _ => True) w1 u.walk (.slice A3 u.walk.length c3')) := Lib.hid (hw1.kids (fun _ _ => trivial) (fun _ _ => trivial))
        obtain ⟨vs1, hv1, hat1⟩ := own_at hw1
        have HV1 : Hid (∃ vs, Nods (fun b => (G b ∧ b < w.heap.size) ∧ b < W.heap.size) w1 u.walk vs ∧ ∀ b off, A3 = some ⟨b, off, none⟩ → ∀ j u, vs[j]? = some u → w1.cell? ⟨b, off + j, none⟩ = some u) := Lib.hid ⟨vs1, hv1.mono fun b hb => ⟨hb.1, by have := HB.out.size; have := hb.1.2; omega⟩, hat1⟩
        obtain ⟨L1, hL1⟩ : ∃ L1, L1 = NT.mk k a n nm l :: walkL ((NT.mk k a n nm l).kids.take j) := ⟨_, rfl⟩
        rw [← hL1] at HO1 HSJ HST ⊢
        obtain ⟨m1, hm1⟩ : ∃ m1, m1 = u.walk.length := ⟨_, rfl⟩
        rw [← hm1] at HM1 ⊢
        have HM := Lib.hid hm1
        clear hw1 hb1 hv1 hat1 ho hL1 hm1 HI c0 c1 c2 c3 c4 hx4
        go_wp2_with (at_builtin; refine wpList_nodes (G := fun b => G b ∧ b < w.heap.size) (w0 := W) rfl (.tmp 14) (.tmp 20) rfl L1 u.walk (.slice o1 L1.length co) A3 m1 c3' rfl rfl HO1.out HM1.out HV1.out hpos HM.out HB1.out HSJ.out ?_; intro A4 c4 w4 ho4 hb4; have HO4 := Lib.hid ho4; have HB4 := Lib.hid hb4; clear ho4 hb4)
        go_roundw
        case rel => unfold WkRel; exact ⟨j + 1, by omega, by go_num, Lib.hid (by rw [HST.out]; have q := HO4.out; rw [List.length_append] at q; exact q), HB4.out⟩
        case measure => simp [intOf]; omega
      · have HF : Hid (NT.mk k a n nm l :: walkL ((NT.mk k a n nm l).kids.take j) = (NT.mk k a n nm l).walk) := Lib.hid (by
          show _ :: walkL (l.take j) = _
          rw [walk_mk, List.take_of_length_le (by have := HNN.out; omega)])
        have HBR := Lib.hid hb
        clear hb
        go_wp2_with (fail)
        go_ret
        unfold WalkPost
        refine ⟨_, rfl, ?_, HB.out.trans (HBR.out.mono HB.out.size)⟩
        rw [← HF.out]
        obtain ⟨vs, hv, hown⟩ := ho.out
        exact ⟨vs, hv.mono fun b h => h.1, own_base hown HB.out.size⟩
end Go.Proofs.YtkmkeaeaalnbjaaDoor.nt

/- The document's own answers: whether two nodes are the same, how deep one is. -/
namespace Go.Proofs.YtkmkeaeaalnbjaaDoor.nt
open Go.RowKit mem wd lx
open vt (I64 own_form)

theorem cleanL_append (a b : List NT) : cleanL (a ++ b) = cleanL a ++ cleanL b := by simp only [cleanL_map, List.map_append]
theorem cleanL_take (l : List NT) (k : Nat) (h : k < l.length) : cleanL (l.take (k + 1)) = cleanL (l.take k) ++ [l[k].clean] := by
  rw [List.take_succ_eq_append_getElem h, cleanL_append]; simp [cleanL]
theorem same_more {a b : List NT} (k : Nat) (ha : k < a.length) (hb : k < b.length) (h : cleanL (a.take k) = cleanL (b.take k)) (e : sameN a[k] b[k] = true) : cleanL (a.take (k + 1)) = cleanL (b.take (k + 1)) := by
  rw [cleanL_take a k ha, cleanL_take b k hb, h, of_sameN e]
theorem same_bad {a b : List NT} (k : Nat) (ha : k < a.length) (hb : k < b.length) (e : sameN a[k] b[k] = false) : sameL a b = false :=
  sameL_no fun h => not_sameN e (by
    rw [cleanL_map, cleanL_map] at h
    have := congrArg (fun l => l[k]?) h
    simp only [List.getElem?_map, List.getElem?_eq_getElem ha, List.getElem?_eq_getElem hb, Option.map_some] at this
    exact Option.some.inj this)
theorem same_len {a b : List NT} (h : a.length ≠ b.length) : sameL a b = false :=
  sameL_no fun e => h (by have := congrArg List.length e; rw [cleanL_map, cleanL_map, List.length_map, List.length_map] at this; exact this)
theorem same_all {a b : List NT} (N : Nat) (ha : N = a.length) (hb : N = b.length) (h : cleanL (a.take N) = cleanL (b.take N)) : sameL a b = true :=
  sameL_yes (by rwa [List.take_of_length_le (by omega), List.take_of_length_le (by omega)] at h)
def SameOf (G : Nat → Prop) (F : FuncId) (t : NT) : Prop := Hd t → ∀ (u : NT) (s s' : Value) (w : World), Hd u → Kids G w t.kids s → Kids G w u.kids s' →
    Calls Tryd.prog F #[.agg #[.int .i64 t.kind, .int .i64 t.at_, .int .i64 t.num, .string ⟨t.name.toArray⟩, s], .agg #[.int .i64 u.kind, .int .i64 u.at_, .int .i64 u.num, .string ⟨u.name.toArray⟩, s']] w fun e w' => e = .returned (.bool (sameN t u)) ∧ Below w.heap.size w w'
def SmRel (W : World) (N : Nat) (l m : List NT) (i : Value) (wr : World) : Prop := ∃ k : Nat, k ≤ N ∧ i = .int .i64 k ∧ Hid (cleanL (l.take k) = cleanL (m.take k)) ∧ Below W.heap.size W wr
set_option maxHeartbeats 2000000 in
set_option maxRecDepth 100000 in
theorem rsame_any {G : Nat → Prop} (t : NT) : SameOf G 18 t := by
  induction t using NT.ind with
  | h k a n nm l ih =>
    intro hd u s s' w hd' h h'
    obtain ⟨k', a', n', nm', l'⟩ := u
    obtain ⟨_, _, _, hnm⟩ := hd
    obtain ⟨_, _, _, hnm'⟩ := hd'
    change nm.length ≤ _ at hnm
    change nm'.length ≤ _ at hnm'
    change Kids G w l s at h
    change Kids G w l' s' at h'
    obtain ⟨A, cap, rfl, hl⟩ := h.form
    obtain ⟨A', cap', rfl, hl'⟩ := h'.form
    show Calls Tryd.prog 18 #[.agg #[.int .i64 k, .int .i64 a, .int .i64 n, .string ⟨nm.toArray⟩, .slice A l.length cap], .agg #[.int .i64 k', .int .i64 a', .int .i64 n', .string ⟨nm'.toArray⟩, .slice A' l'.length cap']] w _
    have HE := Lib.hid (sameN_mk k a n k' a' n' nm nm' l l')
    obtain ⟨R, hR⟩ : ∃ R, R = sameN (.mk k a n nm l) (.mk k' a' n' nm' l') := ⟨_, rfl⟩
    rw [← hR] at HE ⊢
    obtain ⟨H, hH⟩ : ∃ H, H = w.heap.size := ⟨_, rfl⟩
    obtain ⟨W0, hW0⟩ : ∃ W, W = w.alloc (.cells #[.int .i64 k, .int .i64 a, .int .i64 n, .string ⟨nm.toArray⟩, .slice A l.length cap] NodeT) := ⟨_, rfl⟩
    obtain ⟨hx, HB0, HHW0⟩ := boxed hH hW0
    obtain ⟨W, hW⟩ : ∃ W, W = W0.alloc (.cells #[.int .i64 k', .int .i64 a', .int .i64 n', .string ⟨nm'.toArray⟩, .slice A' l'.length cap'] NodeT) := ⟨_, rfl⟩
    obtain ⟨H2, hH2⟩ : ∃ H, H = W0.heap.size := ⟨_, rfl⟩
    obtain ⟨⟨y0, y1, y2, y3, y4⟩, HB1, HHW1⟩ := boxed hH2 hW
    obtain ⟨x0, x1, x2, x3, x4⟩ := boxed_on hx HHW0.out HB1.out
    have HBW : Hid (Below w.heap.size w W) := Lib.hid (HB0.out.trans (HB1.out.mono HB0.out.size))
    have hHW : H < W.heap.size := by have := HB1.out.size; have := HHW0.out; omega
    have hHW2 : H2 < W.heap.size := HHW1.out
    have HK := Lib.hid (h.below HBW.out)
    have HK' := Lib.hid (h'.below HBW.out)
    have IH := Lib.hid ih
    obtain ⟨N, hN⟩ : ∃ N, N = l.length := ⟨_, rfl⟩
    obtain ⟨N', hN'⟩ : ∃ N', N' = l'.length := ⟨_, rfl⟩
    rw [← hN] at hl x4 hW0 HK ⊢
    rw [← hN'] at hl' y4 hW HK' ⊢
    have HX := Lib.hid (And.intro x4 y4)
    have HW0 := Lib.hid hW0
    have HW := Lib.hid hW
    have HHH := Lib.hid hH
    have HHH2 := Lib.hid hH2
    have HN := Lib.hid hN
    have HN' := Lib.hid hN'
    clear h h' ih hN hN' hH hH2 hW hW0 hR hx HB0 HHW0 HB1 HHW1
    by_cases c1 : k = k'
    · subst c1
      by_cases c2 : n = n'
      · subst c2
        by_cases c3 : nm = nm'
        · subst c3
          have HR : Hid (R = sameL l l') := Lib.hid (by rw [HE.out]; simp)
          clear HE
          by_cases c4 : N = N'
          · subst c4
            go_enter Tryd.func18, Tryd.ntmps18
            go_wp2_with (first | (rw [← HW0.out, ← HHH.out]) | (rw [← HW.out, ← HHH2.out]))
            go_loopw [5] (fun i wr => SmRel W N l l' i wr) (fun i _ => N - (intOf i).toNat)
            case atStart => unfold SmRel; exact ⟨0, Nat.zero_le _, rfl, Lib.hid rfl, Below.refl _ _⟩
            case round =>
              obtain ⟨j, hj, rfl, HM, hb⟩ := hrel
              have w4 := (hb.cell (p := ⟨H, 4, none⟩) hHW).trans HX.out.1
              have v4 := (hb.cell (p := ⟨H2, 4, none⟩) hHW2).trans HX.out.2
              by_cases hlt : j < N
              · have hjl : j < l.length := by have := HN.out; omega
                have hjm : j < l'.length := by have := HN'.out; omega
                obtain ⟨b, off, cq, q, hs, hlt1, hd1, c0, c1, c2, c3, c4, hkk⟩ := HK.out.kid hb j hjl
                injection hs with hA hL hC
                subst hA
                subst hC
                clear hL
                obtain ⟨b2, off2, cq2, q2, hs, hlt2, hd2, d0, d1, d2, d3, d4, hkk2⟩ := HK'.out.kid hb j hjm
                injection hs with hA hL hC
                subst hA
                subst hC
                clear hL
                obtain ⟨Aq, cc, rfl, _⟩ := hkk.form
                obtain ⟨Aq2, cc2, rfl, _⟩ := hkk2.form
                have HI := Lib.hid (IH.out l[j] (List.getElem_mem hjl) hd1 l'[j] _ _ wr.drew hd2 (hkk.keep (fun _ _ _ _ => rfl)) (hkk2.keep (fun _ _ _ _ => rfl)))
                have HU := Lib.hid (same_more j hjl hjm HM.out)
                have HU2 := Lib.hid (same_bad (a := l) (b := l') j hjl hjm)
                obtain ⟨u, hu⟩ : ∃ u, u = l[j] := ⟨_, rfl⟩
                obtain ⟨v, hv⟩ : ∃ v, v = l'[j] := ⟨_, rfl⟩
                rw [← hu] at c0 c1 c2 c3 c4 HI HU HU2 hkk
                rw [← hv] at d0 d1 d2 d3 d4 HI HU HU2 hkk2
                obtain ⟨M, hM⟩ : ∃ M, M = u.kids.length := ⟨_, rfl⟩
                rw [← hM] at c4 HI
                obtain ⟨M2, hM2⟩ : ∃ M2, M2 = v.kids.length := ⟨_, rfl⟩
                rw [← hM2] at d4 HI
                obtain ⟨r, hr⟩ : ∃ r, r = sameN u v := ⟨_, rfl⟩
                rw [← hr] at HI HU HU2
                have HB := Lib.hid hb
                clear hkk hkk2 hM hM2 hd1 hd2 hu hv hr hb
                go_wp2_with (fail)
                go_still_tail 10, (by kernel_rfl)
                change wpList _ _ _ _ _ wr.drew
                cases r
                · go_wp2_with (go_at_call 18; refine HI.out.mono ?_; rintro e w1 ⟨rfl, hb1⟩)
                  go_ret
                  exact ⟨by rw [HR.out, HU2.out (by simp)]; rfl, HBW.out.trans ((HB.out.drew.trans (hb1.mono HB.out.size)).mono HBW.out.size)⟩
                · go_wp2_with (go_at_call 18; refine HI.out.mono ?_; rintro e w1 ⟨rfl, hb1⟩)
                  go_roundw
                  case rel => unfold SmRel; exact ⟨j + 1, by omega, by go_num, Lib.hid (HU.out (by simp)), HB.out.drew.trans (hb1.mono HB.out.size)⟩
                  case measure => simp [intOf]; omega
              · have HF : Hid (R = true) := Lib.hid (by
                  rw [HR.out]
                  exact same_all N HN.out HN'.out (by have : j = N := by omega
                                                      rw [← this]; exact HM.out))
                have HB := Lib.hid hb
                clear hb
                go_wp2_with (fail)
                go_ret
                exact ⟨by rw [HF.out]; rfl, HBW.out.trans (HB.out.mono HBW.out.size)⟩
          · have e4 : ((N : Int) == N') = false := beq_eq_false_iff_ne.2 (by omega)
            have HF : Hid (R = false) := Lib.hid (by rw [HR.out]; exact same_len (by have := HN.out; have := HN'.out; omega))
            go_enter Tryd.func18, Tryd.ntmps18
            go_wp2_with (first | (rw [← HW0.out, ← HHH.out]) | (rw [← HW.out, ← HHH2.out]))
            go_ret
            exact ⟨by rw [HF.out]; rfl, HBW.out⟩
        · have e3 : (nm == nm') = false := beq_eq_false_iff_ne.2 c3
          have HF : Hid (R = false) := Lib.hid (by rw [HE.out]; simp [c3])
          clear c3 HE
          go_enter Tryd.func18, Tryd.ntmps18
          go_wp2_with (first | (rw [← HW0.out, ← HHH.out]) | (rw [← HW.out, ← HHH2.out]))
          go_ret
          exact ⟨by rw [HF.out]; rfl, HBW.out⟩
      · have e2 : (n != n') = true := by rw [bne_iff_ne]; exact c2
        have HF : Hid (R = false) := Lib.hid (by rw [HE.out]; simp [c2])
        clear c2 HE
        go_enter Tryd.func18, Tryd.ntmps18
        go_wp2_with (first | (rw [← HW0.out, ← HHH.out]) | (rw [← HW.out, ← HHH2.out]))
        go_ret
        exact ⟨by rw [HF.out]; rfl, HBW.out⟩
    · have e1 : (k != k') = true := by rw [bne_iff_ne]; exact c1
      have HF : Hid (R = false) := Lib.hid (by rw [HE.out]; simp [c1])
      clear c1 HE
      go_enter Tryd.func18, Tryd.ntmps18
      go_wp2_with (first | (rw [← HW0.out, ← HHH.out]) | (rw [← HW.out, ← HHH2.out]))
      go_ret
      exact ⟨by rw [HF.out]; rfl, HBW.out⟩
/-! ### how deep -/
def DpRel (W : World) (N : Nat) (l : List NT) (n i : Value) (wr : World) : Prop :=
  ∃ (k : Nat) (m : Int), k ≤ N ∧ i = .int .i64 k ∧ n = .int .i64 m ∧ (0 ≤ m ∧ m ≤ 9223372036854775807) ∧ Hid (m = deepL 0 (l.take k)) ∧ Below W.heap.size W wr
theorem deep_step (l : List NT) (k : Nat) (hk : k < l.length) (m d r : Int) (h : m = deepL 0 (l.take k)) (hd : d = l[k].deepW) (hr : r = max m d) : r = deepL 0 (l.take (k + 1)) := by
  rw [deepL_take l k hk, hr, h, hd]
set_option maxHeartbeats 1000000 in
theorem rdeep_any {G : Nat → Prop} (t : NT) : Hd t → ∀ (s : Value) (w : World), Kids G w t.kids s →
    Calls Tryd.prog 24 #[.agg #[.int .i64 t.kind, .int .i64 t.at_, .int .i64 t.num, .string ⟨t.name.toArray⟩, s]] w fun e w' => e = .returned (.int .i64 t.deepW) ∧ Below w.heap.size w w' := by
  induction t using NT.ind with
  | h k a n nm l ih =>
    intro hd s w h
    obtain ⟨_, _, _, hnm⟩ := hd
    change nm.length ≤ _ at hnm
    change Kids G w l s at h
    obtain ⟨A, cap, rfl, hl⟩ := h.form
    show Calls Tryd.prog 24 #[.agg #[.int .i64 k, .int .i64 a, .int .i64 n, .string ⟨nm.toArray⟩, .slice A l.length cap]] w _
    have HD0 := Lib.hid (deepW_mk k a n nm l)
    obtain ⟨R, hR⟩ : ∃ R, R = (NT.mk k a n nm l).deepW := ⟨_, rfl⟩
    rw [← hR] at HD0 ⊢
    obtain ⟨H, hH⟩ : ∃ H, H = w.heap.size := ⟨_, rfl⟩
    obtain ⟨W, hW⟩ : ∃ W, W = w.alloc (.cells #[.int .i64 k, .int .i64 a, .int .i64 n, .string ⟨nm.toArray⟩, .slice A l.length cap] NodeT) := ⟨_, rfl⟩
    obtain ⟨⟨x0, x1, x2, x3, x4⟩, HB, HHW⟩ := boxed hH hW
    have HK := Lib.hid (h.below HB.out)
    have IH := Lib.hid ih
    obtain ⟨N, hN⟩ : ∃ N, N = l.length := ⟨_, rfl⟩
    rw [← hN] at hl x4 hW HK ⊢
    have HX4 := Lib.hid x4
    have HW := Lib.hid hW
    have HHH := Lib.hid hH
    have HN := Lib.hid hN
    clear h ih hN hW hH hR
    go_enter Tryd.func24, Tryd.ntmps24
    go_wp2_with (first | (rw [← HW.out, ← HHH.out]))
    go_loopw [3, 4] (fun n i wr => DpRel W N l n i wr) (fun _ i _ => N - (intOf i).toNat)
    case atStart => unfold DpRel; exact ⟨0, 0, Nat.zero_le _, rfl, rfl, ⟨by omega, by omega⟩, Lib.hid (by simp [deepL]), Below.refl _ _⟩
    case round =>
      obtain ⟨j, m, hj, rfl, rfl, hm, HM, hb⟩ := hrel
      have w4 := (hb.cell (p := ⟨H, 4, none⟩) HHW.out).trans HX4.out
      by_cases hlt : j < N
      · have hjl : j < l.length := by have := HN.out; omega
        obtain ⟨b, off, cq, q, hs, hlt1, hd1, c0, c1, c2, c3, c4, hkk⟩ := HK.out.kid hb j hjl
        injection hs with hA hL hC
        subst hA
        subst hC
        clear hL
        obtain ⟨Aq, cc, rfl, _⟩ := hkk.form
        have HI := Lib.hid (IH.out l[j] (List.getElem_mem hjl) hd1 _ wr hkk)
        have HS := Lib.hid (deep_step l j hjl m)
        have hub := deepW_bd l[j]
        obtain ⟨dp, hdp⟩ : ∃ dp, dp = l[j].deepW := ⟨_, rfl⟩
        rw [← hdp] at hub HI
        have HD := Lib.hid hdp
        obtain ⟨u, hu⟩ : ∃ u, u = l[j] := ⟨_, rfl⟩
        rw [← hu] at c0 c1 c2 c3 c4 HI hkk
        obtain ⟨M, hM⟩ : ∃ M, M = u.kids.length := ⟨_, rfl⟩
        rw [← hM] at c4 HI
        have HBR := Lib.hid hb
        clear hkk hM hd1 hu hdp hb
        go_wp2_with (go_at_call 24; refine HI.out.mono ?_; rintro e w1 ⟨rfl, hb1⟩)
        all_goals
          go_roundw
          case rel => unfold DpRel; exact ⟨j + 1, _, by omega, by go_num, rfl, ⟨by omega, by omega⟩, Lib.hid (HS.out _ _ HM.out HD.out (by omega)), HBR.out.trans (hb1.mono HBR.out.size)⟩
          case measure => simp [intOf]; omega
      · have HF : Hid (wrap64 (m + 1) = R) := Lib.hid (by rw [HD0.out, HM.out, List.take_of_length_le (by have := HN.out; omega)])
        have HBR := Lib.hid hb
        clear hb
        go_wp2_with (fail)
        go_ret
        exact ⟨by rw [← HF.out]; rfl, HB.out.trans (HBR.out.mono HB.out.size)⟩
end Go.Proofs.YtkmkeaeaalnbjaaDoor.nt

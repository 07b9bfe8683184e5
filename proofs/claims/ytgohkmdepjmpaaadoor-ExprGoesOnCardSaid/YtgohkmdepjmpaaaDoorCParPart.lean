/- The document's own reader of parts. -/
import Derived.Test.YtgohkmdepjmpaaaDoorCParLev
namespace Go.Proofs.YtgohkmdepjmpaaaDoor.pm
open Go.RowKit wd lx nt ne mem
open vt (I64 own_form)

set_option maxRecDepth 100000 in
set_option maxHeartbeats 4000000 in
theorem part_no {l : List Tk} {v : Value} {i : Int} {w : World} (hs : Src l v w) (h0 : -9223372036854775808 ≤ i) (h1 : i ≤ 9223372036854775807) {j : Int} (ih : ∀ w', Src l v w' → Calls Tryd.prog 62 #[v, .int .i64 i] w' (Told (.no j) w')) :
    Calls Tryd.prog 52 #[v, .int .i64 i] w (Told (.no j) w) := by
  obtain ⟨P, hP⟩ : ∃ P, P = Told (.no j) w := ⟨_, rfl⟩
  rw [← hP]
  have HP := Lib.hid hP
  have IH := Lib.hid ih
  clear hP ih
  have hLn := hs.len
  obtain ⟨R, hR⟩ : ∃ R, R = w.heap.size := ⟨_, rfl⟩
  obtain ⟨W, hW⟩ : ∃ W, W = w.alloc (.cells #[.int .i64 0, .int .i64 0, .int .i64 0, .string ⟨#[]⟩, .slice none 0 0] NodeT) := ⟨_, rfl⟩
  have hbW : Below w.heap.size w W := by rw [hW]; exact (Below.refl _ _).alloc (Nat.le_refl _) _
  have HBX : Hid (Box W R NodeT #[.int .i64 0, .int .i64 0, .int .i64 0, .string ⟨#[]⟩, .slice none 0 0]) := Lib.hid (by rw [hW]; exact Box.new _ _ _ _ hR)
  have HM : Hid (∀ w', Below (R + 1) W w' → Box w' R NodeT #[.int .i64 0, .int .i64 0, .int .i64 0, .string ⟨#[]⟩, .slice none 0 0] ∧ Src l v w' ∧ R + 1 ≤ w'.heap.size ∧ Below w.heap.size w w') := Lib.hid (fun w' hb => by
    have q1 := HBX.out.below hb (by omega)
    have q3 : Below w.heap.size w w' := hbW.trans (hb.mono (by omega))
    exact ⟨q1, hs.on q3, q1.lt, q3⟩)
  have HB : Hid (Below (R + 1) W W) := Lib.hid (Below.refl _ _)
  have HW := Lib.hid hW
  have HRR := Lib.hid hR
  clear hW hR hbW hs
  go_enter Tryd.func52, Tryd.ntmps52
  go_wp2_with (first | (rw [← HW.out, ← HRR.out]))
  refine (IH.out _ (HM.out _ HB.out).2.1).mono ?_
  rintro e w7 ⟨rfl, hb7⟩
  have HB7 := Lib.hid (HB.out.trans (hb7.mono (HM.out _ HB.out).2.2.1))
  obtain ⟨V, hV⟩ : ∃ V, V = w7.alloc (.cells #[.int .i64 0, .int .i64 0, .int .i64 0, .string ⟨#[]⟩, .slice none 0 0] NodeT) := ⟨_, rfl⟩
  obtain ⟨O, hO⟩ : ∃ O, O = w7.heap.size := ⟨_, rfl⟩
  have hRO : R + 1 ≤ O := by rw [hO]; exact (HM.out _ HB7.out).2.2.1
  have hbV : Below (R + 1) W V := by rw [hV]; exact HB7.out.alloc (HM.out _ HB7.out).2.2.1 _
  have bO : Box V O NodeT #[.int .i64 0, .int .i64 0, .int .i64 0, .string ⟨#[]⟩, .slice none 0 0] := by rw [hV]; exact Box.new _ _ _ _ hO
  have bR := (HM.out _ hbV).1
  have ne3 : ¬ R = O := by omega
  have ne4 : ¬ O = R := fun e => ne3 e.symm
  have HBU : Hid (Below (R + 1) W (((((V.setCell ⟨O, 0, none⟩ (.int .i64 0)).setCell ⟨O, 1, none⟩ (.int .i64 0)).setCell ⟨O, 2, none⟩ (.int .i64 0)).setCell ⟨O, 3, none⟩ (.string ⟨#[]⟩)).setCell ⟨O, 4, none⟩ (.slice none 0 0))) := Lib.hid (below_five hbV hRO _ _ _ _ _)
  have HE := Lib.hid (no_end (j := j) HRR.out (HM.out _ HBU.out).1 (HM.out _ HBU.out).2.2.2)
  have r0 := bR.cell 0
  have r1 := bR.cell 1
  have r2 := bR.cell 2
  have r3 := bR.cell 3
  have r4 := bR.cell 4
  have g0 := bR.frozen 0
  have g1 := bR.frozen 1
  have g2 := bR.frozen 2
  have g3 := bR.frozen 3
  have g4 := bR.frozen 4
  simp only [List.getElem?_toArray, List.getElem?_cons_zero, List.getElem?_cons_succ] at r0 r1 r2 r3 r4
  have o0 := bO.cell 0
  have o1 := bO.cell 1
  have o2 := bO.cell 2
  have o3 := bO.cell 3
  have o4 := bO.cell 4
  have og0 := bO.frozen 0
  have og1 := bO.frozen 1
  have og2 := bO.frozen 2
  have og3 := bO.frozen 3
  have og4 := bO.frozen 4
  simp only [List.getElem?_toArray, List.getElem?_cons_zero, List.getElem?_cons_succ] at o0 o1 o2 o3 o4
  have HV := Lib.hid hV
  have HO := Lib.hid hO
  clear hV hO hRO hbV bO bR hb7
  go_wp2_with (first | (rw [← HV.out, ← HO.out]))
  refine bodyPost_ret (node_ret3 rfl rfl rfl rfl HE.out.1) rfl ?_
  rw [HP.out]
  exact HE.out.2
def PartRel (l : List Tk) (r : Res) (f R L : Nat) (W : World) (jv : Value) (wr : World) : Prop :=
  ∃ (u : NT) (j : Int) (g : Nat) (s : Value), g ≤ f ∧ jv = .int .i64 j ∧ 0 ≤ j ∧ j ≤ l.length ∧ Hid (run l g (.steps u) j = some r) ∧ Hid (Box wr L NodeT #[.int .i64 u.kind, .int .i64 u.at_, .int .i64 u.num, .string ⟨u.name.toArray⟩, s]) ∧ Hid (nt.Kids (fun b => R < b ∧ b ≠ L) wr u.kids s) ∧ Hid (Hd u) ∧ Hid (Below (R + 1) W wr)
set_option maxRecDepth 100000 in
set_option maxHeartbeats 4000000 in
theorem part_node {l : List Tk} {v : Value} {i : Int} {w : World} (hs : Src l v w) (h0 : -9223372036854775808 ≤ i) (h1 : i ≤ 9223372036854775807) {f : Nat} {j : Int} {u : NT} {r : Res} (ih : ∀ w', Src l v w' → Calls Tryd.prog 62 #[v, .int .i64 i] w' (Told (.node u j) w')) (hj0 : 0 ≤ j) (hj1 : j ≤ l.length) (hr : run l f (.steps u) j = some r)
    (ihe : ∀ (g : Nat), g ≤ f → ∀ (i : Int) (w : World) (r : Res), Src l v w → -9223372036854775808 ≤ i → i ≤ 9223372036854775807 → run l g (.lev 1) i = some r → Calls Tryd.prog 9 #[v, .int .i64 i] w (Told r w)) :
    Calls Tryd.prog 52 #[v, .int .i64 i] w (Told r w) := by
  obtain ⟨P, hP⟩ : ∃ P, P = Told r w := ⟨_, rfl⟩
  rw [← hP]
  have HP := Lib.hid hP
  have IH := Lib.hid ih
  clear hP ih
  have IHE := Lib.hid ihe
  have HR0 := Lib.hid hr
  clear ihe hr
  have hLn := hs.len
  obtain ⟨R, hR⟩ : ∃ R, R = w.heap.size := ⟨_, rfl⟩
  obtain ⟨W, hW⟩ : ∃ W, W = w.alloc (.cells #[.int .i64 0, .int .i64 0, .int .i64 0, .string ⟨#[]⟩, .slice none 0 0] NodeT) := ⟨_, rfl⟩
  have hbW : Below w.heap.size w W := by rw [hW]; exact (Below.refl _ _).alloc (Nat.le_refl _) _
  have HBX : Hid (Box W R NodeT #[.int .i64 0, .int .i64 0, .int .i64 0, .string ⟨#[]⟩, .slice none 0 0]) := Lib.hid (by rw [hW]; exact Box.new _ _ _ _ hR)
  have HM : Hid (∀ w', Below (R + 1) W w' → Box w' R NodeT #[.int .i64 0, .int .i64 0, .int .i64 0, .string ⟨#[]⟩, .slice none 0 0] ∧ Src l v w' ∧ R + 1 ≤ w'.heap.size ∧ Below w.heap.size w w') := Lib.hid (fun w' hb => by
    have q1 := HBX.out.below hb (by omega)
    have q3 : Below w.heap.size w w' := hbW.trans (hb.mono (by omega))
    exact ⟨q1, hs.on q3, q1.lt, q3⟩)
  have HB : Hid (Below (R + 1) W W) := Lib.hid (Below.refl _ _)
  have HW := Lib.hid hW
  have HRR := Lib.hid hR
  clear hW hR hbW hs
  go_enter Tryd.func52, Tryd.ntmps52
  go_wp2_with (first | (rw [← HW.out, ← HRR.out]))
  refine (IH.out _ (HM.out _ HB.out).2.1).mono ?_
  rintro e w7 ⟨su, rfl, hk7, hd7, hb7⟩
  obtain ⟨A, c, rfl, _⟩ := hk7.form
  have HB7 := Lib.hid (HB.out.trans (hb7.mono (HM.out _ HB.out).2.2.1))
  obtain ⟨V, hV⟩ : ∃ V, V = w7.alloc (.cells #[.int .i64 0, .int .i64 0, .int .i64 0, .string ⟨#[]⟩, .slice none 0 0] NodeT) := ⟨_, rfl⟩
  obtain ⟨L, hL⟩ : ∃ L, L = w7.heap.size := ⟨_, rfl⟩
  have hRL : R + 1 ≤ L := by rw [hL]; exact (HM.out _ HB7.out).2.2.1
  have hbV : Below (R + 1) W V := by rw [hV]; exact HB7.out.alloc (HM.out _ HB7.out).2.2.1 _
  have bL : Box V L NodeT #[.int .i64 0, .int .i64 0, .int .i64 0, .string ⟨#[]⟩, .slice none 0 0] := by rw [hV]; exact Box.new _ _ _ _ hL
  have HKU : Hid (nt.Kids (fun b => R < b ∧ b ≠ L) (((((V.setCell ⟨L, 0, none⟩ (.int .i64 u.kind)).setCell ⟨L, 1, none⟩ (.int .i64 u.at_)).setCell ⟨L, 2, none⟩ (.int .i64 u.num)).setCell ⟨L, 3, none⟩ (.string ⟨u.name.toArray⟩)).setCell ⟨L, 4, none⟩ (.slice A u.kids.length c)) u.kids (.slice A u.kids.length c)) := Lib.hid (by
    have hk8 : nt.Kids (fun b => R < b ∧ b ≠ L) w7 u.kids (.slice A u.kids.length c) := (hk7.lt).mono fun b hb => ⟨by have h1 := hb.1; have h2 := (HM.out _ HB.out).2.2.1; omega, by have := hb.2; omega⟩
    have hk9 : nt.Kids (fun b => R < b ∧ b ≠ L) V u.kids (.slice A u.kids.length c) := by rw [hV]; exact hk8.below ((Below.refl _ _).alloc (Nat.le_refl _) _)
    exact kids_five hk9 (fun b hb => hb.2) _ _ _ _ _)
  have HBU : Hid (Below (R + 1) W (((((V.setCell ⟨L, 0, none⟩ (.int .i64 u.kind)).setCell ⟨L, 1, none⟩ (.int .i64 u.at_)).setCell ⟨L, 2, none⟩ (.int .i64 u.num)).setCell ⟨L, 3, none⟩ (.string ⟨u.name.toArray⟩)).setCell ⟨L, 4, none⟩ (.slice A u.kids.length c))) := Lib.hid (below_five hbV hRL _ _ _ _ _)
  have HBOU : Hid (Box (((((V.setCell ⟨L, 0, none⟩ (.int .i64 u.kind)).setCell ⟨L, 1, none⟩ (.int .i64 u.at_)).setCell ⟨L, 2, none⟩ (.int .i64 u.num)).setCell ⟨L, 3, none⟩ (.string ⟨u.name.toArray⟩)).setCell ⟨L, 4, none⟩ (.slice A u.kids.length c)) L NodeT #[.int .i64 u.kind, .int .i64 u.at_, .int .i64 u.num, .string ⟨u.name.toArray⟩, .slice A u.kids.length c]) := Lib.hid (box_five bL _ _ _ _ _)
  have o0 := bL.cell 0
  have o1 := bL.cell 1
  have o2 := bL.cell 2
  have o3 := bL.cell 3
  have o4 := bL.cell 4
  have og0 := bL.frozen 0
  have og1 := bL.frozen 1
  have og2 := bL.frozen 2
  have og3 := bL.frozen 3
  have og4 := bL.frozen 4
  simp only [List.getElem?_toArray, List.getElem?_cons_zero, List.getElem?_cons_succ] at o0 o1 o2 o3 o4
  have HV := Lib.hid hV
  have HLL := Lib.hid hL
  have HRL := Lib.hid hRL
  have HD := Lib.hid hd7
  clear hV hL hRL hbV bL hb7 hk7 hd7
  go_wp2_with (first | (rw [← HV.out, ← HLL.out]))
  obtain ⟨U, hU⟩ : ∃ U, U = ((((V.setCell ⟨L, 0, none⟩ (.int .i64 u.kind)).setCell ⟨L, 1, none⟩ (.int .i64 u.at_)).setCell ⟨L, 2, none⟩ (.int .i64 u.num)).setCell ⟨L, 3, none⟩ (.string ⟨u.name.toArray⟩)).setCell ⟨L, 4, none⟩ (.slice A u.kids.length c) := ⟨_, rfl⟩
  rw [← hU] at HKU HBU HBOU ⊢
  clear hU o0 o1 o2 o3 o4 og0 og1 og2 og3 og4 HV HLL
  go_loopw [8] (fun jv wr => PartRel l r f R L W jv wr) (fun jv _ => l.length + 1 - (intOf jv).toNat)
  case atStart => unfold PartRel; exact ⟨u, j, f, _, Nat.le_refl _, rfl, hj0, hj1, HR0, HBOU, HKU, HD, HBU⟩
  case round =>
    clear HKU HBU HBOU HD HR0 hj0 hj1 h0 h1 IH HB HB7
    unfold PartRel at hrel
    obtain ⟨u, j, g, su, hg, rfl, hj0, hj1, hrun, hbL, hku, hdu, hbw⟩ := hrel
    cases g with
    | zero => have := hrun.out; simp [run] at this
    | succ g =>
    have hr := hrun.out
    rw [run_succ] at hr
    simp only [stepR] at hr
    clear hrun
    obtain ⟨A, c, rfl, _⟩ := hku.out.form
    have hsw := (HM.out _ hbw.out).2.2.1
    have HT0 := Lib.hid (rtok_any l v j wr _ (HM.out _ hbw.out).2.1.lies hLn (by unfold I64; omega))
    have hFj := (HM.out _ hbw.out).2.1.fair j
    have hF1 := (HM.out _ hbw.out).2.1.fair (j + 1)
    unfold TokPost at HT0
    obtain ⟨tk, ht⟩ : ∃ tk, tk = tokAt l j := ⟨_, rfl⟩
    have HTK := Lib.hid ht
    rw [← ht] at HT0 hFj
    obtain ⟨kk, a, nn, ss⟩ := tk
    simp only [tkA] at HT0 hFj
    rw [← ht] at hr
    simp only at hr
    have hfl := fun w' => tok_field kk a nn ss w'
    have HFA : Hid (I64 a) := Lib.hid hFj.1
    have HF1 := Lib.hid hF1
    have HRN := Lib.hid hr
    clear hr ht hFj hF1
    go_wp2_with (fail)
    refine HT0.out.mono ?_
    rintro e w2 ⟨rfl, hb2⟩
    have HIS : Hid (∀ (m : List UInt8) (i : Int) (w' : World), Below (R + 1) W w' → I64 i → Calls Tryd.prog 28 #[v, .int .i64 i, .string ⟨m.toArray⟩] w' fun e w2 => e = .returned (.bool (isM l i m)) ∧ Below (R + 1) W w2 ∧ Below w'.heap.size w' w2) := Lib.hid (fun m i w' hb hi => (is_tok13 l v i m w' _ (HM.out _ hb).2.1.lies hLn hi).mono fun _ _ q => ⟨q.1, hb.trans (q.2.mono (HM.out _ hb).2.2.1), q.2⟩)
    have hb2' : Below (R + 1) W w2 := hbw.out.trans (hb2.mono hsw)
    have HI1 := Lib.hid (HIS.out [46] j w2 hb2' (by unfold I64; omega))
    obtain ⟨b1, hm1⟩ : ∃ b1, b1 = isM l j [46] := ⟨_, rfl⟩
    rw [← hm1] at HI1
    have HM1 := Lib.hid hm1.symm
    clear hm1
    go_wp2_with (fail)
    refine HI1.out.mono ?_
    rintro e w3 ⟨rfl, hb3', hb3⟩
    have HB3 := Lib.hid hb3'
    have hc3 : Below wr.heap.size wr w3 := hb2.trans (hb3.mono hb2.size)
    have HKU := Lib.hid (hku.out.below hc3)
    have hbL3 := hbL.out.on hc3
    have HLW := Lib.hid hbL3.lt
    have HBL := Lib.hid hbL3
    clear hb2 hb2' hb3 hb3' hc3 HT0 HI1 hku hbL hbw hsw hbL3 hfl
    have ne3 : ¬ R = L := by have := HRL.out; omega
    have ne4 : ¬ L = R := fun e => ne3 e.symm
    cases b1 with
    | true =>
      have hr := HRN.out
      rw [if_pos HM1.out] at hr
      have hjl := (isM_in HM1.out).2
      have HT1 := Lib.hid (rtok_any l v (j + 1) w3 _ (HM.out _ HB3.out).2.1.lies hLn (by unfold I64; omega))
      unfold TokPost at HT1
      obtain ⟨t2, ht2⟩ : ∃ t2, t2 = tokAt l (j + 1) := ⟨_, rfl⟩
      have hF2 := HF1.out
      have hin2 := tok_in (l := l) (i := j + 1)
      rw [← ht2] at HT1 hr hF2 hin2
      obtain ⟨k2, a2, n2, s2⟩ := t2
      simp only [tkA] at HT1
      simp only at hr hF2 hin2
      have HR2 := Lib.hid hr
      have HF2 := Lib.hid hF2.2.2
      clear HRN ht2 hr hF2
      go_wp2_with (fail)
      refine HT1.out.mono ?_
      rintro e w4 ⟨rfl, hb4⟩
      have HB4 := Lib.hid (HB3.out.trans (hb4.mono (HM.out _ HB3.out).2.2.1))
      obtain ⟨W1, hW1⟩ : ∃ W1, W1 = w4.alloc (.cells #[.int .i64 0, .int .i64 0, .int .i64 0, .string ⟨#[]⟩] TkT) := ⟨_, rfl⟩
      obtain ⟨T, hT⟩ : ∃ T, T = w4.heap.size := ⟨_, rfl⟩
      have hRT : R + 1 ≤ T := by rw [hT]; exact (HM.out _ HB4.out).2.2.1
      have hLT : L < T := by have := HLW.out; have := hb4.size; omega
      have hbW1 : Below (R + 1) W W1 := by rw [hW1]; exact HB4.out.alloc (HM.out _ HB4.out).2.2.1 _
      have bT : Box W1 T TkT #[.int .i64 0, .int .i64 0, .int .i64 0, .string ⟨#[]⟩] := by rw [hW1]; exact Box.new _ _ _ _ hT
      have bR := (HM.out _ hbW1).1
      have hb4U : Below w3.heap.size w3 ((((W1.setCell ⟨T, 0, none⟩ (.int .i64 k2)).setCell ⟨T, 1, none⟩ (.int .i64 a2)).setCell ⟨T, 2, none⟩ (.int .i64 n2)).setCell ⟨T, 3, none⟩ (.string ⟨s2.toArray⟩)) := below_four (by rw [hW1]; exact hb4.alloc hb4.size _) (by rw [hT]; exact hb4.size) _ _ _ _
      have hbU : Below (R + 1) W ((((W1.setCell ⟨T, 0, none⟩ (.int .i64 k2)).setCell ⟨T, 1, none⟩ (.int .i64 a2)).setCell ⟨T, 2, none⟩ (.int .i64 n2)).setCell ⟨T, 3, none⟩ (.string ⟨s2.toArray⟩)) := below_four hbW1 hRT _ _ _ _
      have bTU := box_four bT (.int .i64 k2) (.int .i64 a2) (.int .i64 n2) (.string ⟨s2.toArray⟩)
      have f0 := bT.frozen 0
      have f1 := bT.frozen 1
      have f2 := bT.frozen 2
      have f3 := bT.frozen 3
      have y0 := bT.cell 0
      have y1 := bT.cell 1
      have y2 := bT.cell 2
      have y3 := bT.cell 3
      simp only [List.getElem?_toArray, List.getElem?_cons_zero, List.getElem?_cons_succ] at y0 y1 y2 y3
      have ne5 : ¬ R = T := by omega
      have ne6 : ¬ T = R := fun e => ne5 e.symm
      have ne7 : ¬ L = T := by omega
      have ne8 : ¬ T = L := fun e => ne7 e.symm
      by_cases hk1 : k2 = 1
      · subst hk1
        have hr := HR2.out
        rw [if_pos rfl] at hr
        have HR3 := Lib.hid hr
        have hj2 := (hin2 (by decide)).2
        obtain ⟨U, hU⟩ : ∃ U, U = (((W1.setCell ⟨T, 0, none⟩ (.int .i64 1)).setCell ⟨T, 1, none⟩ (.int .i64 a2)).setCell ⟨T, 2, none⟩ (.int .i64 n2)).setCell ⟨T, 3, none⟩ (.string ⟨s2.toArray⟩) := ⟨_, rfl⟩
        rw [← hU] at hb4U hbU bTU
        have bLU := HBL.out.on hb4U
        have t0 := bTU.cell 0
        have t3 := bTU.cell 3
        simp only [List.getElem?_toArray, List.getElem?_cons_zero, List.getElem?_cons_succ] at t0 t3
        obtain ⟨X, hX⟩ : ∃ X, X = U.alloc (.cells #[.int .i64 u.kind, .int .i64 u.at_, .int .i64 u.num, .string ⟨u.name.toArray⟩, .slice A u.kids.length c] NodeT) := ⟨_, rfl⟩
        have bLX : Box X L NodeT #[.int .i64 u.kind, .int .i64 u.at_, .int .i64 u.num, .string ⟨u.name.toArray⟩, .slice A u.kids.length c] := by rw [hX]; exact bLU.alloc _
        have hrow : nt.Kids (fun b => R < b ∧ b ≠ L) X [u] (.slice (some ⟨U.heap.size, 0, none⟩) 1 1) := by
          rw [hX]
          exact row_one rfl hdu.out (HKU.out.below hb4U) ⟨by have := (HM.out _ hbU).2.2.1; omega, by have := bLU.lt; omega⟩
        have hbX : Below (R + 1) W X := by rw [hX]; exact hbU.alloc (HM.out _ hbU).2.2.1 _
        have HKZ := Lib.hid (kids_five hrow (fun b hb => hb.2) (.int .i64 14) (.int .i64 a) (.int .i64 0) (.string ⟨s2.toArray⟩) (.slice (some ⟨U.heap.size, 0, none⟩) 1 1))
        have HBZ := Lib.hid (below_five hbX HRL.out (.int .i64 14) (.int .i64 a) (.int .i64 0) (.string ⟨s2.toArray⟩) (.slice (some ⟨U.heap.size, 0, none⟩) 1 1))
        have HLZ := Lib.hid (box_five bLX (.int .i64 14) (.int .i64 a) (.int .i64 0) (.string ⟨s2.toArray⟩) (.slice (some ⟨U.heap.size, 0, none⟩) 1 1))
        have HDZ : Hid (Hd (.mk 14 a 0 s2 [u])) := Lib.hid ⟨by show I64 14; unfold I64; omega, HFA.out, by show I64 0; unfold I64; omega, HF2.out⟩
        have z0 := bLU.cell 0
        have z1 := bLU.cell 1
        have z2 := bLU.cell 2
        have z3 := bLU.cell 3
        have z4 := bLU.cell 4
        simp only [List.getElem?_toArray, List.getElem?_cons_zero, List.getElem?_cons_succ] at z0 z1 z2 z3 z4
        have x0 := bLX.cell 0
        have x1 := bLX.cell 1
        have x2 := bLX.cell 2
        have x3 := bLX.cell 3
        have x4 := bLX.cell 4
        have xg0 := bLX.frozen 0
        have xg1 := bLX.frozen 1
        have xg2 := bLX.frozen 2
        have xg3 := bLX.frozen 3
        have xg4 := bLX.frozen 4
        simp only [List.getElem?_toArray, List.getElem?_cons_zero, List.getElem?_cons_succ] at x0 x1 x2 x3 x4
        rw [hX] at x0 x1 x2 x3 x4 xg0 xg1 xg2 xg3 xg4 HKZ HBZ HLZ
        have HU := Lib.hid hU
        have HWW := Lib.hid hW1
        have HTT := Lib.hid hT
        clear hU hW1 hT hRT hLT hbW1 bT bR hb4U hbU bTU bLU hX bLX hrow hbX hb4 HT1 HR2 hr hin2
        go_wp2_with (first | (rw [← HWW.out, ← HTT.out]) | (rw [← HU.out]))
        refine ⟨?_, by simp [intOf]; omega⟩
        unfold PartRel
        exact ⟨.mk 14 a 0 s2 [u], j + 2, g, _, by omega, by first | rfl | go_num, by omega, by omega, HR3, HLZ, HKZ, HDZ, HBZ⟩
      · have hk2 : (k2 == 1) = false := beq_eq_false_iff_ne.2 hk1
        have hr := HR2.out
        rw [if_neg hk1] at hr
        cases hr
        have HE := Lib.hid (no_end (j := j + 1) HRR.out (HM.out _ hbU).1 (HM.out _ hbU).2.2.2)
        have HWW := Lib.hid hW1
        have HTT := Lib.hid hT
        have r0 := bR.cell 0
        have r1 := bR.cell 1
        have r2 := bR.cell 2
        have r3 := bR.cell 3
        have r4 := bR.cell 4
        have g0 := bR.frozen 0
        have g1 := bR.frozen 1
        have g2 := bR.frozen 2
        have g3 := bR.frozen 3
        have g4 := bR.frozen 4
        simp only [List.getElem?_toArray, List.getElem?_cons_zero, List.getElem?_cons_succ] at r0 r1 r2 r3 r4
        clear hW1 hT hRT hLT hbW1 bT bR hb4U hbU bTU hb4 HT1 hin2
        go_wp2_with (first | (rw [← HWW.out, ← HTT.out]))
        refine bodyPost_ret (node_ret3 rfl rfl rfl rfl HE.out.1) rfl ?_
        rw [HP.out]
        exact HE.out.2
    | false =>
      have hr := HRN.out
      rw [if_neg (by rw [HM1.out]; simp)] at hr
      have HI2 := Lib.hid (HIS.out [91] j w3 HB3.out (by unfold I64; omega))
      obtain ⟨b2, hm2⟩ : ∃ b2, b2 = isM l j [91] := ⟨_, rfl⟩
      rw [← hm2] at HI2
      have HM2 := Lib.hid hm2.symm
      clear hm2
      clear HRN
      go_wp2_with (fail)
      refine HI2.out.mono ?_
      rintro e w4 ⟨rfl, hb4', hb4⟩
      have HB4 := Lib.hid hb4'
      have HKU4 := Lib.hid (HKU.out.below hb4)
      have bL := HBL.out.on hb4
      have HBL4 := Lib.hid bL
      have HLW4 := Lib.hid bL.lt
      clear hb4 hb4' HI2 HKU HBL HLW
      cases b2 with
      | false =>
        rw [if_pos HM2.out] at hr
        cases hr
        have bR := (HM.out _ HB4.out).1
        have hrow : nt.Kids (fun b => w.heap.size < b) w4 u.kids (.slice A u.kids.length c) := HKU4.out.mono fun b hb => by have := HRR.out; have := hb.1; omega
        have HE := Lib.hid (node_end (j := j) (t := u) HRR.out bR hdu.out hrow (HM.out _ HB4.out).2.2.2)
        have r0 := bR.cell 0
        have r1 := bR.cell 1
        have r2 := bR.cell 2
        have r3 := bR.cell 3
        have r4 := bR.cell 4
        have g0 := bR.frozen 0
        have g1 := bR.frozen 1
        have g2 := bR.frozen 2
        have g3 := bR.frozen 3
        have g4 := bR.frozen 4
        simp only [List.getElem?_toArray, List.getElem?_cons_zero, List.getElem?_cons_succ] at r0 r1 r2 r3 r4
        have o0 := bL.cell 0
        have o1 := bL.cell 1
        have o2 := bL.cell 2
        have o3 := bL.cell 3
        have o4 := bL.cell 4
        simp only [List.getElem?_toArray, List.getElem?_cons_zero, List.getElem?_cons_succ] at o0 o1 o2 o3 o4
        clear bR bL hrow
        go_wp2_with (fail)
        refine bodyPost_ret (node_ret3 rfl rfl rfl rfl HE.out.1) rfl ?_
        rw [HP.out]
        exact HE.out.2
      | true =>
        rw [if_neg (by rw [HM2.out]; simp)] at hr
        have hjl := (isM_in HM2.out).2
        cases hq : run l g (.lev 1) (j + 1) with
        | none => rw [hq] at hr; simp [andN] at hr
        | some r2 =>
        rw [hq] at hr
        have HX := Lib.hid (IHE.out g (by omega) (j + 1) w4 r2 (HM.out _ HB4.out).2.1 (by omega) (by omega) hq)
        have hen := run_ends l _ _ _ _ hq
        clear hq bL
        cases r2 with
        | list _ _ => simp [andN] at hr
        | no k =>
          simp only [andN] at hr
          cases hr
          clear hen
          go_wp2_with (fail)
          refine HX.out.mono ?_
          rintro e w7 ⟨rfl, hb7⟩
          have HB7 := Lib.hid (HB4.out.trans (hb7.mono (HM.out _ HB4.out).2.2.1))
          obtain ⟨V, hV⟩ : ∃ V, V = w7.alloc (.cells #[.int .i64 0, .int .i64 0, .int .i64 0, .string ⟨#[]⟩, .slice none 0 0] NodeT) := ⟨_, rfl⟩
          obtain ⟨O, hO⟩ : ∃ O, O = w7.heap.size := ⟨_, rfl⟩
          have hRO : R + 1 ≤ O := by rw [hO]; exact (HM.out _ HB7.out).2.2.1
          have hbV : Below (R + 1) W V := by rw [hV]; exact HB7.out.alloc (HM.out _ HB7.out).2.2.1 _
          have bO : Box V O NodeT #[.int .i64 0, .int .i64 0, .int .i64 0, .string ⟨#[]⟩, .slice none 0 0] := by rw [hV]; exact Box.new _ _ _ _ hO
          have bR := (HM.out _ hbV).1
          have ne5 : ¬ R = O := by omega
          have ne6 : ¬ O = R := fun e => ne5 e.symm
          have HBU : Hid (Below (R + 1) W (((((V.setCell ⟨O, 0, none⟩ (.int .i64 0)).setCell ⟨O, 1, none⟩ (.int .i64 0)).setCell ⟨O, 2, none⟩ (.int .i64 0)).setCell ⟨O, 3, none⟩ (.string ⟨#[]⟩)).setCell ⟨O, 4, none⟩ (.slice none 0 0))) := Lib.hid (below_five hbV hRO _ _ _ _ _)
          have HE := Lib.hid (no_end (j := k) HRR.out (HM.out _ HBU.out).1 (HM.out _ HBU.out).2.2.2)
          have r0 := bR.cell 0
          have r1 := bR.cell 1
          have r2 := bR.cell 2
          have r3 := bR.cell 3
          have r4 := bR.cell 4
          have g0 := bR.frozen 0
          have g1 := bR.frozen 1
          have g2 := bR.frozen 2
          have g3 := bR.frozen 3
          have g4 := bR.frozen 4
          simp only [List.getElem?_toArray, List.getElem?_cons_zero, List.getElem?_cons_succ] at r0 r1 r2 r3 r4
          have o0 := bO.cell 0
          have o1 := bO.cell 1
          have o2 := bO.cell 2
          have o3 := bO.cell 3
          have o4 := bO.cell 4
          have og0 := bO.frozen 0
          have og1 := bO.frozen 1
          have og2 := bO.frozen 2
          have og3 := bO.frozen 3
          have og4 := bO.frozen 4
          simp only [List.getElem?_toArray, List.getElem?_cons_zero, List.getElem?_cons_succ] at o0 o1 o2 o3 o4
          have HV := Lib.hid hV
          have HO := Lib.hid hO
          clear hV hO hRO hbV bO bR hb7 HX
          go_wp2_with (first | (rw [← HV.out, ← HO.out]))
          refine bodyPost_ret (node_ret3 rfl rfl rfl rfl HE.out.1) rfl ?_
          rw [HP.out]
          exact HE.out.2
        | node n k =>
          simp only [andN] at hr
          have hend : j + 1 < k ∧ k ≤ (l.length : Int) := by
            have := hen
            simp [Ends, Mode.strict, Mode.lists] at this
            omega
          have HRN := Lib.hid hr
          clear hr hen
          go_wp2_with (fail)
          refine HX.out.mono ?_
          rintro e w7 ⟨sn, rfl, hk7, hd7, hb7⟩
          obtain ⟨B, d, rfl, _⟩ := hk7.form
          have HB7 := Lib.hid (HB4.out.trans (hb7.mono (HM.out _ HB4.out).2.2.1))
          obtain ⟨V, hV⟩ : ∃ V, V = w7.alloc (.cells #[.int .i64 0, .int .i64 0, .int .i64 0, .string ⟨#[]⟩, .slice none 0 0] NodeT) := ⟨_, rfl⟩
          obtain ⟨O, hO⟩ : ∃ O, O = w7.heap.size := ⟨_, rfl⟩
          have hRO : R + 1 ≤ O := by rw [hO]; exact (HM.out _ HB7.out).2.2.1
          have hbV : Below (R + 1) W V := by rw [hV]; exact HB7.out.alloc (HM.out _ HB7.out).2.2.1 _
          have bO : Box V O NodeT #[.int .i64 0, .int .i64 0, .int .i64 0, .string ⟨#[]⟩, .slice none 0 0] := by rw [hV]; exact Box.new _ _ _ _ hO
          have hLO : L < O := by have := HLW4.out; have := hb7.size; omega
          have hbL7 := HBL4.out.on hb7
          have hkn : nt.Kids (fun b => R < b ∧ b ≠ L ∧ b ≠ O) (((((V.setCell ⟨O, 0, none⟩ (.int .i64 n.kind)).setCell ⟨O, 1, none⟩ (.int .i64 n.at_)).setCell ⟨O, 2, none⟩ (.int .i64 n.num)).setCell ⟨O, 3, none⟩ (.string ⟨n.name.toArray⟩)).setCell ⟨O, 4, none⟩ (.slice B n.kids.length d)) n.kids (.slice B n.kids.length d) := by
            have hk8 : nt.Kids (fun b => R < b ∧ b ≠ L ∧ b ≠ O) w7 n.kids (.slice B n.kids.length d) := (hk7.lt).mono fun b hb => ⟨by have h1 := hb.1; have h2 := HLW4.out; have h3 := HRL.out; omega, by have h1 := hb.1; have h2 := HLW4.out; omega, by have := hb.2; omega⟩
            have hk9 : nt.Kids (fun b => R < b ∧ b ≠ L ∧ b ≠ O) V n.kids (.slice B n.kids.length d) := by rw [hV]; exact hk8.below ((Below.refl _ _).alloc (Nat.le_refl _) _)
            exact kids_five hk9 (fun b hb => hb.2.2) _ _ _ _ _
          have hku : nt.Kids (fun b => R < b ∧ b ≠ L ∧ b ≠ O) (((((V.setCell ⟨O, 0, none⟩ (.int .i64 n.kind)).setCell ⟨O, 1, none⟩ (.int .i64 n.at_)).setCell ⟨O, 2, none⟩ (.int .i64 n.num)).setCell ⟨O, 3, none⟩ (.string ⟨n.name.toArray⟩)).setCell ⟨O, 4, none⟩ (.slice B n.kids.length d)) u.kids (.slice A u.kids.length c) := by
            have hk8 : nt.Kids (fun b => R < b ∧ b ≠ L ∧ b ≠ O) w7 u.kids (.slice A u.kids.length c) := ((HKU4.out.lt).mono fun b hb => ⟨hb.1.1, hb.1.2, by have := hb.2; have := hb7.size; omega⟩ : nt.Kids (fun b => R < b ∧ b ≠ L ∧ b ≠ O) w4 u.kids (.slice A u.kids.length c)).below hb7
            have hk9 : nt.Kids (fun b => R < b ∧ b ≠ L ∧ b ≠ O) V u.kids (.slice A u.kids.length c) := by rw [hV]; exact hk8.below ((Below.refl _ _).alloc (Nat.le_refl _) _)
            exact kids_five hk9 (fun b hb => hb.2.2) _ _ _ _ _
          have hbU : Below (R + 1) W (((((V.setCell ⟨O, 0, none⟩ (.int .i64 n.kind)).setCell ⟨O, 1, none⟩ (.int .i64 n.at_)).setCell ⟨O, 2, none⟩ (.int .i64 n.num)).setCell ⟨O, 3, none⟩ (.string ⟨n.name.toArray⟩)).setCell ⟨O, 4, none⟩ (.slice B n.kids.length d)) := below_five hbV hRO _ _ _ _ _
          have bOU := box_five bO (.int .i64 n.kind) (.int .i64 n.at_) (.int .i64 n.num) (.string ⟨n.name.toArray⟩) (.slice B n.kids.length d)
          have hbLV : Box V L NodeT #[.int .i64 u.kind, .int .i64 u.at_, .int .i64 u.num, .string ⟨u.name.toArray⟩, .slice A u.kids.length c] := by rw [hV]; exact hbL7.alloc _
          have bLU := ((((hbLV.far (p := ⟨O, 0, none⟩) (by show L ≠ O; omega) (.int .i64 n.kind)).far (p := ⟨O, 1, none⟩) (by show L ≠ O; omega) (.int .i64 n.at_)).far (p := ⟨O, 2, none⟩) (by show L ≠ O; omega) (.int .i64 n.num)).far (p := ⟨O, 3, none⟩) (by show L ≠ O; omega) (.string ⟨n.name.toArray⟩)).far (p := ⟨O, 4, none⟩) (by show L ≠ O; omega) (.slice B n.kids.length d)
          change Box (((((V.setCell ⟨O, 0, none⟩ (.int .i64 n.kind)).setCell ⟨O, 1, none⟩ (.int .i64 n.at_)).setCell ⟨O, 2, none⟩ (.int .i64 n.num)).setCell ⟨O, 3, none⟩ (.string ⟨n.name.toArray⟩)).setCell ⟨O, 4, none⟩ (.slice B n.kids.length d)) O NodeT _ at bOU
          have o0 := bO.cell 0
          have o1 := bO.cell 1
          have o2 := bO.cell 2
          have o3 := bO.cell 3
          have o4 := bO.cell 4
          have og0 := bO.frozen 0
          have og1 := bO.frozen 1
          have og2 := bO.frozen 2
          have og3 := bO.frozen 3
          have og4 := bO.frozen 4
          simp only [List.getElem?_toArray, List.getElem?_cons_zero, List.getElem?_cons_succ] at o0 o1 o2 o3 o4
          have HV := Lib.hid hV
          have HO := Lib.hid hO
          obtain ⟨U, hU⟩ : ∃ U, U = ((((V.setCell ⟨O, 0, none⟩ (.int .i64 n.kind)).setCell ⟨O, 1, none⟩ (.int .i64 n.at_)).setCell ⟨O, 2, none⟩ (.int .i64 n.num)).setCell ⟨O, 3, none⟩ (.string ⟨n.name.toArray⟩)).setCell ⟨O, 4, none⟩ (.slice B n.kids.length d) := ⟨_, rfl⟩
          rw [← hU] at hkn hku hbU bOU bLU
          have HU := Lib.hid hU
          have hsU : R + 1 ≤ U.heap.size := (HM.out _ hbU).2.2.1
          have HI3 := Lib.hid (HIS.out [93] k U hbU (by unfold I64; omega))
          obtain ⟨b3, hm3⟩ : ∃ b3, b3 = isM l k [93] := ⟨_, rfl⟩
          rw [← hm3] at HI3
          have HM3 := Lib.hid hm3.symm
          clear hm3
          have HDN := Lib.hid hd7
          have HBU := Lib.hid hbU
          have HKN := Lib.hid hkn
          have HKU := Lib.hid hku
          have HBO := Lib.hid bOU
          have HBL := Lib.hid bLU
          clear hU hV hO hb7 hk7 hbL7 hbLV HX HBL4 HKU4 bO hbV hRO hkn hku hbU bOU bLU hd7 hsU
          go_wp2_with (first | (rw [← HV.out, ← HO.out]) | (rw [← HU.out]))
          refine HI3.out.mono ?_
          rintro e w8 ⟨rfl, hb8', hb8⟩
          have bL8 := HBL.out.on hb8
          have bO8 := HBO.out.on hb8
          have hr := HRN.out
          cases b3 with
          | false =>
            rw [if_neg (by rw [HM3.out]; simp)] at hr
            cases hr
            have bR := (HM.out _ hb8').1
            have HE := Lib.hid (no_end (j := k) HRR.out bR (HM.out _ hb8').2.2.2)
            have r0 := bR.cell 0
            have r1 := bR.cell 1
            have r2 := bR.cell 2
            have r3 := bR.cell 3
            have r4 := bR.cell 4
            have g0 := bR.frozen 0
            have g1 := bR.frozen 1
            have g2 := bR.frozen 2
            have g3 := bR.frozen 3
            have g4 := bR.frozen 4
            simp only [List.getElem?_toArray, List.getElem?_cons_zero, List.getElem?_cons_succ] at r0 r1 r2 r3 r4
            clear bR bL8 bO8 hb8 hb8' HI3
            go_wp2_with (fail)
            refine bodyPost_ret (node_ret3 rfl rfl rfl rfl HE.out.1) rfl ?_
            rw [HP.out]
            exact HE.out.2
          | true =>
            rw [if_pos HM3.out] at hr
            have hkl := (isM_in HM3.out).2
            have HR3 := Lib.hid hr
            obtain ⟨X, hX⟩ : ∃ X, X = w8.alloc (.cells #[.int .i64 u.kind, .int .i64 u.at_, .int .i64 u.num, .string ⟨u.name.toArray⟩, .slice A u.kids.length c, .int .i64 n.kind, .int .i64 n.at_, .int .i64 n.num, .string ⟨n.name.toArray⟩, .slice B n.kids.length d] NodeT) := ⟨_, rfl⟩
            have bLX : Box X L NodeT #[.int .i64 u.kind, .int .i64 u.at_, .int .i64 u.num, .string ⟨u.name.toArray⟩, .slice A u.kids.length c] := by rw [hX]; exact bL8.alloc _
            have hrow : nt.Kids (fun b => R < b ∧ b ≠ L) X [u, n] (.slice (some ⟨w8.heap.size, 0, none⟩) 2 2) := by
              rw [hX]
              exact row_two rfl hdu.out HDN.out ((HKU.out.mono fun b hb => ⟨hb.1, hb.2.1⟩ : nt.Kids (fun b => R < b ∧ b ≠ L) U u.kids (.slice A u.kids.length c)).below hb8) ((HKN.out.mono fun b hb => ⟨hb.1, hb.2.1⟩ : nt.Kids (fun b => R < b ∧ b ≠ L) U n.kids (.slice B n.kids.length d)).below hb8) ⟨by have := (HM.out _ hb8').2.2.1; omega, by have := bL8.lt; omega⟩
            have hbX : Below (R + 1) W X := by rw [hX]; exact hb8'.alloc (HM.out _ hb8').2.2.1 _
            have HKZ := Lib.hid (kids_five hrow (fun b hb => hb.2) (.int .i64 13) (.int .i64 a) (.int .i64 0) (.string ⟨#[]⟩) (.slice (some ⟨w8.heap.size, 0, none⟩) 2 2))
            have HBZ := Lib.hid (below_five hbX HRL.out (.int .i64 13) (.int .i64 a) (.int .i64 0) (.string ⟨#[]⟩) (.slice (some ⟨w8.heap.size, 0, none⟩) 2 2))
            have HLZ := Lib.hid (box_five bLX (.int .i64 13) (.int .i64 a) (.int .i64 0) (.string ⟨#[]⟩) (.slice (some ⟨w8.heap.size, 0, none⟩) 2 2))
            have HDZ : Hid (Hd (.mk 13 a 0 [] [u, n])) := Lib.hid ⟨by show I64 13; unfold I64; omega, HFA.out, by show I64 0; unfold I64; omega, by show 0 ≤ 281474976710656; omega⟩
            clear o0 o1 o2 o3 o4 og0 og1 og2 og3 og4
            have z0 := bL8.cell 0
            have z1 := bL8.cell 1
            have z2 := bL8.cell 2
            have z3 := bL8.cell 3
            have z4 := bL8.cell 4
            simp only [List.getElem?_toArray, List.getElem?_cons_zero, List.getElem?_cons_succ] at z0 z1 z2 z3 z4
            have o0 := bO8.cell 0
            have o1 := bO8.cell 1
            have o2 := bO8.cell 2
            have o3 := bO8.cell 3
            have o4 := bO8.cell 4
            simp only [List.getElem?_toArray, List.getElem?_cons_zero, List.getElem?_cons_succ] at o0 o1 o2 o3 o4
            have x0 := bLX.cell 0
            have x1 := bLX.cell 1
            have x2 := bLX.cell 2
            have x3 := bLX.cell 3
            have x4 := bLX.cell 4
            have xg0 := bLX.frozen 0
            have xg1 := bLX.frozen 1
            have xg2 := bLX.frozen 2
            have xg3 := bLX.frozen 3
            have xg4 := bLX.frozen 4
            simp only [List.getElem?_toArray, List.getElem?_cons_zero, List.getElem?_cons_succ] at x0 x1 x2 x3 x4
            rw [hX] at x0 x1 x2 x3 x4 xg0 xg1 xg2 xg3 xg4 HKZ HBZ HLZ
            clear hX bLX hrow hbX hb8 hb8' HI3 bL8 bO8 hr HRN
            go_wp2_with (fail)
            refine ⟨?_, by simp [intOf]; omega⟩
            unfold PartRel
            exact ⟨.mk 13 a 0 [] [u, n], k + 1, g, _, by omega, by first | rfl | go_num, by omega, by omega, HR3, HLZ, HKZ, HDZ, HBZ⟩
theorem part_tok13 {l : List Tk} {v : Value} {i : Int} {w : World} {f : Nat} {r : Res} (hs : Src l v w) (h0 : -9223372036854775808 ≤ i) (h1 : i ≤ 9223372036854775807) (hr : run l (f + 1) .part i = some r)
    (ihf : ∀ (i : Int) (w : World) (r : Res), Src l v w → -9223372036854775808 ≤ i → i ≤ 9223372036854775807 → run l f .first i = some r → Calls Tryd.prog 62 #[v, .int .i64 i] w (Told r w))
    (ihe : ∀ (g : Nat), g ≤ f → ∀ (i : Int) (w : World) (r : Res), Src l v w → -9223372036854775808 ≤ i → i ≤ 9223372036854775807 → run l g (.lev 1) i = some r → Calls Tryd.prog 9 #[v, .int .i64 i] w (Told r w)) :
    Calls Tryd.prog 52 #[v, .int .i64 i] w (Told r w) := by
  rw [run_succ] at hr
  simp only [stepR] at hr
  cases hq : run l f .first i with
  | none => rw [hq] at hr; simp [andN] at hr
  | some r2 =>
    rw [hq] at hr
    have hen := run_ends l _ _ _ _ hq
    cases r2 with
    | list ns j => simp [andN] at hr
    | no j =>
      simp only [andN] at hr; cases hr
      exact part_no hs h0 h1 (fun w2 hs2 => ihf i w2 _ hs2 h0 h1 hq)
    | node n j =>
      simp only [andN] at hr
      simp [Ends, Mode.strict, Mode.lists] at hen
      exact part_node hs h0 h1 (fun w2 hs2 => ihf i w2 _ hs2 h0 h1 hq) (by omega) (by omega) hr ihe
end Go.Proofs.YtgohkmdepjmpaaaDoor.pm

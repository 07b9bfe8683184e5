/- The document's own reader of names that are called. -/
import Derived.Test.YtgohkmdepjmpaaaDoorCParType
namespace Go.Proofs.YtgohkmdepjmpaaaDoor.pm
open Go.RowKit wd lx nt ne mem
open vt (I64)

set_option maxHeartbeats 2000000 in
theorem named_none {l : List Tk} {v : Value} {i kk aa : Int} {w : World} (hs : Src l v w) (h0 : -9223372036854775808 ≤ i) (h1 : i ≤ 9223372036854775807) (hk : (tokAt l i).kind ≠ 1) :
    Calls Tryd.prog 68 #[v, .int .i64 i, .int .i64 kk, .int .i64 aa] w (Told (.no i) w) := by
  obtain ⟨P, hP⟩ : ∃ P, P = Told (.no i) w := ⟨_, rfl⟩
  rw [← hP]
  have HP := Lib.hid hP
  clear hP
  have HSRC := Lib.hid hs
  have hF := hs.fair i
  obtain ⟨R, hR⟩ : ∃ R, R = w.heap.size := ⟨_, rfl⟩
  obtain ⟨W, hW⟩ : ∃ W, W = w.alloc (.cells #[.int .i64 0, .int .i64 0, .int .i64 0, .string ⟨#[]⟩, .slice none 0 0] NodeT) := ⟨_, rfl⟩
  have hbW : Below w.heap.size w W := by rw [hW]; exact (Below.refl _ _).alloc (Nat.le_refl _) _
  have HBX : Hid (Box W R NodeT #[.int .i64 0, .int .i64 0, .int .i64 0, .string ⟨#[]⟩, .slice none 0 0]) := Lib.hid (by rw [hW]; exact Box.new _ _ _ _ hR)
  have HC := Lib.hid (rtok_any l v i W _ (hs.on hbW).lies hs.len (by unfold I64; have := hs.len; omega))
  unfold TokPost at HC
  obtain ⟨t, ht⟩ : ∃ t, t = tokAt l i := ⟨_, rfl⟩
  rw [← ht] at HC hF hk
  obtain ⟨k, a, n, s⟩ := t
  simp only [tkA] at HC hF hk
  have HF := Lib.hid hF
  have HT0 := Lib.hid ht
  have HW := Lib.hid hW
  have HRR := Lib.hid hR
  have HBW := Lib.hid hbW
  have hL := hs.len
  clear hW hR hbW hs hF ht
  go_enter Tryd.func68, Tryd.ntmps68
  go_wp2_with (first | (rw [← HW.out, ← HRR.out]))
  refine HC.out.mono ?_
  rintro e w1 ⟨rfl, hb1⟩
  obtain ⟨T, hT⟩ : ∃ T, T = w1.heap.size := ⟨_, rfl⟩
  obtain ⟨W1, hW1⟩ : ∃ W1, W1 = w1.alloc (.cells #[.int .i64 0, .int .i64 0, .int .i64 0, .string ⟨#[]⟩] TkT) := ⟨_, rfl⟩
  have hRT : R < T := by have := HBX.out.lt; have := hb1.size; omega
  have hB1 : Below w.heap.size w W1 := by rw [hW1]; exact (HBW.out.trans (hb1.mono HBW.out.size)).alloc (Nat.le_trans HBW.out.size hb1.size) _
  have bT : Box W1 T TkT #[.int .i64 0, .int .i64 0, .int .i64 0, .string ⟨#[]⟩] := by rw [hW1]; exact Box.new _ _ _ _ hT
  have bR : Box W1 R NodeT #[.int .i64 0, .int .i64 0, .int .i64 0, .string ⟨#[]⟩, .slice none 0 0] := by rw [hW1]; exact (HBX.out.on hb1).alloc _
  have hwT : w.heap.size ≤ T := by have := HRR.out; omega
  have HZT := Lib.hid (box_four bT (.int .i64 k) (.int .i64 a) (.int .i64 n) (.string ⟨s.toArray⟩))
  have HZR : Hid (Box ((((W1.setCell ⟨T, 0, none⟩ (.int .i64 k)).setCell ⟨T, 1, none⟩ (.int .i64 a)).setCell ⟨T, 2, none⟩ (.int .i64 n)).setCell ⟨T, 3, none⟩ (.string ⟨s.toArray⟩)) R NodeT #[.int .i64 0, .int .i64 0, .int .i64 0, .string ⟨#[]⟩, .slice none 0 0]) := Lib.hid ((((bR.far (by show R ≠ T; omega) _).far (by show R ≠ T; omega) _).far (by show R ≠ T; omega) _).far (by show R ≠ T; omega) _)
  have HZB := Lib.hid (below_four hB1 hwT (.int .i64 k) (.int .i64 a) (.int .i64 n) (.string ⟨s.toArray⟩))
  have f0 := bT.frozen 0
  have f1 := bT.frozen 1
  have f2 := bT.frozen 2
  have f3 := bT.frozen 3
  have y0 := bT.cell 0
  have y1 := bT.cell 1
  have y2 := bT.cell 2
  have y3 := bT.cell 3
  simp only [List.getElem?_toArray, List.getElem?_cons_zero, List.getElem?_cons_succ] at y0 y1 y2 y3
  have HW1 := Lib.hid hW1
  have HTT := Lib.hid hT
  have HRT := Lib.hid hRT
  have HWT := Lib.hid hwT
  clear hT hW1 hRT hB1 bT hb1 hwT HC
  have hk1 : (k == 1) = false := beq_eq_false_iff_ne.2 hk
  have HE := Lib.hid (no_end (j := i) HRR.out HZR.out HZB.out)
  have ne1 : ¬ R = T := by have := HRT.out; omega
  have ne2 : ¬ T = R := fun e => ne1 e.symm
  have r0 := bR.cell 0
  have r1 := bR.cell 1
  have r2 := bR.cell 2
  have r3 := bR.cell 3
  have r4 := bR.cell 4
  have g0 := bR.frozen 0
  have g1 := bR.frozen 1
  have g2 := bR.frozen 2
  have g3 := bR.frozen 3
  have g4 := bR.frozen 4
  simp only [List.getElem?_toArray, List.getElem?_cons_zero, List.getElem?_cons_succ] at r0 r1 r2 r3 r4
  clear bR
  go_wp2_with (first | (rw [← HW1.out, ← HTT.out]))
  refine bodyPost_ret (node_ret3 rfl rfl rfl rfl HE.out.1) rfl ?_
  rw [HP.out]
  exact HE.out.2
set_option maxHeartbeats 2000000 in
theorem named_no {l : List Tk} {v : Value} {i kk aa : Int} {w : World} (hs : Src l v w) (h0 : -9223372036854775808 ≤ i) {j : Int} (h1 : i < l.length) (hk : (tokAt l i).kind = 1) (ih : ∀ w', Src l v w' → Calls Tryd.prog 16 #[v, .int .i64 (i + 1)] w' (ToldL (.no j) w')) :
    Calls Tryd.prog 68 #[v, .int .i64 i, .int .i64 kk, .int .i64 aa] w (Told (.no j) w) := by
  obtain ⟨P, hP⟩ : ∃ P, P = Told (.no j) w := ⟨_, rfl⟩
  rw [← hP]
  have HP := Lib.hid hP
  clear hP
  have IH := Lib.hid ih
  clear ih
  have HSRC := Lib.hid hs
  have hF := hs.fair i
  obtain ⟨R, hR⟩ : ∃ R, R = w.heap.size := ⟨_, rfl⟩
  obtain ⟨W, hW⟩ : ∃ W, W = w.alloc (.cells #[.int .i64 0, .int .i64 0, .int .i64 0, .string ⟨#[]⟩, .slice none 0 0] NodeT) := ⟨_, rfl⟩
  have hbW : Below w.heap.size w W := by rw [hW]; exact (Below.refl _ _).alloc (Nat.le_refl _) _
  have HBX : Hid (Box W R NodeT #[.int .i64 0, .int .i64 0, .int .i64 0, .string ⟨#[]⟩, .slice none 0 0]) := Lib.hid (by rw [hW]; exact Box.new _ _ _ _ hR)
  have HC := Lib.hid (rtok_any l v i W _ (hs.on hbW).lies hs.len (by unfold I64; have := hs.len; omega))
  unfold TokPost at HC
  obtain ⟨t, ht⟩ : ∃ t, t = tokAt l i := ⟨_, rfl⟩
  rw [← ht] at HC hF hk
  obtain ⟨k, a, n, s⟩ := t
  simp only [tkA] at HC hF hk
  have HF := Lib.hid hF
  have HT0 := Lib.hid ht
  have HW := Lib.hid hW
  have HRR := Lib.hid hR
  have HBW := Lib.hid hbW
  have hL := hs.len
  clear hW hR hbW hs hF ht
  go_enter Tryd.func68, Tryd.ntmps68
  go_wp2_with (first | (rw [← HW.out, ← HRR.out]))
  refine HC.out.mono ?_
  rintro e w1 ⟨rfl, hb1⟩
  obtain ⟨T, hT⟩ : ∃ T, T = w1.heap.size := ⟨_, rfl⟩
  obtain ⟨W1, hW1⟩ : ∃ W1, W1 = w1.alloc (.cells #[.int .i64 0, .int .i64 0, .int .i64 0, .string ⟨#[]⟩] TkT) := ⟨_, rfl⟩
  have hRT : R < T := by have := HBX.out.lt; have := hb1.size; omega
  have hB1 : Below w.heap.size w W1 := by rw [hW1]; exact (HBW.out.trans (hb1.mono HBW.out.size)).alloc (Nat.le_trans HBW.out.size hb1.size) _
  have bT : Box W1 T TkT #[.int .i64 0, .int .i64 0, .int .i64 0, .string ⟨#[]⟩] := by rw [hW1]; exact Box.new _ _ _ _ hT
  have bR : Box W1 R NodeT #[.int .i64 0, .int .i64 0, .int .i64 0, .string ⟨#[]⟩, .slice none 0 0] := by rw [hW1]; exact (HBX.out.on hb1).alloc _
  have hwT : w.heap.size ≤ T := by have := HRR.out; omega
  have HZT := Lib.hid (box_four bT (.int .i64 k) (.int .i64 a) (.int .i64 n) (.string ⟨s.toArray⟩))
  have HZR : Hid (Box ((((W1.setCell ⟨T, 0, none⟩ (.int .i64 k)).setCell ⟨T, 1, none⟩ (.int .i64 a)).setCell ⟨T, 2, none⟩ (.int .i64 n)).setCell ⟨T, 3, none⟩ (.string ⟨s.toArray⟩)) R NodeT #[.int .i64 0, .int .i64 0, .int .i64 0, .string ⟨#[]⟩, .slice none 0 0]) := Lib.hid ((((bR.far (by show R ≠ T; omega) _).far (by show R ≠ T; omega) _).far (by show R ≠ T; omega) _).far (by show R ≠ T; omega) _)
  have HZB := Lib.hid (below_four hB1 hwT (.int .i64 k) (.int .i64 a) (.int .i64 n) (.string ⟨s.toArray⟩))
  have f0 := bT.frozen 0
  have f1 := bT.frozen 1
  have f2 := bT.frozen 2
  have f3 := bT.frozen 3
  have y0 := bT.cell 0
  have y1 := bT.cell 1
  have y2 := bT.cell 2
  have y3 := bT.cell 3
  simp only [List.getElem?_toArray, List.getElem?_cons_zero, List.getElem?_cons_succ] at y0 y1 y2 y3
  have HW1 := Lib.hid hW1
  have HTT := Lib.hid hT
  have HRT := Lib.hid hRT
  have HWT := Lib.hid hwT
  clear hT hW1 hRT hB1 bT hb1 hwT HC
  subst hk
  go_wp2_with (first | (rw [← HW1.out, ← HTT.out]))
  obtain ⟨Z, hZ⟩ : ∃ Z, Z = (((W1.setCell ⟨T, 0, none⟩ (.int .i64 1)).setCell ⟨T, 1, none⟩ (.int .i64 a)).setCell ⟨T, 2, none⟩ (.int .i64 n)).setCell ⟨T, 3, none⟩ (.string ⟨s.toArray⟩) := ⟨_, rfl⟩
  rw [← hZ] at HZT HZR HZB ⊢
  have HM : Hid (∀ w', Below (T + 1) Z w' → Box w' R NodeT #[.int .i64 0, .int .i64 0, .int .i64 0, .string ⟨#[]⟩, .slice none 0 0] ∧ Box w' T TkT #[.int .i64 1, .int .i64 a, .int .i64 n, .string ⟨s.toArray⟩] ∧ Src l v w' ∧ T + 1 ≤ w'.heap.size ∧ Below w.heap.size w w') := Lib.hid (fun w' hb => by
    have hRT := HRT.out
    have hWT := HWT.out
    have q1 := HZR.out.below hb (by omega)
    have q2 := HZT.out.below hb (by omega)
    have q3 : Below w.heap.size w w' := HZB.out.trans (hb.mono (by omega))
    exact ⟨q1, q2, HSRC.out.on q3, q2.lt, q3⟩)
  have HB : Hid (Below (T + 1) Z Z) := Lib.hid (Below.refl _ _)
  clear f0 f1 f2 f3 y0 y1 y2 y3 hZ bR
  refine (IH.out _ (HM.out _ HB.out).2.2.1).mono ?_
  rintro e w7 ⟨rfl, hb7⟩
  have HB7 := Lib.hid (HB.out.trans (hb7.mono (HM.out _ HB.out).2.2.2.1))
  have bR := (HM.out _ HB7.out).1
  have HE := Lib.hid (no_end (j := j) HRR.out bR (HM.out _ HB7.out).2.2.2.2)
  have r0 := bR.cell 0
  have r1 := bR.cell 1
  have r2 := bR.cell 2
  have r3 := bR.cell 3
  have r4 := bR.cell 4
  have g0 := bR.frozen 0
  have g1 := bR.frozen 1
  have g2 := bR.frozen 2
  have g3 := bR.frozen 3
  have g4 := bR.frozen 4
  simp only [List.getElem?_toArray, List.getElem?_cons_zero, List.getElem?_cons_succ] at r0 r1 r2 r3 r4
  clear bR hb7
  go_wp2_with (fail)
  refine bodyPost_ret (node_ret3 rfl rfl rfl rfl HE.out.1) rfl ?_
  rw [HP.out]
  exact HE.out.2
set_option maxHeartbeats 2000000 in
theorem named_list {l : List Tk} {v : Value} {i kk aa : Int} {w : World} (hs : Src l v w) (h0 : -9223372036854775808 ≤ i) {j : Int} {ns : List NT} (hkk : I64 kk) (haa : I64 aa) (h1 : i < l.length) (hk : (tokAt l i).kind = 1) (ih : ∀ w', Src l v w' → Calls Tryd.prog 16 #[v, .int .i64 (i + 1)] w' (ToldL (.list ns j) w')) :
    Calls Tryd.prog 68 #[v, .int .i64 i, .int .i64 kk, .int .i64 aa] w (Told (.node (.mk kk aa 0 (tokAt l i).text ns) j) w) := by
  obtain ⟨P, hP⟩ : ∃ P, P = Told (.node (.mk kk aa 0 (tokAt l i).text ns) j) w := ⟨_, rfl⟩
  rw [← hP]
  have HP := Lib.hid hP
  clear hP
  have IH := Lib.hid ih
  clear ih
  have HKK := Lib.hid hkk
  have HAA := Lib.hid haa
  clear hkk haa
  have HSRC := Lib.hid hs
  have hF := hs.fair i
  obtain ⟨R, hR⟩ : ∃ R, R = w.heap.size := ⟨_, rfl⟩
  obtain ⟨W, hW⟩ : ∃ W, W = w.alloc (.cells #[.int .i64 0, .int .i64 0, .int .i64 0, .string ⟨#[]⟩, .slice none 0 0] NodeT) := ⟨_, rfl⟩
  have hbW : Below w.heap.size w W := by rw [hW]; exact (Below.refl _ _).alloc (Nat.le_refl _) _
  have HBX : Hid (Box W R NodeT #[.int .i64 0, .int .i64 0, .int .i64 0, .string ⟨#[]⟩, .slice none 0 0]) := Lib.hid (by rw [hW]; exact Box.new _ _ _ _ hR)
  have HC := Lib.hid (rtok_any l v i W _ (hs.on hbW).lies hs.len (by unfold I64; have := hs.len; omega))
  unfold TokPost at HC
  obtain ⟨t, ht⟩ : ∃ t, t = tokAt l i := ⟨_, rfl⟩
  rw [← ht] at HC hF hk
  obtain ⟨k, a, n, s⟩ := t
  simp only [tkA] at HC hF hk
  have HF := Lib.hid hF
  have HT0 := Lib.hid ht
  have HW := Lib.hid hW
  have HRR := Lib.hid hR
  have HBW := Lib.hid hbW
  have hL := hs.len
  clear hW hR hbW hs hF ht
  go_enter Tryd.func68, Tryd.ntmps68
  go_wp2_with (first | (rw [← HW.out, ← HRR.out]))
  refine HC.out.mono ?_
  rintro e w1 ⟨rfl, hb1⟩
  obtain ⟨T, hT⟩ : ∃ T, T = w1.heap.size := ⟨_, rfl⟩
  obtain ⟨W1, hW1⟩ : ∃ W1, W1 = w1.alloc (.cells #[.int .i64 0, .int .i64 0, .int .i64 0, .string ⟨#[]⟩] TkT) := ⟨_, rfl⟩
  have hRT : R < T := by have := HBX.out.lt; have := hb1.size; omega
  have hB1 : Below w.heap.size w W1 := by rw [hW1]; exact (HBW.out.trans (hb1.mono HBW.out.size)).alloc (Nat.le_trans HBW.out.size hb1.size) _
  have bT : Box W1 T TkT #[.int .i64 0, .int .i64 0, .int .i64 0, .string ⟨#[]⟩] := by rw [hW1]; exact Box.new _ _ _ _ hT
  have bR : Box W1 R NodeT #[.int .i64 0, .int .i64 0, .int .i64 0, .string ⟨#[]⟩, .slice none 0 0] := by rw [hW1]; exact (HBX.out.on hb1).alloc _
  have hwT : w.heap.size ≤ T := by have := HRR.out; omega
  have HZT := Lib.hid (box_four bT (.int .i64 k) (.int .i64 a) (.int .i64 n) (.string ⟨s.toArray⟩))
  have HZR : Hid (Box ((((W1.setCell ⟨T, 0, none⟩ (.int .i64 k)).setCell ⟨T, 1, none⟩ (.int .i64 a)).setCell ⟨T, 2, none⟩ (.int .i64 n)).setCell ⟨T, 3, none⟩ (.string ⟨s.toArray⟩)) R NodeT #[.int .i64 0, .int .i64 0, .int .i64 0, .string ⟨#[]⟩, .slice none 0 0]) := Lib.hid ((((bR.far (by show R ≠ T; omega) _).far (by show R ≠ T; omega) _).far (by show R ≠ T; omega) _).far (by show R ≠ T; omega) _)
  have HZB := Lib.hid (below_four hB1 hwT (.int .i64 k) (.int .i64 a) (.int .i64 n) (.string ⟨s.toArray⟩))
  have f0 := bT.frozen 0
  have f1 := bT.frozen 1
  have f2 := bT.frozen 2
  have f3 := bT.frozen 3
  have y0 := bT.cell 0
  have y1 := bT.cell 1
  have y2 := bT.cell 2
  have y3 := bT.cell 3
  simp only [List.getElem?_toArray, List.getElem?_cons_zero, List.getElem?_cons_succ] at y0 y1 y2 y3
  have HW1 := Lib.hid hW1
  have HTT := Lib.hid hT
  have HRT := Lib.hid hRT
  have HWT := Lib.hid hwT
  clear hT hW1 hRT hB1 bT hb1 hwT HC
  subst hk
  go_wp2_with (first | (rw [← HW1.out, ← HTT.out]))
  obtain ⟨Z, hZ⟩ : ∃ Z, Z = (((W1.setCell ⟨T, 0, none⟩ (.int .i64 1)).setCell ⟨T, 1, none⟩ (.int .i64 a)).setCell ⟨T, 2, none⟩ (.int .i64 n)).setCell ⟨T, 3, none⟩ (.string ⟨s.toArray⟩) := ⟨_, rfl⟩
  rw [← hZ] at HZT HZR HZB ⊢
  have HM : Hid (∀ w', Below (T + 1) Z w' → Box w' R NodeT #[.int .i64 0, .int .i64 0, .int .i64 0, .string ⟨#[]⟩, .slice none 0 0] ∧ Box w' T TkT #[.int .i64 1, .int .i64 a, .int .i64 n, .string ⟨s.toArray⟩] ∧ Src l v w' ∧ T + 1 ≤ w'.heap.size ∧ Below w.heap.size w w') := Lib.hid (fun w' hb => by
    have hRT := HRT.out
    have hWT := HWT.out
    have q1 := HZR.out.below hb (by omega)
    have q2 := HZT.out.below hb (by omega)
    have q3 : Below w.heap.size w w' := HZB.out.trans (hb.mono (by omega))
    exact ⟨q1, q2, HSRC.out.on q3, q2.lt, q3⟩)
  have HB : Hid (Below (T + 1) Z Z) := Lib.hid (Below.refl _ _)
  clear f0 f1 f2 f3 y0 y1 y2 y3 hZ bR
  refine (IH.out _ (HM.out _ HB.out).2.2.1).mono ?_
  rintro e w7 ⟨sl, rfl, ho7, _, hb7⟩
  obtain ⟨A, c, rfl⟩ := ho7.form
  have HB7 := Lib.hid (HB.out.trans (hb7.mono (HM.out _ HB.out).2.2.2.1))
  have bR := (HM.out _ HB7.out).1
  have bT := (HM.out _ HB7.out).2.1
  have hrow : nt.Kids (fun b => w.heap.size < b) w7 ns (.slice A ns.length c) := ho7.kids.mono fun b hb => by have h2 := (HM.out _ HB.out).2.2.2.1; have := HRR.out; have := HRT.out; omega
  have HE := Lib.hid (node_end (j := j) (t := .mk kk aa 0 s ns) HRR.out bR ⟨HKK.out, HAA.out, by show I64 0; unfold I64; omega, HF.out.2.2⟩ hrow (HM.out _ HB7.out).2.2.2.2)
  have ne1 : ¬ R = T := by have := HRT.out; omega
  have ne2 : ¬ T = R := fun e => ne1 e.symm
  have r0 := bR.cell 0
  have r1 := bR.cell 1
  have r2 := bR.cell 2
  have r3 := bR.cell 3
  have r4 := bR.cell 4
  have g0 := bR.frozen 0
  have g1 := bR.frozen 1
  have g2 := bR.frozen 2
  have g3 := bR.frozen 3
  have g4 := bR.frozen 4
  simp only [List.getElem?_toArray, List.getElem?_cons_zero, List.getElem?_cons_succ] at r0 r1 r2 r3 r4
  have t0 := bT.cell 0
  have t1 := bT.cell 1
  have t3 := bT.cell 3
  simp only [List.getElem?_toArray, List.getElem?_cons_zero, List.getElem?_cons_succ] at t0 t1 t3
  clear bR bT hb7 ho7 hrow
  go_wp2_with (fail)
  refine bodyPost_ret (node_ret3 rfl rfl rfl rfl HE.out.1) rfl ?_
  rw [HP.out, ← HT0.out]
  exact HE.out.2
theorem named_tok13 {l : List Tk} {v : Value} {i kk aa : Int} {w : World} {f : Nat} {r : Res} (hs : Src l v w) (h0 : -9223372036854775808 ≤ i) (h1 : i ≤ 9223372036854775807) (hkk : I64 kk) (haa : I64 aa) (hr : run l (f + 1) (.call kk aa) i = some r)
    (ih : ∀ (i : Int) (w : World) (r : Res), Src l v w → -9223372036854775808 ≤ i → i ≤ 9223372036854775807 → run l f .args i = some r → Calls Tryd.prog 16 #[v, .int .i64 i] w (ToldL r w)) :
    Calls Tryd.prog 68 #[v, .int .i64 i, .int .i64 kk, .int .i64 aa] w (Told r w) := by
  have hLL := hs.len
  rw [run_succ] at hr
  simp only [stepR] at hr
  by_cases hk : (tokAt l i).kind = 1
  · rw [if_pos hk] at hr
    have hb := (tok_in (l := l) (i := i) (by rw [hk]; decide)).2
    cases hq : run l f .args (i + 1) with
    | none => rw [hq] at hr; simp [andL] at hr
    | some r2 =>
      rw [hq] at hr
      cases r2 with
      | node n j => simp [andL] at hr
      | list ns j =>
        simp only [andL] at hr; cases hr
        exact named_list hs h0 hkk haa hb hk (fun w2 hs2 => ih _ w2 _ hs2 (by omega) (by omega) hq)
      | no j =>
        simp only [andL] at hr; cases hr
        exact named_no hs h0 hb hk (fun w2 hs2 => ih _ w2 _ hs2 (by omega) (by omega) hq)
  · rw [if_neg hk] at hr; cases hr
    exact named_none hs h0 h1 hk
end Go.Proofs.YtgohkmdepjmpaaaDoor.pm

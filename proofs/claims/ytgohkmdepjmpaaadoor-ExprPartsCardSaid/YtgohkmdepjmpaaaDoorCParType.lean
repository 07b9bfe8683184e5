/- The document's own reader of types. -/
import Derived.Test.YtgohkmdepjmpaaaDoorCParTold
namespace Go.Proofs.YtgohkmdepjmpaaaDoor.pm
open Go.RowKit wd lx nt ne mem
open vt (I64)

set_option maxHeartbeats 2000000 in
theorem typ_name {l : List Tk} {v : Value} {i : Int} {w : World} (hs : Src l v w) (h0 : -9223372036854775808 ≤ i) (h1 : i < l.length) (hk : (tokAt l i).kind = 1) :
    Calls Tryd.prog 13 #[v, .int .i64 i] w (Told (.node (.mk 4 (tokAt l i).at_ 0 (tokAt l i).text []) (i + 1)) w) := by
  obtain ⟨P, hP⟩ : ∃ P, P = Told (.node (.mk 4 (tokAt l i).at_ 0 (tokAt l i).text []) (i + 1)) w := ⟨_, rfl⟩
  rw [← hP]
  have HP := Lib.hid hP
  clear hP
  have HSRC := Lib.hid hs
  have hF := hs.fair i
  obtain ⟨R, hR⟩ : ∃ R, R = w.heap.size := ⟨_, rfl⟩
  obtain ⟨W, hW⟩ : ∃ W, W = w.alloc (.cells #[.int .i64 0, .int .i64 0, .int .i64 0, .string ⟨#[]⟩, .slice none 0 0] NodeT) := ⟨_, rfl⟩
  have hbW : Below w.heap.size w W := by rw [hW]; exact (Below.refl _ _).alloc (Nat.le_refl _) _
  have HBX : Hid (Box W R NodeT #[.int .i64 0, .int .i64 0, .int .i64 0, .string ⟨#[]⟩, .slice none 0 0]) := Lib.hid (by rw [hW]; exact Box.new _ _ _ _ hR)
  have HC := Lib.hid (rtok_any l v i W _ (hs.on hbW).lies hs.len (by unfold I64; have := hs.len; omega))
  unfold TokPost at HC
  obtain ⟨t, ht⟩ : ∃ t, t = tokAt l i := ⟨_, rfl⟩
  rw [← ht] at HC hF hk
  obtain ⟨k, a, n, s⟩ := t
  simp only [tkA] at HC hF hk
  have HF := Lib.hid hF
  have HT0 := Lib.hid ht
  have HW := Lib.hid hW
  have HRR := Lib.hid hR
  have HBW := Lib.hid hbW
  have hL := hs.len
  clear hW hR hbW hs hF ht
  go_enter Tryd.func13, Tryd.ntmps13
  go_wp2_with (first | (rw [← HW.out, ← HRR.out]))
  refine HC.out.mono ?_
  rintro e w1 ⟨rfl, hb1⟩
  obtain ⟨T, hT⟩ : ∃ T, T = w1.heap.size := ⟨_, rfl⟩
  obtain ⟨W1, hW1⟩ : ∃ W1, W1 = w1.alloc (.cells #[.int .i64 0, .int .i64 0, .int .i64 0, .string ⟨#[]⟩] TkT) := ⟨_, rfl⟩
  have hRT : R < T := by have := HBX.out.lt; have := hb1.size; omega
  have hB1 : Below w.heap.size w W1 := by rw [hW1]; exact (HBW.out.trans (hb1.mono HBW.out.size)).alloc (Nat.le_trans HBW.out.size hb1.size) _
  have bT : Box W1 T TkT #[.int .i64 0, .int .i64 0, .int .i64 0, .string ⟨#[]⟩] := by rw [hW1]; exact Box.new _ _ _ _ hT
  have bR : Box W1 R NodeT #[.int .i64 0, .int .i64 0, .int .i64 0, .string ⟨#[]⟩, .slice none 0 0] := by rw [hW1]; exact (HBX.out.on hb1).alloc _
  have hwT : w.heap.size ≤ T := by have := HRR.out; omega
  have HZT := Lib.hid (box_four bT (.int .i64 k) (.int .i64 a) (.int .i64 n) (.string ⟨s.toArray⟩))
  have HZR : Hid (Box ((((W1.setCell ⟨T, 0, none⟩ (.int .i64 k)).setCell ⟨T, 1, none⟩ (.int .i64 a)).setCell ⟨T, 2, none⟩ (.int .i64 n)).setCell ⟨T, 3, none⟩ (.string ⟨s.toArray⟩)) R NodeT #[.int .i64 0, .int .i64 0, .int .i64 0, .string ⟨#[]⟩, .slice none 0 0]) := Lib.hid ((((bR.far (by show R ≠ T; omega) _).far (by show R ≠ T; omega) _).far (by show R ≠ T; omega) _).far (by show R ≠ T; omega) _)
  have HZB := Lib.hid (below_four hB1 hwT (.int .i64 k) (.int .i64 a) (.int .i64 n) (.string ⟨s.toArray⟩))
  have f0 := bT.frozen 0
  have f1 := bT.frozen 1
  have f2 := bT.frozen 2
  have f3 := bT.frozen 3
  have y0 := bT.cell 0
  have y1 := bT.cell 1
  have y2 := bT.cell 2
  have y3 := bT.cell 3
  simp only [List.getElem?_toArray, List.getElem?_cons_zero, List.getElem?_cons_succ] at y0 y1 y2 y3
  have HW1 := Lib.hid hW1
  have HTT := Lib.hid hT
  have HRT := Lib.hid hRT
  have HWT := Lib.hid hwT
  clear hT hW1 hRT hB1 bT hb1 hwT HC
  have HE := Lib.hid (node_end (j := i + 1) (t := .mk 4 a 0 s []) HRR.out HZR.out ⟨by show I64 (4); unfold I64; omega, HF.out.1, by show I64 0; unfold I64; omega, HF.out.2.2⟩ (nt.Kids.nil_ _ _) HZB.out)
  have ne1 : ¬ R = T := by have := HRT.out; omega
  have ne2 : ¬ T = R := fun e => ne1 e.symm
  subst hk
  have r0 := bR.cell 0
  have r1 := bR.cell 1
  have r2 := bR.cell 2
  have r3 := bR.cell 3
  have r4 := bR.cell 4
  have g0 := bR.frozen 0
  have g1 := bR.frozen 1
  have g2 := bR.frozen 2
  have g3 := bR.frozen 3
  have g4 := bR.frozen 4
  simp only [List.getElem?_toArray, List.getElem?_cons_zero, List.getElem?_cons_succ] at r0 r1 r2 r3 r4
  go_wp2_with (first | (rw [← HW1.out, ← HTT.out]))
  refine bodyPost_ret (node_ret3 rfl rfl rfl rfl HE.out.1) rfl ?_
  rw [HP.out, ← HT0.out]
  exact HE.out.2
set_option maxHeartbeats 2000000 in
theorem typ_int {l : List Tk} {v : Value} {i : Int} {w : World} (hs : Src l v w) (h0 : -9223372036854775808 ≤ i) (h1 : i < l.length) (hk : (tokAt l i).kind ≠ 1)  (w0 : isW l i [105, 110, 116] = true) :
    Calls Tryd.prog 13 #[v, .int .i64 i] w (Told (.node (.mk 1 (tokAt l i).at_ 0 [] []) (i + 1)) w) := by
  obtain ⟨P, hP⟩ : ∃ P, P = Told (.node (.mk 1 (tokAt l i).at_ 0 [] []) (i + 1)) w := ⟨_, rfl⟩
  rw [← hP]
  have HP := Lib.hid hP
  clear hP
  have HSRC := Lib.hid hs
  have hF := hs.fair i
  obtain ⟨R, hR⟩ : ∃ R, R = w.heap.size := ⟨_, rfl⟩
  obtain ⟨W, hW⟩ : ∃ W, W = w.alloc (.cells #[.int .i64 0, .int .i64 0, .int .i64 0, .string ⟨#[]⟩, .slice none 0 0] NodeT) := ⟨_, rfl⟩
  have hbW : Below w.heap.size w W := by rw [hW]; exact (Below.refl _ _).alloc (Nat.le_refl _) _
  have HBX : Hid (Box W R NodeT #[.int .i64 0, .int .i64 0, .int .i64 0, .string ⟨#[]⟩, .slice none 0 0]) := Lib.hid (by rw [hW]; exact Box.new _ _ _ _ hR)
  have HC := Lib.hid (rtok_any l v i W _ (hs.on hbW).lies hs.len (by unfold I64; have := hs.len; omega))
  unfold TokPost at HC
  obtain ⟨t, ht⟩ : ∃ t, t = tokAt l i := ⟨_, rfl⟩
  rw [← ht] at HC hF hk
  obtain ⟨k, a, n, s⟩ := t
  simp only [tkA] at HC hF hk
  have HF := Lib.hid hF
  have HT0 := Lib.hid ht
  have HW := Lib.hid hW
  have HRR := Lib.hid hR
  have HBW := Lib.hid hbW
  have hL := hs.len
  clear hW hR hbW hs hF ht
  go_enter Tryd.func13, Tryd.ntmps13
  go_wp2_with (first | (rw [← HW.out, ← HRR.out]))
  refine HC.out.mono ?_
  rintro e w1 ⟨rfl, hb1⟩
  obtain ⟨T, hT⟩ : ∃ T, T = w1.heap.size := ⟨_, rfl⟩
  obtain ⟨W1, hW1⟩ : ∃ W1, W1 = w1.alloc (.cells #[.int .i64 0, .int .i64 0, .int .i64 0, .string ⟨#[]⟩] TkT) := ⟨_, rfl⟩
  have hRT : R < T := by have := HBX.out.lt; have := hb1.size; omega
  have hB1 : Below w.heap.size w W1 := by rw [hW1]; exact (HBW.out.trans (hb1.mono HBW.out.size)).alloc (Nat.le_trans HBW.out.size hb1.size) _
  have bT : Box W1 T TkT #[.int .i64 0, .int .i64 0, .int .i64 0, .string ⟨#[]⟩] := by rw [hW1]; exact Box.new _ _ _ _ hT
  have bR : Box W1 R NodeT #[.int .i64 0, .int .i64 0, .int .i64 0, .string ⟨#[]⟩, .slice none 0 0] := by rw [hW1]; exact (HBX.out.on hb1).alloc _
  have hwT : w.heap.size ≤ T := by have := HRR.out; omega
  have HZT := Lib.hid (box_four bT (.int .i64 k) (.int .i64 a) (.int .i64 n) (.string ⟨s.toArray⟩))
  have HZR : Hid (Box ((((W1.setCell ⟨T, 0, none⟩ (.int .i64 k)).setCell ⟨T, 1, none⟩ (.int .i64 a)).setCell ⟨T, 2, none⟩ (.int .i64 n)).setCell ⟨T, 3, none⟩ (.string ⟨s.toArray⟩)) R NodeT #[.int .i64 0, .int .i64 0, .int .i64 0, .string ⟨#[]⟩, .slice none 0 0]) := Lib.hid ((((bR.far (by show R ≠ T; omega) _).far (by show R ≠ T; omega) _).far (by show R ≠ T; omega) _).far (by show R ≠ T; omega) _)
  have HZB := Lib.hid (below_four hB1 hwT (.int .i64 k) (.int .i64 a) (.int .i64 n) (.string ⟨s.toArray⟩))
  have f0 := bT.frozen 0
  have f1 := bT.frozen 1
  have f2 := bT.frozen 2
  have f3 := bT.frozen 3
  have y0 := bT.cell 0
  have y1 := bT.cell 1
  have y2 := bT.cell 2
  have y3 := bT.cell 3
  simp only [List.getElem?_toArray, List.getElem?_cons_zero, List.getElem?_cons_succ] at y0 y1 y2 y3
  have HW1 := Lib.hid hW1
  have HTT := Lib.hid hT
  have HRT := Lib.hid hRT
  have HWT := Lib.hid hwT
  clear hT hW1 hRT hB1 bT hb1 hwT HC
  have hk1 : (k == 1) = false := beq_eq_false_iff_ne.2 hk
  go_wp2_with (first | (rw [← HW1.out, ← HTT.out]))
  obtain ⟨Z, hZ⟩ : ∃ Z, Z = (((W1.setCell ⟨T, 0, none⟩ (.int .i64 k)).setCell ⟨T, 1, none⟩ (.int .i64 a)).setCell ⟨T, 2, none⟩ (.int .i64 n)).setCell ⟨T, 3, none⟩ (.string ⟨s.toArray⟩) := ⟨_, rfl⟩
  rw [← hZ] at HZT HZR HZB ⊢
  have HM : Hid (∀ w', Below (T + 1) Z w' → Box w' R NodeT #[.int .i64 0, .int .i64 0, .int .i64 0, .string ⟨#[]⟩, .slice none 0 0] ∧ Box w' T TkT #[.int .i64 k, .int .i64 a, .int .i64 n, .string ⟨s.toArray⟩] ∧ Src l v w' ∧ T + 1 ≤ w'.heap.size ∧ Below w.heap.size w w') := Lib.hid (fun w' hb => by
    have hRT := HRT.out
    have hWT := HWT.out
    have q1 := HZR.out.below hb (by omega)
    have q2 := HZT.out.below hb (by omega)
    have q3 : Below w.heap.size w w' := HZB.out.trans (hb.mono (by omega))
    exact ⟨q1, q2, HSRC.out.on q3, q2.lt, q3⟩)
  have HB : Hid (Below (T + 1) Z Z) := Lib.hid (Below.refl _ _)
  clear f0 f1 f2 f3 y0 y1 y2 y3 hZ bR
  refine (says_src (HM.out _ HB.out).2.2.1 HB.out (HM.out _ HB.out).2.2.2.1 [105, 110, 116] (i) (by unfold I64; omega)).mono ?_
  rintro e w2 ⟨rfl, hb2⟩
  have HB2 := Lib.hid hb2
  clear hb2
  have bR := (HM.out _ HB2.out).1
  have bT := (HM.out _ HB2.out).2.1
  have HE := Lib.hid (node_end (j := i + 1) (t := .mk 1 a 0 [] []) HRR.out bR ⟨by show I64 (1); unfold I64; omega, HF.out.1, by show I64 0; unfold I64; omega, by show 0 ≤ 281474976710656; omega⟩ (nt.Kids.nil_ _ _) (HM.out _ HB2.out).2.2.2.2)
  have ne1 : ¬ R = T := by have := HRT.out; omega
  have ne2 : ¬ T = R := fun e => ne1 e.symm
  have r0 := bR.cell 0
  have r1 := bR.cell 1
  have r2 := bR.cell 2
  have r3 := bR.cell 3
  have r4 := bR.cell 4
  have g0 := bR.frozen 0
  have g1 := bR.frozen 1
  have g2 := bR.frozen 2
  have g3 := bR.frozen 3
  have g4 := bR.frozen 4
  simp only [List.getElem?_toArray, List.getElem?_cons_zero, List.getElem?_cons_succ] at r0 r1 r2 r3 r4
  have t0 := bT.cell 0
  have t1 := bT.cell 1
  have t3 := bT.cell 3
  simp only [List.getElem?_toArray, List.getElem?_cons_zero, List.getElem?_cons_succ] at t0 t1 t3
  go_wp2_with (fail)
  refine bodyPost_ret (node_ret3 rfl rfl rfl rfl HE.out.1) rfl ?_
  rw [HP.out, ← HT0.out]
  exact HE.out.2
set_option maxHeartbeats 2000000 in
theorem typ_bool {l : List Tk} {v : Value} {i : Int} {w : World} (hs : Src l v w) (h0 : -9223372036854775808 ≤ i) (h1 : i < l.length) (hk : (tokAt l i).kind ≠ 1) (w0 : isW l i [105, 110, 116] = false) (w1 : isW l i [98, 111, 111, 108] = true) :
    Calls Tryd.prog 13 #[v, .int .i64 i] w (Told (.node (.mk 2 (tokAt l i).at_ 0 [] []) (i + 1)) w) := by
  obtain ⟨P, hP⟩ : ∃ P, P = Told (.node (.mk 2 (tokAt l i).at_ 0 [] []) (i + 1)) w := ⟨_, rfl⟩
  rw [← hP]
  have HP := Lib.hid hP
  clear hP
  have HSRC := Lib.hid hs
  have hF := hs.fair i
  obtain ⟨R, hR⟩ : ∃ R, R = w.heap.size := ⟨_, rfl⟩
  obtain ⟨W, hW⟩ : ∃ W, W = w.alloc (.cells #[.int .i64 0, .int .i64 0, .int .i64 0, .string ⟨#[]⟩, .slice none 0 0] NodeT) := ⟨_, rfl⟩
  have hbW : Below w.heap.size w W := by rw [hW]; exact (Below.refl _ _).alloc (Nat.le_refl _) _
  have HBX : Hid (Box W R NodeT #[.int .i64 0, .int .i64 0, .int .i64 0, .string ⟨#[]⟩, .slice none 0 0]) := Lib.hid (by rw [hW]; exact Box.new _ _ _ _ hR)
  have HC := Lib.hid (rtok_any l v i W _ (hs.on hbW).lies hs.len (by unfold I64; have := hs.len; omega))
  unfold TokPost at HC
  obtain ⟨t, ht⟩ : ∃ t, t = tokAt l i := ⟨_, rfl⟩
  rw [← ht] at HC hF hk
  obtain ⟨k, a, n, s⟩ := t
  simp only [tkA] at HC hF hk
  have HF := Lib.hid hF
  have HT0 := Lib.hid ht
  have HW := Lib.hid hW
  have HRR := Lib.hid hR
  have HBW := Lib.hid hbW
  have hL := hs.len
  clear hW hR hbW hs hF ht
  go_enter Tryd.func13, Tryd.ntmps13
  go_wp2_with (first | (rw [← HW.out, ← HRR.out]))
  refine HC.out.mono ?_
  rintro e w1 ⟨rfl, hb1⟩
  obtain ⟨T, hT⟩ : ∃ T, T = w1.heap.size := ⟨_, rfl⟩
  obtain ⟨W1, hW1⟩ : ∃ W1, W1 = w1.alloc (.cells #[.int .i64 0, .int .i64 0, .int .i64 0, .string ⟨#[]⟩] TkT) := ⟨_, rfl⟩
  have hRT : R < T := by have := HBX.out.lt; have := hb1.size; omega
  have hB1 : Below w.heap.size w W1 := by rw [hW1]; exact (HBW.out.trans (hb1.mono HBW.out.size)).alloc (Nat.le_trans HBW.out.size hb1.size) _
  have bT : Box W1 T TkT #[.int .i64 0, .int .i64 0, .int .i64 0, .string ⟨#[]⟩] := by rw [hW1]; exact Box.new _ _ _ _ hT
  have bR : Box W1 R NodeT #[.int .i64 0, .int .i64 0, .int .i64 0, .string ⟨#[]⟩, .slice none 0 0] := by rw [hW1]; exact (HBX.out.on hb1).alloc _
  have hwT : w.heap.size ≤ T := by have := HRR.out; omega
  have HZT := Lib.hid (box_four bT (.int .i64 k) (.int .i64 a) (.int .i64 n) (.string ⟨s.toArray⟩))
  have HZR : Hid (Box ((((W1.setCell ⟨T, 0, none⟩ (.int .i64 k)).setCell ⟨T, 1, none⟩ (.int .i64 a)).setCell ⟨T, 2, none⟩ (.int .i64 n)).setCell ⟨T, 3, none⟩ (.string ⟨s.toArray⟩)) R NodeT #[.int .i64 0, .int .i64 0, .int .i64 0, .string ⟨#[]⟩, .slice none 0 0]) := Lib.hid ((((bR.far (by show R ≠ T; omega) _).far (by show R ≠ T; omega) _).far (by show R ≠ T; omega) _).far (by show R ≠ T; omega) _)
  have HZB := Lib.hid (below_four hB1 hwT (.int .i64 k) (.int .i64 a) (.int .i64 n) (.string ⟨s.toArray⟩))
  have f0 := bT.frozen 0
  have f1 := bT.frozen 1
  have f2 := bT.frozen 2
  have f3 := bT.frozen 3
  have y0 := bT.cell 0
  have y1 := bT.cell 1
  have y2 := bT.cell 2
  have y3 := bT.cell 3
  simp only [List.getElem?_toArray, List.getElem?_cons_zero, List.getElem?_cons_succ] at y0 y1 y2 y3
  have HW1 := Lib.hid hW1
  have HTT := Lib.hid hT
  have HRT := Lib.hid hRT
  have HWT := Lib.hid hwT
  clear hT hW1 hRT hB1 bT hb1 hwT HC
  have hk1 : (k == 1) = false := beq_eq_false_iff_ne.2 hk
  go_wp2_with (first | (rw [← HW1.out, ← HTT.out]))
  obtain ⟨Z, hZ⟩ : ∃ Z, Z = (((W1.setCell ⟨T, 0, none⟩ (.int .i64 k)).setCell ⟨T, 1, none⟩ (.int .i64 a)).setCell ⟨T, 2, none⟩ (.int .i64 n)).setCell ⟨T, 3, none⟩ (.string ⟨s.toArray⟩) := ⟨_, rfl⟩
  rw [← hZ] at HZT HZR HZB ⊢
  have HM : Hid (∀ w', Below (T + 1) Z w' → Box w' R NodeT #[.int .i64 0, .int .i64 0, .int .i64 0, .string ⟨#[]⟩, .slice none 0 0] ∧ Box w' T TkT #[.int .i64 k, .int .i64 a, .int .i64 n, .string ⟨s.toArray⟩] ∧ Src l v w' ∧ T + 1 ≤ w'.heap.size ∧ Below w.heap.size w w') := Lib.hid (fun w' hb => by
    have hRT := HRT.out
    have hWT := HWT.out
    have q1 := HZR.out.below hb (by omega)
    have q2 := HZT.out.below hb (by omega)
    have q3 : Below w.heap.size w w' := HZB.out.trans (hb.mono (by omega))
    exact ⟨q1, q2, HSRC.out.on q3, q2.lt, q3⟩)
  have HB : Hid (Below (T + 1) Z Z) := Lib.hid (Below.refl _ _)
  clear f0 f1 f2 f3 y0 y1 y2 y3 hZ bR
  refine (says_src (HM.out _ HB.out).2.2.1 HB.out (HM.out _ HB.out).2.2.2.1 [105, 110, 116] (i) (by unfold I64; omega)).mono ?_
  rintro e w2 ⟨rfl, hb2⟩
  have HB2 := Lib.hid hb2
  clear hb2
  go_wp2_with (fail)
  refine (says_src (HM.out _ HB2.out).2.2.1 HB2.out (HM.out _ HB2.out).2.2.2.1 [98, 111, 111, 108] (i) (by unfold I64; omega)).mono ?_
  rintro e w3 ⟨rfl, hb3⟩
  have HB3 := Lib.hid hb3
  clear hb3
  have bR := (HM.out _ HB3.out).1
  have bT := (HM.out _ HB3.out).2.1
  have HE := Lib.hid (node_end (j := i + 1) (t := .mk 2 a 0 [] []) HRR.out bR ⟨by show I64 (2); unfold I64; omega, HF.out.1, by show I64 0; unfold I64; omega, by show 0 ≤ 281474976710656; omega⟩ (nt.Kids.nil_ _ _) (HM.out _ HB3.out).2.2.2.2)
  have ne1 : ¬ R = T := by have := HRT.out; omega
  have ne2 : ¬ T = R := fun e => ne1 e.symm
  have r0 := bR.cell 0
  have r1 := bR.cell 1
  have r2 := bR.cell 2
  have r3 := bR.cell 3
  have r4 := bR.cell 4
  have g0 := bR.frozen 0
  have g1 := bR.frozen 1
  have g2 := bR.frozen 2
  have g3 := bR.frozen 3
  have g4 := bR.frozen 4
  simp only [List.getElem?_toArray, List.getElem?_cons_zero, List.getElem?_cons_succ] at r0 r1 r2 r3 r4
  have t0 := bT.cell 0
  have t1 := bT.cell 1
  have t3 := bT.cell 3
  simp only [List.getElem?_toArray, List.getElem?_cons_zero, List.getElem?_cons_succ] at t0 t1 t3
  go_wp2_with (fail)
  refine bodyPost_ret (node_ret3 rfl rfl rfl rfl HE.out.1) rfl ?_
  rw [HP.out, ← HT0.out]
  exact HE.out.2
set_option maxHeartbeats 2000000 in
theorem typ_rev {l : List Tk} {v : Value} {i : Int} {w : World} (hs : Src l v w) (h0 : -9223372036854775808 ≤ i) (h1 : i < l.length) (hk : (tokAt l i).kind ≠ 1) (w0 : isW l i [105, 110, 116] = false) (w1 : isW l i [98, 111, 111, 108] = false) (w2 : isW l i [114, 101, 118] = true) :
    Calls Tryd.prog 13 #[v, .int .i64 i] w (Told (.node (.mk 3 (tokAt l i).at_ 0 [] []) (i + 1)) w) := by
  obtain ⟨P, hP⟩ : ∃ P, P = Told (.node (.mk 3 (tokAt l i).at_ 0 [] []) (i + 1)) w := ⟨_, rfl⟩
  rw [← hP]
  have HP := Lib.hid hP
  clear hP
  have HSRC := Lib.hid hs
  have hF := hs.fair i
  obtain ⟨R, hR⟩ : ∃ R, R = w.heap.size := ⟨_, rfl⟩
  obtain ⟨W, hW⟩ : ∃ W, W = w.alloc (.cells #[.int .i64 0, .int .i64 0, .int .i64 0, .string ⟨#[]⟩, .slice none 0 0] NodeT) := ⟨_, rfl⟩
  have hbW : Below w.heap.size w W := by rw [hW]; exact (Below.refl _ _).alloc (Nat.le_refl _) _
  have HBX : Hid (Box W R NodeT #[.int .i64 0, .int .i64 0, .int .i64 0, .string ⟨#[]⟩, .slice none 0 0]) := Lib.hid (by rw [hW]; exact Box.new _ _ _ _ hR)
  have HC := Lib.hid (rtok_any l v i W _ (hs.on hbW).lies hs.len (by unfold I64; have := hs.len; omega))
  unfold TokPost at HC
  obtain ⟨t, ht⟩ : ∃ t, t = tokAt l i := ⟨_, rfl⟩
  rw [← ht] at HC hF hk
  obtain ⟨k, a, n, s⟩ := t
  simp only [tkA] at HC hF hk
  have HF := Lib.hid hF
  have HT0 := Lib.hid ht
  have HW := Lib.hid hW
  have HRR := Lib.hid hR
  have HBW := Lib.hid hbW
  have hL := hs.len
  clear hW hR hbW hs hF ht
  go_enter Tryd.func13, Tryd.ntmps13
  go_wp2_with (first | (rw [← HW.out, ← HRR.out]))
  refine HC.out.mono ?_
  rintro e w1 ⟨rfl, hb1⟩
  obtain ⟨T, hT⟩ : ∃ T, T = w1.heap.size := ⟨_, rfl⟩
  obtain ⟨W1, hW1⟩ : ∃ W1, W1 = w1.alloc (.cells #[.int .i64 0, .int .i64 0, .int .i64 0, .string ⟨#[]⟩] TkT) := ⟨_, rfl⟩
  have hRT : R < T := by have := HBX.out.lt; have := hb1.size; omega
  have hB1 : Below w.heap.size w W1 := by rw [hW1]; exact (HBW.out.trans (hb1.mono HBW.out.size)).alloc (Nat.le_trans HBW.out.size hb1.size) _
  have bT : Box W1 T TkT #[.int .i64 0, .int .i64 0, .int .i64 0, .string ⟨#[]⟩] := by rw [hW1]; exact Box.new _ _ _ _ hT
  have bR : Box W1 R NodeT #[.int .i64 0, .int .i64 0, .int .i64 0, .string ⟨#[]⟩, .slice none 0 0] := by rw [hW1]; exact (HBX.out.on hb1).alloc _
  have hwT : w.heap.size ≤ T := by have := HRR.out; omega
  have HZT := Lib.hid (box_four bT (.int .i64 k) (.int .i64 a) (.int .i64 n) (.string ⟨s.toArray⟩))
  have HZR : Hid (Box ((((W1.setCell ⟨T, 0, none⟩ (.int .i64 k)).setCell ⟨T, 1, none⟩ (.int .i64 a)).setCell ⟨T, 2, none⟩ (.int .i64 n)).setCell ⟨T, 3, none⟩ (.string ⟨s.toArray⟩)) R NodeT #[.int .i64 0, .int .i64 0, .int .i64 0, .string ⟨#[]⟩, .slice none 0 0]) := Lib.hid ((((bR.far (by show R ≠ T; omega) _).far (by show R ≠ T; omega) _).far (by show R ≠ T; omega) _).far (by show R ≠ T; omega) _)
  have HZB := Lib.hid (below_four hB1 hwT (.int .i64 k) (.int .i64 a) (.int .i64 n) (.string ⟨s.toArray⟩))
  have f0 := bT.frozen 0
  have f1 := bT.frozen 1
  have f2 := bT.frozen 2
  have f3 := bT.frozen 3
  have y0 := bT.cell 0
  have y1 := bT.cell 1
  have y2 := bT.cell 2
  have y3 := bT.cell 3
  simp only [List.getElem?_toArray, List.getElem?_cons_zero, List.getElem?_cons_succ] at y0 y1 y2 y3
  have HW1 := Lib.hid hW1
  have HTT := Lib.hid hT
  have HRT := Lib.hid hRT
  have HWT := Lib.hid hwT
  clear hT hW1 hRT hB1 bT hb1 hwT HC
  have hk1 : (k == 1) = false := beq_eq_false_iff_ne.2 hk
  go_wp2_with (first | (rw [← HW1.out, ← HTT.out]))
  obtain ⟨Z, hZ⟩ : ∃ Z, Z = (((W1.setCell ⟨T, 0, none⟩ (.int .i64 k)).setCell ⟨T, 1, none⟩ (.int .i64 a)).setCell ⟨T, 2, none⟩ (.int .i64 n)).setCell ⟨T, 3, none⟩ (.string ⟨s.toArray⟩) := ⟨_, rfl⟩
  rw [← hZ] at HZT HZR HZB ⊢
  have HM : Hid (∀ w', Below (T + 1) Z w' → Box w' R NodeT #[.int .i64 0, .int .i64 0, .int .i64 0, .string ⟨#[]⟩, .slice none 0 0] ∧ Box w' T TkT #[.int .i64 k, .int .i64 a, .int .i64 n, .string ⟨s.toArray⟩] ∧ Src l v w' ∧ T + 1 ≤ w'.heap.size ∧ Below w.heap.size w w') := Lib.hid (fun w' hb => by
    have hRT := HRT.out
    have hWT := HWT.out
    have q1 := HZR.out.below hb (by omega)
    have q2 := HZT.out.below hb (by omega)
    have q3 : Below w.heap.size w w' := HZB.out.trans (hb.mono (by omega))
    exact ⟨q1, q2, HSRC.out.on q3, q2.lt, q3⟩)
  have HB : Hid (Below (T + 1) Z Z) := Lib.hid (Below.refl _ _)
  clear f0 f1 f2 f3 y0 y1 y2 y3 hZ bR
  refine (says_src (HM.out _ HB.out).2.2.1 HB.out (HM.out _ HB.out).2.2.2.1 [105, 110, 116] (i) (by unfold I64; omega)).mono ?_
  rintro e w2 ⟨rfl, hb2⟩
  have HB2 := Lib.hid hb2
  clear hb2
  go_wp2_with (fail)
  refine (says_src (HM.out _ HB2.out).2.2.1 HB2.out (HM.out _ HB2.out).2.2.2.1 [98, 111, 111, 108] (i) (by unfold I64; omega)).mono ?_
  rintro e w3 ⟨rfl, hb3⟩
  have HB3 := Lib.hid hb3
  clear hb3
  go_wp2_with (fail)
  refine (says_src (HM.out _ HB3.out).2.2.1 HB3.out (HM.out _ HB3.out).2.2.2.1 [114, 101, 118] (i) (by unfold I64; omega)).mono ?_
  rintro e w4 ⟨rfl, hb4⟩
  have HB4 := Lib.hid hb4
  clear hb4
  have bR := (HM.out _ HB4.out).1
  have bT := (HM.out _ HB4.out).2.1
  have HE := Lib.hid (node_end (j := i + 1) (t := .mk 3 a 0 [] []) HRR.out bR ⟨by show I64 (3); unfold I64; omega, HF.out.1, by show I64 0; unfold I64; omega, by show 0 ≤ 281474976710656; omega⟩ (nt.Kids.nil_ _ _) (HM.out _ HB4.out).2.2.2.2)
  have ne1 : ¬ R = T := by have := HRT.out; omega
  have ne2 : ¬ T = R := fun e => ne1 e.symm
  have r0 := bR.cell 0
  have r1 := bR.cell 1
  have r2 := bR.cell 2
  have r3 := bR.cell 3
  have r4 := bR.cell 4
  have g0 := bR.frozen 0
  have g1 := bR.frozen 1
  have g2 := bR.frozen 2
  have g3 := bR.frozen 3
  have g4 := bR.frozen 4
  simp only [List.getElem?_toArray, List.getElem?_cons_zero, List.getElem?_cons_succ] at r0 r1 r2 r3 r4
  have t0 := bT.cell 0
  have t1 := bT.cell 1
  have t3 := bT.cell 3
  simp only [List.getElem?_toArray, List.getElem?_cons_zero, List.getElem?_cons_succ] at t0 t1 t3
  go_wp2_with (fail)
  refine bodyPost_ret (node_ret3 rfl rfl rfl rfl HE.out.1) rfl ?_
  rw [HP.out, ← HT0.out]
  exact HE.out.2
set_option maxHeartbeats 2000000 in
theorem typ_none {l : List Tk} {v : Value} {i : Int} {w : World} (hs : Src l v w) (h0 : -9223372036854775808 ≤ i) (h1 : i ≤ 9223372036854775807) (hk : (tokAt l i).kind ≠ 1) (w0 : isW l i [105, 110, 116] = false) (w1 : isW l i [98, 111, 111, 108] = false) (w2 : isW l i [114, 101, 118] = false) (m1 : isM l i [91] = false) :
    Calls Tryd.prog 13 #[v, .int .i64 i] w (Told (.no i) w) := by
  obtain ⟨P, hP⟩ : ∃ P, P = Told (.no i) w := ⟨_, rfl⟩
  rw [← hP]
  have HP := Lib.hid hP
  clear hP
  have HSRC := Lib.hid hs
  have hF := hs.fair i
  obtain ⟨R, hR⟩ : ∃ R, R = w.heap.size := ⟨_, rfl⟩
  obtain ⟨W, hW⟩ : ∃ W, W = w.alloc (.cells #[.int .i64 0, .int .i64 0, .int .i64 0, .string ⟨#[]⟩, .slice none 0 0] NodeT) := ⟨_, rfl⟩
  have hbW : Below w.heap.size w W := by rw [hW]; exact (Below.refl _ _).alloc (Nat.le_refl _) _
  have HBX : Hid (Box W R NodeT #[.int .i64 0, .int .i64 0, .int .i64 0, .string ⟨#[]⟩, .slice none 0 0]) := Lib.hid (by rw [hW]; exact Box.new _ _ _ _ hR)
  have HC := Lib.hid (rtok_any l v i W _ (hs.on hbW).lies hs.len (by unfold I64; have := hs.len; omega))
  unfold TokPost at HC
  obtain ⟨t, ht⟩ : ∃ t, t = tokAt l i := ⟨_, rfl⟩
  rw [← ht] at HC hF hk
  obtain ⟨k, a, n, s⟩ := t
  simp only [tkA] at HC hF hk
  have HF := Lib.hid hF
  have HT0 := Lib.hid ht
  have HW := Lib.hid hW
  have HRR := Lib.hid hR
  have HBW := Lib.hid hbW
  have hL := hs.len
  clear hW hR hbW hs hF ht
  go_enter Tryd.func13, Tryd.ntmps13
  go_wp2_with (first | (rw [← HW.out, ← HRR.out]))
  refine HC.out.mono ?_
  rintro e w1 ⟨rfl, hb1⟩
  obtain ⟨T, hT⟩ : ∃ T, T = w1.heap.size := ⟨_, rfl⟩
  obtain ⟨W1, hW1⟩ : ∃ W1, W1 = w1.alloc (.cells #[.int .i64 0, .int .i64 0, .int .i64 0, .string ⟨#[]⟩] TkT) := ⟨_, rfl⟩
  have hRT : R < T := by have := HBX.out.lt; have := hb1.size; omega
  have hB1 : Below w.heap.size w W1 := by rw [hW1]; exact (HBW.out.trans (hb1.mono HBW.out.size)).alloc (Nat.le_trans HBW.out.size hb1.size) _
  have bT : Box W1 T TkT #[.int .i64 0, .int .i64 0, .int .i64 0, .string ⟨#[]⟩] := by rw [hW1]; exact Box.new _ _ _ _ hT
  have bR : Box W1 R NodeT #[.int .i64 0, .int .i64 0, .int .i64 0, .string ⟨#[]⟩, .slice none 0 0] := by rw [hW1]; exact (HBX.out.on hb1).alloc _
  have hwT : w.heap.size ≤ T := by have := HRR.out; omega
  have HZT := Lib.hid (box_four bT (.int .i64 k) (.int .i64 a) (.int .i64 n) (.string ⟨s.toArray⟩))
  have HZR : Hid (Box ((((W1.setCell ⟨T, 0, none⟩ (.int .i64 k)).setCell ⟨T, 1, none⟩ (.int .i64 a)).setCell ⟨T, 2, none⟩ (.int .i64 n)).setCell ⟨T, 3, none⟩ (.string ⟨s.toArray⟩)) R NodeT #[.int .i64 0, .int .i64 0, .int .i64 0, .string ⟨#[]⟩, .slice none 0 0]) := Lib.hid ((((bR.far (by show R ≠ T; omega) _).far (by show R ≠ T; omega) _).far (by show R ≠ T; omega) _).far (by show R ≠ T; omega) _)
  have HZB := Lib.hid (below_four hB1 hwT (.int .i64 k) (.int .i64 a) (.int .i64 n) (.string ⟨s.toArray⟩))
  have f0 := bT.frozen 0
  have f1 := bT.frozen 1
  have f2 := bT.frozen 2
  have f3 := bT.frozen 3
  have y0 := bT.cell 0
  have y1 := bT.cell 1
  have y2 := bT.cell 2
  have y3 := bT.cell 3
  simp only [List.getElem?_toArray, List.getElem?_cons_zero, List.getElem?_cons_succ] at y0 y1 y2 y3
  have HW1 := Lib.hid hW1
  have HTT := Lib.hid hT
  have HRT := Lib.hid hRT
  have HWT := Lib.hid hwT
  clear hT hW1 hRT hB1 bT hb1 hwT HC
  have hk1 : (k == 1) = false := beq_eq_false_iff_ne.2 hk
  go_wp2_with (first | (rw [← HW1.out, ← HTT.out]))
  obtain ⟨Z, hZ⟩ : ∃ Z, Z = (((W1.setCell ⟨T, 0, none⟩ (.int .i64 k)).setCell ⟨T, 1, none⟩ (.int .i64 a)).setCell ⟨T, 2, none⟩ (.int .i64 n)).setCell ⟨T, 3, none⟩ (.string ⟨s.toArray⟩) := ⟨_, rfl⟩
  rw [← hZ] at HZT HZR HZB ⊢
  have HM : Hid (∀ w', Below (T + 1) Z w' → Box w' R NodeT #[.int .i64 0, .int .i64 0, .int .i64 0, .string ⟨#[]⟩, .slice none 0 0] ∧ Box w' T TkT #[.int .i64 k, .int .i64 a, .int .i64 n, .string ⟨s.toArray⟩] ∧ Src l v w' ∧ T + 1 ≤ w'.heap.size ∧ Below w.heap.size w w') := Lib.hid (fun w' hb => by
    have hRT := HRT.out
    have hWT := HWT.out
    have q1 := HZR.out.below hb (by omega)
    have q2 := HZT.out.below hb (by omega)
    have q3 : Below w.heap.size w w' := HZB.out.trans (hb.mono (by omega))
    exact ⟨q1, q2, HSRC.out.on q3, q2.lt, q3⟩)
  have HB : Hid (Below (T + 1) Z Z) := Lib.hid (Below.refl _ _)
  clear f0 f1 f2 f3 y0 y1 y2 y3 hZ bR
  refine (says_src (HM.out _ HB.out).2.2.1 HB.out (HM.out _ HB.out).2.2.2.1 [105, 110, 116] (i) (by unfold I64; omega)).mono ?_
  rintro e w2 ⟨rfl, hb2⟩
  have HB2 := Lib.hid hb2
  clear hb2
  go_wp2_with (fail)
  refine (says_src (HM.out _ HB2.out).2.2.1 HB2.out (HM.out _ HB2.out).2.2.2.1 [98, 111, 111, 108] (i) (by unfold I64; omega)).mono ?_
  rintro e w3 ⟨rfl, hb3⟩
  have HB3 := Lib.hid hb3
  clear hb3
  go_wp2_with (fail)
  refine (says_src (HM.out _ HB3.out).2.2.1 HB3.out (HM.out _ HB3.out).2.2.2.1 [114, 101, 118] (i) (by unfold I64; omega)).mono ?_
  rintro e w4 ⟨rfl, hb4⟩
  have HB4 := Lib.hid hb4
  clear hb4
  go_wp2_with (fail)
  refine (is_src (HM.out _ HB4.out).2.2.1 HB4.out (HM.out _ HB4.out).2.2.2.1 [91] (i) (by unfold I64; omega)).mono ?_
  rintro e w5 ⟨rfl, hb5⟩
  have HB5 := Lib.hid hb5
  clear hb5
  have bR := (HM.out _ HB5.out).1
  have HE := Lib.hid (no_end (j := i) HRR.out bR (HM.out _ HB5.out).2.2.2.2)
  have r0 := bR.cell 0
  have r1 := bR.cell 1
  have r2 := bR.cell 2
  have r3 := bR.cell 3
  have r4 := bR.cell 4
  have g0 := bR.frozen 0
  have g1 := bR.frozen 1
  have g2 := bR.frozen 2
  have g3 := bR.frozen 3
  have g4 := bR.frozen 4
  simp only [List.getElem?_toArray, List.getElem?_cons_zero, List.getElem?_cons_succ] at r0 r1 r2 r3 r4
  go_wp2_with (fail)
  refine bodyPost_ret (node_ret3 rfl rfl rfl rfl HE.out.1) rfl ?_
  rw [HP.out]
  exact HE.out.2
set_option maxHeartbeats 2000000 in
theorem typ_open {l : List Tk} {v : Value} {i : Int} {w : World} (hs : Src l v w) (h0 : -9223372036854775808 ≤ i) (h1 : i < l.length) (hk : (tokAt l i).kind ≠ 1) (w0 : isW l i [105, 110, 116] = false) (w1 : isW l i [98, 111, 111, 108] = false) (w2 : isW l i [114, 101, 118] = false) (m1 : isM l i [91] = true) (m2 : isM l (i + 1) [93] = false) :
    Calls Tryd.prog 13 #[v, .int .i64 i] w (Told (.no (i + 1)) w) := by
  obtain ⟨P, hP⟩ : ∃ P, P = Told (.no (i + 1)) w := ⟨_, rfl⟩
  rw [← hP]
  have HP := Lib.hid hP
  clear hP
  have HSRC := Lib.hid hs
  have hF := hs.fair i
  obtain ⟨R, hR⟩ : ∃ R, R = w.heap.size := ⟨_, rfl⟩
  obtain ⟨W, hW⟩ : ∃ W, W = w.alloc (.cells #[.int .i64 0, .int .i64 0, .int .i64 0, .string ⟨#[]⟩, .slice none 0 0] NodeT) := ⟨_, rfl⟩
  have hbW : Below w.heap.size w W := by rw [hW]; exact (Below.refl _ _).alloc (Nat.le_refl _) _
  have HBX : Hid (Box W R NodeT #[.int .i64 0, .int .i64 0, .int .i64 0, .string ⟨#[]⟩, .slice none 0 0]) := Lib.hid (by rw [hW]; exact Box.new _ _ _ _ hR)
  have HC := Lib.hid (rtok_any l v i W _ (hs.on hbW).lies hs.len (by unfold I64; have := hs.len; omega))
  unfold TokPost at HC
  obtain ⟨t, ht⟩ : ∃ t, t = tokAt l i := ⟨_, rfl⟩
  rw [← ht] at HC hF hk
  obtain ⟨k, a, n, s⟩ := t
  simp only [tkA] at HC hF hk
  have HF := Lib.hid hF
  have HT0 := Lib.hid ht
  have HW := Lib.hid hW
  have HRR := Lib.hid hR
  have HBW := Lib.hid hbW
  have hL := hs.len
  clear hW hR hbW hs hF ht
  go_enter Tryd.func13, Tryd.ntmps13
  go_wp2_with (first | (rw [← HW.out, ← HRR.out]))
  refine HC.out.mono ?_
  rintro e w1 ⟨rfl, hb1⟩
  obtain ⟨T, hT⟩ : ∃ T, T = w1.heap.size := ⟨_, rfl⟩
  obtain ⟨W1, hW1⟩ : ∃ W1, W1 = w1.alloc (.cells #[.int .i64 0, .int .i64 0, .int .i64 0, .string ⟨#[]⟩] TkT) := ⟨_, rfl⟩
  have hRT : R < T := by have := HBX.out.lt; have := hb1.size; omega
  have hB1 : Below w.heap.size w W1 := by rw [hW1]; exact (HBW.out.trans (hb1.mono HBW.out.size)).alloc (Nat.le_trans HBW.out.size hb1.size) _
  have bT : Box W1 T TkT #[.int .i64 0, .int .i64 0, .int .i64 0, .string ⟨#[]⟩] := by rw [hW1]; exact Box.new _ _ _ _ hT
  have bR : Box W1 R NodeT #[.int .i64 0, .int .i64 0, .int .i64 0, .string ⟨#[]⟩, .slice none 0 0] := by rw [hW1]; exact (HBX.out.on hb1).alloc _
  have hwT : w.heap.size ≤ T := by have := HRR.out; omega
  have HZT := Lib.hid (box_four bT (.int .i64 k) (.int .i64 a) (.int .i64 n) (.string ⟨s.toArray⟩))
  have HZR : Hid (Box ((((W1.setCell ⟨T, 0, none⟩ (.int .i64 k)).setCell ⟨T, 1, none⟩ (.int .i64 a)).setCell ⟨T, 2, none⟩ (.int .i64 n)).setCell ⟨T, 3, none⟩ (.string ⟨s.toArray⟩)) R NodeT #[.int .i64 0, .int .i64 0, .int .i64 0, .string ⟨#[]⟩, .slice none 0 0]) := Lib.hid ((((bR.far (by show R ≠ T; omega) _).far (by show R ≠ T; omega) _).far (by show R ≠ T; omega) _).far (by show R ≠ T; omega) _)
  have HZB := Lib.hid (below_four hB1 hwT (.int .i64 k) (.int .i64 a) (.int .i64 n) (.string ⟨s.toArray⟩))
  have f0 := bT.frozen 0
  have f1 := bT.frozen 1
  have f2 := bT.frozen 2
  have f3 := bT.frozen 3
  have y0 := bT.cell 0
  have y1 := bT.cell 1
  have y2 := bT.cell 2
  have y3 := bT.cell 3
  simp only [List.getElem?_toArray, List.getElem?_cons_zero, List.getElem?_cons_succ] at y0 y1 y2 y3
  have HW1 := Lib.hid hW1
  have HTT := Lib.hid hT
  have HRT := Lib.hid hRT
  have HWT := Lib.hid hwT
  clear hT hW1 hRT hB1 bT hb1 hwT HC
  have hk1 : (k == 1) = false := beq_eq_false_iff_ne.2 hk
  go_wp2_with (first | (rw [← HW1.out, ← HTT.out]))
  obtain ⟨Z, hZ⟩ : ∃ Z, Z = (((W1.setCell ⟨T, 0, none⟩ (.int .i64 k)).setCell ⟨T, 1, none⟩ (.int .i64 a)).setCell ⟨T, 2, none⟩ (.int .i64 n)).setCell ⟨T, 3, none⟩ (.string ⟨s.toArray⟩) := ⟨_, rfl⟩
  rw [← hZ] at HZT HZR HZB ⊢
  have HM : Hid (∀ w', Below (T + 1) Z w' → Box w' R NodeT #[.int .i64 0, .int .i64 0, .int .i64 0, .string ⟨#[]⟩, .slice none 0 0] ∧ Box w' T TkT #[.int .i64 k, .int .i64 a, .int .i64 n, .string ⟨s.toArray⟩] ∧ Src l v w' ∧ T + 1 ≤ w'.heap.size ∧ Below w.heap.size w w') := Lib.hid (fun w' hb => by
    have hRT := HRT.out
    have hWT := HWT.out
    have q1 := HZR.out.below hb (by omega)
    have q2 := HZT.out.below hb (by omega)
    have q3 : Below w.heap.size w w' := HZB.out.trans (hb.mono (by omega))
    exact ⟨q1, q2, HSRC.out.on q3, q2.lt, q3⟩)
  have HB : Hid (Below (T + 1) Z Z) := Lib.hid (Below.refl _ _)
  clear f0 f1 f2 f3 y0 y1 y2 y3 hZ bR
  refine (says_src (HM.out _ HB.out).2.2.1 HB.out (HM.out _ HB.out).2.2.2.1 [105, 110, 116] (i) (by unfold I64; omega)).mono ?_
  rintro e w2 ⟨rfl, hb2⟩
  have HB2 := Lib.hid hb2
  clear hb2
  go_wp2_with (fail)
  refine (says_src (HM.out _ HB2.out).2.2.1 HB2.out (HM.out _ HB2.out).2.2.2.1 [98, 111, 111, 108] (i) (by unfold I64; omega)).mono ?_
  rintro e w3 ⟨rfl, hb3⟩
  have HB3 := Lib.hid hb3
  clear hb3
  go_wp2_with (fail)
  refine (says_src (HM.out _ HB3.out).2.2.1 HB3.out (HM.out _ HB3.out).2.2.2.1 [114, 101, 118] (i) (by unfold I64; omega)).mono ?_
  rintro e w4 ⟨rfl, hb4⟩
  have HB4 := Lib.hid hb4
  clear hb4
  go_wp2_with (fail)
  refine (is_src (HM.out _ HB4.out).2.2.1 HB4.out (HM.out _ HB4.out).2.2.2.1 [91] (i) (by unfold I64; omega)).mono ?_
  rintro e w5 ⟨rfl, hb5⟩
  have HB5 := Lib.hid hb5
  clear hb5
  go_wp2_with (fail)
  refine (is_src (HM.out _ HB5.out).2.2.1 HB5.out (HM.out _ HB5.out).2.2.2.1 [93] (i + 1) (by unfold I64; omega)).mono ?_
  rintro e w6 ⟨rfl, hb6⟩
  have HB6 := Lib.hid hb6
  clear hb6
  have bR := (HM.out _ HB6.out).1
  have HE := Lib.hid (no_end (j := i + 1) HRR.out bR (HM.out _ HB6.out).2.2.2.2)
  have r0 := bR.cell 0
  have r1 := bR.cell 1
  have r2 := bR.cell 2
  have r3 := bR.cell 3
  have r4 := bR.cell 4
  have g0 := bR.frozen 0
  have g1 := bR.frozen 1
  have g2 := bR.frozen 2
  have g3 := bR.frozen 3
  have g4 := bR.frozen 4
  simp only [List.getElem?_toArray, List.getElem?_cons_zero, List.getElem?_cons_succ] at r0 r1 r2 r3 r4
  go_wp2_with (fail)
  refine bodyPost_ret (node_ret3 rfl rfl rfl rfl HE.out.1) rfl ?_
  rw [HP.out]
  exact HE.out.2
set_option maxHeartbeats 2000000 in
theorem typ_arr_no {l : List Tk} {v : Value} {i : Int} {w : World} (hs : Src l v w) (h0 : -9223372036854775808 ≤ i) {j : Int} (h1 : i + 1 < l.length) (hk : (tokAt l i).kind ≠ 1) (w0 : isW l i [105, 110, 116] = false) (w1 : isW l i [98, 111, 111, 108] = false) (w2 : isW l i [114, 101, 118] = false) (m1 : isM l i [91] = true) (m2 : isM l (i + 1) [93] = true) (ih : ∀ w', Src l v w' → Calls Tryd.prog 13 #[v, .int .i64 (i + 2)] w' (Told (.no j) w')) :
    Calls Tryd.prog 13 #[v, .int .i64 i] w (Told (.no j) w) := by
  have IH := Lib.hid ih
  clear ih
  obtain ⟨P, hP⟩ : ∃ P, P = Told (.no j) w := ⟨_, rfl⟩
  rw [← hP]
  have HP := Lib.hid hP
  clear hP
  have HSRC := Lib.hid hs
  have hF := hs.fair i
  obtain ⟨R, hR⟩ : ∃ R, R = w.heap.size := ⟨_, rfl⟩
  obtain ⟨W, hW⟩ : ∃ W, W = w.alloc (.cells #[.int .i64 0, .int .i64 0, .int .i64 0, .string ⟨#[]⟩, .slice none 0 0] NodeT) := ⟨_, rfl⟩
  have hbW : Below w.heap.size w W := by rw [hW]; exact (Below.refl _ _).alloc (Nat.le_refl _) _
  have HBX : Hid (Box W R NodeT #[.int .i64 0, .int .i64 0, .int .i64 0, .string ⟨#[]⟩, .slice none 0 0]) := Lib.hid (by rw [hW]; exact Box.new _ _ _ _ hR)
  have HC := Lib.hid (rtok_any l v i W _ (hs.on hbW).lies hs.len (by unfold I64; have := hs.len; omega))
  unfold TokPost at HC
  obtain ⟨t, ht⟩ : ∃ t, t = tokAt l i := ⟨_, rfl⟩
  rw [← ht] at HC hF hk
  obtain ⟨k, a, n, s⟩ := t
  simp only [tkA] at HC hF hk
  have HF := Lib.hid hF
  have HT0 := Lib.hid ht
  have HW := Lib.hid hW
  have HRR := Lib.hid hR
  have HBW := Lib.hid hbW
  have hL := hs.len
  clear hW hR hbW hs hF ht
  go_enter Tryd.func13, Tryd.ntmps13
  go_wp2_with (first | (rw [← HW.out, ← HRR.out]))
  refine HC.out.mono ?_
  rintro e w1 ⟨rfl, hb1⟩
  obtain ⟨T, hT⟩ : ∃ T, T = w1.heap.size := ⟨_, rfl⟩
  obtain ⟨W1, hW1⟩ : ∃ W1, W1 = w1.alloc (.cells #[.int .i64 0, .int .i64 0, .int .i64 0, .string ⟨#[]⟩] TkT) := ⟨_, rfl⟩
  have hRT : R < T := by have := HBX.out.lt; have := hb1.size; omega
  have hB1 : Below w.heap.size w W1 := by rw [hW1]; exact (HBW.out.trans (hb1.mono HBW.out.size)).alloc (Nat.le_trans HBW.out.size hb1.size) _
  have bT : Box W1 T TkT #[.int .i64 0, .int .i64 0, .int .i64 0, .string ⟨#[]⟩] := by rw [hW1]; exact Box.new _ _ _ _ hT
  have bR : Box W1 R NodeT #[.int .i64 0, .int .i64 0, .int .i64 0, .string ⟨#[]⟩, .slice none 0 0] := by rw [hW1]; exact (HBX.out.on hb1).alloc _
  have hwT : w.heap.size ≤ T := by have := HRR.out; omega
  have HZT := Lib.hid (box_four bT (.int .i64 k) (.int .i64 a) (.int .i64 n) (.string ⟨s.toArray⟩))
  have HZR : Hid (Box ((((W1.setCell ⟨T, 0, none⟩ (.int .i64 k)).setCell ⟨T, 1, none⟩ (.int .i64 a)).setCell ⟨T, 2, none⟩ (.int .i64 n)).setCell ⟨T, 3, none⟩ (.string ⟨s.toArray⟩)) R NodeT #[.int .i64 0, .int .i64 0, .int .i64 0, .string ⟨#[]⟩, .slice none 0 0]) := Lib.hid ((((bR.far (by show R ≠ T; omega) _).far (by show R ≠ T; omega) _).far (by show R ≠ T; omega) _).far (by show R ≠ T; omega) _)
  have HZB := Lib.hid (below_four hB1 hwT (.int .i64 k) (.int .i64 a) (.int .i64 n) (.string ⟨s.toArray⟩))
  have f0 := bT.frozen 0
  have f1 := bT.frozen 1
  have f2 := bT.frozen 2
  have f3 := bT.frozen 3
  have y0 := bT.cell 0
  have y1 := bT.cell 1
  have y2 := bT.cell 2
  have y3 := bT.cell 3
  simp only [List.getElem?_toArray, List.getElem?_cons_zero, List.getElem?_cons_succ] at y0 y1 y2 y3
  have HW1 := Lib.hid hW1
  have HTT := Lib.hid hT
  have HRT := Lib.hid hRT
  have HWT := Lib.hid hwT
  clear hT hW1 hRT hB1 bT hb1 hwT HC
  have hk1 : (k == 1) = false := beq_eq_false_iff_ne.2 hk
  go_wp2_with (first | (rw [← HW1.out, ← HTT.out]))
  obtain ⟨Z, hZ⟩ : ∃ Z, Z = (((W1.setCell ⟨T, 0, none⟩ (.int .i64 k)).setCell ⟨T, 1, none⟩ (.int .i64 a)).setCell ⟨T, 2, none⟩ (.int .i64 n)).setCell ⟨T, 3, none⟩ (.string ⟨s.toArray⟩) := ⟨_, rfl⟩
  rw [← hZ] at HZT HZR HZB ⊢
  have HM : Hid (∀ w', Below (T + 1) Z w' → Box w' R NodeT #[.int .i64 0, .int .i64 0, .int .i64 0, .string ⟨#[]⟩, .slice none 0 0] ∧ Box w' T TkT #[.int .i64 k, .int .i64 a, .int .i64 n, .string ⟨s.toArray⟩] ∧ Src l v w' ∧ T + 1 ≤ w'.heap.size ∧ Below w.heap.size w w') := Lib.hid (fun w' hb => by
    have hRT := HRT.out
    have hWT := HWT.out
    have q1 := HZR.out.below hb (by omega)
    have q2 := HZT.out.below hb (by omega)
    have q3 : Below w.heap.size w w' := HZB.out.trans (hb.mono (by omega))
    exact ⟨q1, q2, HSRC.out.on q3, q2.lt, q3⟩)
  have HB : Hid (Below (T + 1) Z Z) := Lib.hid (Below.refl _ _)
  clear f0 f1 f2 f3 y0 y1 y2 y3 hZ bR
  refine (says_src (HM.out _ HB.out).2.2.1 HB.out (HM.out _ HB.out).2.2.2.1 [105, 110, 116] (i) (by unfold I64; omega)).mono ?_
  rintro e w2 ⟨rfl, hb2⟩
  have HB2 := Lib.hid hb2
  clear hb2
  go_wp2_with (fail)
  refine (says_src (HM.out _ HB2.out).2.2.1 HB2.out (HM.out _ HB2.out).2.2.2.1 [98, 111, 111, 108] (i) (by unfold I64; omega)).mono ?_
  rintro e w3 ⟨rfl, hb3⟩
  have HB3 := Lib.hid hb3
  clear hb3
  go_wp2_with (fail)
  refine (says_src (HM.out _ HB3.out).2.2.1 HB3.out (HM.out _ HB3.out).2.2.2.1 [114, 101, 118] (i) (by unfold I64; omega)).mono ?_
  rintro e w4 ⟨rfl, hb4⟩
  have HB4 := Lib.hid hb4
  clear hb4
  go_wp2_with (fail)
  refine (is_src (HM.out _ HB4.out).2.2.1 HB4.out (HM.out _ HB4.out).2.2.2.1 [91] (i) (by unfold I64; omega)).mono ?_
  rintro e w5 ⟨rfl, hb5⟩
  have HB5 := Lib.hid hb5
  clear hb5
  go_wp2_with (fail)
  refine (is_src (HM.out _ HB5.out).2.2.1 HB5.out (HM.out _ HB5.out).2.2.2.1 [93] (i + 1) (by unfold I64; omega)).mono ?_
  rintro e w6 ⟨rfl, hb6⟩
  have HB6 := Lib.hid hb6
  clear hb6
  go_wp2_with (fail)
  refine (IH.out _ (HM.out _ HB6.out).2.2.1).mono ?_
  rintro e w7 ⟨rfl, hb7⟩
  have HB7 := Lib.hid (HB6.out.trans (hb7.mono (HM.out _ HB6.out).2.2.2.1))
  obtain ⟨V, hV⟩ : ∃ V, V = w7.alloc (.cells #[.int .i64 0, .int .i64 0, .int .i64 0, .string ⟨#[]⟩, .slice none 0 0] NodeT) := ⟨_, rfl⟩
  obtain ⟨O, hO⟩ : ∃ O, O = w7.heap.size := ⟨_, rfl⟩
  have hTO : T + 1 ≤ O := by rw [hO]; exact (HM.out _ HB7.out).2.2.2.1
  have hbV : Below (T + 1) Z V := by rw [hV]; exact HB7.out.alloc (HM.out _ HB7.out).2.2.2.1 _
  have bO : Box V O NodeT #[.int .i64 0, .int .i64 0, .int .i64 0, .string ⟨#[]⟩, .slice none 0 0] := by rw [hV]; exact Box.new _ _ _ _ hO
  have bR := (HM.out _ hbV).1
  have bT := (HM.out _ hbV).2.1
  have ne1 : ¬ R = T := by have := HRT.out; omega
  have ne2 : ¬ T = R := fun e => ne1 e.symm
  have ne3 : ¬ R = O := by have := HRT.out; omega
  have ne4 : ¬ O = R := fun e => ne3 e.symm
  have ne5 : ¬ T = O := by omega
  have ne6 : ¬ O = T := fun e => ne5 e.symm
  have HBU : Hid (Below (T + 1) Z (((((V.setCell ⟨O, 0, none⟩ (.int .i64 0)).setCell ⟨O, 1, none⟩ (.int .i64 0)).setCell ⟨O, 2, none⟩ (.int .i64 0)).setCell ⟨O, 3, none⟩ (.string ⟨#[]⟩)).setCell ⟨O, 4, none⟩ (.slice none 0 0))) := Lib.hid (below_five hbV hTO _ _ _ _ _)
  have r0 := bR.cell 0
  have r1 := bR.cell 1
  have r2 := bR.cell 2
  have r3 := bR.cell 3
  have r4 := bR.cell 4
  have g0 := bR.frozen 0
  have g1 := bR.frozen 1
  have g2 := bR.frozen 2
  have g3 := bR.frozen 3
  have g4 := bR.frozen 4
  simp only [List.getElem?_toArray, List.getElem?_cons_zero, List.getElem?_cons_succ] at r0 r1 r2 r3 r4
  have t0 := bT.cell 0
  have t1 := bT.cell 1
  have t3 := bT.cell 3
  simp only [List.getElem?_toArray, List.getElem?_cons_zero, List.getElem?_cons_succ] at t0 t1 t3
  have o0 := bO.cell 0
  have o1 := bO.cell 1
  have o2 := bO.cell 2
  have o3 := bO.cell 3
  have o4 := bO.cell 4
  have og0 := bO.frozen 0
  have og1 := bO.frozen 1
  have og2 := bO.frozen 2
  have og3 := bO.frozen 3
  have og4 := bO.frozen 4
  simp only [List.getElem?_toArray, List.getElem?_cons_zero, List.getElem?_cons_succ] at o0 o1 o2 o3 o4
  have HE := Lib.hid (no_end (j := j) HRR.out (HM.out _ HBU.out).1 (HM.out _ HBU.out).2.2.2.2)
  have HV := Lib.hid hV
  have HO := Lib.hid hO
  clear hV hO hTO hbV bO bR bT hb7
  go_wp2_with (first | (rw [← HV.out, ← HO.out]))
  refine bodyPost_ret (node_ret3 rfl rfl rfl rfl HE.out.1) rfl ?_
  rw [HP.out]
  exact HE.out.2
set_option maxHeartbeats 2000000 in
theorem typ_arr {l : List Tk} {v : Value} {i : Int} {w : World} (hs : Src l v w) (h0 : -9223372036854775808 ≤ i) {j : Int} {u : NT} (h1 : i + 1 < l.length) (hk : (tokAt l i).kind ≠ 1) (w0 : isW l i [105, 110, 116] = false) (w1 : isW l i [98, 111, 111, 108] = false) (w2 : isW l i [114, 101, 118] = false) (m1 : isM l i [91] = true) (m2 : isM l (i + 1) [93] = true) (ih : ∀ w', Src l v w' → Calls Tryd.prog 13 #[v, .int .i64 (i + 2)] w' (Told (.node u j) w')) :
    Calls Tryd.prog 13 #[v, .int .i64 i] w (Told (.node (.mk 5 (tokAt l i).at_ 0 [] [u]) j) w) := by
  have IH := Lib.hid ih
  clear ih
  obtain ⟨P, hP⟩ : ∃ P, P = Told (.node (.mk 5 (tokAt l i).at_ 0 [] [u]) j) w := ⟨_, rfl⟩
  rw [← hP]
  have HP := Lib.hid hP
  clear hP
  have HSRC := Lib.hid hs
  have hF := hs.fair i
  obtain ⟨R, hR⟩ : ∃ R, R = w.heap.size := ⟨_, rfl⟩
  obtain ⟨W, hW⟩ : ∃ W, W = w.alloc (.cells #[.int .i64 0, .int .i64 0, .int .i64 0, .string ⟨#[]⟩, .slice none 0 0] NodeT) := ⟨_, rfl⟩
  have hbW : Below w.heap.size w W := by rw [hW]; exact (Below.refl _ _).alloc (Nat.le_refl _) _
  have HBX : Hid (Box W R NodeT #[.int .i64 0, .int .i64 0, .int .i64 0, .string ⟨#[]⟩, .slice none 0 0]) := Lib.hid (by rw [hW]; exact Box.new _ _ _ _ hR)
  have HC := Lib.hid (rtok_any l v i W _ (hs.on hbW).lies hs.len (by unfold I64; have := hs.len; omega))
  unfold TokPost at HC
  obtain ⟨t, ht⟩ : ∃ t, t = tokAt l i := ⟨_, rfl⟩
  rw [← ht] at HC hF hk
  obtain ⟨k, a, n, s⟩ := t
  simp only [tkA] at HC hF hk
  have HF := Lib.hid hF
  have HT0 := Lib.hid ht
  have HW := Lib.hid hW
  have HRR := Lib.hid hR
  have HBW := Lib.hid hbW
  have hL := hs.len
  clear hW hR hbW hs hF ht
  go_enter Tryd.func13, Tryd.ntmps13
  go_wp2_with (first | (rw [← HW.out, ← HRR.out]))
  refine HC.out.mono ?_
  rintro e w1 ⟨rfl, hb1⟩
  obtain ⟨T, hT⟩ : ∃ T, T = w1.heap.size := ⟨_, rfl⟩
  obtain ⟨W1, hW1⟩ : ∃ W1, W1 = w1.alloc (.cells #[.int .i64 0, .int .i64 0, .int .i64 0, .string ⟨#[]⟩] TkT) := ⟨_, rfl⟩
  have hRT : R < T := by have := HBX.out.lt; have := hb1.size; omega
  have hB1 : Below w.heap.size w W1 := by rw [hW1]; exact (HBW.out.trans (hb1.mono HBW.out.size)).alloc (Nat.le_trans HBW.out.size hb1.size) _
  have bT : Box W1 T TkT #[.int .i64 0, .int .i64 0, .int .i64 0, .string ⟨#[]⟩] := by rw [hW1]; exact Box.new _ _ _ _ hT
  have bR : Box W1 R NodeT #[.int .i64 0, .int .i64 0, .int .i64 0, .string ⟨#[]⟩, .slice none 0 0] := by rw [hW1]; exact (HBX.out.on hb1).alloc _
  have hwT : w.heap.size ≤ T := by have := HRR.out; omega
  have HZT := Lib.hid (box_four bT (.int .i64 k) (.int .i64 a) (.int .i64 n) (.string ⟨s.toArray⟩))
  have HZR : Hid (Box ((((W1.setCell ⟨T, 0, none⟩ (.int .i64 k)).setCell ⟨T, 1, none⟩ (.int .i64 a)).setCell ⟨T, 2, none⟩ (.int .i64 n)).setCell ⟨T, 3, none⟩ (.string ⟨s.toArray⟩)) R NodeT #[.int .i64 0, .int .i64 0, .int .i64 0, .string ⟨#[]⟩, .slice none 0 0]) := Lib.hid ((((bR.far (by show R ≠ T; omega) _).far (by show R ≠ T; omega) _).far (by show R ≠ T; omega) _).far (by show R ≠ T; omega) _)
  have HZB := Lib.hid (below_four hB1 hwT (.int .i64 k) (.int .i64 a) (.int .i64 n) (.string ⟨s.toArray⟩))
  have f0 := bT.frozen 0
  have f1 := bT.frozen 1
  have f2 := bT.frozen 2
  have f3 := bT.frozen 3
  have y0 := bT.cell 0
  have y1 := bT.cell 1
  have y2 := bT.cell 2
  have y3 := bT.cell 3
  simp only [List.getElem?_toArray, List.getElem?_cons_zero, List.getElem?_cons_succ] at y0 y1 y2 y3
  have HW1 := Lib.hid hW1
  have HTT := Lib.hid hT
  have HRT := Lib.hid hRT
  have HWT := Lib.hid hwT
  clear hT hW1 hRT hB1 bT hb1 hwT HC
  have hk1 : (k == 1) = false := beq_eq_false_iff_ne.2 hk
  go_wp2_with (first | (rw [← HW1.out, ← HTT.out]))
  obtain ⟨Z, hZ⟩ : ∃ Z, Z = (((W1.setCell ⟨T, 0, none⟩ (.int .i64 k)).setCell ⟨T, 1, none⟩ (.int .i64 a)).setCell ⟨T, 2, none⟩ (.int .i64 n)).setCell ⟨T, 3, none⟩ (.string ⟨s.toArray⟩) := ⟨_, rfl⟩
  rw [← hZ] at HZT HZR HZB ⊢
  have HM : Hid (∀ w', Below (T + 1) Z w' → Box w' R NodeT #[.int .i64 0, .int .i64 0, .int .i64 0, .string ⟨#[]⟩, .slice none 0 0] ∧ Box w' T TkT #[.int .i64 k, .int .i64 a, .int .i64 n, .string ⟨s.toArray⟩] ∧ Src l v w' ∧ T + 1 ≤ w'.heap.size ∧ Below w.heap.size w w') := Lib.hid (fun w' hb => by
    have hRT := HRT.out
    have hWT := HWT.out
    have q1 := HZR.out.below hb (by omega)
    have q2 := HZT.out.below hb (by omega)
    have q3 : Below w.heap.size w w' := HZB.out.trans (hb.mono (by omega))
    exact ⟨q1, q2, HSRC.out.on q3, q2.lt, q3⟩)
  have HB : Hid (Below (T + 1) Z Z) := Lib.hid (Below.refl _ _)
  clear f0 f1 f2 f3 y0 y1 y2 y3 hZ bR
  refine (says_src (HM.out _ HB.out).2.2.1 HB.out (HM.out _ HB.out).2.2.2.1 [105, 110, 116] (i) (by unfold I64; omega)).mono ?_
  rintro e w2 ⟨rfl, hb2⟩
  have HB2 := Lib.hid hb2
  clear hb2
  go_wp2_with (fail)
  refine (says_src (HM.out _ HB2.out).2.2.1 HB2.out (HM.out _ HB2.out).2.2.2.1 [98, 111, 111, 108] (i) (by unfold I64; omega)).mono ?_
  rintro e w3 ⟨rfl, hb3⟩
  have HB3 := Lib.hid hb3
  clear hb3
  go_wp2_with (fail)
  refine (says_src (HM.out _ HB3.out).2.2.1 HB3.out (HM.out _ HB3.out).2.2.2.1 [114, 101, 118] (i) (by unfold I64; omega)).mono ?_
  rintro e w4 ⟨rfl, hb4⟩
  have HB4 := Lib.hid hb4
  clear hb4
  go_wp2_with (fail)
  refine (is_src (HM.out _ HB4.out).2.2.1 HB4.out (HM.out _ HB4.out).2.2.2.1 [91] (i) (by unfold I64; omega)).mono ?_
  rintro e w5 ⟨rfl, hb5⟩
  have HB5 := Lib.hid hb5
  clear hb5
  go_wp2_with (fail)
  refine (is_src (HM.out _ HB5.out).2.2.1 HB5.out (HM.out _ HB5.out).2.2.2.1 [93] (i + 1) (by unfold I64; omega)).mono ?_
  rintro e w6 ⟨rfl, hb6⟩
  have HB6 := Lib.hid hb6
  clear hb6
  go_wp2_with (fail)
  refine (IH.out _ (HM.out _ HB6.out).2.2.1).mono ?_
  rintro e w7 ⟨su, rfl, hk7, hd7, hb7⟩
  obtain ⟨A, c, rfl, _⟩ := hk7.form
  have HB7 := Lib.hid (HB6.out.trans (hb7.mono (HM.out _ HB6.out).2.2.2.1))
  obtain ⟨V, hV⟩ : ∃ V, V = w7.alloc (.cells #[.int .i64 0, .int .i64 0, .int .i64 0, .string ⟨#[]⟩, .slice none 0 0] NodeT) := ⟨_, rfl⟩
  obtain ⟨O, hO⟩ : ∃ O, O = w7.heap.size := ⟨_, rfl⟩
  have hTO : T + 1 ≤ O := by rw [hO]; exact (HM.out _ HB7.out).2.2.2.1
  have hbV : Below (T + 1) Z V := by rw [hV]; exact HB7.out.alloc (HM.out _ HB7.out).2.2.2.1 _
  have bO : Box V O NodeT #[.int .i64 0, .int .i64 0, .int .i64 0, .string ⟨#[]⟩, .slice none 0 0] := by rw [hV]; exact Box.new _ _ _ _ hO
  have bR := (HM.out _ hbV).1
  have bT := (HM.out _ hbV).2.1
  have ne1 : ¬ R = T := by have := HRT.out; omega
  have ne2 : ¬ T = R := fun e => ne1 e.symm
  have ne3 : ¬ R = O := by have := HRT.out; omega
  have ne4 : ¬ O = R := fun e => ne3 e.symm
  have ne5 : ¬ T = O := by omega
  have ne6 : ¬ O = T := fun e => ne5 e.symm
  have HBU : Hid (Below (T + 1) Z (((((V.setCell ⟨O, 0, none⟩ (.int .i64 u.kind)).setCell ⟨O, 1, none⟩ (.int .i64 u.at_)).setCell ⟨O, 2, none⟩ (.int .i64 u.num)).setCell ⟨O, 3, none⟩ (.string ⟨u.name.toArray⟩)).setCell ⟨O, 4, none⟩ (.slice A u.kids.length c))) := Lib.hid (below_five hbV hTO _ _ _ _ _)
  have r0 := bR.cell 0
  have r1 := bR.cell 1
  have r2 := bR.cell 2
  have r3 := bR.cell 3
  have r4 := bR.cell 4
  have g0 := bR.frozen 0
  have g1 := bR.frozen 1
  have g2 := bR.frozen 2
  have g3 := bR.frozen 3
  have g4 := bR.frozen 4
  simp only [List.getElem?_toArray, List.getElem?_cons_zero, List.getElem?_cons_succ] at r0 r1 r2 r3 r4
  have t0 := bT.cell 0
  have t1 := bT.cell 1
  have t3 := bT.cell 3
  simp only [List.getElem?_toArray, List.getElem?_cons_zero, List.getElem?_cons_succ] at t0 t1 t3
  have o0 := bO.cell 0
  have o1 := bO.cell 1
  have o2 := bO.cell 2
  have o3 := bO.cell 3
  have o4 := bO.cell 4
  have og0 := bO.frozen 0
  have og1 := bO.frozen 1
  have og2 := bO.frozen 2
  have og3 := bO.frozen 3
  have og4 := bO.frozen 4
  simp only [List.getElem?_toArray, List.getElem?_cons_zero, List.getElem?_cons_succ] at o0 o1 o2 o3 o4
  have hkU : nt.Kids (fun b => w.heap.size < b) (((((V.setCell ⟨O, 0, none⟩ (.int .i64 u.kind)).setCell ⟨O, 1, none⟩ (.int .i64 u.at_)).setCell ⟨O, 2, none⟩ (.int .i64 u.num)).setCell ⟨O, 3, none⟩ (.string ⟨u.name.toArray⟩)).setCell ⟨O, 4, none⟩ (.slice A u.kids.length c)) u.kids (.slice A u.kids.length c) := by
    have hk8 : nt.Kids (fun b => w.heap.size < b ∧ b < w7.heap.size) w7 u.kids (.slice A u.kids.length c) := (hk7.lt).mono fun b hb => ⟨by have h1 := hb.1; have h2 := (HM.out _ HB6.out).2.2.2.1; have := HRR.out; have := HRT.out; omega, hb.2⟩
    have hk9 : nt.Kids (fun b => w.heap.size < b ∧ b < w7.heap.size) V u.kids (.slice A u.kids.length c) := by rw [hV]; exact hk8.below ((Below.refl _ _).alloc (Nat.le_refl _) _)
    exact (kids_five hk9 (fun b hb => by have := hb.2; omega) _ _ _ _ _).mono fun b hb => hb.1
  obtain ⟨U, hU⟩ : ∃ U, U = ((((V.setCell ⟨O, 0, none⟩ (.int .i64 u.kind)).setCell ⟨O, 1, none⟩ (.int .i64 u.at_)).setCell ⟨O, 2, none⟩ (.int .i64 u.num)).setCell ⟨O, 3, none⟩ (.string ⟨u.name.toArray⟩)).setCell ⟨O, 4, none⟩ (.slice A u.kids.length c) := ⟨_, rfl⟩
  have bOU := box_five bO (.int .i64 u.kind) (.int .i64 u.at_) (.int .i64 u.num) (.string ⟨u.name.toArray⟩) (.slice A u.kids.length c)
  rw [← hU] at HBU hkU
  change Box (((((V.setCell ⟨O, 0, none⟩ (.int .i64 u.kind)).setCell ⟨O, 1, none⟩ (.int .i64 u.at_)).setCell ⟨O, 2, none⟩ (.int .i64 u.num)).setCell ⟨O, 3, none⟩ (.string ⟨u.name.toArray⟩)).setCell ⟨O, 4, none⟩ (.slice A u.kids.length c)) O NodeT _ at bOU
  rw [← hU] at bOU
  have bTU := (HM.out _ HBU.out).2.1
  have u1 := bTU.cell 1
  have v0 := bOU.cell 0
  have v1 := bOU.cell 1
  have v2 := bOU.cell 2
  have v3 := bOU.cell 3
  have v4 := bOU.cell 4
  simp only [List.getElem?_toArray, List.getElem?_cons_zero, List.getElem?_cons_succ] at u1 v0 v1 v2 v3 v4
  clear bOU bTU
  obtain ⟨N, hN⟩ : ∃ N, N = V.heap.size := ⟨_, rfl⟩
  have hNU : N = U.heap.size := by rw [hU, hN]; simp only [World.size_setCell]
  obtain ⟨X, hX⟩ : ∃ X, X = U.alloc (.cells #[.int .i64 u.kind, .int .i64 u.at_, .int .i64 u.num, .string ⟨u.name.toArray⟩, .slice A u.kids.length c] NodeT) := ⟨_, rfl⟩
  have hbX : Below (T + 1) Z X := by rw [hX]; exact HBU.out.alloc (HM.out _ HBU.out).2.2.2.1 _
  have hwN : w.heap.size < N := by rw [hNU]; have := (HM.out _ HBU.out).2.2.2.1; have := HRR.out; have := HRT.out; omega
  have hrow : nt.Kids (fun b => w.heap.size < b) X [u] (.slice (some ⟨N, 0, none⟩) 1 1) := by rw [hX]; exact row_one hNU hd7 hkU hwN
  have HE := Lib.hid (node_end (j := j) (t := .mk 5 a 0 [] [u]) HRR.out (HM.out _ hbX).1 ⟨by show I64 5; unfold I64; omega, HF.out.1, by show I64 0; unfold I64; omega, by show 0 ≤ 281474976710656; omega⟩ hrow (HM.out _ hbX).2.2.2.2)
  have bX := (HM.out _ hbX).1
  have x0 := bX.cell 0
  have x1 := bX.cell 1
  have x2 := bX.cell 2
  have x3 := bX.cell 3
  have x4 := bX.cell 4
  have xg0 := bX.frozen 0
  have xg1 := bX.frozen 1
  have xg2 := bX.frozen 2
  have xg3 := bX.frozen 3
  have xg4 := bX.frozen 4
  simp only [List.getElem?_toArray, List.getElem?_cons_zero, List.getElem?_cons_succ] at x0 x1 x2 x3 x4
  have HV := Lib.hid hV
  have HO := Lib.hid hO
  have HU := Lib.hid hU
  have HN := Lib.hid hN
  rw [hX] at HE x0 x1 x2 x3 x4 xg0 xg1 xg2 xg3 xg4
  have HNU := Lib.hid hNU
  clear hV hO hTO hbV bO bR bT hb7 hk7 hd7 hU hNU hN hX hbX hwN hrow bX hkU
  go_wp2_with (first | (rw [← HV.out, ← HO.out]) | (rw [← HU.out]) | (rw [← HNU.out]) | (rw [← HN.out]))
  refine bodyPost_ret (node_ret3 rfl rfl rfl rfl HE.out.1) rfl ?_
  rw [HP.out, ← HT0.out]
  exact HE.out.2
theorem typ_tok13 (l : List Tk) (v : Value) : ∀ (f : Nat) (i : Int) (w : World) (r : Res), Src l v w → -9223372036854775808 ≤ i → i ≤ 9223372036854775807 → run l f .typ i = some r →
    Calls Tryd.prog 13 #[v, .int .i64 i] w (Told r w)
  | 0, _, _, _, _, _, _, hr => by simp [run] at hr
  | f + 1, i, w, r, hs, h0, h1, hr => by
    have hLL := hs.len
    rw [run_succ] at hr
    simp only [stepR] at hr
    by_cases hk : (tokAt l i).kind = 1
    · rw [if_pos hk] at hr; cases hr
      exact typ_name hs h0 (tok_in (by rw [hk]; decide)).2 hk
    rw [if_neg hk] at hr
    by_cases w0 : isW l i sInt = true
    · rw [if_pos w0] at hr; cases hr
      exact typ_int hs h0 (isW_in w0).2 hk w0
    rw [if_neg w0] at hr
    by_cases w1 : isW l i sBool = true
    · rw [if_pos w1] at hr; cases hr
      exact typ_bool hs h0 (isW_in w1).2 hk (Bool.eq_false_iff.2 w0) w1
    rw [if_neg w1] at hr
    by_cases w2 : isW l i sRev = true
    · rw [if_pos w2] at hr; cases hr
      exact typ_rev hs h0 (isW_in w2).2 hk (Bool.eq_false_iff.2 w0) (Bool.eq_false_iff.2 w1) w2
    rw [if_neg w2] at hr
    by_cases m1 : isM l i [91] = false
    · rw [if_pos m1] at hr; cases hr
      exact typ_none hs h0 h1 hk (Bool.eq_false_iff.2 w0) (Bool.eq_false_iff.2 w1) (Bool.eq_false_iff.2 w2) m1
    rw [if_neg m1] at hr
    have m1' : isM l i [91] = true := by simpa using m1
    by_cases m2 : isM l (i + 1) [93] = false
    · rw [if_pos m2] at hr; cases hr
      exact typ_open hs h0 (isM_in m1').2 hk (Bool.eq_false_iff.2 w0) (Bool.eq_false_iff.2 w1) (Bool.eq_false_iff.2 w2) m1' m2
    rw [if_neg m2] at hr
    have m2' : isM l (i + 1) [93] = true := by simpa using m2
    have hb := (isM_in m2').2
    have ih := fun r2 w2 hs2 => typ_tok13 l v f (i + 2) w2 r2 hs2 (by omega) (by omega)
    cases hq : run l f .typ (i + 2) with
    | none => rw [hq] at hr; simp [andN] at hr
    | some r2 =>
      rw [hq] at hr
      cases r2 with
      | node n j =>
        simp only [andN] at hr; cases hr
        exact typ_arr hs h0 hb hk (Bool.eq_false_iff.2 w0) (Bool.eq_false_iff.2 w1) (Bool.eq_false_iff.2 w2) m1' m2' (fun w2 hs2 => ih _ w2 hs2 hq)
      | list ns j => simp [andN] at hr
      | no j =>
        simp only [andN] at hr; cases hr
        exact typ_arr_no hs h0 hb hk (Bool.eq_false_iff.2 w0) (Bool.eq_false_iff.2 w1) (Bool.eq_false_iff.2 w2) m1' m2' (fun w2 hs2 => ih _ w2 hs2 hq)
end Go.Proofs.YtgohkmdepjmpaaaDoor.pm

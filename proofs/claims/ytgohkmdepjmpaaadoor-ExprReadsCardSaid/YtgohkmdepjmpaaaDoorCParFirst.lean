/- The document's own reader of what stands alone. -/
import Derived.Test.YtgohkmdepjmpaaaDoorCParPart
namespace Go.Proofs.YtgohkmdepjmpaaaDoor.pm
open Go.RowKit wd lx nt ne mem
open vt (I64 own_form)

set_option maxRecDepth 100000 in
set_option maxHeartbeats 4000000 in
theorem first_num {l : List Tk} {v : Value} {i : Int} {w : World} (hs : Src l v w) (h0 : -9223372036854775808 ≤ i) (h1 : i < l.length) (hk : (tokAt l i).kind = 2) :
    Calls Tryd.prog 62 #[v, .int .i64 i] w (Told (.node (.mk 10 (tokAt l i).at_ (tokAt l i).n [] []) (i + 1)) w) := by
  obtain ⟨P, hP⟩ : ∃ P, P = Told (.node (.mk 10 (tokAt l i).at_ (tokAt l i).n [] []) (i + 1)) w := ⟨_, rfl⟩
  rw [← hP]
  have HP := Lib.hid hP
  clear hP
  have HSRC := Lib.hid hs
  have hF := hs.fair i
  obtain ⟨R, hR⟩ : ∃ R, R = w.heap.size := ⟨_, rfl⟩
  obtain ⟨W, hW⟩ : ∃ W, W = w.alloc (.cells #[.int .i64 0, .int .i64 0, .int .i64 0, .string ⟨#[]⟩, .slice none 0 0] NodeT) := ⟨_, rfl⟩
  have hbW : Below w.heap.size w W := by rw [hW]; exact (Below.refl _ _).alloc (Nat.le_refl _) _
  have HBX : Hid (Box W R NodeT #[.int .i64 0, .int .i64 0, .int .i64 0, .string ⟨#[]⟩, .slice none 0 0]) := Lib.hid (by rw [hW]; exact Box.new _ _ _ _ hR)
  have HC := Lib.hid (rtok_any l v i W _ (hs.on hbW).lies hs.len (by unfold I64; have := hs.len; omega))
  unfold TokPost at HC
  obtain ⟨t, ht⟩ : ∃ t, t = tokAt l i := ⟨_, rfl⟩
  rw [← ht] at HC hF hk
  obtain ⟨k, a, n, s⟩ := t
  simp only [tkA] at HC hF hk
  have HF := Lib.hid hF
  have HT0 := Lib.hid ht
  have HW := Lib.hid hW
  have HRR := Lib.hid hR
  have HBW := Lib.hid hbW
  have hL := hs.len
  clear hW hR hbW hs hF ht
  go_enter Tryd.func62, Tryd.ntmps62
  go_wp2_with (first | (rw [← HW.out, ← HRR.out]))
  refine HC.out.mono ?_
  rintro e w1 ⟨rfl, hb1⟩
  obtain ⟨T, hT⟩ : ∃ T, T = w1.heap.size := ⟨_, rfl⟩
  obtain ⟨W1, hW1⟩ : ∃ W1, W1 = w1.alloc (.cells #[.int .i64 0, .int .i64 0, .int .i64 0, .string ⟨#[]⟩] TkT) := ⟨_, rfl⟩
  have hRT : R < T := by have := HBX.out.lt; have := hb1.size; omega
  have hB1 : Below w.heap.size w W1 := by rw [hW1]; exact (HBW.out.trans (hb1.mono HBW.out.size)).alloc (Nat.le_trans HBW.out.size hb1.size) _
  have bT : Box W1 T TkT #[.int .i64 0, .int .i64 0, .int .i64 0, .string ⟨#[]⟩] := by rw [hW1]; exact Box.new _ _ _ _ hT
  have bR : Box W1 R NodeT #[.int .i64 0, .int .i64 0, .int .i64 0, .string ⟨#[]⟩, .slice none 0 0] := by rw [hW1]; exact (HBX.out.on hb1).alloc _
  have hwT : w.heap.size ≤ T := by have := HRR.out; omega
  have HZT := Lib.hid (box_four bT (.int .i64 k) (.int .i64 a) (.int .i64 n) (.string ⟨s.toArray⟩))
  have HZR : Hid (Box ((((W1.setCell ⟨T, 0, none⟩ (.int .i64 k)).setCell ⟨T, 1, none⟩ (.int .i64 a)).setCell ⟨T, 2, none⟩ (.int .i64 n)).setCell ⟨T, 3, none⟩ (.string ⟨s.toArray⟩)) R NodeT #[.int .i64 0, .int .i64 0, .int .i64 0, .string ⟨#[]⟩, .slice none 0 0]) := Lib.hid ((((bR.far (by show R ≠ T; omega) _).far (by show R ≠ T; omega) _).far (by show R ≠ T; omega) _).far (by show R ≠ T; omega) _)
  have HZB := Lib.hid (below_four hB1 hwT (.int .i64 k) (.int .i64 a) (.int .i64 n) (.string ⟨s.toArray⟩))
  have f0 := bT.frozen 0
  have f1 := bT.frozen 1
  have f2 := bT.frozen 2
  have f3 := bT.frozen 3
  have y0 := bT.cell 0
  have y1 := bT.cell 1
  have y2 := bT.cell 2
  have y3 := bT.cell 3
  simp only [List.getElem?_toArray, List.getElem?_cons_zero, List.getElem?_cons_succ] at y0 y1 y2 y3
  have HW1 := Lib.hid hW1
  have HTT := Lib.hid hT
  have HRT := Lib.hid hRT
  have HWT := Lib.hid hwT
  clear hT hW1 hRT hB1 bT hb1 hwT HC
  have HE := Lib.hid (node_end (j := i + 1) (t := .mk 10 a n [] []) HRR.out HZR.out ⟨by show I64 (10); unfold I64; omega, HF.out.1, HF.out.2.1, by show 0 ≤ 281474976710656; omega⟩ (nt.Kids.nil_ _ _) HZB.out)
  subst hk
  have ne1 : ¬ R = T := by have := HRT.out; omega
  have ne2 : ¬ T = R := fun e => ne1 e.symm
  have r0 := bR.cell 0
  have r1 := bR.cell 1
  have r2 := bR.cell 2
  have r3 := bR.cell 3
  have r4 := bR.cell 4
  have g0 := bR.frozen 0
  have g1 := bR.frozen 1
  have g2 := bR.frozen 2
  have g3 := bR.frozen 3
  have g4 := bR.frozen 4
  simp only [List.getElem?_toArray, List.getElem?_cons_zero, List.getElem?_cons_succ] at r0 r1 r2 r3 r4
  clear bR
  go_wp2_with (first | (rw [← HW1.out, ← HTT.out]))
  refine bodyPost_ret (node_ret3 rfl rfl rfl rfl HE.out.1) rfl ?_
  rw [HP.out, ← HT0.out]
  exact HE.out.2
set_option maxRecDepth 100000 in
set_option maxHeartbeats 4000000 in
theorem first_true {l : List Tk} {v : Value} {i : Int} {w : World} (hs : Src l v w) (h0 : -9223372036854775808 ≤ i) (h1 : i < l.length) (hk : (tokAt l i).kind ≠ 2) (w0 : isW l i [116, 114, 117, 101] = true) :
    Calls Tryd.prog 62 #[v, .int .i64 i] w (Told (.node (.mk 11 (tokAt l i).at_ 1 [] []) (i + 1)) w) := by
  obtain ⟨P, hP⟩ : ∃ P, P = Told (.node (.mk 11 (tokAt l i).at_ 1 [] []) (i + 1)) w := ⟨_, rfl⟩
  rw [← hP]
  have HP := Lib.hid hP
  clear hP
  have HSRC := Lib.hid hs
  have hF := hs.fair i
  obtain ⟨R, hR⟩ : ∃ R, R = w.heap.size := ⟨_, rfl⟩
  obtain ⟨W, hW⟩ : ∃ W, W = w.alloc (.cells #[.int .i64 0, .int .i64 0, .int .i64 0, .string ⟨#[]⟩, .slice none 0 0] NodeT) := ⟨_, rfl⟩
  have hbW : Below w.heap.size w W := by rw [hW]; exact (Below.refl _ _).alloc (Nat.le_refl _) _
  have HBX : Hid (Box W R NodeT #[.int .i64 0, .int .i64 0, .int .i64 0, .string ⟨#[]⟩, .slice none 0 0]) := Lib.hid (by rw [hW]; exact Box.new _ _ _ _ hR)
  have HC := Lib.hid (rtok_any l v i W _ (hs.on hbW).lies hs.len (by unfold I64; have := hs.len; omega))
  unfold TokPost at HC
  obtain ⟨t, ht⟩ : ∃ t, t = tokAt l i := ⟨_, rfl⟩
  rw [← ht] at HC hF hk
  obtain ⟨k, a, n, s⟩ := t
  simp only [tkA] at HC hF hk
  have HF := Lib.hid hF
  have HT0 := Lib.hid ht
  have HW := Lib.hid hW
  have HRR := Lib.hid hR
  have HBW := Lib.hid hbW
  have hL := hs.len
  clear hW hR hbW hs hF ht
  go_enter Tryd.func62, Tryd.ntmps62
  go_wp2_with (first | (rw [← HW.out, ← HRR.out]))
  refine HC.out.mono ?_
  rintro e w1 ⟨rfl, hb1⟩
  obtain ⟨T, hT⟩ : ∃ T, T = w1.heap.size := ⟨_, rfl⟩
  obtain ⟨W1, hW1⟩ : ∃ W1, W1 = w1.alloc (.cells #[.int .i64 0, .int .i64 0, .int .i64 0, .string ⟨#[]⟩] TkT) := ⟨_, rfl⟩
  have hRT : R < T := by have := HBX.out.lt; have := hb1.size; omega
  have hB1 : Below w.heap.size w W1 := by rw [hW1]; exact (HBW.out.trans (hb1.mono HBW.out.size)).alloc (Nat.le_trans HBW.out.size hb1.size) _
  have bT : Box W1 T TkT #[.int .i64 0, .int .i64 0, .int .i64 0, .string ⟨#[]⟩] := by rw [hW1]; exact Box.new _ _ _ _ hT
  have bR : Box W1 R NodeT #[.int .i64 0, .int .i64 0, .int .i64 0, .string ⟨#[]⟩, .slice none 0 0] := by rw [hW1]; exact (HBX.out.on hb1).alloc _
  have hwT : w.heap.size ≤ T := by have := HRR.out; omega
  have HZT := Lib.hid (box_four bT (.int .i64 k) (.int .i64 a) (.int .i64 n) (.string ⟨s.toArray⟩))
  have HZR : Hid (Box ((((W1.setCell ⟨T, 0, none⟩ (.int .i64 k)).setCell ⟨T, 1, none⟩ (.int .i64 a)).setCell ⟨T, 2, none⟩ (.int .i64 n)).setCell ⟨T, 3, none⟩ (.string ⟨s.toArray⟩)) R NodeT #[.int .i64 0, .int .i64 0, .int .i64 0, .string ⟨#[]⟩, .slice none 0 0]) := Lib.hid ((((bR.far (by show R ≠ T; omega) _).far (by show R ≠ T; omega) _).far (by show R ≠ T; omega) _).far (by show R ≠ T; omega) _)
  have HZB := Lib.hid (below_four hB1 hwT (.int .i64 k) (.int .i64 a) (.int .i64 n) (.string ⟨s.toArray⟩))
  have f0 := bT.frozen 0
  have f1 := bT.frozen 1
  have f2 := bT.frozen 2
  have f3 := bT.frozen 3
  have y0 := bT.cell 0
  have y1 := bT.cell 1
  have y2 := bT.cell 2
  have y3 := bT.cell 3
  simp only [List.getElem?_toArray, List.getElem?_cons_zero, List.getElem?_cons_succ] at y0 y1 y2 y3
  have HW1 := Lib.hid hW1
  have HTT := Lib.hid hT
  have HRT := Lib.hid hRT
  have HWT := Lib.hid hwT
  clear hT hW1 hRT hB1 bT hb1 hwT HC
  have hk2 : (k == 2) = false := beq_eq_false_iff_ne.2 hk
  go_wp2_with (first | (rw [← HW1.out, ← HTT.out]))
  obtain ⟨Z, hZ⟩ : ∃ Z, Z = (((W1.setCell ⟨T, 0, none⟩ (.int .i64 k)).setCell ⟨T, 1, none⟩ (.int .i64 a)).setCell ⟨T, 2, none⟩ (.int .i64 n)).setCell ⟨T, 3, none⟩ (.string ⟨s.toArray⟩) := ⟨_, rfl⟩
  rw [← hZ] at HZT HZR HZB ⊢
  have HM : Hid (∀ w', Below (T + 1) Z w' → Box w' R NodeT #[.int .i64 0, .int .i64 0, .int .i64 0, .string ⟨#[]⟩, .slice none 0 0] ∧ Box w' T TkT #[.int .i64 k, .int .i64 a, .int .i64 n, .string ⟨s.toArray⟩] ∧ Src l v w' ∧ T + 1 ≤ w'.heap.size ∧ Below w.heap.size w w') := Lib.hid (fun w' hb => by
    have hRT := HRT.out
    have hWT := HWT.out
    have q1 := HZR.out.below hb (by omega)
    have q2 := HZT.out.below hb (by omega)
    have q3 : Below w.heap.size w w' := HZB.out.trans (hb.mono (by omega))
    exact ⟨q1, q2, HSRC.out.on q3, q2.lt, q3⟩)
  have HB : Hid (Below (T + 1) Z Z) := Lib.hid (Below.refl _ _)
  clear f0 f1 f2 f3 y0 y1 y2 y3 hZ bR
  refine (says_src (HM.out _ HB.out).2.2.1 HB.out (HM.out _ HB.out).2.2.2.1 [116, 114, 117, 101] (i) (by unfold I64; omega)).mono ?_
  rintro e w2 ⟨rfl, hb2⟩
  have HB2 := Lib.hid hb2
  clear hb2
  have bR := (HM.out _ HB2.out).1
  have bT := (HM.out _ HB2.out).2.1
  have HE := Lib.hid (node_end (j := i + 1) (t := .mk 11 a 1 [] []) HRR.out bR ⟨by show I64 (11); unfold I64; omega, HF.out.1, by show I64 1; unfold I64; omega, by show 0 ≤ 281474976710656; omega⟩ (nt.Kids.nil_ _ _) (HM.out _ HB2.out).2.2.2.2)
  have ne1 : ¬ R = T := by have := HRT.out; omega
  have ne2 : ¬ T = R := fun e => ne1 e.symm
  have r0 := bR.cell 0
  have r1 := bR.cell 1
  have r2 := bR.cell 2
  have r3 := bR.cell 3
  have r4 := bR.cell 4
  have g0 := bR.frozen 0
  have g1 := bR.frozen 1
  have g2 := bR.frozen 2
  have g3 := bR.frozen 3
  have g4 := bR.frozen 4
  simp only [List.getElem?_toArray, List.getElem?_cons_zero, List.getElem?_cons_succ] at r0 r1 r2 r3 r4
  have t0 := bT.cell 0
  have t1 := bT.cell 1
  have t3 := bT.cell 3
  simp only [List.getElem?_toArray, List.getElem?_cons_zero, List.getElem?_cons_succ] at t0 t1 t3
  clear bR bT
  go_wp2_with (fail)
  refine bodyPost_ret (node_ret3 rfl rfl rfl rfl HE.out.1) rfl ?_
  rw [HP.out, ← HT0.out]
  exact HE.out.2
set_option maxRecDepth 100000 in
set_option maxHeartbeats 4000000 in
theorem first_false {l : List Tk} {v : Value} {i : Int} {w : World} (hs : Src l v w) (h0 : -9223372036854775808 ≤ i) (h1 : i < l.length) (hk : (tokAt l i).kind ≠ 2) (w0 : isW l i [116, 114, 117, 101] = false) (w1 : isW l i [102, 97, 108, 115, 101] = true) :
    Calls Tryd.prog 62 #[v, .int .i64 i] w (Told (.node (.mk 11 (tokAt l i).at_ 0 [] []) (i + 1)) w) := by
  obtain ⟨P, hP⟩ : ∃ P, P = Told (.node (.mk 11 (tokAt l i).at_ 0 [] []) (i + 1)) w := ⟨_, rfl⟩
  rw [← hP]
  have HP := Lib.hid hP
  clear hP
  have HSRC := Lib.hid hs
  have hF := hs.fair i
  obtain ⟨R, hR⟩ : ∃ R, R = w.heap.size := ⟨_, rfl⟩
  obtain ⟨W, hW⟩ : ∃ W, W = w.alloc (.cells #[.int .i64 0, .int .i64 0, .int .i64 0, .string ⟨#[]⟩, .slice none 0 0] NodeT) := ⟨_, rfl⟩
  have hbW : Below w.heap.size w W := by rw [hW]; exact (Below.refl _ _).alloc (Nat.le_refl _) _
  have HBX : Hid (Box W R NodeT #[.int .i64 0, .int .i64 0, .int .i64 0, .string ⟨#[]⟩, .slice none 0 0]) := Lib.hid (by rw [hW]; exact Box.new _ _ _ _ hR)
  have HC := Lib.hid (rtok_any l v i W _ (hs.on hbW).lies hs.len (by unfold I64; have := hs.len; omega))
  unfold TokPost at HC
  obtain ⟨t, ht⟩ : ∃ t, t = tokAt l i := ⟨_, rfl⟩
  rw [← ht] at HC hF hk
  obtain ⟨k, a, n, s⟩ := t
  simp only [tkA] at HC hF hk
  have HF := Lib.hid hF
  have HT0 := Lib.hid ht
  have HW := Lib.hid hW
  have HRR := Lib.hid hR
  have HBW := Lib.hid hbW
  have hL := hs.len
  clear hW hR hbW hs hF ht
  go_enter Tryd.func62, Tryd.ntmps62
  go_wp2_with (first | (rw [← HW.out, ← HRR.out]))
  refine HC.out.mono ?_
  rintro e w1 ⟨rfl, hb1⟩
  obtain ⟨T, hT⟩ : ∃ T, T = w1.heap.size := ⟨_, rfl⟩
  obtain ⟨W1, hW1⟩ : ∃ W1, W1 = w1.alloc (.cells #[.int .i64 0, .int .i64 0, .int .i64 0, .string ⟨#[]⟩] TkT) := ⟨_, rfl⟩
  have hRT : R < T := by have := HBX.out.lt; have := hb1.size; omega
  have hB1 : Below w.heap.size w W1 := by rw [hW1]; exact (HBW.out.trans (hb1.mono HBW.out.size)).alloc (Nat.le_trans HBW.out.size hb1.size) _
  have bT : Box W1 T TkT #[.int .i64 0, .int .i64 0, .int .i64 0, .string ⟨#[]⟩] := by rw [hW1]; exact Box.new _ _ _ _ hT
  have bR : Box W1 R NodeT #[.int .i64 0, .int .i64 0, .int .i64 0, .string ⟨#[]⟩, .slice none 0 0] := by rw [hW1]; exact (HBX.out.on hb1).alloc _
  have hwT : w.heap.size ≤ T := by have := HRR.out; omega
  have HZT := Lib.hid (box_four bT (.int .i64 k) (.int .i64 a) (.int .i64 n) (.string ⟨s.toArray⟩))
  have HZR : Hid (Box ((((W1.setCell ⟨T, 0, none⟩ (.int .i64 k)).setCell ⟨T, 1, none⟩ (.int .i64 a)).setCell ⟨T, 2, none⟩ (.int .i64 n)).setCell ⟨T, 3, none⟩ (.string ⟨s.toArray⟩)) R NodeT #[.int .i64 0, .int .i64 0, .int .i64 0, .string ⟨#[]⟩, .slice none 0 0]) := Lib.hid ((((bR.far (by show R ≠ T; omega) _).far (by show R ≠ T; omega) _).far (by show R ≠ T; omega) _).far (by show R ≠ T; omega) _)
  have HZB := Lib.hid (below_four hB1 hwT (.int .i64 k) (.int .i64 a) (.int .i64 n) (.string ⟨s.toArray⟩))
  have f0 := bT.frozen 0
  have f1 := bT.frozen 1
  have f2 := bT.frozen 2
  have f3 := bT.frozen 3
  have y0 := bT.cell 0
  have y1 := bT.cell 1
  have y2 := bT.cell 2
  have y3 := bT.cell 3
  simp only [List.getElem?_toArray, List.getElem?_cons_zero, List.getElem?_cons_succ] at y0 y1 y2 y3
  have HW1 := Lib.hid hW1
  have HTT := Lib.hid hT
  have HRT := Lib.hid hRT
  have HWT := Lib.hid hwT
  clear hT hW1 hRT hB1 bT hb1 hwT HC
  have hk2 : (k == 2) = false := beq_eq_false_iff_ne.2 hk
  go_wp2_with (first | (rw [← HW1.out, ← HTT.out]))
  obtain ⟨Z, hZ⟩ : ∃ Z, Z = (((W1.setCell ⟨T, 0, none⟩ (.int .i64 k)).setCell ⟨T, 1, none⟩ (.int .i64 a)).setCell ⟨T, 2, none⟩ (.int .i64 n)).setCell ⟨T, 3, none⟩ (.string ⟨s.toArray⟩) := ⟨_, rfl⟩
  rw [← hZ] at HZT HZR HZB ⊢
  have HM : Hid (∀ w', Below (T + 1) Z w' → Box w' R NodeT #[.int .i64 0, .int .i64 0, .int .i64 0, .string ⟨#[]⟩, .slice none 0 0] ∧ Box w' T TkT #[.int .i64 k, .int .i64 a, .int .i64 n, .string ⟨s.toArray⟩] ∧ Src l v w' ∧ T + 1 ≤ w'.heap.size ∧ Below w.heap.size w w') := Lib.hid (fun w' hb => by
    have hRT := HRT.out
    have hWT := HWT.out
    have q1 := HZR.out.below hb (by omega)
    have q2 := HZT.out.below hb (by omega)
    have q3 : Below w.heap.size w w' := HZB.out.trans (hb.mono (by omega))
    exact ⟨q1, q2, HSRC.out.on q3, q2.lt, q3⟩)
  have HB : Hid (Below (T + 1) Z Z) := Lib.hid (Below.refl _ _)
  clear f0 f1 f2 f3 y0 y1 y2 y3 hZ bR
  refine (says_src (HM.out _ HB.out).2.2.1 HB.out (HM.out _ HB.out).2.2.2.1 [116, 114, 117, 101] (i) (by unfold I64; omega)).mono ?_
  rintro e w2 ⟨rfl, hb2⟩
  have HB2 := Lib.hid hb2
  clear hb2
  go_wp2_with (fail)
  refine (says_src (HM.out _ HB2.out).2.2.1 HB2.out (HM.out _ HB2.out).2.2.2.1 [102, 97, 108, 115, 101] (i) (by unfold I64; omega)).mono ?_
  rintro e w3 ⟨rfl, hb3⟩
  have HB3 := Lib.hid hb3
  clear hb3
  have bR := (HM.out _ HB3.out).1
  have bT := (HM.out _ HB3.out).2.1
  have HE := Lib.hid (node_end (j := i + 1) (t := .mk 11 a 0 [] []) HRR.out bR ⟨by show I64 (11); unfold I64; omega, HF.out.1, by show I64 0; unfold I64; omega, by show 0 ≤ 281474976710656; omega⟩ (nt.Kids.nil_ _ _) (HM.out _ HB3.out).2.2.2.2)
  have ne1 : ¬ R = T := by have := HRT.out; omega
  have ne2 : ¬ T = R := fun e => ne1 e.symm
  have r0 := bR.cell 0
  have r1 := bR.cell 1
  have r2 := bR.cell 2
  have r3 := bR.cell 3
  have r4 := bR.cell 4
  have g0 := bR.frozen 0
  have g1 := bR.frozen 1
  have g2 := bR.frozen 2
  have g3 := bR.frozen 3
  have g4 := bR.frozen 4
  simp only [List.getElem?_toArray, List.getElem?_cons_zero, List.getElem?_cons_succ] at r0 r1 r2 r3 r4
  have t0 := bT.cell 0
  have t1 := bT.cell 1
  have t3 := bT.cell 3
  simp only [List.getElem?_toArray, List.getElem?_cons_zero, List.getElem?_cons_succ] at t0 t1 t3
  clear bR bT
  go_wp2_with (fail)
  refine bodyPost_ret (node_ret3 rfl rfl rfl rfl HE.out.1) rfl ?_
  rw [HP.out, ← HT0.out]
  exact HE.out.2
set_option maxRecDepth 100000 in
set_option maxHeartbeats 4000000 in
theorem first_name {l : List Tk} {v : Value} {i : Int} {w : World} (hs : Src l v w) (h0 : -9223372036854775808 ≤ i) (h1 : i < l.length) (hk : (tokAt l i).kind ≠ 2) (hk1 : (tokAt l i).kind = 1) (w0 : isW l i [116, 114, 117, 101] = false) (w1 : isW l i [102, 97, 108, 115, 101] = false) (m1 : isM l (i + 1) [40] = false) :
    Calls Tryd.prog 62 #[v, .int .i64 i] w (Told (.node (.mk 12 (tokAt l i).at_ 0 (tokAt l i).text []) (i + 1)) w) := by
  obtain ⟨P, hP⟩ : ∃ P, P = Told (.node (.mk 12 (tokAt l i).at_ 0 (tokAt l i).text []) (i + 1)) w := ⟨_, rfl⟩
  rw [← hP]
  have HP := Lib.hid hP
  clear hP
  have HSRC := Lib.hid hs
  have hF := hs.fair i
  obtain ⟨R, hR⟩ : ∃ R, R = w.heap.size := ⟨_, rfl⟩
  obtain ⟨W, hW⟩ : ∃ W, W = w.alloc (.cells #[.int .i64 0, .int .i64 0, .int .i64 0, .string ⟨#[]⟩, .slice none 0 0] NodeT) := ⟨_, rfl⟩
  have hbW : Below w.heap.size w W := by rw [hW]; exact (Below.refl _ _).alloc (Nat.le_refl _) _
  have HBX : Hid (Box W R NodeT #[.int .i64 0, .int .i64 0, .int .i64 0, .string ⟨#[]⟩, .slice none 0 0]) := Lib.hid (by rw [hW]; exact Box.new _ _ _ _ hR)
  have HC := Lib.hid (rtok_any l v i W _ (hs.on hbW).lies hs.len (by unfold I64; have := hs.len; omega))
  unfold TokPost at HC
  obtain ⟨t, ht⟩ : ∃ t, t = tokAt l i := ⟨_, rfl⟩
  rw [← ht] at HC hF hk hk1
  obtain ⟨k, a, n, s⟩ := t
  simp only [tkA] at HC hF hk hk1
  have HF := Lib.hid hF
  have HT0 := Lib.hid ht
  have HW := Lib.hid hW
  have HRR := Lib.hid hR
  have HBW := Lib.hid hbW
  have hL := hs.len
  clear hW hR hbW hs hF ht
  go_enter Tryd.func62, Tryd.ntmps62
  go_wp2_with (first | (rw [← HW.out, ← HRR.out]))
  refine HC.out.mono ?_
  rintro e w1 ⟨rfl, hb1⟩
  obtain ⟨T, hT⟩ : ∃ T, T = w1.heap.size := ⟨_, rfl⟩
  obtain ⟨W1, hW1⟩ : ∃ W1, W1 = w1.alloc (.cells #[.int .i64 0, .int .i64 0, .int .i64 0, .string ⟨#[]⟩] TkT) := ⟨_, rfl⟩
  have hRT : R < T := by have := HBX.out.lt; have := hb1.size; omega
  have hB1 : Below w.heap.size w W1 := by rw [hW1]; exact (HBW.out.trans (hb1.mono HBW.out.size)).alloc (Nat.le_trans HBW.out.size hb1.size) _
  have bT : Box W1 T TkT #[.int .i64 0, .int .i64 0, .int .i64 0, .string ⟨#[]⟩] := by rw [hW1]; exact Box.new _ _ _ _ hT
  have bR : Box W1 R NodeT #[.int .i64 0, .int .i64 0, .int .i64 0, .string ⟨#[]⟩, .slice none 0 0] := by rw [hW1]; exact (HBX.out.on hb1).alloc _
  have hwT : w.heap.size ≤ T := by have := HRR.out; omega
  have HZT := Lib.hid (box_four bT (.int .i64 k) (.int .i64 a) (.int .i64 n) (.string ⟨s.toArray⟩))
  have HZR : Hid (Box ((((W1.setCell ⟨T, 0, none⟩ (.int .i64 k)).setCell ⟨T, 1, none⟩ (.int .i64 a)).setCell ⟨T, 2, none⟩ (.int .i64 n)).setCell ⟨T, 3, none⟩ (.string ⟨s.toArray⟩)) R NodeT #[.int .i64 0, .int .i64 0, .int .i64 0, .string ⟨#[]⟩, .slice none 0 0]) := Lib.hid ((((bR.far (by show R ≠ T; omega) _).far (by show R ≠ T; omega) _).far (by show R ≠ T; omega) _).far (by show R ≠ T; omega) _)
  have HZB := Lib.hid (below_four hB1 hwT (.int .i64 k) (.int .i64 a) (.int .i64 n) (.string ⟨s.toArray⟩))
  have f0 := bT.frozen 0
  have f1 := bT.frozen 1
  have f2 := bT.frozen 2
  have f3 := bT.frozen 3
  have y0 := bT.cell 0
  have y1 := bT.cell 1
  have y2 := bT.cell 2
  have y3 := bT.cell 3
  simp only [List.getElem?_toArray, List.getElem?_cons_zero, List.getElem?_cons_succ] at y0 y1 y2 y3
  have HW1 := Lib.hid hW1
  have HTT := Lib.hid hT
  have HRT := Lib.hid hRT
  have HWT := Lib.hid hwT
  clear hT hW1 hRT hB1 bT hb1 hwT HC
  subst hk1
  clear hk
  go_wp2_with (first | (rw [← HW1.out, ← HTT.out]))
  obtain ⟨Z, hZ⟩ : ∃ Z, Z = (((W1.setCell ⟨T, 0, none⟩ (.int .i64 1)).setCell ⟨T, 1, none⟩ (.int .i64 a)).setCell ⟨T, 2, none⟩ (.int .i64 n)).setCell ⟨T, 3, none⟩ (.string ⟨s.toArray⟩) := ⟨_, rfl⟩
  rw [← hZ] at HZT HZR HZB ⊢
  have HM : Hid (∀ w', Below (T + 1) Z w' → Box w' R NodeT #[.int .i64 0, .int .i64 0, .int .i64 0, .string ⟨#[]⟩, .slice none 0 0] ∧ Box w' T TkT #[.int .i64 1, .int .i64 a, .int .i64 n, .string ⟨s.toArray⟩] ∧ Src l v w' ∧ T + 1 ≤ w'.heap.size ∧ Below w.heap.size w w') := Lib.hid (fun w' hb => by
    have hRT := HRT.out
    have hWT := HWT.out
    have q1 := HZR.out.below hb (by omega)
    have q2 := HZT.out.below hb (by omega)
    have q3 : Below w.heap.size w w' := HZB.out.trans (hb.mono (by omega))
    exact ⟨q1, q2, HSRC.out.on q3, q2.lt, q3⟩)
  have HB : Hid (Below (T + 1) Z Z) := Lib.hid (Below.refl _ _)
  clear f0 f1 f2 f3 y0 y1 y2 y3 hZ bR
  refine (says_src (HM.out _ HB.out).2.2.1 HB.out (HM.out _ HB.out).2.2.2.1 [116, 114, 117, 101] (i) (by unfold I64; omega)).mono ?_
  rintro e w2 ⟨rfl, hb2⟩
  have HB2 := Lib.hid hb2
  clear hb2
  go_wp2_with (fail)
  refine (says_src (HM.out _ HB2.out).2.2.1 HB2.out (HM.out _ HB2.out).2.2.2.1 [102, 97, 108, 115, 101] (i) (by unfold I64; omega)).mono ?_
  rintro e w3 ⟨rfl, hb3⟩
  have HB3 := Lib.hid hb3
  clear hb3
  have bT := (HM.out _ HB3.out).2.1
  have t0 := bT.cell 0
  have t1 := bT.cell 1
  have t3 := bT.cell 3
  simp only [List.getElem?_toArray, List.getElem?_cons_zero, List.getElem?_cons_succ] at t0 t1 t3
  clear bT
  go_wp2_with (fail)
  clear t0 t1 t3
  refine (is_src (HM.out _ HB3.out).2.2.1 HB3.out (HM.out _ HB3.out).2.2.2.1 [40] (i + 1) (by unfold I64; omega)).mono ?_
  rintro e w4 ⟨rfl, hb4⟩
  have HB4 := Lib.hid hb4
  clear hb4
  have bR := (HM.out _ HB4.out).1
  have bT := (HM.out _ HB4.out).2.1
  have HE := Lib.hid (node_end (j := i + 1) (t := .mk 12 a 0 s []) HRR.out bR ⟨by show I64 (12); unfold I64; omega, HF.out.1, by show I64 0; unfold I64; omega, HF.out.2.2⟩ (nt.Kids.nil_ _ _) (HM.out _ HB4.out).2.2.2.2)
  have ne1 : ¬ R = T := by have := HRT.out; omega
  have ne2 : ¬ T = R := fun e => ne1 e.symm
  have r0 := bR.cell 0
  have r1 := bR.cell 1
  have r2 := bR.cell 2
  have r3 := bR.cell 3
  have r4 := bR.cell 4
  have g0 := bR.frozen 0
  have g1 := bR.frozen 1
  have g2 := bR.frozen 2
  have g3 := bR.frozen 3
  have g4 := bR.frozen 4
  simp only [List.getElem?_toArray, List.getElem?_cons_zero, List.getElem?_cons_succ] at r0 r1 r2 r3 r4
  have t0 := bT.cell 0
  have t1 := bT.cell 1
  have t3 := bT.cell 3
  simp only [List.getElem?_toArray, List.getElem?_cons_zero, List.getElem?_cons_succ] at t0 t1 t3
  clear bR bT
  go_wp2_with (fail)
  refine bodyPost_ret (node_ret3 rfl rfl rfl rfl HE.out.1) rfl ?_
  rw [HP.out, ← HT0.out]
  exact HE.out.2
set_option maxRecDepth 100000 in
set_option maxHeartbeats 4000000 in
theorem first_call_no {l : List Tk} {v : Value} {i : Int} {w : World} (hs : Src l v w) (h0 : -9223372036854775808 ≤ i) {j : Int} (h1 : i < l.length) (hk : (tokAt l i).kind ≠ 2) (hk1 : (tokAt l i).kind = 1) (w0 : isW l i [116, 114, 117, 101] = false) (w1 : isW l i [102, 97, 108, 115, 101] = false) (m1 : isM l (i + 1) [40] = true) (ih : ∀ w', Src l v w' → Calls Tryd.prog 68 #[v, .int .i64 i, .int .i64 17, .int .i64 (tokAt l i).at_] w' (Told (.no j) w')) :
    Calls Tryd.prog 62 #[v, .int .i64 i] w (Told (.no j) w) := by
  obtain ⟨P, hP⟩ : ∃ P, P = Told (.no j) w := ⟨_, rfl⟩
  rw [← hP]
  have HP := Lib.hid hP
  have IH := Lib.hid ih
  clear ih
  clear hP
  have HSRC := Lib.hid hs
  have hF := hs.fair i
  obtain ⟨R, hR⟩ : ∃ R, R = w.heap.size := ⟨_, rfl⟩
  obtain ⟨W, hW⟩ : ∃ W, W = w.alloc (.cells #[.int .i64 0, .int .i64 0, .int .i64 0, .string ⟨#[]⟩, .slice none 0 0] NodeT) := ⟨_, rfl⟩
  have hbW : Below w.heap.size w W := by rw [hW]; exact (Below.refl _ _).alloc (Nat.le_refl _) _
  have HBX : Hid (Box W R NodeT #[.int .i64 0, .int .i64 0, .int .i64 0, .string ⟨#[]⟩, .slice none 0 0]) := Lib.hid (by rw [hW]; exact Box.new _ _ _ _ hR)
  have HC := Lib.hid (rtok_any l v i W _ (hs.on hbW).lies hs.len (by unfold I64; have := hs.len; omega))
  unfold TokPost at HC
  obtain ⟨t, ht⟩ : ∃ t, t = tokAt l i := ⟨_, rfl⟩
  rw [← ht] at HC hF hk hk1
  obtain ⟨k, a, n, s⟩ := t
  simp only [tkA] at HC hF hk hk1
  have HF := Lib.hid hF
  have HT0 := Lib.hid ht
  have HW := Lib.hid hW
  have HRR := Lib.hid hR
  have HBW := Lib.hid hbW
  have hL := hs.len
  clear hW hR hbW hs hF ht
  go_enter Tryd.func62, Tryd.ntmps62
  go_wp2_with (first | (rw [← HW.out, ← HRR.out]))
  refine HC.out.mono ?_
  rintro e w1 ⟨rfl, hb1⟩
  obtain ⟨T, hT⟩ : ∃ T, T = w1.heap.size := ⟨_, rfl⟩
  obtain ⟨W1, hW1⟩ : ∃ W1, W1 = w1.alloc (.cells #[.int .i64 0, .int .i64 0, .int .i64 0, .string ⟨#[]⟩] TkT) := ⟨_, rfl⟩
  have hRT : R < T := by have := HBX.out.lt; have := hb1.size; omega
  have hB1 : Below w.heap.size w W1 := by rw [hW1]; exact (HBW.out.trans (hb1.mono HBW.out.size)).alloc (Nat.le_trans HBW.out.size hb1.size) _
  have bT : Box W1 T TkT #[.int .i64 0, .int .i64 0, .int .i64 0, .string ⟨#[]⟩] := by rw [hW1]; exact Box.new _ _ _ _ hT
  have bR : Box W1 R NodeT #[.int .i64 0, .int .i64 0, .int .i64 0, .string ⟨#[]⟩, .slice none 0 0] := by rw [hW1]; exact (HBX.out.on hb1).alloc _
  have hwT : w.heap.size ≤ T := by have := HRR.out; omega
  have HZT := Lib.hid (box_four bT (.int .i64 k) (.int .i64 a) (.int .i64 n) (.string ⟨s.toArray⟩))
  have HZR : Hid (Box ((((W1.setCell ⟨T, 0, none⟩ (.int .i64 k)).setCell ⟨T, 1, none⟩ (.int .i64 a)).setCell ⟨T, 2, none⟩ (.int .i64 n)).setCell ⟨T, 3, none⟩ (.string ⟨s.toArray⟩)) R NodeT #[.int .i64 0, .int .i64 0, .int .i64 0, .string ⟨#[]⟩, .slice none 0 0]) := Lib.hid ((((bR.far (by show R ≠ T; omega) _).far (by show R ≠ T; omega) _).far (by show R ≠ T; omega) _).far (by show R ≠ T; omega) _)
  have HZB := Lib.hid (below_four hB1 hwT (.int .i64 k) (.int .i64 a) (.int .i64 n) (.string ⟨s.toArray⟩))
  have f0 := bT.frozen 0
  have f1 := bT.frozen 1
  have f2 := bT.frozen 2
  have f3 := bT.frozen 3
  have y0 := bT.cell 0
  have y1 := bT.cell 1
  have y2 := bT.cell 2
  have y3 := bT.cell 3
  simp only [List.getElem?_toArray, List.getElem?_cons_zero, List.getElem?_cons_succ] at y0 y1 y2 y3
  have HW1 := Lib.hid hW1
  have HTT := Lib.hid hT
  have HRT := Lib.hid hRT
  have HWT := Lib.hid hwT
  clear hT hW1 hRT hB1 bT hb1 hwT HC
  subst hk1
  clear hk
  go_wp2_with (first | (rw [← HW1.out, ← HTT.out]))
  obtain ⟨Z, hZ⟩ : ∃ Z, Z = (((W1.setCell ⟨T, 0, none⟩ (.int .i64 1)).setCell ⟨T, 1, none⟩ (.int .i64 a)).setCell ⟨T, 2, none⟩ (.int .i64 n)).setCell ⟨T, 3, none⟩ (.string ⟨s.toArray⟩) := ⟨_, rfl⟩
  rw [← hZ] at HZT HZR HZB ⊢
  have HM : Hid (∀ w', Below (T + 1) Z w' → Box w' R NodeT #[.int .i64 0, .int .i64 0, .int .i64 0, .string ⟨#[]⟩, .slice none 0 0] ∧ Box w' T TkT #[.int .i64 1, .int .i64 a, .int .i64 n, .string ⟨s.toArray⟩] ∧ Src l v w' ∧ T + 1 ≤ w'.heap.size ∧ Below w.heap.size w w') := Lib.hid (fun w' hb => by
    have hRT := HRT.out
    have hWT := HWT.out
    have q1 := HZR.out.below hb (by omega)
    have q2 := HZT.out.below hb (by omega)
    have q3 : Below w.heap.size w w' := HZB.out.trans (hb.mono (by omega))
    exact ⟨q1, q2, HSRC.out.on q3, q2.lt, q3⟩)
  have HB : Hid (Below (T + 1) Z Z) := Lib.hid (Below.refl _ _)
  clear f0 f1 f2 f3 y0 y1 y2 y3 hZ bR
  refine (says_src (HM.out _ HB.out).2.2.1 HB.out (HM.out _ HB.out).2.2.2.1 [116, 114, 117, 101] (i) (by unfold I64; omega)).mono ?_
  rintro e w2 ⟨rfl, hb2⟩
  have HB2 := Lib.hid hb2
  clear hb2
  go_wp2_with (fail)
  refine (says_src (HM.out _ HB2.out).2.2.1 HB2.out (HM.out _ HB2.out).2.2.2.1 [102, 97, 108, 115, 101] (i) (by unfold I64; omega)).mono ?_
  rintro e w3 ⟨rfl, hb3⟩
  have HB3 := Lib.hid hb3
  clear hb3
  have bT := (HM.out _ HB3.out).2.1
  have t0 := bT.cell 0
  have t1 := bT.cell 1
  have t3 := bT.cell 3
  simp only [List.getElem?_toArray, List.getElem?_cons_zero, List.getElem?_cons_succ] at t0 t1 t3
  clear bT
  go_wp2_with (fail)
  clear t0 t1 t3
  refine (is_src (HM.out _ HB3.out).2.2.1 HB3.out (HM.out _ HB3.out).2.2.2.1 [40] (i + 1) (by unfold I64; omega)).mono ?_
  rintro e w4 ⟨rfl, hb4⟩
  have HB4 := Lib.hid hb4
  clear hb4
  have bT := (HM.out _ HB4.out).2.1
  have t0 := bT.cell 0
  have t1 := bT.cell 1
  have t3 := bT.cell 3
  simp only [List.getElem?_toArray, List.getElem?_cons_zero, List.getElem?_cons_succ] at t0 t1 t3
  clear bT
  go_wp2_with (fail)
  rw [← HT0.out] at IH
  refine (IH.out _ (HM.out _ HB4.out).2.2.1).mono ?_
  rintro e w7 ⟨rfl, hb7⟩
  have HB7 := Lib.hid (HB4.out.trans (hb7.mono (HM.out _ HB4.out).2.2.2.1))
  have bR := (HM.out _ HB7.out).1
  have HE := Lib.hid (no_end (j := j) HRR.out bR (HM.out _ HB7.out).2.2.2.2)
  have r0 := bR.cell 0
  have r1 := bR.cell 1
  have r2 := bR.cell 2
  have r3 := bR.cell 3
  have r4 := bR.cell 4
  have g0 := bR.frozen 0
  have g1 := bR.frozen 1
  have g2 := bR.frozen 2
  have g3 := bR.frozen 3
  have g4 := bR.frozen 4
  simp only [List.getElem?_toArray, List.getElem?_cons_zero, List.getElem?_cons_succ] at r0 r1 r2 r3 r4
  clear bR hb7
  go_wp2_with (fail)
  refine bodyPost_ret (node_ret3 rfl rfl rfl rfl HE.out.1) rfl ?_
  rw [HP.out]
  exact HE.out.2
set_option maxRecDepth 100000 in
set_option maxHeartbeats 4000000 in
theorem first_fork_no {l : List Tk} {v : Value} {i : Int} {w : World} (hs : Src l v w) (h0 : -9223372036854775808 ≤ i) {j : Int} (h1 : i < l.length) (hk : (tokAt l i).kind ≠ 2) (hk1 : (tokAt l i).kind ≠ 1) (w0 : isW l i [116, 114, 117, 101] = false) (w1 : isW l i [102, 97, 108, 115, 101] = false) (w2 : isW l i [102, 111, 114, 107] = true) (ih : ∀ w', Src l v w' → Calls Tryd.prog 68 #[v, .int .i64 (i + 1), .int .i64 18, .int .i64 (tokAt l i).at_] w' (Told (.no j) w')) :
    Calls Tryd.prog 62 #[v, .int .i64 i] w (Told (.no j) w) := by
  obtain ⟨P, hP⟩ : ∃ P, P = Told (.no j) w := ⟨_, rfl⟩
  rw [← hP]
  have HP := Lib.hid hP
  have IH := Lib.hid ih
  clear ih
  clear hP
  have HSRC := Lib.hid hs
  have hF := hs.fair i
  obtain ⟨R, hR⟩ : ∃ R, R = w.heap.size := ⟨_, rfl⟩
  obtain ⟨W, hW⟩ : ∃ W, W = w.alloc (.cells #[.int .i64 0, .int .i64 0, .int .i64 0, .string ⟨#[]⟩, .slice none 0 0] NodeT) := ⟨_, rfl⟩
  have hbW : Below w.heap.size w W := by rw [hW]; exact (Below.refl _ _).alloc (Nat.le_refl _) _
  have HBX : Hid (Box W R NodeT #[.int .i64 0, .int .i64 0, .int .i64 0, .string ⟨#[]⟩, .slice none 0 0]) := Lib.hid (by rw [hW]; exact Box.new _ _ _ _ hR)
  have HC := Lib.hid (rtok_any l v i W _ (hs.on hbW).lies hs.len (by unfold I64; have := hs.len; omega))
  unfold TokPost at HC
  obtain ⟨t, ht⟩ : ∃ t, t = tokAt l i := ⟨_, rfl⟩
  rw [← ht] at HC hF hk hk1
  obtain ⟨k, a, n, s⟩ := t
  simp only [tkA] at HC hF hk hk1
  have HF := Lib.hid hF
  have HT0 := Lib.hid ht
  have HW := Lib.hid hW
  have HRR := Lib.hid hR
  have HBW := Lib.hid hbW
  have hL := hs.len
  clear hW hR hbW hs hF ht
  go_enter Tryd.func62, Tryd.ntmps62
  go_wp2_with (first | (rw [← HW.out, ← HRR.out]))
  refine HC.out.mono ?_
  rintro e w1 ⟨rfl, hb1⟩
  obtain ⟨T, hT⟩ : ∃ T, T = w1.heap.size := ⟨_, rfl⟩
  obtain ⟨W1, hW1⟩ : ∃ W1, W1 = w1.alloc (.cells #[.int .i64 0, .int .i64 0, .int .i64 0, .string ⟨#[]⟩] TkT) := ⟨_, rfl⟩
  have hRT : R < T := by have := HBX.out.lt; have := hb1.size; omega
  have hB1 : Below w.heap.size w W1 := by rw [hW1]; exact (HBW.out.trans (hb1.mono HBW.out.size)).alloc (Nat.le_trans HBW.out.size hb1.size) _
  have bT : Box W1 T TkT #[.int .i64 0, .int .i64 0, .int .i64 0, .string ⟨#[]⟩] := by rw [hW1]; exact Box.new _ _ _ _ hT
  have bR : Box W1 R NodeT #[.int .i64 0, .int .i64 0, .int .i64 0, .string ⟨#[]⟩, .slice none 0 0] := by rw [hW1]; exact (HBX.out.on hb1).alloc _
  have hwT : w.heap.size ≤ T := by have := HRR.out; omega
  have HZT := Lib.hid (box_four bT (.int .i64 k) (.int .i64 a) (.int .i64 n) (.string ⟨s.toArray⟩))
  have HZR : Hid (Box ((((W1.setCell ⟨T, 0, none⟩ (.int .i64 k)).setCell ⟨T, 1, none⟩ (.int .i64 a)).setCell ⟨T, 2, none⟩ (.int .i64 n)).setCell ⟨T, 3, none⟩ (.string ⟨s.toArray⟩)) R NodeT #[.int .i64 0, .int .i64 0, .int .i64 0, .string ⟨#[]⟩, .slice none 0 0]) := Lib.hid ((((bR.far (by show R ≠ T; omega) _).far (by show R ≠ T; omega) _).far (by show R ≠ T; omega) _).far (by show R ≠ T; omega) _)
  have HZB := Lib.hid (below_four hB1 hwT (.int .i64 k) (.int .i64 a) (.int .i64 n) (.string ⟨s.toArray⟩))
  have f0 := bT.frozen 0
  have f1 := bT.frozen 1
  have f2 := bT.frozen 2
  have f3 := bT.frozen 3
  have y0 := bT.cell 0
  have y1 := bT.cell 1
  have y2 := bT.cell 2
  have y3 := bT.cell 3
  simp only [List.getElem?_toArray, List.getElem?_cons_zero, List.getElem?_cons_succ] at y0 y1 y2 y3
  have HW1 := Lib.hid hW1
  have HTT := Lib.hid hT
  have HRT := Lib.hid hRT
  have HWT := Lib.hid hwT
  clear hT hW1 hRT hB1 bT hb1 hwT HC
  have hk2 : (k == 2) = false := beq_eq_false_iff_ne.2 hk
  have hk3 : (k == 1) = false := beq_eq_false_iff_ne.2 hk1
  go_wp2_with (first | (rw [← HW1.out, ← HTT.out]))
  obtain ⟨Z, hZ⟩ : ∃ Z, Z = (((W1.setCell ⟨T, 0, none⟩ (.int .i64 k)).setCell ⟨T, 1, none⟩ (.int .i64 a)).setCell ⟨T, 2, none⟩ (.int .i64 n)).setCell ⟨T, 3, none⟩ (.string ⟨s.toArray⟩) := ⟨_, rfl⟩
  rw [← hZ] at HZT HZR HZB ⊢
  have HM : Hid (∀ w', Below (T + 1) Z w' → Box w' R NodeT #[.int .i64 0, .int .i64 0, .int .i64 0, .string ⟨#[]⟩, .slice none 0 0] ∧ Box w' T TkT #[.int .i64 k, .int .i64 a, .int .i64 n, .string ⟨s.toArray⟩] ∧ Src l v w' ∧ T + 1 ≤ w'.heap.size ∧ Below w.heap.size w w') := Lib.hid (fun w' hb => by
    have hRT := HRT.out
    have hWT := HWT.out
    have q1 := HZR.out.below hb (by omega)
    have q2 := HZT.out.below hb (by omega)
    have q3 : Below w.heap.size w w' := HZB.out.trans (hb.mono (by omega))
    exact ⟨q1, q2, HSRC.out.on q3, q2.lt, q3⟩)
  have HB : Hid (Below (T + 1) Z Z) := Lib.hid (Below.refl _ _)
  clear f0 f1 f2 f3 y0 y1 y2 y3 hZ bR
  refine (says_src (HM.out _ HB.out).2.2.1 HB.out (HM.out _ HB.out).2.2.2.1 [116, 114, 117, 101] (i) (by unfold I64; omega)).mono ?_
  rintro e w2 ⟨rfl, hb2⟩
  have HB2 := Lib.hid hb2
  clear hb2
  go_wp2_with (fail)
  refine (says_src (HM.out _ HB2.out).2.2.1 HB2.out (HM.out _ HB2.out).2.2.2.1 [102, 97, 108, 115, 101] (i) (by unfold I64; omega)).mono ?_
  rintro e w3 ⟨rfl, hb3⟩
  have HB3 := Lib.hid hb3
  clear hb3
  have bT := (HM.out _ HB3.out).2.1
  have t0 := bT.cell 0
  have t1 := bT.cell 1
  have t3 := bT.cell 3
  simp only [List.getElem?_toArray, List.getElem?_cons_zero, List.getElem?_cons_succ] at t0 t1 t3
  clear bT
  go_wp2_with (fail)
  clear t0 t1 t3
  refine (says_src (HM.out _ HB3.out).2.2.1 HB3.out (HM.out _ HB3.out).2.2.2.1 [102, 111, 114, 107] (i) (by unfold I64; omega)).mono ?_
  rintro e w4 ⟨rfl, hb4⟩
  have HB4 := Lib.hid hb4
  clear hb4
  have bT := (HM.out _ HB4.out).2.1
  have t0 := bT.cell 0
  have t1 := bT.cell 1
  have t3 := bT.cell 3
  simp only [List.getElem?_toArray, List.getElem?_cons_zero, List.getElem?_cons_succ] at t0 t1 t3
  clear bT
  go_wp2_with (fail)
  rw [← HT0.out] at IH
  refine (IH.out _ (HM.out _ HB4.out).2.2.1).mono ?_
  rintro e w7 ⟨rfl, hb7⟩
  have HB7 := Lib.hid (HB4.out.trans (hb7.mono (HM.out _ HB4.out).2.2.2.1))
  have bR := (HM.out _ HB7.out).1
  have HE := Lib.hid (no_end (j := j) HRR.out bR (HM.out _ HB7.out).2.2.2.2)
  have r0 := bR.cell 0
  have r1 := bR.cell 1
  have r2 := bR.cell 2
  have r3 := bR.cell 3
  have r4 := bR.cell 4
  have g0 := bR.frozen 0
  have g1 := bR.frozen 1
  have g2 := bR.frozen 2
  have g3 := bR.frozen 3
  have g4 := bR.frozen 4
  simp only [List.getElem?_toArray, List.getElem?_cons_zero, List.getElem?_cons_succ] at r0 r1 r2 r3 r4
  clear bR hb7
  go_wp2_with (fail)
  refine bodyPost_ret (node_ret3 rfl rfl rfl rfl HE.out.1) rfl ?_
  rw [HP.out]
  exact HE.out.2
set_option maxRecDepth 100000 in
set_option maxHeartbeats 4000000 in
theorem first_call {l : List Tk} {v : Value} {i : Int} {w : World} (hs : Src l v w) (h0 : -9223372036854775808 ≤ i) {j : Int} {u : NT} (h1 : i < l.length) (hk : (tokAt l i).kind ≠ 2) (hk1 : (tokAt l i).kind = 1) (w0 : isW l i [116, 114, 117, 101] = false) (w1 : isW l i [102, 97, 108, 115, 101] = false) (m1 : isM l (i + 1) [40] = true) (ih : ∀ w', Src l v w' → Calls Tryd.prog 68 #[v, .int .i64 i, .int .i64 17, .int .i64 (tokAt l i).at_] w' (Told (.node u j) w')) :
    Calls Tryd.prog 62 #[v, .int .i64 i] w (Told (.node u j) w) := by
  obtain ⟨P, hP⟩ : ∃ P, P = Told (.node u j) w := ⟨_, rfl⟩
  rw [← hP]
  have HP := Lib.hid hP
  have IH := Lib.hid ih
  clear ih
  clear hP
  have HSRC := Lib.hid hs
  have hF := hs.fair i
  obtain ⟨R, hR⟩ : ∃ R, R = w.heap.size := ⟨_, rfl⟩
  obtain ⟨W, hW⟩ : ∃ W, W = w.alloc (.cells #[.int .i64 0, .int .i64 0, .int .i64 0, .string ⟨#[]⟩, .slice none 0 0] NodeT) := ⟨_, rfl⟩
  have hbW : Below w.heap.size w W := by rw [hW]; exact (Below.refl _ _).alloc (Nat.le_refl _) _
  have HBX : Hid (Box W R NodeT #[.int .i64 0, .int .i64 0, .int .i64 0, .string ⟨#[]⟩, .slice none 0 0]) := Lib.hid (by rw [hW]; exact Box.new _ _ _ _ hR)
  have HC := Lib.hid (rtok_any l v i W _ (hs.on hbW).lies hs.len (by unfold I64; have := hs.len; omega))
  unfold TokPost at HC
  obtain ⟨t, ht⟩ : ∃ t, t = tokAt l i := ⟨_, rfl⟩
  rw [← ht] at HC hF hk hk1
  obtain ⟨k, a, n, s⟩ := t
  simp only [tkA] at HC hF hk hk1
  have HF := Lib.hid hF
  have HT0 := Lib.hid ht
  have HW := Lib.hid hW
  have HRR := Lib.hid hR
  have HBW := Lib.hid hbW
  have hL := hs.len
  clear hW hR hbW hs hF ht
  go_enter Tryd.func62, Tryd.ntmps62
  go_wp2_with (first | (rw [← HW.out, ← HRR.out]))
  refine HC.out.mono ?_
  rintro e w1 ⟨rfl, hb1⟩
  obtain ⟨T, hT⟩ : ∃ T, T = w1.heap.size := ⟨_, rfl⟩
  obtain ⟨W1, hW1⟩ : ∃ W1, W1 = w1.alloc (.cells #[.int .i64 0, .int .i64 0, .int .i64 0, .string ⟨#[]⟩] TkT) := ⟨_, rfl⟩
  have hRT : R < T := by have := HBX.out.lt; have := hb1.size; omega
  have hB1 : Below w.heap.size w W1 := by rw [hW1]; exact (HBW.out.trans (hb1.mono HBW.out.size)).alloc (Nat.le_trans HBW.out.size hb1.size) _
  have bT : Box W1 T TkT #[.int .i64 0, .int .i64 0, .int .i64 0, .string ⟨#[]⟩] := by rw [hW1]; exact Box.new _ _ _ _ hT
  have bR : Box W1 R NodeT #[.int .i64 0, .int .i64 0, .int .i64 0, .string ⟨#[]⟩, .slice none 0 0] := by rw [hW1]; exact (HBX.out.on hb1).alloc _
  have hwT : w.heap.size ≤ T := by have := HRR.out; omega
  have HZT := Lib.hid (box_four bT (.int .i64 k) (.int .i64 a) (.int .i64 n) (.string ⟨s.toArray⟩))
  have HZR : Hid (Box ((((W1.setCell ⟨T, 0, none⟩ (.int .i64 k)).setCell ⟨T, 1, none⟩ (.int .i64 a)).setCell ⟨T, 2, none⟩ (.int .i64 n)).setCell ⟨T, 3, none⟩ (.string ⟨s.toArray⟩)) R NodeT #[.int .i64 0, .int .i64 0, .int .i64 0, .string ⟨#[]⟩, .slice none 0 0]) := Lib.hid ((((bR.far (by show R ≠ T; omega) _).far (by show R ≠ T; omega) _).far (by show R ≠ T; omega) _).far (by show R ≠ T; omega) _)
  have HZB := Lib.hid (below_four hB1 hwT (.int .i64 k) (.int .i64 a) (.int .i64 n) (.string ⟨s.toArray⟩))
  have f0 := bT.frozen 0
  have f1 := bT.frozen 1
  have f2 := bT.frozen 2
  have f3 := bT.frozen 3
  have y0 := bT.cell 0
  have y1 := bT.cell 1
  have y2 := bT.cell 2
  have y3 := bT.cell 3
  simp only [List.getElem?_toArray, List.getElem?_cons_zero, List.getElem?_cons_succ] at y0 y1 y2 y3
  have HW1 := Lib.hid hW1
  have HTT := Lib.hid hT
  have HRT := Lib.hid hRT
  have HWT := Lib.hid hwT
  clear hT hW1 hRT hB1 bT hb1 hwT HC
  subst hk1
  clear hk
  go_wp2_with (first | (rw [← HW1.out, ← HTT.out]))
  obtain ⟨Z, hZ⟩ : ∃ Z, Z = (((W1.setCell ⟨T, 0, none⟩ (.int .i64 1)).setCell ⟨T, 1, none⟩ (.int .i64 a)).setCell ⟨T, 2, none⟩ (.int .i64 n)).setCell ⟨T, 3, none⟩ (.string ⟨s.toArray⟩) := ⟨_, rfl⟩
  rw [← hZ] at HZT HZR HZB ⊢
  have HM : Hid (∀ w', Below (T + 1) Z w' → Box w' R NodeT #[.int .i64 0, .int .i64 0, .int .i64 0, .string ⟨#[]⟩, .slice none 0 0] ∧ Box w' T TkT #[.int .i64 1, .int .i64 a, .int .i64 n, .string ⟨s.toArray⟩] ∧ Src l v w' ∧ T + 1 ≤ w'.heap.size ∧ Below w.heap.size w w') := Lib.hid (fun w' hb => by
    have hRT := HRT.out
    have hWT := HWT.out
    have q1 := HZR.out.below hb (by omega)
    have q2 := HZT.out.below hb (by omega)
    have q3 : Below w.heap.size w w' := HZB.out.trans (hb.mono (by omega))
    exact ⟨q1, q2, HSRC.out.on q3, q2.lt, q3⟩)
  have HB : Hid (Below (T + 1) Z Z) := Lib.hid (Below.refl _ _)
  clear f0 f1 f2 f3 y0 y1 y2 y3 hZ bR
  refine (says_src (HM.out _ HB.out).2.2.1 HB.out (HM.out _ HB.out).2.2.2.1 [116, 114, 117, 101] (i) (by unfold I64; omega)).mono ?_
  rintro e w2 ⟨rfl, hb2⟩
  have HB2 := Lib.hid hb2
  clear hb2
  go_wp2_with (fail)
  refine (says_src (HM.out _ HB2.out).2.2.1 HB2.out (HM.out _ HB2.out).2.2.2.1 [102, 97, 108, 115, 101] (i) (by unfold I64; omega)).mono ?_
  rintro e w3 ⟨rfl, hb3⟩
  have HB3 := Lib.hid hb3
  clear hb3
  have bT := (HM.out _ HB3.out).2.1
  have t0 := bT.cell 0
  have t1 := bT.cell 1
  have t3 := bT.cell 3
  simp only [List.getElem?_toArray, List.getElem?_cons_zero, List.getElem?_cons_succ] at t0 t1 t3
  clear bT
  go_wp2_with (fail)
  clear t0 t1 t3
  refine (is_src (HM.out _ HB3.out).2.2.1 HB3.out (HM.out _ HB3.out).2.2.2.1 [40] (i + 1) (by unfold I64; omega)).mono ?_
  rintro e w4 ⟨rfl, hb4⟩
  have HB4 := Lib.hid hb4
  clear hb4
  have bT := (HM.out _ HB4.out).2.1
  have t0 := bT.cell 0
  have t1 := bT.cell 1
  have t3 := bT.cell 3
  simp only [List.getElem?_toArray, List.getElem?_cons_zero, List.getElem?_cons_succ] at t0 t1 t3
  clear bT
  go_wp2_with (fail)
  rw [← HT0.out] at IH
  refine (IH.out _ (HM.out _ HB4.out).2.2.1).mono ?_
  rintro e w7 ⟨su, rfl, hk7, hd7, hb7⟩
  obtain ⟨A, c, rfl, _⟩ := hk7.form
  have HB7 := Lib.hid (HB4.out.trans (hb7.mono (HM.out _ HB4.out).2.2.2.1))
  have bR := (HM.out _ HB7.out).1
  have hrow : nt.Kids (fun b => w.heap.size < b) w7 u.kids (.slice A u.kids.length c) := hk7.mono fun b hb => by have h2 := (HM.out _ HB4.out).2.2.2.1; have := HRR.out; have := HRT.out; omega
  have HE := Lib.hid (node_end (j := j) (t := u) HRR.out bR hd7 hrow (HM.out _ HB7.out).2.2.2.2)
  clear hrow hk7 hd7
  have r0 := bR.cell 0
  have r1 := bR.cell 1
  have r2 := bR.cell 2
  have r3 := bR.cell 3
  have r4 := bR.cell 4
  have g0 := bR.frozen 0
  have g1 := bR.frozen 1
  have g2 := bR.frozen 2
  have g3 := bR.frozen 3
  have g4 := bR.frozen 4
  simp only [List.getElem?_toArray, List.getElem?_cons_zero, List.getElem?_cons_succ] at r0 r1 r2 r3 r4
  clear bR hb7
  go_wp2_with (fail)
  refine bodyPost_ret (node_ret3 rfl rfl rfl rfl HE.out.1) rfl ?_
  rw [HP.out]
  exact HE.out.2
set_option maxRecDepth 100000 in
set_option maxHeartbeats 4000000 in
theorem first_fork {l : List Tk} {v : Value} {i : Int} {w : World} (hs : Src l v w) (h0 : -9223372036854775808 ≤ i) {j : Int} {u : NT} (h1 : i < l.length) (hk : (tokAt l i).kind ≠ 2) (hk1 : (tokAt l i).kind ≠ 1) (w0 : isW l i [116, 114, 117, 101] = false) (w1 : isW l i [102, 97, 108, 115, 101] = false) (w2 : isW l i [102, 111, 114, 107] = true) (ih : ∀ w', Src l v w' → Calls Tryd.prog 68 #[v, .int .i64 (i + 1), .int .i64 18, .int .i64 (tokAt l i).at_] w' (Told (.node u j) w')) :
    Calls Tryd.prog 62 #[v, .int .i64 i] w (Told (.node u j) w) := by
  obtain ⟨P, hP⟩ : ∃ P, P = Told (.node u j) w := ⟨_, rfl⟩
  rw [← hP]
  have HP := Lib.hid hP
  have IH := Lib.hid ih
  clear ih
  clear hP
  have HSRC := Lib.hid hs
  have hF := hs.fair i
  obtain ⟨R, hR⟩ : ∃ R, R = w.heap.size := ⟨_, rfl⟩
  obtain ⟨W, hW⟩ : ∃ W, W = w.alloc (.cells #[.int .i64 0, .int .i64 0, .int .i64 0, .string ⟨#[]⟩, .slice none 0 0] NodeT) := ⟨_, rfl⟩
  have hbW : Below w.heap.size w W := by rw [hW]; exact (Below.refl _ _).alloc (Nat.le_refl _) _
  have HBX : Hid (Box W R NodeT #[.int .i64 0, .int .i64 0, .int .i64 0, .string ⟨#[]⟩, .slice none 0 0]) := Lib.hid (by rw [hW]; exact Box.new _ _ _ _ hR)
  have HC := Lib.hid (rtok_any l v i W _ (hs.on hbW).lies hs.len (by unfold I64; have := hs.len; omega))
  unfold TokPost at HC
  obtain ⟨t, ht⟩ : ∃ t, t = tokAt l i := ⟨_, rfl⟩
  rw [← ht] at HC hF hk hk1
  obtain ⟨k, a, n, s⟩ := t
  simp only [tkA] at HC hF hk hk1
  have HF := Lib.hid hF
  have HT0 := Lib.hid ht
  have HW := Lib.hid hW
  have HRR := Lib.hid hR
  have HBW := Lib.hid hbW
  have hL := hs.len
  clear hW hR hbW hs hF ht
  go_enter Tryd.func62, Tryd.ntmps62
  go_wp2_with (first | (rw [← HW.out, ← HRR.out]))
  refine HC.out.mono ?_
  rintro e w1 ⟨rfl, hb1⟩
  obtain ⟨T, hT⟩ : ∃ T, T = w1.heap.size := ⟨_, rfl⟩
  obtain ⟨W1, hW1⟩ : ∃ W1, W1 = w1.alloc (.cells #[.int .i64 0, .int .i64 0, .int .i64 0, .string ⟨#[]⟩] TkT) := ⟨_, rfl⟩
  have hRT : R < T := by have := HBX.out.lt; have := hb1.size; omega
  have hB1 : Below w.heap.size w W1 := by rw [hW1]; exact (HBW.out.trans (hb1.mono HBW.out.size)).alloc (Nat.le_trans HBW.out.size hb1.size) _
  have bT : Box W1 T TkT #[.int .i64 0, .int .i64 0, .int .i64 0, .string ⟨#[]⟩] := by rw [hW1]; exact Box.new _ _ _ _ hT
  have bR : Box W1 R NodeT #[.int .i64 0, .int .i64 0, .int .i64 0, .string ⟨#[]⟩, .slice none 0 0] := by rw [hW1]; exact (HBX.out.on hb1).alloc _
  have hwT : w.heap.size ≤ T := by have := HRR.out; omega
  have HZT := Lib.hid (box_four bT (.int .i64 k) (.int .i64 a) (.int .i64 n) (.string ⟨s.toArray⟩))
  have HZR : Hid (Box ((((W1.setCell ⟨T, 0, none⟩ (.int .i64 k)).setCell ⟨T, 1, none⟩ (.int .i64 a)).setCell ⟨T, 2, none⟩ (.int .i64 n)).setCell ⟨T, 3, none⟩ (.string ⟨s.toArray⟩)) R NodeT #[.int .i64 0, .int .i64 0, .int .i64 0, .string ⟨#[]⟩, .slice none 0 0]) := Lib.hid ((((bR.far (by show R ≠ T; omega) _).far (by show R ≠ T; omega) _).far (by show R ≠ T; omega) _).far (by show R ≠ T; omega) _)
  have HZB := Lib.hid (below_four hB1 hwT (.int .i64 k) (.int .i64 a) (.int .i64 n) (.string ⟨s.toArray⟩))
  have f0 := bT.frozen 0
  have f1 := bT.frozen 1
  have f2 := bT.frozen 2
  have f3 := bT.frozen 3
  have y0 := bT.cell 0
  have y1 := bT.cell 1
  have y2 := bT.cell 2
  have y3 := bT.cell 3
  simp only [List.getElem?_toArray, List.getElem?_cons_zero, List.getElem?_cons_succ] at y0 y1 y2 y3
  have HW1 := Lib.hid hW1
  have HTT := Lib.hid hT
  have HRT := Lib.hid hRT
  have HWT := Lib.hid hwT
  clear hT hW1 hRT hB1 bT hb1 hwT HC
  have hk2 : (k == 2) = false := beq_eq_false_iff_ne.2 hk
  have hk3 : (k == 1) = false := beq_eq_false_iff_ne.2 hk1
  go_wp2_with (first | (rw [← HW1.out, ← HTT.out]))
  obtain ⟨Z, hZ⟩ : ∃ Z, Z = (((W1.setCell ⟨T, 0, none⟩ (.int .i64 k)).setCell ⟨T, 1, none⟩ (.int .i64 a)).setCell ⟨T, 2, none⟩ (.int .i64 n)).setCell ⟨T, 3, none⟩ (.string ⟨s.toArray⟩) := ⟨_, rfl⟩
  rw [← hZ] at HZT HZR HZB ⊢
  have HM : Hid (∀ w', Below (T + 1) Z w' → Box w' R NodeT #[.int .i64 0, .int .i64 0, .int .i64 0, .string ⟨#[]⟩, .slice none 0 0] ∧ Box w' T TkT #[.int .i64 k, .int .i64 a, .int .i64 n, .string ⟨s.toArray⟩] ∧ Src l v w' ∧ T + 1 ≤ w'.heap.size ∧ Below w.heap.size w w') := Lib.hid (fun w' hb => by
    have hRT := HRT.out
    have hWT := HWT.out
    have q1 := HZR.out.below hb (by omega)
    have q2 := HZT.out.below hb (by omega)
    have q3 : Below w.heap.size w w' := HZB.out.trans (hb.mono (by omega))
    exact ⟨q1, q2, HSRC.out.on q3, q2.lt, q3⟩)
  have HB : Hid (Below (T + 1) Z Z) := Lib.hid (Below.refl _ _)
  clear f0 f1 f2 f3 y0 y1 y2 y3 hZ bR
  refine (says_src (HM.out _ HB.out).2.2.1 HB.out (HM.out _ HB.out).2.2.2.1 [116, 114, 117, 101] (i) (by unfold I64; omega)).mono ?_
  rintro e w2 ⟨rfl, hb2⟩
  have HB2 := Lib.hid hb2
  clear hb2
  go_wp2_with (fail)
  refine (says_src (HM.out _ HB2.out).2.2.1 HB2.out (HM.out _ HB2.out).2.2.2.1 [102, 97, 108, 115, 101] (i) (by unfold I64; omega)).mono ?_
  rintro e w3 ⟨rfl, hb3⟩
  have HB3 := Lib.hid hb3
  clear hb3
  have bT := (HM.out _ HB3.out).2.1
  have t0 := bT.cell 0
  have t1 := bT.cell 1
  have t3 := bT.cell 3
  simp only [List.getElem?_toArray, List.getElem?_cons_zero, List.getElem?_cons_succ] at t0 t1 t3
  clear bT
  go_wp2_with (fail)
  clear t0 t1 t3
  refine (says_src (HM.out _ HB3.out).2.2.1 HB3.out (HM.out _ HB3.out).2.2.2.1 [102, 111, 114, 107] (i) (by unfold I64; omega)).mono ?_
  rintro e w4 ⟨rfl, hb4⟩
  have HB4 := Lib.hid hb4
  clear hb4
  have bT := (HM.out _ HB4.out).2.1
  have t0 := bT.cell 0
  have t1 := bT.cell 1
  have t3 := bT.cell 3
  simp only [List.getElem?_toArray, List.getElem?_cons_zero, List.getElem?_cons_succ] at t0 t1 t3
  clear bT
  go_wp2_with (fail)
  rw [← HT0.out] at IH
  refine (IH.out _ (HM.out _ HB4.out).2.2.1).mono ?_
  rintro e w7 ⟨su, rfl, hk7, hd7, hb7⟩
  obtain ⟨A, c, rfl, _⟩ := hk7.form
  have HB7 := Lib.hid (HB4.out.trans (hb7.mono (HM.out _ HB4.out).2.2.2.1))
  have bR := (HM.out _ HB7.out).1
  have hrow : nt.Kids (fun b => w.heap.size < b) w7 u.kids (.slice A u.kids.length c) := hk7.mono fun b hb => by have h2 := (HM.out _ HB4.out).2.2.2.1; have := HRR.out; have := HRT.out; omega
  have HE := Lib.hid (node_end (j := j) (t := u) HRR.out bR hd7 hrow (HM.out _ HB7.out).2.2.2.2)
  clear hrow hk7 hd7
  have r0 := bR.cell 0
  have r1 := bR.cell 1
  have r2 := bR.cell 2
  have r3 := bR.cell 3
  have r4 := bR.cell 4
  have g0 := bR.frozen 0
  have g1 := bR.frozen 1
  have g2 := bR.frozen 2
  have g3 := bR.frozen 3
  have g4 := bR.frozen 4
  simp only [List.getElem?_toArray, List.getElem?_cons_zero, List.getElem?_cons_succ] at r0 r1 r2 r3 r4
  clear bR hb7
  go_wp2_with (fail)
  refine bodyPost_ret (node_ret3 rfl rfl rfl rfl HE.out.1) rfl ?_
  rw [HP.out]
  exact HE.out.2
set_option maxRecDepth 100000 in
set_option maxHeartbeats 4000000 in
theorem first_none {l : List Tk} {v : Value} {i : Int} {w : World} (hs : Src l v w) (h0 : -9223372036854775808 ≤ i) (h1 : i ≤ 9223372036854775807) (hk : (tokAt l i).kind ≠ 2) (hk1 : (tokAt l i).kind ≠ 1) (w0 : isW l i [116, 114, 117, 101] = false) (w1 : isW l i [102, 97, 108, 115, 101] = false) (w2 : isW l i [102, 111, 114, 107] = false) (w3 : isW l i [110, 101, 119] = false) (m1 : isM l i [40] = false) :
    Calls Tryd.prog 62 #[v, .int .i64 i] w (Told (.no i) w) := by
  obtain ⟨P, hP⟩ : ∃ P, P = Told (.no i) w := ⟨_, rfl⟩
  rw [← hP]
  have HP := Lib.hid hP
  clear hP
  have HSRC := Lib.hid hs
  have hF := hs.fair i
  obtain ⟨R, hR⟩ : ∃ R, R = w.heap.size := ⟨_, rfl⟩
  obtain ⟨W, hW⟩ : ∃ W, W = w.alloc (.cells #[.int .i64 0, .int .i64 0, .int .i64 0, .string ⟨#[]⟩, .slice none 0 0] NodeT) := ⟨_, rfl⟩
  have hbW : Below w.heap.size w W := by rw [hW]; exact (Below.refl _ _).alloc (Nat.le_refl _) _
  have HBX : Hid (Box W R NodeT #[.int .i64 0, .int .i64 0, .int .i64 0, .string ⟨#[]⟩, .slice none 0 0]) := Lib.hid (by rw [hW]; exact Box.new _ _ _ _ hR)
  have HC := Lib.hid (rtok_any l v i W _ (hs.on hbW).lies hs.len (by unfold I64; have := hs.len; omega))
  unfold TokPost at HC
  obtain ⟨t, ht⟩ : ∃ t, t = tokAt l i := ⟨_, rfl⟩
  rw [← ht] at HC hF hk hk1
  obtain ⟨k, a, n, s⟩ := t
  simp only [tkA] at HC hF hk hk1
  have HF := Lib.hid hF
  have HT0 := Lib.hid ht
  have HW := Lib.hid hW
  have HRR := Lib.hid hR
  have HBW := Lib.hid hbW
  have hL := hs.len
  clear hW hR hbW hs hF ht
  go_enter Tryd.func62, Tryd.ntmps62
  go_wp2_with (first | (rw [← HW.out, ← HRR.out]))
  refine HC.out.mono ?_
  rintro e w1 ⟨rfl, hb1⟩
  obtain ⟨T, hT⟩ : ∃ T, T = w1.heap.size := ⟨_, rfl⟩
  obtain ⟨W1, hW1⟩ : ∃ W1, W1 = w1.alloc (.cells #[.int .i64 0, .int .i64 0, .int .i64 0, .string ⟨#[]⟩] TkT) := ⟨_, rfl⟩
  have hRT : R < T := by have := HBX.out.lt; have := hb1.size; omega
  have hB1 : Below w.heap.size w W1 := by rw [hW1]; exact (HBW.out.trans (hb1.mono HBW.out.size)).alloc (Nat.le_trans HBW.out.size hb1.size) _
  have bT : Box W1 T TkT #[.int .i64 0, .int .i64 0, .int .i64 0, .string ⟨#[]⟩] := by rw [hW1]; exact Box.new _ _ _ _ hT
  have bR : Box W1 R NodeT #[.int .i64 0, .int .i64 0, .int .i64 0, .string ⟨#[]⟩, .slice none 0 0] := by rw [hW1]; exact (HBX.out.on hb1).alloc _
  have hwT : w.heap.size ≤ T := by have := HRR.out; omega
  have HZT := Lib.hid (box_four bT (.int .i64 k) (.int .i64 a) (.int .i64 n) (.string ⟨s.toArray⟩))
  have HZR : Hid (Box ((((W1.setCell ⟨T, 0, none⟩ (.int .i64 k)).setCell ⟨T, 1, none⟩ (.int .i64 a)).setCell ⟨T, 2, none⟩ (.int .i64 n)).setCell ⟨T, 3, none⟩ (.string ⟨s.toArray⟩)) R NodeT #[.int .i64 0, .int .i64 0, .int .i64 0, .string ⟨#[]⟩, .slice none 0 0]) := Lib.hid ((((bR.far (by show R ≠ T; omega) _).far (by show R ≠ T; omega) _).far (by show R ≠ T; omega) _).far (by show R ≠ T; omega) _)
  have HZB := Lib.hid (below_four hB1 hwT (.int .i64 k) (.int .i64 a) (.int .i64 n) (.string ⟨s.toArray⟩))
  have f0 := bT.frozen 0
  have f1 := bT.frozen 1
  have f2 := bT.frozen 2
  have f3 := bT.frozen 3
  have y0 := bT.cell 0
  have y1 := bT.cell 1
  have y2 := bT.cell 2
  have y3 := bT.cell 3
  simp only [List.getElem?_toArray, List.getElem?_cons_zero, List.getElem?_cons_succ] at y0 y1 y2 y3
  have HW1 := Lib.hid hW1
  have HTT := Lib.hid hT
  have HRT := Lib.hid hRT
  have HWT := Lib.hid hwT
  clear hT hW1 hRT hB1 bT hb1 hwT HC
  have hk2 : (k == 2) = false := beq_eq_false_iff_ne.2 hk
  have hk3 : (k == 1) = false := beq_eq_false_iff_ne.2 hk1
  go_wp2_with (first | (rw [← HW1.out, ← HTT.out]))
  obtain ⟨Z, hZ⟩ : ∃ Z, Z = (((W1.setCell ⟨T, 0, none⟩ (.int .i64 k)).setCell ⟨T, 1, none⟩ (.int .i64 a)).setCell ⟨T, 2, none⟩ (.int .i64 n)).setCell ⟨T, 3, none⟩ (.string ⟨s.toArray⟩) := ⟨_, rfl⟩
  rw [← hZ] at HZT HZR HZB ⊢
  have HM : Hid (∀ w', Below (T + 1) Z w' → Box w' R NodeT #[.int .i64 0, .int .i64 0, .int .i64 0, .string ⟨#[]⟩, .slice none 0 0] ∧ Box w' T TkT #[.int .i64 k, .int .i64 a, .int .i64 n, .string ⟨s.toArray⟩] ∧ Src l v w' ∧ T + 1 ≤ w'.heap.size ∧ Below w.heap.size w w') := Lib.hid (fun w' hb => by
    have hRT := HRT.out
    have hWT := HWT.out
    have q1 := HZR.out.below hb (by omega)
    have q2 := HZT.out.below hb (by omega)
    have q3 : Below w.heap.size w w' := HZB.out.trans (hb.mono (by omega))
    exact ⟨q1, q2, HSRC.out.on q3, q2.lt, q3⟩)
  have HB : Hid (Below (T + 1) Z Z) := Lib.hid (Below.refl _ _)
  clear f0 f1 f2 f3 y0 y1 y2 y3 hZ bR
  refine (says_src (HM.out _ HB.out).2.2.1 HB.out (HM.out _ HB.out).2.2.2.1 [116, 114, 117, 101] (i) (by unfold I64; omega)).mono ?_
  rintro e w2 ⟨rfl, hb2⟩
  have HB2 := Lib.hid hb2
  clear hb2
  go_wp2_with (fail)
  refine (says_src (HM.out _ HB2.out).2.2.1 HB2.out (HM.out _ HB2.out).2.2.2.1 [102, 97, 108, 115, 101] (i) (by unfold I64; omega)).mono ?_
  rintro e w3 ⟨rfl, hb3⟩
  have HB3 := Lib.hid hb3
  clear hb3
  have bT := (HM.out _ HB3.out).2.1
  have t0 := bT.cell 0
  have t1 := bT.cell 1
  have t3 := bT.cell 3
  simp only [List.getElem?_toArray, List.getElem?_cons_zero, List.getElem?_cons_succ] at t0 t1 t3
  clear bT
  go_wp2_with (fail)
  clear t0 t1 t3
  refine (says_src (HM.out _ HB3.out).2.2.1 HB3.out (HM.out _ HB3.out).2.2.2.1 [102, 111, 114, 107] (i) (by unfold I64; omega)).mono ?_
  rintro e w4 ⟨rfl, hb4⟩
  have HB4 := Lib.hid hb4
  clear hb4
  go_wp2_with (fail)
  refine (says_src (HM.out _ HB4.out).2.2.1 HB4.out (HM.out _ HB4.out).2.2.2.1 [110, 101, 119] (i) (by unfold I64; omega)).mono ?_
  rintro e w5 ⟨rfl, hb5⟩
  have HB5 := Lib.hid hb5
  clear hb5
  go_wp2_with (fail)
  refine (is_src (HM.out _ HB5.out).2.2.1 HB5.out (HM.out _ HB5.out).2.2.2.1 [40] (i) (by unfold I64; omega)).mono ?_
  rintro e w6 ⟨rfl, hb6⟩
  have HB6 := Lib.hid hb6
  clear hb6
  have bR := (HM.out _ HB6.out).1
  have HE := Lib.hid (no_end (j := i) HRR.out bR (HM.out _ HB6.out).2.2.2.2)
  have r0 := bR.cell 0
  have r1 := bR.cell 1
  have r2 := bR.cell 2
  have r3 := bR.cell 3
  have r4 := bR.cell 4
  have g0 := bR.frozen 0
  have g1 := bR.frozen 1
  have g2 := bR.frozen 2
  have g3 := bR.frozen 3
  have g4 := bR.frozen 4
  simp only [List.getElem?_toArray, List.getElem?_cons_zero, List.getElem?_cons_succ] at r0 r1 r2 r3 r4
  clear bR
  go_wp2_with (fail)
  refine bodyPost_ret (node_ret3 rfl rfl rfl rfl HE.out.1) rfl ?_
  rw [HP.out]
  exact HE.out.2
set_option maxRecDepth 100000 in
set_option maxHeartbeats 4000000 in
theorem first_new_no {l : List Tk} {v : Value} {i : Int} {w : World} (hs : Src l v w) (h0 : -9223372036854775808 ≤ i) {j : Int} (h1 : i < l.length) (hk : (tokAt l i).kind ≠ 2) (hk1 : (tokAt l i).kind ≠ 1) (w0 : isW l i [116, 114, 117, 101] = false) (w1 : isW l i [102, 97, 108, 115, 101] = false) (w2 : isW l i [102, 111, 114, 107] = false) (w3 : isW l i [110, 101, 119] = true) (ih : ∀ w', Src l v w' → Calls Tryd.prog 13 #[v, .int .i64 (i + 1)] w' (Told (.no j) w')) :
    Calls Tryd.prog 62 #[v, .int .i64 i] w (Told (.no j) w) := by
  obtain ⟨P, hP⟩ : ∃ P, P = Told (.no j) w := ⟨_, rfl⟩
  rw [← hP]
  have HP := Lib.hid hP
  have IH := Lib.hid ih
  clear ih
  clear hP
  have HSRC := Lib.hid hs
  have hF := hs.fair i
  obtain ⟨R, hR⟩ : ∃ R, R = w.heap.size := ⟨_, rfl⟩
  obtain ⟨W, hW⟩ : ∃ W, W = w.alloc (.cells #[.int .i64 0, .int .i64 0, .int .i64 0, .string ⟨#[]⟩, .slice none 0 0] NodeT) := ⟨_, rfl⟩
  have hbW : Below w.heap.size w W := by rw [hW]; exact (Below.refl _ _).alloc (Nat.le_refl _) _
  have HBX : Hid (Box W R NodeT #[.int .i64 0, .int .i64 0, .int .i64 0, .string ⟨#[]⟩, .slice none 0 0]) := Lib.hid (by rw [hW]; exact Box.new _ _ _ _ hR)
  have HC := Lib.hid (rtok_any l v i W _ (hs.on hbW).lies hs.len (by unfold I64; have := hs.len; omega))
  unfold TokPost at HC
  obtain ⟨t, ht⟩ : ∃ t, t = tokAt l i := ⟨_, rfl⟩
  rw [← ht] at HC hF hk hk1
  obtain ⟨k, a, n, s⟩ := t
  simp only [tkA] at HC hF hk hk1
  have HF := Lib.hid hF
  have HT0 := Lib.hid ht
  have HW := Lib.hid hW
  have HRR := Lib.hid hR
  have HBW := Lib.hid hbW
  have hL := hs.len
  clear hW hR hbW hs hF ht
  go_enter Tryd.func62, Tryd.ntmps62
  go_wp2_with (first | (rw [← HW.out, ← HRR.out]))
  refine HC.out.mono ?_
  rintro e w1 ⟨rfl, hb1⟩
  obtain ⟨T, hT⟩ : ∃ T, T = w1.heap.size := ⟨_, rfl⟩
  obtain ⟨W1, hW1⟩ : ∃ W1, W1 = w1.alloc (.cells #[.int .i64 0, .int .i64 0, .int .i64 0, .string ⟨#[]⟩] TkT) := ⟨_, rfl⟩
  have hRT : R < T := by have := HBX.out.lt; have := hb1.size; omega
  have hB1 : Below w.heap.size w W1 := by rw [hW1]; exact (HBW.out.trans (hb1.mono HBW.out.size)).alloc (Nat.le_trans HBW.out.size hb1.size) _
  have bT : Box W1 T TkT #[.int .i64 0, .int .i64 0, .int .i64 0, .string ⟨#[]⟩] := by rw [hW1]; exact Box.new _ _ _ _ hT
  have bR : Box W1 R NodeT #[.int .i64 0, .int .i64 0, .int .i64 0, .string ⟨#[]⟩, .slice none 0 0] := by rw [hW1]; exact (HBX.out.on hb1).alloc _
  have hwT : w.heap.size ≤ T := by have := HRR.out; omega
  have HZT := Lib.hid (box_four bT (.int .i64 k) (.int .i64 a) (.int .i64 n) (.string ⟨s.toArray⟩))
  have HZR : Hid (Box ((((W1.setCell ⟨T, 0, none⟩ (.int .i64 k)).setCell ⟨T, 1, none⟩ (.int .i64 a)).setCell ⟨T, 2, none⟩ (.int .i64 n)).setCell ⟨T, 3, none⟩ (.string ⟨s.toArray⟩)) R NodeT #[.int .i64 0, .int .i64 0, .int .i64 0, .string ⟨#[]⟩, .slice none 0 0]) := Lib.hid ((((bR.far (by show R ≠ T; omega) _).far (by show R ≠ T; omega) _).far (by show R ≠ T; omega) _).far (by show R ≠ T; omega) _)
  have HZB := Lib.hid (below_four hB1 hwT (.int .i64 k) (.int .i64 a) (.int .i64 n) (.string ⟨s.toArray⟩))
  have f0 := bT.frozen 0
  have f1 := bT.frozen 1
  have f2 := bT.frozen 2
  have f3 := bT.frozen 3
  have y0 := bT.cell 0
  have y1 := bT.cell 1
  have y2 := bT.cell 2
  have y3 := bT.cell 3
  simp only [List.getElem?_toArray, List.getElem?_cons_zero, List.getElem?_cons_succ] at y0 y1 y2 y3
  have HW1 := Lib.hid hW1
  have HTT := Lib.hid hT
  have HRT := Lib.hid hRT
  have HWT := Lib.hid hwT
  clear hT hW1 hRT hB1 bT hb1 hwT HC
  have hk2 : (k == 2) = false := beq_eq_false_iff_ne.2 hk
  have hk3 : (k == 1) = false := beq_eq_false_iff_ne.2 hk1
  go_wp2_with (first | (rw [← HW1.out, ← HTT.out]))
  obtain ⟨Z, hZ⟩ : ∃ Z, Z = (((W1.setCell ⟨T, 0, none⟩ (.int .i64 k)).setCell ⟨T, 1, none⟩ (.int .i64 a)).setCell ⟨T, 2, none⟩ (.int .i64 n)).setCell ⟨T, 3, none⟩ (.string ⟨s.toArray⟩) := ⟨_, rfl⟩
  rw [← hZ] at HZT HZR HZB ⊢
  have HM : Hid (∀ w', Below (T + 1) Z w' → Box w' R NodeT #[.int .i64 0, .int .i64 0, .int .i64 0, .string ⟨#[]⟩, .slice none 0 0] ∧ Box w' T TkT #[.int .i64 k, .int .i64 a, .int .i64 n, .string ⟨s.toArray⟩] ∧ Src l v w' ∧ T + 1 ≤ w'.heap.size ∧ Below w.heap.size w w') := Lib.hid (fun w' hb => by
    have hRT := HRT.out
    have hWT := HWT.out
    have q1 := HZR.out.below hb (by omega)
    have q2 := HZT.out.below hb (by omega)
    have q3 : Below w.heap.size w w' := HZB.out.trans (hb.mono (by omega))
    exact ⟨q1, q2, HSRC.out.on q3, q2.lt, q3⟩)
  have HB : Hid (Below (T + 1) Z Z) := Lib.hid (Below.refl _ _)
  clear f0 f1 f2 f3 y0 y1 y2 y3 hZ bR
  refine (says_src (HM.out _ HB.out).2.2.1 HB.out (HM.out _ HB.out).2.2.2.1 [116, 114, 117, 101] (i) (by unfold I64; omega)).mono ?_
  rintro e w2 ⟨rfl, hb2⟩
  have HB2 := Lib.hid hb2
  clear hb2
  go_wp2_with (fail)
  refine (says_src (HM.out _ HB2.out).2.2.1 HB2.out (HM.out _ HB2.out).2.2.2.1 [102, 97, 108, 115, 101] (i) (by unfold I64; omega)).mono ?_
  rintro e w3 ⟨rfl, hb3⟩
  have HB3 := Lib.hid hb3
  clear hb3
  have bT := (HM.out _ HB3.out).2.1
  have t0 := bT.cell 0
  have t1 := bT.cell 1
  have t3 := bT.cell 3
  simp only [List.getElem?_toArray, List.getElem?_cons_zero, List.getElem?_cons_succ] at t0 t1 t3
  clear bT
  go_wp2_with (fail)
  clear t0 t1 t3
  refine (says_src (HM.out _ HB3.out).2.2.1 HB3.out (HM.out _ HB3.out).2.2.2.1 [102, 111, 114, 107] (i) (by unfold I64; omega)).mono ?_
  rintro e w4 ⟨rfl, hb4⟩
  have HB4 := Lib.hid hb4
  clear hb4
  go_wp2_with (fail)
  refine (says_src (HM.out _ HB4.out).2.2.1 HB4.out (HM.out _ HB4.out).2.2.2.1 [110, 101, 119] (i) (by unfold I64; omega)).mono ?_
  rintro e w5 ⟨rfl, hb5⟩
  have HB5 := Lib.hid hb5
  clear hb5
  go_wp2_with (fail)
  refine (IH.out _ (HM.out _ HB5.out).2.2.1).mono ?_
  rintro e w7 ⟨rfl, hb7⟩
  have HB7 := Lib.hid (HB5.out.trans (hb7.mono (HM.out _ HB5.out).2.2.2.1))
  obtain ⟨V, hV⟩ : ∃ V, V = w7.alloc (.cells #[.int .i64 0, .int .i64 0, .int .i64 0, .string ⟨#[]⟩, .slice none 0 0] NodeT) := ⟨_, rfl⟩
  obtain ⟨O, hO⟩ : ∃ O, O = w7.heap.size := ⟨_, rfl⟩
  have hTO : T + 1 ≤ O := by rw [hO]; exact (HM.out _ HB7.out).2.2.2.1
  have hbV : Below (T + 1) Z V := by rw [hV]; exact HB7.out.alloc (HM.out _ HB7.out).2.2.2.1 _
  have bO : Box V O NodeT #[.int .i64 0, .int .i64 0, .int .i64 0, .string ⟨#[]⟩, .slice none 0 0] := by rw [hV]; exact Box.new _ _ _ _ hO
  have bR := (HM.out _ hbV).1
  have ne3 : ¬ R = O := by have := HRT.out; omega
  have ne4 : ¬ O = R := fun e => ne3 e.symm
  have ne5 : ¬ T = O := by omega
  have ne6 : ¬ O = T := fun e => ne5 e.symm
  have HBU : Hid (Below (T + 1) Z (((((V.setCell ⟨O, 0, none⟩ (.int .i64 0)).setCell ⟨O, 1, none⟩ (.int .i64 0)).setCell ⟨O, 2, none⟩ (.int .i64 0)).setCell ⟨O, 3, none⟩ (.string ⟨#[]⟩)).setCell ⟨O, 4, none⟩ (.slice none 0 0))) := Lib.hid (below_five hbV hTO _ _ _ _ _)
  have HE := Lib.hid (no_end (j := j) HRR.out (HM.out _ HBU.out).1 (HM.out _ HBU.out).2.2.2.2)
  have r0 := bR.cell 0
  have r1 := bR.cell 1
  have r2 := bR.cell 2
  have r3 := bR.cell 3
  have r4 := bR.cell 4
  have g0 := bR.frozen 0
  have g1 := bR.frozen 1
  have g2 := bR.frozen 2
  have g3 := bR.frozen 3
  have g4 := bR.frozen 4
  simp only [List.getElem?_toArray, List.getElem?_cons_zero, List.getElem?_cons_succ] at r0 r1 r2 r3 r4
  have o0 := bO.cell 0
  have o1 := bO.cell 1
  have o2 := bO.cell 2
  have o3 := bO.cell 3
  have o4 := bO.cell 4
  have og0 := bO.frozen 0
  have og1 := bO.frozen 1
  have og2 := bO.frozen 2
  have og3 := bO.frozen 3
  have og4 := bO.frozen 4
  simp only [List.getElem?_toArray, List.getElem?_cons_zero, List.getElem?_cons_succ] at o0 o1 o2 o3 o4
  have HV := Lib.hid hV
  have HO := Lib.hid hO
  clear hV hO hTO hbV bO bR hb7
  go_wp2_with (first | (rw [← HV.out, ← HO.out]))
  refine bodyPost_ret (node_ret3 rfl rfl rfl rfl HE.out.1) rfl ?_
  rw [HP.out]
  exact HE.out.2
set_option maxRecDepth 100000 in
set_option maxHeartbeats 4000000 in
theorem first_par_no {l : List Tk} {v : Value} {i : Int} {w : World} (hs : Src l v w) (h0 : -9223372036854775808 ≤ i) {j : Int} (h1 : i < l.length) (hk : (tokAt l i).kind ≠ 2) (hk1 : (tokAt l i).kind ≠ 1) (w0 : isW l i [116, 114, 117, 101] = false) (w1 : isW l i [102, 97, 108, 115, 101] = false) (w2 : isW l i [102, 111, 114, 107] = false) (w3 : isW l i [110, 101, 119] = false) (m1 : isM l i [40] = true) (ih : ∀ w', Src l v w' → Calls Tryd.prog 9 #[v, .int .i64 (i + 1)] w' (Told (.no j) w')) :
    Calls Tryd.prog 62 #[v, .int .i64 i] w (Told (.no j) w) := by
  obtain ⟨P, hP⟩ : ∃ P, P = Told (.no j) w := ⟨_, rfl⟩
  rw [← hP]
  have HP := Lib.hid hP
  have IH := Lib.hid ih
  clear ih
  clear hP
  have HSRC := Lib.hid hs
  have hF := hs.fair i
  obtain ⟨R, hR⟩ : ∃ R, R = w.heap.size := ⟨_, rfl⟩
  obtain ⟨W, hW⟩ : ∃ W, W = w.alloc (.cells #[.int .i64 0, .int .i64 0, .int .i64 0, .string ⟨#[]⟩, .slice none 0 0] NodeT) := ⟨_, rfl⟩
  have hbW : Below w.heap.size w W := by rw [hW]; exact (Below.refl _ _).alloc (Nat.le_refl _) _
  have HBX : Hid (Box W R NodeT #[.int .i64 0, .int .i64 0, .int .i64 0, .string ⟨#[]⟩, .slice none 0 0]) := Lib.hid (by rw [hW]; exact Box.new _ _ _ _ hR)
  have HC := Lib.hid (rtok_any l v i W _ (hs.on hbW).lies hs.len (by unfold I64; have := hs.len; omega))
  unfold TokPost at HC
  obtain ⟨t, ht⟩ : ∃ t, t = tokAt l i := ⟨_, rfl⟩
  rw [← ht] at HC hF hk hk1
  obtain ⟨k, a, n, s⟩ := t
  simp only [tkA] at HC hF hk hk1
  have HF := Lib.hid hF
  have HT0 := Lib.hid ht
  have HW := Lib.hid hW
  have HRR := Lib.hid hR
  have HBW := Lib.hid hbW
  have hL := hs.len
  clear hW hR hbW hs hF ht
  go_enter Tryd.func62, Tryd.ntmps62
  go_wp2_with (first | (rw [← HW.out, ← HRR.out]))
  refine HC.out.mono ?_
  rintro e w1 ⟨rfl, hb1⟩
  obtain ⟨T, hT⟩ : ∃ T, T = w1.heap.size := ⟨_, rfl⟩
  obtain ⟨W1, hW1⟩ : ∃ W1, W1 = w1.alloc (.cells #[.int .i64 0, .int .i64 0, .int .i64 0, .string ⟨#[]⟩] TkT) := ⟨_, rfl⟩
  have hRT : R < T := by have := HBX.out.lt; have := hb1.size; omega
  have hB1 : Below w.heap.size w W1 := by rw [hW1]; exact (HBW.out.trans (hb1.mono HBW.out.size)).alloc (Nat.le_trans HBW.out.size hb1.size) _
  have bT : Box W1 T TkT #[.int .i64 0, .int .i64 0, .int .i64 0, .string ⟨#[]⟩] := by rw [hW1]; exact Box.new _ _ _ _ hT
  have bR : Box W1 R NodeT #[.int .i64 0, .int .i64 0, .int .i64 0, .string ⟨#[]⟩, .slice none 0 0] := by rw [hW1]; exact (HBX.out.on hb1).alloc _
  have hwT : w.heap.size ≤ T := by have := HRR.out; omega
  have HZT := Lib.hid (box_four bT (.int .i64 k) (.int .i64 a) (.int .i64 n) (.string ⟨s.toArray⟩))
  have HZR : Hid (Box ((((W1.setCell ⟨T, 0, none⟩ (.int .i64 k)).setCell ⟨T, 1, none⟩ (.int .i64 a)).setCell ⟨T, 2, none⟩ (.int .i64 n)).setCell ⟨T, 3, none⟩ (.string ⟨s.toArray⟩)) R NodeT #[.int .i64 0, .int .i64 0, .int .i64 0, .string ⟨#[]⟩, .slice none 0 0]) := Lib.hid ((((bR.far (by show R ≠ T; omega) _).far (by show R ≠ T; omega) _).far (by show R ≠ T; omega) _).far (by show R ≠ T; omega) _)
  have HZB := Lib.hid (below_four hB1 hwT (.int .i64 k) (.int .i64 a) (.int .i64 n) (.string ⟨s.toArray⟩))
  have f0 := bT.frozen 0
  have f1 := bT.frozen 1
  have f2 := bT.frozen 2
  have f3 := bT.frozen 3
  have y0 := bT.cell 0
  have y1 := bT.cell 1
  have y2 := bT.cell 2
  have y3 := bT.cell 3
  simp only [List.getElem?_toArray, List.getElem?_cons_zero, List.getElem?_cons_succ] at y0 y1 y2 y3
  have HW1 := Lib.hid hW1
  have HTT := Lib.hid hT
  have HRT := Lib.hid hRT
  have HWT := Lib.hid hwT
  clear hT hW1 hRT hB1 bT hb1 hwT HC
  have hk2 : (k == 2) = false := beq_eq_false_iff_ne.2 hk
  have hk3 : (k == 1) = false := beq_eq_false_iff_ne.2 hk1
  go_wp2_with (first | (rw [← HW1.out, ← HTT.out]))
  obtain ⟨Z, hZ⟩ : ∃ Z, Z = (((W1.setCell ⟨T, 0, none⟩ (.int .i64 k)).setCell ⟨T, 1, none⟩ (.int .i64 a)).setCell ⟨T, 2, none⟩ (.int .i64 n)).setCell ⟨T, 3, none⟩ (.string ⟨s.toArray⟩) := ⟨_, rfl⟩
  rw [← hZ] at HZT HZR HZB ⊢
  have HM : Hid (∀ w', Below (T + 1) Z w' → Box w' R NodeT #[.int .i64 0, .int .i64 0, .int .i64 0, .string ⟨#[]⟩, .slice none 0 0] ∧ Box w' T TkT #[.int .i64 k, .int .i64 a, .int .i64 n, .string ⟨s.toArray⟩] ∧ Src l v w' ∧ T + 1 ≤ w'.heap.size ∧ Below w.heap.size w w') := Lib.hid (fun w' hb => by
    have hRT := HRT.out
    have hWT := HWT.out
    have q1 := HZR.out.below hb (by omega)
    have q2 := HZT.out.below hb (by omega)
    have q3 : Below w.heap.size w w' := HZB.out.trans (hb.mono (by omega))
    exact ⟨q1, q2, HSRC.out.on q3, q2.lt, q3⟩)
  have HB : Hid (Below (T + 1) Z Z) := Lib.hid (Below.refl _ _)
  clear f0 f1 f2 f3 y0 y1 y2 y3 hZ bR
  refine (says_src (HM.out _ HB.out).2.2.1 HB.out (HM.out _ HB.out).2.2.2.1 [116, 114, 117, 101] (i) (by unfold I64; omega)).mono ?_
  rintro e w2 ⟨rfl, hb2⟩
  have HB2 := Lib.hid hb2
  clear hb2
  go_wp2_with (fail)
  refine (says_src (HM.out _ HB2.out).2.2.1 HB2.out (HM.out _ HB2.out).2.2.2.1 [102, 97, 108, 115, 101] (i) (by unfold I64; omega)).mono ?_
  rintro e w3 ⟨rfl, hb3⟩
  have HB3 := Lib.hid hb3
  clear hb3
  have bT := (HM.out _ HB3.out).2.1
  have t0 := bT.cell 0
  have t1 := bT.cell 1
  have t3 := bT.cell 3
  simp only [List.getElem?_toArray, List.getElem?_cons_zero, List.getElem?_cons_succ] at t0 t1 t3
  clear bT
  go_wp2_with (fail)
  clear t0 t1 t3
  refine (says_src (HM.out _ HB3.out).2.2.1 HB3.out (HM.out _ HB3.out).2.2.2.1 [102, 111, 114, 107] (i) (by unfold I64; omega)).mono ?_
  rintro e w4 ⟨rfl, hb4⟩
  have HB4 := Lib.hid hb4
  clear hb4
  go_wp2_with (fail)
  refine (says_src (HM.out _ HB4.out).2.2.1 HB4.out (HM.out _ HB4.out).2.2.2.1 [110, 101, 119] (i) (by unfold I64; omega)).mono ?_
  rintro e w5 ⟨rfl, hb5⟩
  have HB5 := Lib.hid hb5
  clear hb5
  go_wp2_with (fail)
  refine (is_src (HM.out _ HB5.out).2.2.1 HB5.out (HM.out _ HB5.out).2.2.2.1 [40] (i) (by unfold I64; omega)).mono ?_
  rintro e w6 ⟨rfl, hb6⟩
  have HB6 := Lib.hid hb6
  clear hb6
  go_wp2_with (fail)
  refine (IH.out _ (HM.out _ HB6.out).2.2.1).mono ?_
  rintro e w7 ⟨rfl, hb7⟩
  have HB7 := Lib.hid (HB6.out.trans (hb7.mono (HM.out _ HB6.out).2.2.2.1))
  obtain ⟨V, hV⟩ : ∃ V, V = w7.alloc (.cells #[.int .i64 0, .int .i64 0, .int .i64 0, .string ⟨#[]⟩, .slice none 0 0] NodeT) := ⟨_, rfl⟩
  obtain ⟨O, hO⟩ : ∃ O, O = w7.heap.size := ⟨_, rfl⟩
  have hTO : T + 1 ≤ O := by rw [hO]; exact (HM.out _ HB7.out).2.2.2.1
  have hbV : Below (T + 1) Z V := by rw [hV]; exact HB7.out.alloc (HM.out _ HB7.out).2.2.2.1 _
  have bO : Box V O NodeT #[.int .i64 0, .int .i64 0, .int .i64 0, .string ⟨#[]⟩, .slice none 0 0] := by rw [hV]; exact Box.new _ _ _ _ hO
  have bR := (HM.out _ hbV).1
  have ne3 : ¬ R = O := by have := HRT.out; omega
  have ne4 : ¬ O = R := fun e => ne3 e.symm
  have ne5 : ¬ T = O := by omega
  have ne6 : ¬ O = T := fun e => ne5 e.symm
  have HBU : Hid (Below (T + 1) Z (((((V.setCell ⟨O, 0, none⟩ (.int .i64 0)).setCell ⟨O, 1, none⟩ (.int .i64 0)).setCell ⟨O, 2, none⟩ (.int .i64 0)).setCell ⟨O, 3, none⟩ (.string ⟨#[]⟩)).setCell ⟨O, 4, none⟩ (.slice none 0 0))) := Lib.hid (below_five hbV hTO _ _ _ _ _)
  have HE := Lib.hid (no_end (j := j) HRR.out (HM.out _ HBU.out).1 (HM.out _ HBU.out).2.2.2.2)
  have r0 := bR.cell 0
  have r1 := bR.cell 1
  have r2 := bR.cell 2
  have r3 := bR.cell 3
  have r4 := bR.cell 4
  have g0 := bR.frozen 0
  have g1 := bR.frozen 1
  have g2 := bR.frozen 2
  have g3 := bR.frozen 3
  have g4 := bR.frozen 4
  simp only [List.getElem?_toArray, List.getElem?_cons_zero, List.getElem?_cons_succ] at r0 r1 r2 r3 r4
  have o0 := bO.cell 0
  have o1 := bO.cell 1
  have o2 := bO.cell 2
  have o3 := bO.cell 3
  have o4 := bO.cell 4
  have og0 := bO.frozen 0
  have og1 := bO.frozen 1
  have og2 := bO.frozen 2
  have og3 := bO.frozen 3
  have og4 := bO.frozen 4
  simp only [List.getElem?_toArray, List.getElem?_cons_zero, List.getElem?_cons_succ] at o0 o1 o2 o3 o4
  have HV := Lib.hid hV
  have HO := Lib.hid hO
  clear hV hO hTO hbV bO bR hb7
  go_wp2_with (first | (rw [← HV.out, ← HO.out]))
  refine bodyPost_ret (node_ret3 rfl rfl rfl rfl HE.out.1) rfl ?_
  rw [HP.out]
  exact HE.out.2
set_option maxRecDepth 100000 in
set_option maxHeartbeats 4000000 in
theorem first_par_open {l : List Tk} {v : Value} {i : Int} {w : World} (hs : Src l v w) (h0 : -9223372036854775808 ≤ i) {j : Int} {u : NT} (hj0 : 0 ≤ j) (hj1 : j ≤ l.length) (h1 : i < l.length) (hk : (tokAt l i).kind ≠ 2) (hk1 : (tokAt l i).kind ≠ 1) (w0 : isW l i [116, 114, 117, 101] = false) (w1 : isW l i [102, 97, 108, 115, 101] = false) (w2 : isW l i [102, 111, 114, 107] = false) (w3 : isW l i [110, 101, 119] = false) (m1 : isM l i [40] = true) (m2 : isM l j [41] = false) (ih : ∀ w', Src l v w' → Calls Tryd.prog 9 #[v, .int .i64 (i + 1)] w' (Told (.node u j) w')) :
    Calls Tryd.prog 62 #[v, .int .i64 i] w (Told (.no j) w) := by
  obtain ⟨P, hP⟩ : ∃ P, P = Told (.no j) w := ⟨_, rfl⟩
  rw [← hP]
  have HP := Lib.hid hP
  have IH := Lib.hid ih
  clear ih
  clear hP
  have HSRC := Lib.hid hs
  have hF := hs.fair i
  obtain ⟨R, hR⟩ : ∃ R, R = w.heap.size := ⟨_, rfl⟩
  obtain ⟨W, hW⟩ : ∃ W, W = w.alloc (.cells #[.int .i64 0, .int .i64 0, .int .i64 0, .string ⟨#[]⟩, .slice none 0 0] NodeT) := ⟨_, rfl⟩
  have hbW : Below w.heap.size w W := by rw [hW]; exact (Below.refl _ _).alloc (Nat.le_refl _) _
  have HBX : Hid (Box W R NodeT #[.int .i64 0, .int .i64 0, .int .i64 0, .string ⟨#[]⟩, .slice none 0 0]) := Lib.hid (by rw [hW]; exact Box.new _ _ _ _ hR)
  have HC := Lib.hid (rtok_any l v i W _ (hs.on hbW).lies hs.len (by unfold I64; have := hs.len; omega))
  unfold TokPost at HC
  obtain ⟨t, ht⟩ : ∃ t, t = tokAt l i := ⟨_, rfl⟩
  rw [← ht] at HC hF hk hk1
  obtain ⟨k, a, n, s⟩ := t
  simp only [tkA] at HC hF hk hk1
  have HF := Lib.hid hF
  have HT0 := Lib.hid ht
  have HW := Lib.hid hW
  have HRR := Lib.hid hR
  have HBW := Lib.hid hbW
  have hL := hs.len
  clear hW hR hbW hs hF ht
  go_enter Tryd.func62, Tryd.ntmps62
  go_wp2_with (first | (rw [← HW.out, ← HRR.out]))
  refine HC.out.mono ?_
  rintro e w1 ⟨rfl, hb1⟩
  obtain ⟨T, hT⟩ : ∃ T, T = w1.heap.size := ⟨_, rfl⟩
  obtain ⟨W1, hW1⟩ : ∃ W1, W1 = w1.alloc (.cells #[.int .i64 0, .int .i64 0, .int .i64 0, .string ⟨#[]⟩] TkT) := ⟨_, rfl⟩
  have hRT : R < T := by have := HBX.out.lt; have := hb1.size; omega
  have hB1 : Below w.heap.size w W1 := by rw [hW1]; exact (HBW.out.trans (hb1.mono HBW.out.size)).alloc (Nat.le_trans HBW.out.size hb1.size) _
  have bT : Box W1 T TkT #[.int .i64 0, .int .i64 0, .int .i64 0, .string ⟨#[]⟩] := by rw [hW1]; exact Box.new _ _ _ _ hT
  have bR : Box W1 R NodeT #[.int .i64 0, .int .i64 0, .int .i64 0, .string ⟨#[]⟩, .slice none 0 0] := by rw [hW1]; exact (HBX.out.on hb1).alloc _
  have hwT : w.heap.size ≤ T := by have := HRR.out; omega
  have HZT := Lib.hid (box_four bT (.int .i64 k) (.int .i64 a) (.int .i64 n) (.string ⟨s.toArray⟩))
  have HZR : Hid (Box ((((W1.setCell ⟨T, 0, none⟩ (.int .i64 k)).setCell ⟨T, 1, none⟩ (.int .i64 a)).setCell ⟨T, 2, none⟩ (.int .i64 n)).setCell ⟨T, 3, none⟩ (.string ⟨s.toArray⟩)) R NodeT #[.int .i64 0, .int .i64 0, .int .i64 0, .string ⟨#[]⟩, .slice none 0 0]) := Lib.hid ((((bR.far (by show R ≠ T; omega) _).far (by show R ≠ T; omega) _).far (by show R ≠ T; omega) _).far (by show R ≠ T; omega) _)
  have HZB := Lib.hid (below_four hB1 hwT (.int .i64 k) (.int .i64 a) (.int .i64 n) (.string ⟨s.toArray⟩))
  have f0 := bT.frozen 0
  have f1 := bT.frozen 1
  have f2 := bT.frozen 2
  have f3 := bT.frozen 3
  have y0 := bT.cell 0
  have y1 := bT.cell 1
  have y2 := bT.cell 2
  have y3 := bT.cell 3
  simp only [List.getElem?_toArray, List.getElem?_cons_zero, List.getElem?_cons_succ] at y0 y1 y2 y3
  have HW1 := Lib.hid hW1
  have HTT := Lib.hid hT
  have HRT := Lib.hid hRT
  have HWT := Lib.hid hwT
  clear hT hW1 hRT hB1 bT hb1 hwT HC
  have hk2 : (k == 2) = false := beq_eq_false_iff_ne.2 hk
  have hk3 : (k == 1) = false := beq_eq_false_iff_ne.2 hk1
  go_wp2_with (first | (rw [← HW1.out, ← HTT.out]))
  obtain ⟨Z, hZ⟩ : ∃ Z, Z = (((W1.setCell ⟨T, 0, none⟩ (.int .i64 k)).setCell ⟨T, 1, none⟩ (.int .i64 a)).setCell ⟨T, 2, none⟩ (.int .i64 n)).setCell ⟨T, 3, none⟩ (.string ⟨s.toArray⟩) := ⟨_, rfl⟩
  rw [← hZ] at HZT HZR HZB ⊢
  have HM : Hid (∀ w', Below (T + 1) Z w' → Box w' R NodeT #[.int .i64 0, .int .i64 0, .int .i64 0, .string ⟨#[]⟩, .slice none 0 0] ∧ Box w' T TkT #[.int .i64 k, .int .i64 a, .int .i64 n, .string ⟨s.toArray⟩] ∧ Src l v w' ∧ T + 1 ≤ w'.heap.size ∧ Below w.heap.size w w') := Lib.hid (fun w' hb => by
    have hRT := HRT.out
    have hWT := HWT.out
    have q1 := HZR.out.below hb (by omega)
    have q2 := HZT.out.below hb (by omega)
    have q3 : Below w.heap.size w w' := HZB.out.trans (hb.mono (by omega))
    exact ⟨q1, q2, HSRC.out.on q3, q2.lt, q3⟩)
  have HB : Hid (Below (T + 1) Z Z) := Lib.hid (Below.refl _ _)
  clear f0 f1 f2 f3 y0 y1 y2 y3 hZ bR
  refine (says_src (HM.out _ HB.out).2.2.1 HB.out (HM.out _ HB.out).2.2.2.1 [116, 114, 117, 101] (i) (by unfold I64; omega)).mono ?_
  rintro e w2 ⟨rfl, hb2⟩
  have HB2 := Lib.hid hb2
  clear hb2
  go_wp2_with (fail)
  refine (says_src (HM.out _ HB2.out).2.2.1 HB2.out (HM.out _ HB2.out).2.2.2.1 [102, 97, 108, 115, 101] (i) (by unfold I64; omega)).mono ?_
  rintro e w3 ⟨rfl, hb3⟩
  have HB3 := Lib.hid hb3
  clear hb3
  have bT := (HM.out _ HB3.out).2.1
  have t0 := bT.cell 0
  have t1 := bT.cell 1
  have t3 := bT.cell 3
  simp only [List.getElem?_toArray, List.getElem?_cons_zero, List.getElem?_cons_succ] at t0 t1 t3
  clear bT
  go_wp2_with (fail)
  clear t0 t1 t3
  refine (says_src (HM.out _ HB3.out).2.2.1 HB3.out (HM.out _ HB3.out).2.2.2.1 [102, 111, 114, 107] (i) (by unfold I64; omega)).mono ?_
  rintro e w4 ⟨rfl, hb4⟩
  have HB4 := Lib.hid hb4
  clear hb4
  go_wp2_with (fail)
  refine (says_src (HM.out _ HB4.out).2.2.1 HB4.out (HM.out _ HB4.out).2.2.2.1 [110, 101, 119] (i) (by unfold I64; omega)).mono ?_
  rintro e w5 ⟨rfl, hb5⟩
  have HB5 := Lib.hid hb5
  clear hb5
  go_wp2_with (fail)
  refine (is_src (HM.out _ HB5.out).2.2.1 HB5.out (HM.out _ HB5.out).2.2.2.1 [40] (i) (by unfold I64; omega)).mono ?_
  rintro e w6 ⟨rfl, hb6⟩
  have HB6 := Lib.hid hb6
  clear hb6
  go_wp2_with (fail)
  refine (IH.out _ (HM.out _ HB6.out).2.2.1).mono ?_
  rintro e w7 ⟨su, rfl, hk7, hd7, hb7⟩
  obtain ⟨A, c, rfl, _⟩ := hk7.form
  have HB7 := Lib.hid (HB6.out.trans (hb7.mono (HM.out _ HB6.out).2.2.2.1))
  obtain ⟨V, hV⟩ : ∃ V, V = w7.alloc (.cells #[.int .i64 0, .int .i64 0, .int .i64 0, .string ⟨#[]⟩, .slice none 0 0] NodeT) := ⟨_, rfl⟩
  obtain ⟨O, hO⟩ : ∃ O, O = w7.heap.size := ⟨_, rfl⟩
  have hTO : T + 1 ≤ O := by rw [hO]; exact (HM.out _ HB7.out).2.2.2.1
  have hbV : Below (T + 1) Z V := by rw [hV]; exact HB7.out.alloc (HM.out _ HB7.out).2.2.2.1 _
  have bO : Box V O NodeT #[.int .i64 0, .int .i64 0, .int .i64 0, .string ⟨#[]⟩, .slice none 0 0] := by rw [hV]; exact Box.new _ _ _ _ hO
  have bR := (HM.out _ hbV).1
  have ne3 : ¬ R = O := by have := HRT.out; omega
  have ne4 : ¬ O = R := fun e => ne3 e.symm
  have ne5 : ¬ T = O := by omega
  have ne6 : ¬ O = T := fun e => ne5 e.symm
  have hku : nt.Kids (fun b => w.heap.size < b) (((((V.setCell ⟨O, 0, none⟩ (.int .i64 u.kind)).setCell ⟨O, 1, none⟩ (.int .i64 u.at_)).setCell ⟨O, 2, none⟩ (.int .i64 u.num)).setCell ⟨O, 3, none⟩ (.string ⟨u.name.toArray⟩)).setCell ⟨O, 4, none⟩ (.slice A u.kids.length c)) u.kids (.slice A u.kids.length c) := by
    have hk8 : nt.Kids (fun b => w.heap.size < b ∧ b < w7.heap.size) w7 u.kids (.slice A u.kids.length c) := (hk7.lt).mono fun b hb => ⟨by have h1 := hb.1; have h2 := (HM.out _ HB6.out).2.2.2.1; have := HRR.out; have := HRT.out; omega, hb.2⟩
    have hk9 : nt.Kids (fun b => w.heap.size < b ∧ b < w7.heap.size) V u.kids (.slice A u.kids.length c) := by rw [hV]; exact hk8.below ((Below.refl _ _).alloc (Nat.le_refl _) _)
    exact (kids_five hk9 (fun b hb => by have := hb.2; omega) _ _ _ _ _).mono fun b hb => hb.1
  have hbU : Below (T + 1) Z (((((V.setCell ⟨O, 0, none⟩ (.int .i64 u.kind)).setCell ⟨O, 1, none⟩ (.int .i64 u.at_)).setCell ⟨O, 2, none⟩ (.int .i64 u.num)).setCell ⟨O, 3, none⟩ (.string ⟨u.name.toArray⟩)).setCell ⟨O, 4, none⟩ (.slice A u.kids.length c)) := below_five hbV hTO _ _ _ _ _
  have bOU := box_five bO (.int .i64 u.kind) (.int .i64 u.at_) (.int .i64 u.num) (.string ⟨u.name.toArray⟩) (.slice A u.kids.length c)
  change Box (((((V.setCell ⟨O, 0, none⟩ (.int .i64 u.kind)).setCell ⟨O, 1, none⟩ (.int .i64 u.at_)).setCell ⟨O, 2, none⟩ (.int .i64 u.num)).setCell ⟨O, 3, none⟩ (.string ⟨u.name.toArray⟩)).setCell ⟨O, 4, none⟩ (.slice A u.kids.length c)) O NodeT _ at bOU
  have o0 := bO.cell 0
  have o1 := bO.cell 1
  have o2 := bO.cell 2
  have o3 := bO.cell 3
  have o4 := bO.cell 4
  have og0 := bO.frozen 0
  have og1 := bO.frozen 1
  have og2 := bO.frozen 2
  have og3 := bO.frozen 3
  have og4 := bO.frozen 4
  simp only [List.getElem?_toArray, List.getElem?_cons_zero, List.getElem?_cons_succ] at o0 o1 o2 o3 o4
  have HV := Lib.hid hV
  have HO := Lib.hid hO
  obtain ⟨U, hU⟩ : ∃ U, U = ((((V.setCell ⟨O, 0, none⟩ (.int .i64 u.kind)).setCell ⟨O, 1, none⟩ (.int .i64 u.at_)).setCell ⟨O, 2, none⟩ (.int .i64 u.num)).setCell ⟨O, 3, none⟩ (.string ⟨u.name.toArray⟩)).setCell ⟨O, 4, none⟩ (.slice A u.kids.length c) := ⟨_, rfl⟩
  rw [← hU] at hku hbU bOU
  have HU := Lib.hid hU
  have HKU := Lib.hid hku
  have HBU := Lib.hid hbU
  have HBO := Lib.hid bOU
  have HD := Lib.hid hd7
  have HTO := Lib.hid hTO
  clear hU hV hO hb7 hk7 bO hbV hku hbU bOU hd7 hTO bR
  go_wp2_with (first | (rw [← HV.out, ← HO.out]) | (rw [← HU.out]))
  refine (is_src (HM.out _ HBU.out).2.2.1 (Below.refl U.heap.size U) (Nat.le_refl _) [41] j (by unfold I64; omega)).mono ?_
  rintro e w8 ⟨rfl, hb8⟩
  have HB8 := Lib.hid (HBU.out.trans (hb8.mono (HM.out _ HBU.out).2.2.2.1))
  have bR := (HM.out _ HB8.out).1
  have HE := Lib.hid (no_end (j := j) HRR.out bR (HM.out _ HB8.out).2.2.2.2)
  have r0 := bR.cell 0
  have r1 := bR.cell 1
  have r2 := bR.cell 2
  have r3 := bR.cell 3
  have r4 := bR.cell 4
  have g0 := bR.frozen 0
  have g1 := bR.frozen 1
  have g2 := bR.frozen 2
  have g3 := bR.frozen 3
  have g4 := bR.frozen 4
  simp only [List.getElem?_toArray, List.getElem?_cons_zero, List.getElem?_cons_succ] at r0 r1 r2 r3 r4
  clear bR hb8
  go_wp2_with (fail)
  refine bodyPost_ret (node_ret3 rfl rfl rfl rfl HE.out.1) rfl ?_
  rw [HP.out]
  exact HE.out.2
set_option maxRecDepth 100000 in
set_option maxHeartbeats 4000000 in
theorem first_par {l : List Tk} {v : Value} {i : Int} {w : World} (hs : Src l v w) (h0 : -9223372036854775808 ≤ i) {j : Int} {u : NT} (hj0 : 0 ≤ j) (hj1 : j ≤ l.length) (h1 : i < l.length) (hk : (tokAt l i).kind ≠ 2) (hk1 : (tokAt l i).kind ≠ 1) (w0 : isW l i [116, 114, 117, 101] = false) (w1 : isW l i [102, 97, 108, 115, 101] = false) (w2 : isW l i [102, 111, 114, 107] = false) (w3 : isW l i [110, 101, 119] = false) (m1 : isM l i [40] = true) (m2 : isM l j [41] = true) (ih : ∀ w', Src l v w' → Calls Tryd.prog 9 #[v, .int .i64 (i + 1)] w' (Told (.node u j) w')) :
    Calls Tryd.prog 62 #[v, .int .i64 i] w (Told (.node u (j + 1)) w) := by
  obtain ⟨P, hP⟩ : ∃ P, P = Told (.node u (j + 1)) w := ⟨_, rfl⟩
  rw [← hP]
  have HP := Lib.hid hP
  have IH := Lib.hid ih
  clear ih
  clear hP
  have HSRC := Lib.hid hs
  have hF := hs.fair i
  obtain ⟨R, hR⟩ : ∃ R, R = w.heap.size := ⟨_, rfl⟩
  obtain ⟨W, hW⟩ : ∃ W, W = w.alloc (.cells #[.int .i64 0, .int .i64 0, .int .i64 0, .string ⟨#[]⟩, .slice none 0 0] NodeT) := ⟨_, rfl⟩
  have hbW : Below w.heap.size w W := by rw [hW]; exact (Below.refl _ _).alloc (Nat.le_refl _) _
  have HBX : Hid (Box W R NodeT #[.int .i64 0, .int .i64 0, .int .i64 0, .string ⟨#[]⟩, .slice none 0 0]) := Lib.hid (by rw [hW]; exact Box.new _ _ _ _ hR)
  have HC := Lib.hid (rtok_any l v i W _ (hs.on hbW).lies hs.len (by unfold I64; have := hs.len; omega))
  unfold TokPost at HC
  obtain ⟨t, ht⟩ : ∃ t, t = tokAt l i := ⟨_, rfl⟩
  rw [← ht] at HC hF hk hk1
  obtain ⟨k, a, n, s⟩ := t
  simp only [tkA] at HC hF hk hk1
  have HF := Lib.hid hF
  have HT0 := Lib.hid ht
  have HW := Lib.hid hW
  have HRR := Lib.hid hR
  have HBW := Lib.hid hbW
  have hL := hs.len
  clear hW hR hbW hs hF ht
  go_enter Tryd.func62, Tryd.ntmps62
  go_wp2_with (first | (rw [← HW.out, ← HRR.out]))
  refine HC.out.mono ?_
  rintro e w1 ⟨rfl, hb1⟩
  obtain ⟨T, hT⟩ : ∃ T, T = w1.heap.size := ⟨_, rfl⟩
  obtain ⟨W1, hW1⟩ : ∃ W1, W1 = w1.alloc (.cells #[.int .i64 0, .int .i64 0, .int .i64 0, .string ⟨#[]⟩] TkT) := ⟨_, rfl⟩
  have hRT : R < T := by have := HBX.out.lt; have := hb1.size; omega
  have hB1 : Below w.heap.size w W1 := by rw [hW1]; exact (HBW.out.trans (hb1.mono HBW.out.size)).alloc (Nat.le_trans HBW.out.size hb1.size) _
  have bT : Box W1 T TkT #[.int .i64 0, .int .i64 0, .int .i64 0, .string ⟨#[]⟩] := by rw [hW1]; exact Box.new _ _ _ _ hT
  have bR : Box W1 R NodeT #[.int .i64 0, .int .i64 0, .int .i64 0, .string ⟨#[]⟩, .slice none 0 0] := by rw [hW1]; exact (HBX.out.on hb1).alloc _
  have hwT : w.heap.size ≤ T := by have := HRR.out; omega
  have HZT := Lib.hid (box_four bT (.int .i64 k) (.int .i64 a) (.int .i64 n) (.string ⟨s.toArray⟩))
  have HZR : Hid (Box ((((W1.setCell ⟨T, 0, none⟩ (.int .i64 k)).setCell ⟨T, 1, none⟩ (.int .i64 a)).setCell ⟨T, 2, none⟩ (.int .i64 n)).setCell ⟨T, 3, none⟩ (.string ⟨s.toArray⟩)) R NodeT #[.int .i64 0, .int .i64 0, .int .i64 0, .string ⟨#[]⟩, .slice none 0 0]) := Lib.hid ((((bR.far (by show R ≠ T; omega) _).far (by show R ≠ T; omega) _).far (by show R ≠ T; omega) _).far (by show R ≠ T; omega) _)
  have HZB := Lib.hid (below_four hB1 hwT (.int .i64 k) (.int .i64 a) (.int .i64 n) (.string ⟨s.toArray⟩))
  have f0 := bT.frozen 0
  have f1 := bT.frozen 1
  have f2 := bT.frozen 2
  have f3 := bT.frozen 3
  have y0 := bT.cell 0
  have y1 := bT.cell 1
  have y2 := bT.cell 2
  have y3 := bT.cell 3
  simp only [List.getElem?_toArray, List.getElem?_cons_zero, List.getElem?_cons_succ] at y0 y1 y2 y3
  have HW1 := Lib.hid hW1
  have HTT := Lib.hid hT
  have HRT := Lib.hid hRT
  have HWT := Lib.hid hwT
  clear hT hW1 hRT hB1 bT hb1 hwT HC
  have hk2 : (k == 2) = false := beq_eq_false_iff_ne.2 hk
  have hk3 : (k == 1) = false := beq_eq_false_iff_ne.2 hk1
  go_wp2_with (first | (rw [← HW1.out, ← HTT.out]))
  obtain ⟨Z, hZ⟩ : ∃ Z, Z = (((W1.setCell ⟨T, 0, none⟩ (.int .i64 k)).setCell ⟨T, 1, none⟩ (.int .i64 a)).setCell ⟨T, 2, none⟩ (.int .i64 n)).setCell ⟨T, 3, none⟩ (.string ⟨s.toArray⟩) := ⟨_, rfl⟩
  rw [← hZ] at HZT HZR HZB ⊢
  have HM : Hid (∀ w', Below (T + 1) Z w' → Box w' R NodeT #[.int .i64 0, .int .i64 0, .int .i64 0, .string ⟨#[]⟩, .slice none 0 0] ∧ Box w' T TkT #[.int .i64 k, .int .i64 a, .int .i64 n, .string ⟨s.toArray⟩] ∧ Src l v w' ∧ T + 1 ≤ w'.heap.size ∧ Below w.heap.size w w') := Lib.hid (fun w' hb => by
    have hRT := HRT.out
    have hWT := HWT.out
    have q1 := HZR.out.below hb (by omega)
    have q2 := HZT.out.below hb (by omega)
    have q3 : Below w.heap.size w w' := HZB.out.trans (hb.mono (by omega))
    exact ⟨q1, q2, HSRC.out.on q3, q2.lt, q3⟩)
  have HB : Hid (Below (T + 1) Z Z) := Lib.hid (Below.refl _ _)
  clear f0 f1 f2 f3 y0 y1 y2 y3 hZ bR
  refine (says_src (HM.out _ HB.out).2.2.1 HB.out (HM.out _ HB.out).2.2.2.1 [116, 114, 117, 101] (i) (by unfold I64; omega)).mono ?_
  rintro e w2 ⟨rfl, hb2⟩
  have HB2 := Lib.hid hb2
  clear hb2
  go_wp2_with (fail)
  refine (says_src (HM.out _ HB2.out).2.2.1 HB2.out (HM.out _ HB2.out).2.2.2.1 [102, 97, 108, 115, 101] (i) (by unfold I64; omega)).mono ?_
  rintro e w3 ⟨rfl, hb3⟩
  have HB3 := Lib.hid hb3
  clear hb3
  have bT := (HM.out _ HB3.out).2.1
  have t0 := bT.cell 0
  have t1 := bT.cell 1
  have t3 := bT.cell 3
  simp only [List.getElem?_toArray, List.getElem?_cons_zero, List.getElem?_cons_succ] at t0 t1 t3
  clear bT
  go_wp2_with (fail)
  clear t0 t1 t3
  refine (says_src (HM.out _ HB3.out).2.2.1 HB3.out (HM.out _ HB3.out).2.2.2.1 [102, 111, 114, 107] (i) (by unfold I64; omega)).mono ?_
  rintro e w4 ⟨rfl, hb4⟩
  have HB4 := Lib.hid hb4
  clear hb4
  go_wp2_with (fail)
  refine (says_src (HM.out _ HB4.out).2.2.1 HB4.out (HM.out _ HB4.out).2.2.2.1 [110, 101, 119] (i) (by unfold I64; omega)).mono ?_
  rintro e w5 ⟨rfl, hb5⟩
  have HB5 := Lib.hid hb5
  clear hb5
  go_wp2_with (fail)
  refine (is_src (HM.out _ HB5.out).2.2.1 HB5.out (HM.out _ HB5.out).2.2.2.1 [40] (i) (by unfold I64; omega)).mono ?_
  rintro e w6 ⟨rfl, hb6⟩
  have HB6 := Lib.hid hb6
  clear hb6
  go_wp2_with (fail)
  refine (IH.out _ (HM.out _ HB6.out).2.2.1).mono ?_
  rintro e w7 ⟨su, rfl, hk7, hd7, hb7⟩
  obtain ⟨A, c, rfl, _⟩ := hk7.form
  have HB7 := Lib.hid (HB6.out.trans (hb7.mono (HM.out _ HB6.out).2.2.2.1))
  obtain ⟨V, hV⟩ : ∃ V, V = w7.alloc (.cells #[.int .i64 0, .int .i64 0, .int .i64 0, .string ⟨#[]⟩, .slice none 0 0] NodeT) := ⟨_, rfl⟩
  obtain ⟨O, hO⟩ : ∃ O, O = w7.heap.size := ⟨_, rfl⟩
  have hTO : T + 1 ≤ O := by rw [hO]; exact (HM.out _ HB7.out).2.2.2.1
  have hbV : Below (T + 1) Z V := by rw [hV]; exact HB7.out.alloc (HM.out _ HB7.out).2.2.2.1 _
  have bO : Box V O NodeT #[.int .i64 0, .int .i64 0, .int .i64 0, .string ⟨#[]⟩, .slice none 0 0] := by rw [hV]; exact Box.new _ _ _ _ hO
  have bR := (HM.out _ hbV).1
  have ne3 : ¬ R = O := by have := HRT.out; omega
  have ne4 : ¬ O = R := fun e => ne3 e.symm
  have ne5 : ¬ T = O := by omega
  have ne6 : ¬ O = T := fun e => ne5 e.symm
  have hku : nt.Kids (fun b => w.heap.size < b) (((((V.setCell ⟨O, 0, none⟩ (.int .i64 u.kind)).setCell ⟨O, 1, none⟩ (.int .i64 u.at_)).setCell ⟨O, 2, none⟩ (.int .i64 u.num)).setCell ⟨O, 3, none⟩ (.string ⟨u.name.toArray⟩)).setCell ⟨O, 4, none⟩ (.slice A u.kids.length c)) u.kids (.slice A u.kids.length c) := by
    have hk8 : nt.Kids (fun b => w.heap.size < b ∧ b < w7.heap.size) w7 u.kids (.slice A u.kids.length c) := (hk7.lt).mono fun b hb => ⟨by have h1 := hb.1; have h2 := (HM.out _ HB6.out).2.2.2.1; have := HRR.out; have := HRT.out; omega, hb.2⟩
    have hk9 : nt.Kids (fun b => w.heap.size < b ∧ b < w7.heap.size) V u.kids (.slice A u.kids.length c) := by rw [hV]; exact hk8.below ((Below.refl _ _).alloc (Nat.le_refl _) _)
    exact (kids_five hk9 (fun b hb => by have := hb.2; omega) _ _ _ _ _).mono fun b hb => hb.1
  have hbU : Below (T + 1) Z (((((V.setCell ⟨O, 0, none⟩ (.int .i64 u.kind)).setCell ⟨O, 1, none⟩ (.int .i64 u.at_)).setCell ⟨O, 2, none⟩ (.int .i64 u.num)).setCell ⟨O, 3, none⟩ (.string ⟨u.name.toArray⟩)).setCell ⟨O, 4, none⟩ (.slice A u.kids.length c)) := below_five hbV hTO _ _ _ _ _
  have bOU := box_five bO (.int .i64 u.kind) (.int .i64 u.at_) (.int .i64 u.num) (.string ⟨u.name.toArray⟩) (.slice A u.kids.length c)
  change Box (((((V.setCell ⟨O, 0, none⟩ (.int .i64 u.kind)).setCell ⟨O, 1, none⟩ (.int .i64 u.at_)).setCell ⟨O, 2, none⟩ (.int .i64 u.num)).setCell ⟨O, 3, none⟩ (.string ⟨u.name.toArray⟩)).setCell ⟨O, 4, none⟩ (.slice A u.kids.length c)) O NodeT _ at bOU
  have o0 := bO.cell 0
  have o1 := bO.cell 1
  have o2 := bO.cell 2
  have o3 := bO.cell 3
  have o4 := bO.cell 4
  have og0 := bO.frozen 0
  have og1 := bO.frozen 1
  have og2 := bO.frozen 2
  have og3 := bO.frozen 3
  have og4 := bO.frozen 4
  simp only [List.getElem?_toArray, List.getElem?_cons_zero, List.getElem?_cons_succ] at o0 o1 o2 o3 o4
  have HV := Lib.hid hV
  have HO := Lib.hid hO
  obtain ⟨U, hU⟩ : ∃ U, U = ((((V.setCell ⟨O, 0, none⟩ (.int .i64 u.kind)).setCell ⟨O, 1, none⟩ (.int .i64 u.at_)).setCell ⟨O, 2, none⟩ (.int .i64 u.num)).setCell ⟨O, 3, none⟩ (.string ⟨u.name.toArray⟩)).setCell ⟨O, 4, none⟩ (.slice A u.kids.length c) := ⟨_, rfl⟩
  rw [← hU] at hku hbU bOU
  have HU := Lib.hid hU
  have HKU := Lib.hid hku
  have HBU := Lib.hid hbU
  have HBO := Lib.hid bOU
  have HD := Lib.hid hd7
  have HTO := Lib.hid hTO
  clear hU hV hO hb7 hk7 bO hbV hku hbU bOU hd7 hTO bR
  go_wp2_with (first | (rw [← HV.out, ← HO.out]) | (rw [← HU.out]))
  refine (is_src (HM.out _ HBU.out).2.2.1 (Below.refl U.heap.size U) (Nat.le_refl _) [41] j (by unfold I64; omega)).mono ?_
  rintro e w8 ⟨rfl, hb8⟩
  have HB8 := Lib.hid (HBU.out.trans (hb8.mono (HM.out _ HBU.out).2.2.2.1))
  have bR := (HM.out _ HB8.out).1
  have bO8 := HBO.out.on hb8
  have HE := Lib.hid (node_end (j := j + 1) (t := u) HRR.out bR HD.out (HKU.out.below hb8) (HM.out _ HB8.out).2.2.2.2)
  clear o0 o1 o2 o3 o4 og0 og1 og2 og3 og4
  have r0 := bR.cell 0
  have r1 := bR.cell 1
  have r2 := bR.cell 2
  have r3 := bR.cell 3
  have r4 := bR.cell 4
  have g0 := bR.frozen 0
  have g1 := bR.frozen 1
  have g2 := bR.frozen 2
  have g3 := bR.frozen 3
  have g4 := bR.frozen 4
  simp only [List.getElem?_toArray, List.getElem?_cons_zero, List.getElem?_cons_succ] at r0 r1 r2 r3 r4
  have o0 := bO8.cell 0
  have o1 := bO8.cell 1
  have o2 := bO8.cell 2
  have o3 := bO8.cell 3
  have o4 := bO8.cell 4
  have og0 := bO8.frozen 0
  have og1 := bO8.frozen 1
  have og2 := bO8.frozen 2
  have og3 := bO8.frozen 3
  have og4 := bO8.frozen 4
  simp only [List.getElem?_toArray, List.getElem?_cons_zero, List.getElem?_cons_succ] at o0 o1 o2 o3 o4
  clear bO8
  clear bR hb8
  go_wp2_with (fail)
  refine bodyPost_ret (node_ret3 rfl rfl rfl rfl HE.out.1) rfl ?_
  rw [HP.out]
  exact HE.out.2
set_option maxRecDepth 100000 in
set_option maxHeartbeats 4000000 in
theorem first_new_args {l : List Tk} {v : Value} {i : Int} {w : World} (hs : Src l v w) (h0 : -9223372036854775808 ≤ i) {j q : Int} {u : NT} (h1 : i < l.length) (hk : (tokAt l i).kind ≠ 2) (hk1 : (tokAt l i).kind ≠ 1) (w0 : isW l i [116, 114, 117, 101] = false) (w1 : isW l i [102, 97, 108, 115, 101] = false) (w2 : isW l i [102, 111, 114, 107] = false) (w3 : isW l i [110, 101, 119] = true) (ih : ∀ w', Src l v w' → Calls Tryd.prog 13 #[v, .int .i64 (i + 1)] w' (Told (.node u j) w')) (ihl : ∀ w', Src l v w' → Calls Tryd.prog 16 #[v, .int .i64 j] w' (ToldL (.no q) w')) :
    Calls Tryd.prog 62 #[v, .int .i64 i] w (Told (.no q) w) := by
  obtain ⟨P, hP⟩ : ∃ P, P = Told (.no q) w := ⟨_, rfl⟩
  rw [← hP]
  have HP := Lib.hid hP
  have IH := Lib.hid ih
  clear ih
  clear hP
  have IHL := Lib.hid ihl
  clear ihl
  have HSRC := Lib.hid hs
  have hF := hs.fair i
  obtain ⟨R, hR⟩ : ∃ R, R = w.heap.size := ⟨_, rfl⟩
  obtain ⟨W, hW⟩ : ∃ W, W = w.alloc (.cells #[.int .i64 0, .int .i64 0, .int .i64 0, .string ⟨#[]⟩, .slice none 0 0] NodeT) := ⟨_, rfl⟩
  have hbW : Below w.heap.size w W := by rw [hW]; exact (Below.refl _ _).alloc (Nat.le_refl _) _
  have HBX : Hid (Box W R NodeT #[.int .i64 0, .int .i64 0, .int .i64 0, .string ⟨#[]⟩, .slice none 0 0]) := Lib.hid (by rw [hW]; exact Box.new _ _ _ _ hR)
  have HC := Lib.hid (rtok_any l v i W _ (hs.on hbW).lies hs.len (by unfold I64; have := hs.len; omega))
  unfold TokPost at HC
  obtain ⟨t, ht⟩ : ∃ t, t = tokAt l i := ⟨_, rfl⟩
  rw [← ht] at HC hF hk hk1
  obtain ⟨k, a, n, s⟩ := t
  simp only [tkA] at HC hF hk hk1
  have HF := Lib.hid hF
  have HT0 := Lib.hid ht
  have HW := Lib.hid hW
  have HRR := Lib.hid hR
  have HBW := Lib.hid hbW
  have hL := hs.len
  clear hW hR hbW hs hF ht
  go_enter Tryd.func62, Tryd.ntmps62
  go_wp2_with (first | (rw [← HW.out, ← HRR.out]))
  refine HC.out.mono ?_
  rintro e w1 ⟨rfl, hb1⟩
  obtain ⟨T, hT⟩ : ∃ T, T = w1.heap.size := ⟨_, rfl⟩
  obtain ⟨W1, hW1⟩ : ∃ W1, W1 = w1.alloc (.cells #[.int .i64 0, .int .i64 0, .int .i64 0, .string ⟨#[]⟩] TkT) := ⟨_, rfl⟩
  have hRT : R < T := by have := HBX.out.lt; have := hb1.size; omega
  have hB1 : Below w.heap.size w W1 := by rw [hW1]; exact (HBW.out.trans (hb1.mono HBW.out.size)).alloc (Nat.le_trans HBW.out.size hb1.size) _
  have bT : Box W1 T TkT #[.int .i64 0, .int .i64 0, .int .i64 0, .string ⟨#[]⟩] := by rw [hW1]; exact Box.new _ _ _ _ hT
  have bR : Box W1 R NodeT #[.int .i64 0, .int .i64 0, .int .i64 0, .string ⟨#[]⟩, .slice none 0 0] := by rw [hW1]; exact (HBX.out.on hb1).alloc _
  have hwT : w.heap.size ≤ T := by have := HRR.out; omega
  have HZT := Lib.hid (box_four bT (.int .i64 k) (.int .i64 a) (.int .i64 n) (.string ⟨s.toArray⟩))
  have HZR : Hid (Box ((((W1.setCell ⟨T, 0, none⟩ (.int .i64 k)).setCell ⟨T, 1, none⟩ (.int .i64 a)).setCell ⟨T, 2, none⟩ (.int .i64 n)).setCell ⟨T, 3, none⟩ (.string ⟨s.toArray⟩)) R NodeT #[.int .i64 0, .int .i64 0, .int .i64 0, .string ⟨#[]⟩, .slice none 0 0]) := Lib.hid ((((bR.far (by show R ≠ T; omega) _).far (by show R ≠ T; omega) _).far (by show R ≠ T; omega) _).far (by show R ≠ T; omega) _)
  have HZB := Lib.hid (below_four hB1 hwT (.int .i64 k) (.int .i64 a) (.int .i64 n) (.string ⟨s.toArray⟩))
  have f0 := bT.frozen 0
  have f1 := bT.frozen 1
  have f2 := bT.frozen 2
  have f3 := bT.frozen 3
  have y0 := bT.cell 0
  have y1 := bT.cell 1
  have y2 := bT.cell 2
  have y3 := bT.cell 3
  simp only [List.getElem?_toArray, List.getElem?_cons_zero, List.getElem?_cons_succ] at y0 y1 y2 y3
  have HW1 := Lib.hid hW1
  have HTT := Lib.hid hT
  have HRT := Lib.hid hRT
  have HWT := Lib.hid hwT
  clear hT hW1 hRT hB1 bT hb1 hwT HC
  have hk2 : (k == 2) = false := beq_eq_false_iff_ne.2 hk
  have hk3 : (k == 1) = false := beq_eq_false_iff_ne.2 hk1
  go_wp2_with (first | (rw [← HW1.out, ← HTT.out]))
  obtain ⟨Z, hZ⟩ : ∃ Z, Z = (((W1.setCell ⟨T, 0, none⟩ (.int .i64 k)).setCell ⟨T, 1, none⟩ (.int .i64 a)).setCell ⟨T, 2, none⟩ (.int .i64 n)).setCell ⟨T, 3, none⟩ (.string ⟨s.toArray⟩) := ⟨_, rfl⟩
  rw [← hZ] at HZT HZR HZB ⊢
  have HM : Hid (∀ w', Below (T + 1) Z w' → Box w' R NodeT #[.int .i64 0, .int .i64 0, .int .i64 0, .string ⟨#[]⟩, .slice none 0 0] ∧ Box w' T TkT #[.int .i64 k, .int .i64 a, .int .i64 n, .string ⟨s.toArray⟩] ∧ Src l v w' ∧ T + 1 ≤ w'.heap.size ∧ Below w.heap.size w w') := Lib.hid (fun w' hb => by
    have hRT := HRT.out
    have hWT := HWT.out
    have q1 := HZR.out.below hb (by omega)
    have q2 := HZT.out.below hb (by omega)
    have q3 : Below w.heap.size w w' := HZB.out.trans (hb.mono (by omega))
    exact ⟨q1, q2, HSRC.out.on q3, q2.lt, q3⟩)
  have HB : Hid (Below (T + 1) Z Z) := Lib.hid (Below.refl _ _)
  clear f0 f1 f2 f3 y0 y1 y2 y3 hZ bR
  refine (says_src (HM.out _ HB.out).2.2.1 HB.out (HM.out _ HB.out).2.2.2.1 [116, 114, 117, 101] (i) (by unfold I64; omega)).mono ?_
  rintro e w2 ⟨rfl, hb2⟩
  have HB2 := Lib.hid hb2
  clear hb2
  go_wp2_with (fail)
  refine (says_src (HM.out _ HB2.out).2.2.1 HB2.out (HM.out _ HB2.out).2.2.2.1 [102, 97, 108, 115, 101] (i) (by unfold I64; omega)).mono ?_
  rintro e w3 ⟨rfl, hb3⟩
  have HB3 := Lib.hid hb3
  clear hb3
  have bT := (HM.out _ HB3.out).2.1
  have t0 := bT.cell 0
  have t1 := bT.cell 1
  have t3 := bT.cell 3
  simp only [List.getElem?_toArray, List.getElem?_cons_zero, List.getElem?_cons_succ] at t0 t1 t3
  clear bT
  go_wp2_with (fail)
  clear t0 t1 t3
  refine (says_src (HM.out _ HB3.out).2.2.1 HB3.out (HM.out _ HB3.out).2.2.2.1 [102, 111, 114, 107] (i) (by unfold I64; omega)).mono ?_
  rintro e w4 ⟨rfl, hb4⟩
  have HB4 := Lib.hid hb4
  clear hb4
  go_wp2_with (fail)
  refine (says_src (HM.out _ HB4.out).2.2.1 HB4.out (HM.out _ HB4.out).2.2.2.1 [110, 101, 119] (i) (by unfold I64; omega)).mono ?_
  rintro e w5 ⟨rfl, hb5⟩
  have HB5 := Lib.hid hb5
  clear hb5
  go_wp2_with (fail)
  refine (IH.out _ (HM.out _ HB5.out).2.2.1).mono ?_
  rintro e w7 ⟨su, rfl, hk7, hd7, hb7⟩
  obtain ⟨A, c, rfl, _⟩ := hk7.form
  have HB7 := Lib.hid (HB5.out.trans (hb7.mono (HM.out _ HB5.out).2.2.2.1))
  obtain ⟨V, hV⟩ : ∃ V, V = w7.alloc (.cells #[.int .i64 0, .int .i64 0, .int .i64 0, .string ⟨#[]⟩, .slice none 0 0] NodeT) := ⟨_, rfl⟩
  obtain ⟨O, hO⟩ : ∃ O, O = w7.heap.size := ⟨_, rfl⟩
  have hTO : T + 1 ≤ O := by rw [hO]; exact (HM.out _ HB7.out).2.2.2.1
  have hbV : Below (T + 1) Z V := by rw [hV]; exact HB7.out.alloc (HM.out _ HB7.out).2.2.2.1 _
  have bO : Box V O NodeT #[.int .i64 0, .int .i64 0, .int .i64 0, .string ⟨#[]⟩, .slice none 0 0] := by rw [hV]; exact Box.new _ _ _ _ hO
  have bR := (HM.out _ hbV).1
  have ne3 : ¬ R = O := by have := HRT.out; omega
  have ne4 : ¬ O = R := fun e => ne3 e.symm
  have ne5 : ¬ T = O := by omega
  have ne6 : ¬ O = T := fun e => ne5 e.symm
  have hku : nt.Kids (fun b => w.heap.size < b) (((((V.setCell ⟨O, 0, none⟩ (.int .i64 u.kind)).setCell ⟨O, 1, none⟩ (.int .i64 u.at_)).setCell ⟨O, 2, none⟩ (.int .i64 u.num)).setCell ⟨O, 3, none⟩ (.string ⟨u.name.toArray⟩)).setCell ⟨O, 4, none⟩ (.slice A u.kids.length c)) u.kids (.slice A u.kids.length c) := by
    have hk8 : nt.Kids (fun b => w.heap.size < b ∧ b < w7.heap.size) w7 u.kids (.slice A u.kids.length c) := (hk7.lt).mono fun b hb => ⟨by have h1 := hb.1; have h2 := (HM.out _ HB5.out).2.2.2.1; have := HRR.out; have := HRT.out; omega, hb.2⟩
    have hk9 : nt.Kids (fun b => w.heap.size < b ∧ b < w7.heap.size) V u.kids (.slice A u.kids.length c) := by rw [hV]; exact hk8.below ((Below.refl _ _).alloc (Nat.le_refl _) _)
    exact (kids_five hk9 (fun b hb => by have := hb.2; omega) _ _ _ _ _).mono fun b hb => hb.1
  have hbU : Below (T + 1) Z (((((V.setCell ⟨O, 0, none⟩ (.int .i64 u.kind)).setCell ⟨O, 1, none⟩ (.int .i64 u.at_)).setCell ⟨O, 2, none⟩ (.int .i64 u.num)).setCell ⟨O, 3, none⟩ (.string ⟨u.name.toArray⟩)).setCell ⟨O, 4, none⟩ (.slice A u.kids.length c)) := below_five hbV hTO _ _ _ _ _
  have bOU := box_five bO (.int .i64 u.kind) (.int .i64 u.at_) (.int .i64 u.num) (.string ⟨u.name.toArray⟩) (.slice A u.kids.length c)
  change Box (((((V.setCell ⟨O, 0, none⟩ (.int .i64 u.kind)).setCell ⟨O, 1, none⟩ (.int .i64 u.at_)).setCell ⟨O, 2, none⟩ (.int .i64 u.num)).setCell ⟨O, 3, none⟩ (.string ⟨u.name.toArray⟩)).setCell ⟨O, 4, none⟩ (.slice A u.kids.length c)) O NodeT _ at bOU
  have o0 := bO.cell 0
  have o1 := bO.cell 1
  have o2 := bO.cell 2
  have o3 := bO.cell 3
  have o4 := bO.cell 4
  have og0 := bO.frozen 0
  have og1 := bO.frozen 1
  have og2 := bO.frozen 2
  have og3 := bO.frozen 3
  have og4 := bO.frozen 4
  simp only [List.getElem?_toArray, List.getElem?_cons_zero, List.getElem?_cons_succ] at o0 o1 o2 o3 o4
  have HV := Lib.hid hV
  have HO := Lib.hid hO
  obtain ⟨U, hU⟩ : ∃ U, U = ((((V.setCell ⟨O, 0, none⟩ (.int .i64 u.kind)).setCell ⟨O, 1, none⟩ (.int .i64 u.at_)).setCell ⟨O, 2, none⟩ (.int .i64 u.num)).setCell ⟨O, 3, none⟩ (.string ⟨u.name.toArray⟩)).setCell ⟨O, 4, none⟩ (.slice A u.kids.length c) := ⟨_, rfl⟩
  rw [← hU] at hku hbU bOU
  have HU := Lib.hid hU
  have HKU := Lib.hid hku
  have HBU := Lib.hid hbU
  have HBO := Lib.hid bOU
  have HD := Lib.hid hd7
  have HTO := Lib.hid hTO
  clear hU hV hO hb7 hk7 bO hbV hku hbU bOU hd7 hTO bR
  go_wp2_with (first | (rw [← HV.out, ← HO.out]) | (rw [← HU.out]))
  refine (IHL.out _ (HM.out _ HBU.out).2.2.1).mono ?_
  rintro e w8 ⟨rfl, hb8⟩
  have HB8 := Lib.hid (HBU.out.trans (hb8.mono (HM.out _ HBU.out).2.2.2.1))
  have bR := (HM.out _ HB8.out).1
  have HE := Lib.hid (no_end (j := q) HRR.out bR (HM.out _ HB8.out).2.2.2.2)
  have r0 := bR.cell 0
  have r1 := bR.cell 1
  have r2 := bR.cell 2
  have r3 := bR.cell 3
  have r4 := bR.cell 4
  have g0 := bR.frozen 0
  have g1 := bR.frozen 1
  have g2 := bR.frozen 2
  have g3 := bR.frozen 3
  have g4 := bR.frozen 4
  simp only [List.getElem?_toArray, List.getElem?_cons_zero, List.getElem?_cons_succ] at r0 r1 r2 r3 r4
  clear bR hb8
  go_wp2_with (fail)
  refine bodyPost_ret (node_ret3 rfl rfl rfl rfl HE.out.1) rfl ?_
  rw [HP.out]
  exact HE.out.2
set_option maxRecDepth 100000 in
set_option maxHeartbeats 4000000 in
theorem first_new_nil {l : List Tk} {v : Value} {i : Int} {w : World} (hs : Src l v w) (h0 : -9223372036854775808 ≤ i) {j q : Int} {u : NT} (h1 : i < l.length) (hk : (tokAt l i).kind ≠ 2) (hk1 : (tokAt l i).kind ≠ 1) (w0 : isW l i [116, 114, 117, 101] = false) (w1 : isW l i [102, 97, 108, 115, 101] = false) (w2 : isW l i [102, 111, 114, 107] = false) (w3 : isW l i [110, 101, 119] = true) (ih : ∀ w', Src l v w' → Calls Tryd.prog 13 #[v, .int .i64 (i + 1)] w' (Told (.node u j) w')) (ihl : ∀ w', Src l v w' → Calls Tryd.prog 16 #[v, .int .i64 j] w' (ToldL (.list [] q) w')) :
    Calls Tryd.prog 62 #[v, .int .i64 i] w (Told (.node (.mk 19 (tokAt l i).at_ 0 [] [u]) q) w) := by
  obtain ⟨P, hP⟩ : ∃ P, P = Told (.node (.mk 19 (tokAt l i).at_ 0 [] [u]) q) w := ⟨_, rfl⟩
  rw [← hP]
  have HP := Lib.hid hP
  have IH := Lib.hid ih
  clear ih
  clear hP
  have IHL := Lib.hid ihl
  clear ihl
  have HSRC := Lib.hid hs
  have hF := hs.fair i
  obtain ⟨R, hR⟩ : ∃ R, R = w.heap.size := ⟨_, rfl⟩
  obtain ⟨W, hW⟩ : ∃ W, W = w.alloc (.cells #[.int .i64 0, .int .i64 0, .int .i64 0, .string ⟨#[]⟩, .slice none 0 0] NodeT) := ⟨_, rfl⟩
  have hbW : Below w.heap.size w W := by rw [hW]; exact (Below.refl _ _).alloc (Nat.le_refl _) _
  have HBX : Hid (Box W R NodeT #[.int .i64 0, .int .i64 0, .int .i64 0, .string ⟨#[]⟩, .slice none 0 0]) := Lib.hid (by rw [hW]; exact Box.new _ _ _ _ hR)
  have HC := Lib.hid (rtok_any l v i W _ (hs.on hbW).lies hs.len (by unfold I64; have := hs.len; omega))
  unfold TokPost at HC
  obtain ⟨t, ht⟩ : ∃ t, t = tokAt l i := ⟨_, rfl⟩
  rw [← ht] at HC hF hk hk1
  obtain ⟨k, a, n, s⟩ := t
  simp only [tkA] at HC hF hk hk1
  have HF := Lib.hid hF
  have HT0 := Lib.hid ht
  have HW := Lib.hid hW
  have HRR := Lib.hid hR
  have HBW := Lib.hid hbW
  have hL := hs.len
  clear hW hR hbW hs hF ht
  go_enter Tryd.func62, Tryd.ntmps62
  go_wp2_with (first | (rw [← HW.out, ← HRR.out]))
  refine HC.out.mono ?_
  rintro e w1 ⟨rfl, hb1⟩
  obtain ⟨T, hT⟩ : ∃ T, T = w1.heap.size := ⟨_, rfl⟩
  obtain ⟨W1, hW1⟩ : ∃ W1, W1 = w1.alloc (.cells #[.int .i64 0, .int .i64 0, .int .i64 0, .string ⟨#[]⟩] TkT) := ⟨_, rfl⟩
  have hRT : R < T := by have := HBX.out.lt; have := hb1.size; omega
  have hB1 : Below w.heap.size w W1 := by rw [hW1]; exact (HBW.out.trans (hb1.mono HBW.out.size)).alloc (Nat.le_trans HBW.out.size hb1.size) _
  have bT : Box W1 T TkT #[.int .i64 0, .int .i64 0, .int .i64 0, .string ⟨#[]⟩] := by rw [hW1]; exact Box.new _ _ _ _ hT
  have bR : Box W1 R NodeT #[.int .i64 0, .int .i64 0, .int .i64 0, .string ⟨#[]⟩, .slice none 0 0] := by rw [hW1]; exact (HBX.out.on hb1).alloc _
  have hwT : w.heap.size ≤ T := by have := HRR.out; omega
  have HZT := Lib.hid (box_four bT (.int .i64 k) (.int .i64 a) (.int .i64 n) (.string ⟨s.toArray⟩))
  have HZR : Hid (Box ((((W1.setCell ⟨T, 0, none⟩ (.int .i64 k)).setCell ⟨T, 1, none⟩ (.int .i64 a)).setCell ⟨T, 2, none⟩ (.int .i64 n)).setCell ⟨T, 3, none⟩ (.string ⟨s.toArray⟩)) R NodeT #[.int .i64 0, .int .i64 0, .int .i64 0, .string ⟨#[]⟩, .slice none 0 0]) := Lib.hid ((((bR.far (by show R ≠ T; omega) _).far (by show R ≠ T; omega) _).far (by show R ≠ T; omega) _).far (by show R ≠ T; omega) _)
  have HZB := Lib.hid (below_four hB1 hwT (.int .i64 k) (.int .i64 a) (.int .i64 n) (.string ⟨s.toArray⟩))
  have f0 := bT.frozen 0
  have f1 := bT.frozen 1
  have f2 := bT.frozen 2
  have f3 := bT.frozen 3
  have y0 := bT.cell 0
  have y1 := bT.cell 1
  have y2 := bT.cell 2
  have y3 := bT.cell 3
  simp only [List.getElem?_toArray, List.getElem?_cons_zero, List.getElem?_cons_succ] at y0 y1 y2 y3
  have HW1 := Lib.hid hW1
  have HTT := Lib.hid hT
  have HRT := Lib.hid hRT
  have HWT := Lib.hid hwT
  clear hT hW1 hRT hB1 bT hb1 hwT HC
  have hk2 : (k == 2) = false := beq_eq_false_iff_ne.2 hk
  have hk3 : (k == 1) = false := beq_eq_false_iff_ne.2 hk1
  go_wp2_with (first | (rw [← HW1.out, ← HTT.out]))
  obtain ⟨Z, hZ⟩ : ∃ Z, Z = (((W1.setCell ⟨T, 0, none⟩ (.int .i64 k)).setCell ⟨T, 1, none⟩ (.int .i64 a)).setCell ⟨T, 2, none⟩ (.int .i64 n)).setCell ⟨T, 3, none⟩ (.string ⟨s.toArray⟩) := ⟨_, rfl⟩
  rw [← hZ] at HZT HZR HZB ⊢
  have HM : Hid (∀ w', Below (T + 1) Z w' → Box w' R NodeT #[.int .i64 0, .int .i64 0, .int .i64 0, .string ⟨#[]⟩, .slice none 0 0] ∧ Box w' T TkT #[.int .i64 k, .int .i64 a, .int .i64 n, .string ⟨s.toArray⟩] ∧ Src l v w' ∧ T + 1 ≤ w'.heap.size ∧ Below w.heap.size w w') := Lib.hid (fun w' hb => by
    have hRT := HRT.out
    have hWT := HWT.out
    have q1 := HZR.out.below hb (by omega)
    have q2 := HZT.out.below hb (by omega)
    have q3 : Below w.heap.size w w' := HZB.out.trans (hb.mono (by omega))
    exact ⟨q1, q2, HSRC.out.on q3, q2.lt, q3⟩)
  have HB : Hid (Below (T + 1) Z Z) := Lib.hid (Below.refl _ _)
  clear f0 f1 f2 f3 y0 y1 y2 y3 hZ bR
  refine (says_src (HM.out _ HB.out).2.2.1 HB.out (HM.out _ HB.out).2.2.2.1 [116, 114, 117, 101] (i) (by unfold I64; omega)).mono ?_
  rintro e w2 ⟨rfl, hb2⟩
  have HB2 := Lib.hid hb2
  clear hb2
  go_wp2_with (fail)
  refine (says_src (HM.out _ HB2.out).2.2.1 HB2.out (HM.out _ HB2.out).2.2.2.1 [102, 97, 108, 115, 101] (i) (by unfold I64; omega)).mono ?_
  rintro e w3 ⟨rfl, hb3⟩
  have HB3 := Lib.hid hb3
  clear hb3
  have bT := (HM.out _ HB3.out).2.1
  have t0 := bT.cell 0
  have t1 := bT.cell 1
  have t3 := bT.cell 3
  simp only [List.getElem?_toArray, List.getElem?_cons_zero, List.getElem?_cons_succ] at t0 t1 t3
  clear bT
  go_wp2_with (fail)
  clear t0 t1 t3
  refine (says_src (HM.out _ HB3.out).2.2.1 HB3.out (HM.out _ HB3.out).2.2.2.1 [102, 111, 114, 107] (i) (by unfold I64; omega)).mono ?_
  rintro e w4 ⟨rfl, hb4⟩
  have HB4 := Lib.hid hb4
  clear hb4
  go_wp2_with (fail)
  refine (says_src (HM.out _ HB4.out).2.2.1 HB4.out (HM.out _ HB4.out).2.2.2.1 [110, 101, 119] (i) (by unfold I64; omega)).mono ?_
  rintro e w5 ⟨rfl, hb5⟩
  have HB5 := Lib.hid hb5
  clear hb5
  go_wp2_with (fail)
  refine (IH.out _ (HM.out _ HB5.out).2.2.1).mono ?_
  rintro e w7 ⟨su, rfl, hk7, hd7, hb7⟩
  obtain ⟨A, c, rfl, _⟩ := hk7.form
  have HB7 := Lib.hid (HB5.out.trans (hb7.mono (HM.out _ HB5.out).2.2.2.1))
  obtain ⟨V, hV⟩ : ∃ V, V = w7.alloc (.cells #[.int .i64 0, .int .i64 0, .int .i64 0, .string ⟨#[]⟩, .slice none 0 0] NodeT) := ⟨_, rfl⟩
  obtain ⟨O, hO⟩ : ∃ O, O = w7.heap.size := ⟨_, rfl⟩
  have hTO : T + 1 ≤ O := by rw [hO]; exact (HM.out _ HB7.out).2.2.2.1
  have hbV : Below (T + 1) Z V := by rw [hV]; exact HB7.out.alloc (HM.out _ HB7.out).2.2.2.1 _
  have bO : Box V O NodeT #[.int .i64 0, .int .i64 0, .int .i64 0, .string ⟨#[]⟩, .slice none 0 0] := by rw [hV]; exact Box.new _ _ _ _ hO
  have bR := (HM.out _ hbV).1
  have ne3 : ¬ R = O := by have := HRT.out; omega
  have ne4 : ¬ O = R := fun e => ne3 e.symm
  have ne5 : ¬ T = O := by omega
  have ne6 : ¬ O = T := fun e => ne5 e.symm
  have hku : nt.Kids (fun b => w.heap.size < b) (((((V.setCell ⟨O, 0, none⟩ (.int .i64 u.kind)).setCell ⟨O, 1, none⟩ (.int .i64 u.at_)).setCell ⟨O, 2, none⟩ (.int .i64 u.num)).setCell ⟨O, 3, none⟩ (.string ⟨u.name.toArray⟩)).setCell ⟨O, 4, none⟩ (.slice A u.kids.length c)) u.kids (.slice A u.kids.length c) := by
    have hk8 : nt.Kids (fun b => w.heap.size < b ∧ b < w7.heap.size) w7 u.kids (.slice A u.kids.length c) := (hk7.lt).mono fun b hb => ⟨by have h1 := hb.1; have h2 := (HM.out _ HB5.out).2.2.2.1; have := HRR.out; have := HRT.out; omega, hb.2⟩
    have hk9 : nt.Kids (fun b => w.heap.size < b ∧ b < w7.heap.size) V u.kids (.slice A u.kids.length c) := by rw [hV]; exact hk8.below ((Below.refl _ _).alloc (Nat.le_refl _) _)
    exact (kids_five hk9 (fun b hb => by have := hb.2; omega) _ _ _ _ _).mono fun b hb => hb.1
  have hbU : Below (T + 1) Z (((((V.setCell ⟨O, 0, none⟩ (.int .i64 u.kind)).setCell ⟨O, 1, none⟩ (.int .i64 u.at_)).setCell ⟨O, 2, none⟩ (.int .i64 u.num)).setCell ⟨O, 3, none⟩ (.string ⟨u.name.toArray⟩)).setCell ⟨O, 4, none⟩ (.slice A u.kids.length c)) := below_five hbV hTO _ _ _ _ _
  have bOU := box_five bO (.int .i64 u.kind) (.int .i64 u.at_) (.int .i64 u.num) (.string ⟨u.name.toArray⟩) (.slice A u.kids.length c)
  change Box (((((V.setCell ⟨O, 0, none⟩ (.int .i64 u.kind)).setCell ⟨O, 1, none⟩ (.int .i64 u.at_)).setCell ⟨O, 2, none⟩ (.int .i64 u.num)).setCell ⟨O, 3, none⟩ (.string ⟨u.name.toArray⟩)).setCell ⟨O, 4, none⟩ (.slice A u.kids.length c)) O NodeT _ at bOU
  have o0 := bO.cell 0
  have o1 := bO.cell 1
  have o2 := bO.cell 2
  have o3 := bO.cell 3
  have o4 := bO.cell 4
  have og0 := bO.frozen 0
  have og1 := bO.frozen 1
  have og2 := bO.frozen 2
  have og3 := bO.frozen 3
  have og4 := bO.frozen 4
  simp only [List.getElem?_toArray, List.getElem?_cons_zero, List.getElem?_cons_succ] at o0 o1 o2 o3 o4
  have HV := Lib.hid hV
  have HO := Lib.hid hO
  obtain ⟨U, hU⟩ : ∃ U, U = ((((V.setCell ⟨O, 0, none⟩ (.int .i64 u.kind)).setCell ⟨O, 1, none⟩ (.int .i64 u.at_)).setCell ⟨O, 2, none⟩ (.int .i64 u.num)).setCell ⟨O, 3, none⟩ (.string ⟨u.name.toArray⟩)).setCell ⟨O, 4, none⟩ (.slice A u.kids.length c) := ⟨_, rfl⟩
  rw [← hU] at hku hbU bOU
  have HU := Lib.hid hU
  have HKU := Lib.hid hku
  have HBU := Lib.hid hbU
  have HBO := Lib.hid bOU
  have HD := Lib.hid hd7
  have HTO := Lib.hid hTO
  clear hU hV hO hb7 hk7 bO hbV hku hbU bOU hd7 hTO bR
  go_wp2_with (first | (rw [← HV.out, ← HO.out]) | (rw [← HU.out]))
  refine (IHL.out _ (HM.out _ HBU.out).2.2.1).mono ?_
  rintro e w8 ⟨sl, rfl, _, hnil, hb8⟩
  obtain rfl := hnil rfl
  clear hnil
  have HB8 := Lib.hid (HBU.out.trans (hb8.mono (HM.out _ HBU.out).2.2.2.1))
  have bR := (HM.out _ HB8.out).1
  have bT := (HM.out _ HB8.out).2.1
  have bO8 := HBO.out.on hb8
  have HKU8 := Lib.hid (HKU.out.below hb8)
  have HUW := Lib.hid hb8.size
  have HRX : Hid (∀ w', Below w8.heap.size w8 w' → Box w' R NodeT #[.int .i64 0, .int .i64 0, .int .i64 0, .string ⟨#[]⟩, .slice none 0 0]) := Lib.hid (fun w' hb => bR.on hb)
  have HCO : Hid (∀ w', Below w8.heap.size w8 w' → w'.cell? ⟨T, 1, none⟩ = some (.int .i64 a) ∧ w'.cell? ⟨O, 0, none⟩ = some (.int .i64 u.kind) ∧ w'.cell? ⟨O, 1, none⟩ = some (.int .i64 u.at_) ∧ w'.cell? ⟨O, 2, none⟩ = some (.int .i64 u.num) ∧ w'.cell? ⟨O, 3, none⟩ = some (.string ⟨u.name.toArray⟩) ∧ w'.cell? ⟨O, 4, none⟩ = some (.slice A u.kids.length c)) := Lib.hid (fun w' hb => by
    have b := bT.on hb
    have b2 := bO8.on hb
    exact ⟨b.cell 1, b2.cell 0, b2.cell 1, b2.cell 2, b2.cell 3, b2.cell 4⟩)
  have hsz8 : w.heap.size < w8.heap.size := by have := (HM.out _ HB8.out).2.2.2.1; have := HRR.out; have := HRT.out; omega
  have HEND : Hid (∀ X sl, Below w8.heap.size w8 X → nt.Kids (fun b => w.heap.size < b) X [u] sl → Box (five X R (.int .i64 19) (.int .i64 a) (.int .i64 0) (.string ⟨#[]⟩) sl) R NodeT #[.int .i64 19, .int .i64 a, .int .i64 0, .string ⟨#[]⟩, sl] ∧ Told (.node (.mk 19 a 0 [] [u]) q) w (.returned (.tuple #[.agg #[.int .i64 19, .int .i64 a, .int .i64 0, .string ⟨#[]⟩, sl], .int .i64 q, .bool true])) (five X R (.int .i64 19) (.int .i64 a) (.int .i64 0) (.string ⟨#[]⟩) sl)) := Lib.hid (fun X sl hb hk =>
    node_end (t := .mk 19 a 0 [] [u]) HRR.out (HRX.out X hb) ⟨by show I64 (19); unfold I64; omega, HF.out.1, by show I64 0; unfold I64; omega, by show 0 ≤ 281474976710656; omega⟩ hk (HM.out _ (HB8.out.trans (hb.mono (HM.out _ HB8.out).2.2.2.1))).2.2.2.2)
  have hP2 : P = Told (.node (.mk 19 a 0 [] [u]) q) w := by rw [HP.out, ← HT0.out]
  have HP2 := Lib.hid hP2
  have HRT2 : Hid (R ≠ T ∧ R ≠ O) := Lib.hid ⟨by have := HRT.out; omega, ne3⟩
  clear bR bT bO8 hb8 hP2 o0 o1 o2 o3 o4 og0 og1 og2 og3 og4
  go_wp2_with (fail)
  refine wp_region_held_drew (S := fun w' => w'.cell? ⟨T, 1, none⟩ = some (.int .i64 a) ∧ w'.cell? ⟨O, 0, none⟩ = some (.int .i64 u.kind) ∧ w'.cell? ⟨O, 1, none⟩ = some (.int .i64 u.at_) ∧ w'.cell? ⟨O, 2, none⟩ = some (.int .i64 u.num) ∧ w'.cell? ⟨O, 3, none⟩ = some (.string ⟨u.name.toArray⟩) ∧ w'.cell? ⟨O, 4, none⟩ = some (.slice A u.kids.length c)) (by kernel_rfl) ?_ (fun hHeld => ?_)
  · exact HCO.out _ (Below.refl _ _).drew
  refine wpAnyH_take (i := 0) (v := .pointer (some ⟨T, 1, none⟩)) rfl (by kernel_rfl) (by kernel_rfl) (by kernel_rfl) (fun _ _ _ h => h) (Or.inl ⟨by rfl, fun w hSw => ?_⟩) hHeld ?_
  · (try dsimp only at hSw)
    first | go_simp | rfl
  (try simp only [Act.put, List.getElem_toArray, List.getElem_cons_zero, List.getElem_cons_succ, List.setIfInBounds_toArray, List.set_cons_zero, List.set_cons_succ])
  refine wpAnyH_take (i := 1) (v := .int .i64 a) rfl (by kernel_rfl) (by kernel_rfl) (by kernel_rfl) (fun _ _ _ h => h) (Or.inl ⟨by rfl, fun w hSw => ?_⟩) hHeld ?_
  · (try dsimp only at hSw)
    first | go_simp | rfl
  (try simp only [Act.put, List.getElem_toArray, List.getElem_cons_zero, List.getElem_cons_succ, List.setIfInBounds_toArray, List.set_cons_zero, List.set_cons_succ])
  refine wpAnyH_take (i := 2) (v := .agg #[.int .i64 u.kind, .int .i64 u.at_, .int .i64 u.num, .string ⟨u.name.toArray⟩, .slice A u.kids.length c]) rfl (by kernel_rfl) (by kernel_rfl) (by kernel_rfl) (fun _ _ _ h => h) (Or.inl ⟨by rfl, fun w hSw => ?_⟩) hHeld ?_
  · (try dsimp only at hSw)
    first | go_simp | rfl
  (try simp only [Act.put, List.getElem_toArray, List.getElem_cons_zero, List.getElem_cons_succ, List.setIfInBounds_toArray, List.set_cons_zero, List.set_cons_succ])
  refine wpAnyH_take (i := 4) (v := .slice none 0 0) rfl (by kernel_rfl) (by kernel_rfl) (by kernel_rfl) (fun _ _ _ h => h) (Or.inl ⟨by rfl, fun w hSw => ?_⟩) hHeld ?_
  · (try dsimp only at hSw)
    first | go_simp | rfl
  (try simp only [Act.put, List.getElem_toArray, List.getElem_cons_zero, List.getElem_cons_succ, List.setIfInBounds_toArray, List.set_cons_zero, List.set_cons_succ])
  refine wpAnyH_take (i := 7) (v := .int .i64 q) rfl (by kernel_rfl) (by kernel_rfl) (by kernel_rfl) (fun _ _ _ h => h) (Or.inl ⟨by rfl, fun w hSw => ?_⟩) hHeld ?_
  · (try dsimp only at hSw)
    first | go_simp | rfl
  (try simp only [Act.put, List.getElem_toArray, List.getElem_cons_zero, List.getElem_cons_succ, List.setIfInBounds_toArray, List.set_cons_zero, List.set_cons_succ])
  refine wpAnyH_ready (rs := [3]) (by kernel_rfl) (by simp) ?_
  refine AllReadyH.cons rfl (fun K' hK' => ?_) AllReadyH.nil
  go_simp
  obtain ⟨X, hX⟩ : ∃ X, X = (w8.alloc (.cells #[.int .i64 u.kind, .int .i64 u.at_, .int .i64 u.num, .string ⟨u.name.toArray⟩, .slice A u.kids.length c] NodeT)).drew := ⟨_, rfl⟩
  obtain ⟨N, hN⟩ : ∃ N, N = w8.heap.size := ⟨_, rfl⟩
  have hbX : Below w8.heap.size w8 X := by rw [hX]; exact ((Below.refl _ _).alloc (Nat.le_refl _) _).drew
  have HX := Lib.hid hX
  have hrow : nt.Kids (fun b => w.heap.size < b) X [u] (.slice (some ⟨N, 0, none⟩) 1 1) := by rw [hX]; exact (row_one hN HD.out HKU8.out (by have := hsz8; omega)).below (Below.refl _ _).drew
  rw [← hX, ← hN]
  clear hX hN
  refine hK'.out _ _ (HCO.out X hbX) (fun hHeld => ?_)
  clear hK' K'
  (try simp only [Act.put, List.getElem_toArray, List.getElem_cons_zero, List.getElem_cons_succ, List.setIfInBounds_toArray, List.set_cons_zero, List.set_cons_succ])
  refine wpAnyH_ready (rs := [5]) (by kernel_rfl) (by simp) ?_
  refine AllReadyH.cons rfl (fun K' hK' => ?_) AllReadyH.nil
  go_simp
  refine hK'.out _ _ (HCO.out X hbX) (fun hHeld => ?_)
  clear hK' K'
  (try simp only [Act.put, List.getElem_toArray, List.getElem_cons_zero, List.getElem_cons_succ, List.setIfInBounds_toArray, List.set_cons_zero, List.set_cons_succ])
  refine wpAnyH_take (i := 6) (v := .agg #[.int .i64 19, .int .i64 a, .int .i64 0, .string ⟨#[]⟩, .slice (some ⟨N, 0, none⟩) 1 1]) rfl (by kernel_rfl) (by kernel_rfl) (by kernel_rfl) (fun _ _ _ h => h) (Or.inl ⟨by rfl, fun w hSw => ?_⟩) hHeld ?_
  · (try dsimp only at hSw)
    first | go_simp | rfl
  (try simp only [Act.put, List.getElem_toArray, List.getElem_cons_zero, List.getElem_cons_succ, List.setIfInBounds_toArray, List.set_cons_zero, List.set_cons_succ])
  have HE := Lib.hid (HEND.out X (.slice (some ⟨N, 0, none⟩) 1 1) hbX hrow)
  have bX := HRX.out X hbX
  have x0 := bX.cell 0
  have x1 := bX.cell 1
  have x2 := bX.cell 2
  have x3 := bX.cell 3
  have x4 := bX.cell 4
  have xg0 := bX.frozen 0
  have xg1 := bX.frozen 1
  have xg2 := bX.frozen 2
  have xg3 := bX.frozen 3
  have xg4 := bX.frozen 4
  simp only [List.getElem?_toArray, List.getElem?_cons_zero, List.getElem?_cons_succ] at x0 x1 x2 x3 x4
  have HS5 : Hid ((fun w' => w'.cell? ⟨T, 1, none⟩ = some (.int .i64 a) ∧ w'.cell? ⟨O, 0, none⟩ = some (.int .i64 u.kind) ∧ w'.cell? ⟨O, 1, none⟩ = some (.int .i64 u.at_) ∧ w'.cell? ⟨O, 2, none⟩ = some (.int .i64 u.num) ∧ w'.cell? ⟨O, 3, none⟩ = some (.string ⟨u.name.toArray⟩) ∧ w'.cell? ⟨O, 4, none⟩ = some (.slice A u.kids.length c)) (five X R (.int .i64 19) (.int .i64 a) (.int .i64 0) (.string ⟨#[]⟩) (.slice (some ⟨N, 0, none⟩) 1 1))) := Lib.hid (by
    have h := HCO.out X hbX
    have n1 : T ≠ R := HRT2.out.1.symm
    have n2 : O ≠ R := HRT2.out.2.symm
    exact ⟨(five_cell X R _ _ _ _ _ T 1 n1).trans h.1, (five_cell X R _ _ _ _ _ O 0 n2).trans h.2.1, (five_cell X R _ _ _ _ _ O 1 n2).trans h.2.2.1, (five_cell X R _ _ _ _ _ O 2 n2).trans h.2.2.2.1, (five_cell X R _ _ _ _ _ O 3 n2).trans h.2.2.2.2.1, (five_cell X R _ _ _ _ _ O 4 n2).trans h.2.2.2.2.2⟩)
  clear bX
  refine wpAnyH_ready (rs := [8]) (by kernel_rfl) (by simp) ?_
  refine AllReadyH.cons rfl (fun K' hK' => ?_) AllReadyH.nil
  go_simp
  refine hK'.out _ _ HS5.out (fun hHeld => ?_)
  clear hK' K'
  (try simp only [Act.put, List.getElem_toArray, List.getElem_cons_zero, List.getElem_cons_succ, List.setIfInBounds_toArray, List.set_cons_zero, List.set_cons_succ])
  refine wpAnyH_take (i := 9) (v := .int .i64 q) rfl (by kernel_rfl) (by kernel_rfl) (by kernel_rfl) (fun _ _ _ h => h) (Or.inl ⟨by rfl, fun w hSw => ?_⟩) hHeld ?_
  · (try dsimp only at hSw)
    first | go_simp | rfl
  (try simp only [Act.put, List.getElem_toArray, List.getElem_cons_zero, List.getElem_cons_succ, List.setIfInBounds_toArray, List.set_cons_zero, List.set_cons_succ])
  refine wpAnyH_take (i := 10) (v := .bool true) rfl (by kernel_rfl) (by kernel_rfl) (by kernel_rfl) (fun _ _ _ h => h) (Or.inl ⟨by rfl, fun w hSw => ?_⟩) hHeld ?_
  · (try dsimp only at hSw)
    first | go_simp | rfl
  (try simp only [Act.put, List.getElem_toArray, List.getElem_cons_zero, List.getElem_cons_succ, List.setIfInBounds_toArray, List.set_cons_zero, List.set_cons_succ])
  refine wpAnyH_done (by kernel_rfl) ?_ _
  go_wp2_with (fail)
  refine bodyPost_ret (node_ret3 rfl rfl rfl rfl HE.out.1) rfl ?_
  rw [HP2.out]
  exact HE.out.2
set_option maxRecDepth 100000 in
set_option maxHeartbeats 4000000 in
theorem first_new {l : List Tk} {v : Value} {i : Int} {w : World} (hs : Src l v w) (h0 : -9223372036854775808 ≤ i) {j q : Int} {u : NT} {ns : List NT} (hns : 0 < ns.length) (hnl : ns.length ≤ 1099511627776) (h1 : i < l.length) (hk : (tokAt l i).kind ≠ 2) (hk1 : (tokAt l i).kind ≠ 1) (w0 : isW l i [116, 114, 117, 101] = false) (w1 : isW l i [102, 97, 108, 115, 101] = false) (w2 : isW l i [102, 111, 114, 107] = false) (w3 : isW l i [110, 101, 119] = true) (ih : ∀ w', Src l v w' → Calls Tryd.prog 13 #[v, .int .i64 (i + 1)] w' (Told (.node u j) w')) (ihl : ∀ w', Src l v w' → Calls Tryd.prog 16 #[v, .int .i64 j] w' (ToldL (.list ns q) w')) :
    Calls Tryd.prog 62 #[v, .int .i64 i] w (Told (.node (.mk 19 (tokAt l i).at_ 0 [] (u :: ns)) q) w) := by
  obtain ⟨P, hP⟩ : ∃ P, P = Told (.node (.mk 19 (tokAt l i).at_ 0 [] (u :: ns)) q) w := ⟨_, rfl⟩
  rw [← hP]
  have HP := Lib.hid hP
  have IH := Lib.hid ih
  clear ih
  clear hP
  have IHL := Lib.hid ihl
  clear ihl
  have HSRC := Lib.hid hs
  have hF := hs.fair i
  obtain ⟨R, hR⟩ : ∃ R, R = w.heap.size := ⟨_, rfl⟩
  obtain ⟨W, hW⟩ : ∃ W, W = w.alloc (.cells #[.int .i64 0, .int .i64 0, .int .i64 0, .string ⟨#[]⟩, .slice none 0 0] NodeT) := ⟨_, rfl⟩
  have hbW : Below w.heap.size w W := by rw [hW]; exact (Below.refl _ _).alloc (Nat.le_refl _) _
  have HBX : Hid (Box W R NodeT #[.int .i64 0, .int .i64 0, .int .i64 0, .string ⟨#[]⟩, .slice none 0 0]) := Lib.hid (by rw [hW]; exact Box.new _ _ _ _ hR)
  have HC := Lib.hid (rtok_any l v i W _ (hs.on hbW).lies hs.len (by unfold I64; have := hs.len; omega))
  unfold TokPost at HC
  obtain ⟨t, ht⟩ : ∃ t, t = tokAt l i := ⟨_, rfl⟩
  rw [← ht] at HC hF hk hk1
  obtain ⟨k, a, n, s⟩ := t
  simp only [tkA] at HC hF hk hk1
  have HF := Lib.hid hF
  have HT0 := Lib.hid ht
  have HW := Lib.hid hW
  have HRR := Lib.hid hR
  have HBW := Lib.hid hbW
  have hL := hs.len
  clear hW hR hbW hs hF ht
  go_enter Tryd.func62, Tryd.ntmps62
  go_wp2_with (first | (rw [← HW.out, ← HRR.out]))
  refine HC.out.mono ?_
  rintro e w1 ⟨rfl, hb1⟩
  obtain ⟨T, hT⟩ : ∃ T, T = w1.heap.size := ⟨_, rfl⟩
  obtain ⟨W1, hW1⟩ : ∃ W1, W1 = w1.alloc (.cells #[.int .i64 0, .int .i64 0, .int .i64 0, .string ⟨#[]⟩] TkT) := ⟨_, rfl⟩
  have hRT : R < T := by have := HBX.out.lt; have := hb1.size; omega
  have hB1 : Below w.heap.size w W1 := by rw [hW1]; exact (HBW.out.trans (hb1.mono HBW.out.size)).alloc (Nat.le_trans HBW.out.size hb1.size) _
  have bT : Box W1 T TkT #[.int .i64 0, .int .i64 0, .int .i64 0, .string ⟨#[]⟩] := by rw [hW1]; exact Box.new _ _ _ _ hT
  have bR : Box W1 R NodeT #[.int .i64 0, .int .i64 0, .int .i64 0, .string ⟨#[]⟩, .slice none 0 0] := by rw [hW1]; exact (HBX.out.on hb1).alloc _
  have hwT : w.heap.size ≤ T := by have := HRR.out; omega
  have HZT := Lib.hid (box_four bT (.int .i64 k) (.int .i64 a) (.int .i64 n) (.string ⟨s.toArray⟩))
  have HZR : Hid (Box ((((W1.setCell ⟨T, 0, none⟩ (.int .i64 k)).setCell ⟨T, 1, none⟩ (.int .i64 a)).setCell ⟨T, 2, none⟩ (.int .i64 n)).setCell ⟨T, 3, none⟩ (.string ⟨s.toArray⟩)) R NodeT #[.int .i64 0, .int .i64 0, .int .i64 0, .string ⟨#[]⟩, .slice none 0 0]) := Lib.hid ((((bR.far (by show R ≠ T; omega) _).far (by show R ≠ T; omega) _).far (by show R ≠ T; omega) _).far (by show R ≠ T; omega) _)
  have HZB := Lib.hid (below_four hB1 hwT (.int .i64 k) (.int .i64 a) (.int .i64 n) (.string ⟨s.toArray⟩))
  have f0 := bT.frozen 0
  have f1 := bT.frozen 1
  have f2 := bT.frozen 2
  have f3 := bT.frozen 3
  have y0 := bT.cell 0
  have y1 := bT.cell 1
  have y2 := bT.cell 2
  have y3 := bT.cell 3
  simp only [List.getElem?_toArray, List.getElem?_cons_zero, List.getElem?_cons_succ] at y0 y1 y2 y3
  have HW1 := Lib.hid hW1
  have HTT := Lib.hid hT
  have HRT := Lib.hid hRT
  have HWT := Lib.hid hwT
  clear hT hW1 hRT hB1 bT hb1 hwT HC
  have hk2 : (k == 2) = false := beq_eq_false_iff_ne.2 hk
  have hk3 : (k == 1) = false := beq_eq_false_iff_ne.2 hk1
  go_wp2_with (first | (rw [← HW1.out, ← HTT.out]))
  obtain ⟨Z, hZ⟩ : ∃ Z, Z = (((W1.setCell ⟨T, 0, none⟩ (.int .i64 k)).setCell ⟨T, 1, none⟩ (.int .i64 a)).setCell ⟨T, 2, none⟩ (.int .i64 n)).setCell ⟨T, 3, none⟩ (.string ⟨s.toArray⟩) := ⟨_, rfl⟩
  rw [← hZ] at HZT HZR HZB ⊢
  have HM : Hid (∀ w', Below (T + 1) Z w' → Box w' R NodeT #[.int .i64 0, .int .i64 0, .int .i64 0, .string ⟨#[]⟩, .slice none 0 0] ∧ Box w' T TkT #[.int .i64 k, .int .i64 a, .int .i64 n, .string ⟨s.toArray⟩] ∧ Src l v w' ∧ T + 1 ≤ w'.heap.size ∧ Below w.heap.size w w') := Lib.hid (fun w' hb => by
    have hRT := HRT.out
    have hWT := HWT.out
    have q1 := HZR.out.below hb (by omega)
    have q2 := HZT.out.below hb (by omega)
    have q3 : Below w.heap.size w w' := HZB.out.trans (hb.mono (by omega))
    exact ⟨q1, q2, HSRC.out.on q3, q2.lt, q3⟩)
  have HB : Hid (Below (T + 1) Z Z) := Lib.hid (Below.refl _ _)
  clear f0 f1 f2 f3 y0 y1 y2 y3 hZ bR
  refine (says_src (HM.out _ HB.out).2.2.1 HB.out (HM.out _ HB.out).2.2.2.1 [116, 114, 117, 101] (i) (by unfold I64; omega)).mono ?_
  rintro e w2 ⟨rfl, hb2⟩
  have HB2 := Lib.hid hb2
  clear hb2
  go_wp2_with (fail)
  refine (says_src (HM.out _ HB2.out).2.2.1 HB2.out (HM.out _ HB2.out).2.2.2.1 [102, 97, 108, 115, 101] (i) (by unfold I64; omega)).mono ?_
  rintro e w3 ⟨rfl, hb3⟩
  have HB3 := Lib.hid hb3
  clear hb3
  have bT := (HM.out _ HB3.out).2.1
  have t0 := bT.cell 0
  have t1 := bT.cell 1
  have t3 := bT.cell 3
  simp only [List.getElem?_toArray, List.getElem?_cons_zero, List.getElem?_cons_succ] at t0 t1 t3
  clear bT
  go_wp2_with (fail)
  clear t0 t1 t3
  refine (says_src (HM.out _ HB3.out).2.2.1 HB3.out (HM.out _ HB3.out).2.2.2.1 [102, 111, 114, 107] (i) (by unfold I64; omega)).mono ?_
  rintro e w4 ⟨rfl, hb4⟩
  have HB4 := Lib.hid hb4
  clear hb4
  go_wp2_with (fail)
  refine (says_src (HM.out _ HB4.out).2.2.1 HB4.out (HM.out _ HB4.out).2.2.2.1 [110, 101, 119] (i) (by unfold I64; omega)).mono ?_
  rintro e w5 ⟨rfl, hb5⟩
  have HB5 := Lib.hid hb5
  clear hb5
  go_wp2_with (fail)
  refine (IH.out _ (HM.out _ HB5.out).2.2.1).mono ?_
  rintro e w7 ⟨su, rfl, hk7, hd7, hb7⟩
  obtain ⟨A, c, rfl, _⟩ := hk7.form
  have HB7 := Lib.hid (HB5.out.trans (hb7.mono (HM.out _ HB5.out).2.2.2.1))
  obtain ⟨V, hV⟩ : ∃ V, V = w7.alloc (.cells #[.int .i64 0, .int .i64 0, .int .i64 0, .string ⟨#[]⟩, .slice none 0 0] NodeT) := ⟨_, rfl⟩
  obtain ⟨O, hO⟩ : ∃ O, O = w7.heap.size := ⟨_, rfl⟩
  have hTO : T + 1 ≤ O := by rw [hO]; exact (HM.out _ HB7.out).2.2.2.1
  have hbV : Below (T + 1) Z V := by rw [hV]; exact HB7.out.alloc (HM.out _ HB7.out).2.2.2.1 _
  have bO : Box V O NodeT #[.int .i64 0, .int .i64 0, .int .i64 0, .string ⟨#[]⟩, .slice none 0 0] := by rw [hV]; exact Box.new _ _ _ _ hO
  have bR := (HM.out _ hbV).1
  have ne3 : ¬ R = O := by have := HRT.out; omega
  have ne4 : ¬ O = R := fun e => ne3 e.symm
  have ne5 : ¬ T = O := by omega
  have ne6 : ¬ O = T := fun e => ne5 e.symm
  have hku : nt.Kids (fun b => w.heap.size < b) (((((V.setCell ⟨O, 0, none⟩ (.int .i64 u.kind)).setCell ⟨O, 1, none⟩ (.int .i64 u.at_)).setCell ⟨O, 2, none⟩ (.int .i64 u.num)).setCell ⟨O, 3, none⟩ (.string ⟨u.name.toArray⟩)).setCell ⟨O, 4, none⟩ (.slice A u.kids.length c)) u.kids (.slice A u.kids.length c) := by
    have hk8 : nt.Kids (fun b => w.heap.size < b ∧ b < w7.heap.size) w7 u.kids (.slice A u.kids.length c) := (hk7.lt).mono fun b hb => ⟨by have h1 := hb.1; have h2 := (HM.out _ HB5.out).2.2.2.1; have := HRR.out; have := HRT.out; omega, hb.2⟩
    have hk9 : nt.Kids (fun b => w.heap.size < b ∧ b < w7.heap.size) V u.kids (.slice A u.kids.length c) := by rw [hV]; exact hk8.below ((Below.refl _ _).alloc (Nat.le_refl _) _)
    exact (kids_five hk9 (fun b hb => by have := hb.2; omega) _ _ _ _ _).mono fun b hb => hb.1
  have hbU : Below (T + 1) Z (((((V.setCell ⟨O, 0, none⟩ (.int .i64 u.kind)).setCell ⟨O, 1, none⟩ (.int .i64 u.at_)).setCell ⟨O, 2, none⟩ (.int .i64 u.num)).setCell ⟨O, 3, none⟩ (.string ⟨u.name.toArray⟩)).setCell ⟨O, 4, none⟩ (.slice A u.kids.length c)) := below_five hbV hTO _ _ _ _ _
  have bOU := box_five bO (.int .i64 u.kind) (.int .i64 u.at_) (.int .i64 u.num) (.string ⟨u.name.toArray⟩) (.slice A u.kids.length c)
  change Box (((((V.setCell ⟨O, 0, none⟩ (.int .i64 u.kind)).setCell ⟨O, 1, none⟩ (.int .i64 u.at_)).setCell ⟨O, 2, none⟩ (.int .i64 u.num)).setCell ⟨O, 3, none⟩ (.string ⟨u.name.toArray⟩)).setCell ⟨O, 4, none⟩ (.slice A u.kids.length c)) O NodeT _ at bOU
  have o0 := bO.cell 0
  have o1 := bO.cell 1
  have o2 := bO.cell 2
  have o3 := bO.cell 3
  have o4 := bO.cell 4
  have og0 := bO.frozen 0
  have og1 := bO.frozen 1
  have og2 := bO.frozen 2
  have og3 := bO.frozen 3
  have og4 := bO.frozen 4
  simp only [List.getElem?_toArray, List.getElem?_cons_zero, List.getElem?_cons_succ] at o0 o1 o2 o3 o4
  have HV := Lib.hid hV
  have HO := Lib.hid hO
  obtain ⟨U, hU⟩ : ∃ U, U = ((((V.setCell ⟨O, 0, none⟩ (.int .i64 u.kind)).setCell ⟨O, 1, none⟩ (.int .i64 u.at_)).setCell ⟨O, 2, none⟩ (.int .i64 u.num)).setCell ⟨O, 3, none⟩ (.string ⟨u.name.toArray⟩)).setCell ⟨O, 4, none⟩ (.slice A u.kids.length c) := ⟨_, rfl⟩
  rw [← hU] at hku hbU bOU
  have HU := Lib.hid hU
  have HKU := Lib.hid hku
  have HBU := Lib.hid hbU
  have HBO := Lib.hid bOU
  have HD := Lib.hid hd7
  have HTO := Lib.hid hTO
  clear hU hV hO hb7 hk7 bO hbV hku hbU bOU hd7 hTO bR
  go_wp2_with (first | (rw [← HV.out, ← HO.out]) | (rw [← HU.out]))
  refine (IHL.out _ (HM.out _ HBU.out).2.2.1).mono ?_
  rintro e w8 ⟨sl, rfl, hown, _, hb8⟩
  obtain ⟨AL, cL, rfl⟩ := hown.form
  obtain ⟨m, hm⟩ : ∃ m, m = ns.length := ⟨_, rfl⟩
  rw [← hm] at hown hns hnl ⊢
  have HMM := Lib.hid hm
  have HOWN := Lib.hid hown
  clear hown hm
  have HB8 := Lib.hid (HBU.out.trans (hb8.mono (HM.out _ HBU.out).2.2.2.1))
  have bR := (HM.out _ HB8.out).1
  have bT := (HM.out _ HB8.out).2.1
  have bO8 := HBO.out.on hb8
  have HKU8 := Lib.hid (HKU.out.below hb8)
  have HUW := Lib.hid hb8.size
  have HRX : Hid (∀ w', Below w8.heap.size w8 w' → Box w' R NodeT #[.int .i64 0, .int .i64 0, .int .i64 0, .string ⟨#[]⟩, .slice none 0 0]) := Lib.hid (fun w' hb => bR.on hb)
  have HCO : Hid (∀ w', Below w8.heap.size w8 w' → w'.cell? ⟨T, 1, none⟩ = some (.int .i64 a) ∧ w'.cell? ⟨O, 0, none⟩ = some (.int .i64 u.kind) ∧ w'.cell? ⟨O, 1, none⟩ = some (.int .i64 u.at_) ∧ w'.cell? ⟨O, 2, none⟩ = some (.int .i64 u.num) ∧ w'.cell? ⟨O, 3, none⟩ = some (.string ⟨u.name.toArray⟩) ∧ w'.cell? ⟨O, 4, none⟩ = some (.slice A u.kids.length c)) := Lib.hid (fun w' hb => by
    have b := bT.on hb
    have b2 := bO8.on hb
    exact ⟨b.cell 1, b2.cell 0, b2.cell 1, b2.cell 2, b2.cell 3, b2.cell 4⟩)
  have hsz8 : w.heap.size < w8.heap.size := by have := (HM.out _ HB8.out).2.2.2.1; have := HRR.out; have := HRT.out; omega
  have HEND : Hid (∀ X sl, Below w8.heap.size w8 X → nt.Kids (fun b => w.heap.size < b) X (u :: ns) sl → Box (five X R (.int .i64 19) (.int .i64 a) (.int .i64 0) (.string ⟨#[]⟩) sl) R NodeT #[.int .i64 19, .int .i64 a, .int .i64 0, .string ⟨#[]⟩, sl] ∧ Told (.node (.mk 19 a 0 [] (u :: ns)) q) w (.returned (.tuple #[.agg #[.int .i64 19, .int .i64 a, .int .i64 0, .string ⟨#[]⟩, sl], .int .i64 q, .bool true])) (five X R (.int .i64 19) (.int .i64 a) (.int .i64 0) (.string ⟨#[]⟩) sl)) := Lib.hid (fun X sl hb hk =>
    node_end (t := .mk 19 a 0 [] (u :: ns)) HRR.out (HRX.out X hb) ⟨by show I64 (19); unfold I64; omega, HF.out.1, by show I64 0; unfold I64; omega, by show 0 ≤ 281474976710656; omega⟩ hk (HM.out _ (HB8.out.trans (hb.mono (HM.out _ HB8.out).2.2.2.1))).2.2.2.2)
  have hP2 : P = Told (.node (.mk 19 a 0 [] (u :: ns)) q) w := by rw [HP.out, ← HT0.out]
  have HP2 := Lib.hid hP2
  have HRT2 : Hid (R ≠ T ∧ R ≠ O) := Lib.hid ⟨by have := HRT.out; omega, ne3⟩
  clear bR bT bO8 hb8 hP2 o0 o1 o2 o3 o4 og0 og1 og2 og3 og4
  go_wp2_with (fail)
  refine wp_region_held_drew (S := fun w' => w'.cell? ⟨T, 1, none⟩ = some (.int .i64 a) ∧ w'.cell? ⟨O, 0, none⟩ = some (.int .i64 u.kind) ∧ w'.cell? ⟨O, 1, none⟩ = some (.int .i64 u.at_) ∧ w'.cell? ⟨O, 2, none⟩ = some (.int .i64 u.num) ∧ w'.cell? ⟨O, 3, none⟩ = some (.string ⟨u.name.toArray⟩) ∧ w'.cell? ⟨O, 4, none⟩ = some (.slice A u.kids.length c)) (by kernel_rfl) ?_ (fun hHeld => ?_)
  · exact HCO.out _ (Below.refl _ _).drew
  refine wpAnyH_take (i := 0) (v := .pointer (some ⟨T, 1, none⟩)) rfl (by kernel_rfl) (by kernel_rfl) (by kernel_rfl) (fun _ _ _ h => h) (Or.inl ⟨by rfl, fun w hSw => ?_⟩) hHeld ?_
  · (try dsimp only at hSw)
    first | go_simp | rfl
  (try simp only [Act.put, List.getElem_toArray, List.getElem_cons_zero, List.getElem_cons_succ, List.setIfInBounds_toArray, List.set_cons_zero, List.set_cons_succ])
  refine wpAnyH_take (i := 1) (v := .int .i64 a) rfl (by kernel_rfl) (by kernel_rfl) (by kernel_rfl) (fun _ _ _ h => h) (Or.inl ⟨by rfl, fun w hSw => ?_⟩) hHeld ?_
  · (try dsimp only at hSw)
    first | go_simp | rfl
  (try simp only [Act.put, List.getElem_toArray, List.getElem_cons_zero, List.getElem_cons_succ, List.setIfInBounds_toArray, List.set_cons_zero, List.set_cons_succ])
  refine wpAnyH_take (i := 2) (v := .agg #[.int .i64 u.kind, .int .i64 u.at_, .int .i64 u.num, .string ⟨u.name.toArray⟩, .slice A u.kids.length c]) rfl (by kernel_rfl) (by kernel_rfl) (by kernel_rfl) (fun _ _ _ h => h) (Or.inl ⟨by rfl, fun w hSw => ?_⟩) hHeld ?_
  · (try dsimp only at hSw)
    first | go_simp | rfl
  (try simp only [Act.put, List.getElem_toArray, List.getElem_cons_zero, List.getElem_cons_succ, List.setIfInBounds_toArray, List.set_cons_zero, List.set_cons_succ])
  refine wpAnyH_take (i := 4) (v := .slice AL m cL) rfl (by kernel_rfl) (by kernel_rfl) (by kernel_rfl) (fun _ _ _ h => h) (Or.inl ⟨by rfl, fun w hSw => ?_⟩) hHeld ?_
  · (try dsimp only at hSw)
    first | go_simp | rfl
  (try simp only [Act.put, List.getElem_toArray, List.getElem_cons_zero, List.getElem_cons_succ, List.setIfInBounds_toArray, List.set_cons_zero, List.set_cons_succ])
  refine wpAnyH_take (i := 7) (v := .int .i64 q) rfl (by kernel_rfl) (by kernel_rfl) (by kernel_rfl) (fun _ _ _ h => h) (Or.inl ⟨by rfl, fun w hSw => ?_⟩) hHeld ?_
  · (try dsimp only at hSw)
    first | go_simp | rfl
  (try simp only [Act.put, List.getElem_toArray, List.getElem_cons_zero, List.getElem_cons_succ, List.setIfInBounds_toArray, List.set_cons_zero, List.set_cons_succ])
  refine wpAnyH_ready (rs := [3]) (by kernel_rfl) (by simp) ?_
  refine AllReadyH.cons rfl (fun K' hK' => ?_) AllReadyH.nil
  go_simp
  obtain ⟨X, hX⟩ : ∃ X, X = (w8.alloc (.cells #[.int .i64 u.kind, .int .i64 u.at_, .int .i64 u.num, .string ⟨u.name.toArray⟩, .slice A u.kids.length c] NodeT)).drew := ⟨_, rfl⟩
  obtain ⟨N, hN⟩ : ∃ N, N = w8.heap.size := ⟨_, rfl⟩
  have hbX : Below w8.heap.size w8 X := by rw [hX]; exact ((Below.refl _ _).alloc (Nat.le_refl _) _).drew
  rw [← hX, ← hN]
  refine hK'.out _ _ (HCO.out X hbX) (fun hHeld => ?_)
  clear hK' K'
  (try simp only [Act.put, List.getElem_toArray, List.getElem_cons_zero, List.getElem_cons_succ, List.setIfInBounds_toArray, List.set_cons_zero, List.set_cons_succ])
  refine wpAnyH_ready (rs := [5]) (by kernel_rfl) (by simp) ?_
  refine AllReadyH.cons rfl (fun K' hK' => ?_) AllReadyH.nil
  have hX2 : X = w8.drew.alloc (.cells #[.int .i64 u.kind, .int .i64 u.at_, .int .i64 u.num, .string ⟨u.name.toArray⟩, .slice A u.kids.length c] NodeT) := by rw [hX]; rfl
  rw [hX2]
  have HKX : Hid (nt.Kids (fun b => w.heap.size + 1 ≤ b) w8.drew u.kids (.slice A u.kids.length c)) := Lib.hid ((HKU8.out.below (Below.refl _ _).drew).mono fun b hb => hb)
  have HOX : Hid (nt.Own2 (w.heap.size + 1) w8.drew ns (.slice AL m cL)) := Lib.hid ((own2_base HOWN.out (by have := (HM.out _ HBU.out).2.2.2.1; have := HRR.out; have := HRT.out; omega)).below (Below.refl _ _).drew)
  refine step_nodesB (B := w.heap.size + 1) (wr := w8.drew) (by rfl) _ _ (by rfl) u (.slice A u.kids.length c) ns AL m cL N (by rfl) (by rfl) HMM.out hns HOX.out HD.out HKX.out (by have : w8.drew.heap.size = w8.heap.size := rfl; omega) hnl hN ?_
  intro A4 c4 w9 hk9 hb9
  have hb9w : Below w8.heap.size w8 w9 := ((Below.refl w8.heap.size w8).drew).trans hb9
  have hrow : nt.Kids (fun b => w.heap.size < b) w9 (u :: ns) (.slice A4 (1 + m) c4) := hk9.mono fun b hb => hb
  clear hk9 hb9 hX hX2 hN hbX
  refine hK'.out _ _ (HCO.out w9 hb9w) (fun hHeld => ?_)
  clear hK' K'
  (try simp only [Act.put, List.getElem_toArray, List.getElem_cons_zero, List.getElem_cons_succ, List.setIfInBounds_toArray, List.set_cons_zero, List.set_cons_succ])
  refine wpAnyH_take (i := 6) (v := .agg #[.int .i64 19, .int .i64 a, .int .i64 0, .string ⟨#[]⟩, .slice A4 (1 + m) c4]) rfl (by kernel_rfl) (by kernel_rfl) (by kernel_rfl) (fun _ _ _ h => h) (Or.inl ⟨by rfl, fun w hSw => ?_⟩) hHeld ?_
  · (try dsimp only at hSw)
    first | go_simp | rfl
  (try simp only [Act.put, List.getElem_toArray, List.getElem_cons_zero, List.getElem_cons_succ, List.setIfInBounds_toArray, List.set_cons_zero, List.set_cons_succ])
  have HE := Lib.hid (HEND.out w9 (.slice A4 (1 + m) c4) hb9w hrow)
  have bX := HRX.out w9 hb9w
  have x0 := bX.cell 0
  have x1 := bX.cell 1
  have x2 := bX.cell 2
  have x3 := bX.cell 3
  have x4 := bX.cell 4
  have xg0 := bX.frozen 0
  have xg1 := bX.frozen 1
  have xg2 := bX.frozen 2
  have xg3 := bX.frozen 3
  have xg4 := bX.frozen 4
  simp only [List.getElem?_toArray, List.getElem?_cons_zero, List.getElem?_cons_succ] at x0 x1 x2 x3 x4
  have HS5 : Hid ((fun w' => w'.cell? ⟨T, 1, none⟩ = some (.int .i64 a) ∧ w'.cell? ⟨O, 0, none⟩ = some (.int .i64 u.kind) ∧ w'.cell? ⟨O, 1, none⟩ = some (.int .i64 u.at_) ∧ w'.cell? ⟨O, 2, none⟩ = some (.int .i64 u.num) ∧ w'.cell? ⟨O, 3, none⟩ = some (.string ⟨u.name.toArray⟩) ∧ w'.cell? ⟨O, 4, none⟩ = some (.slice A u.kids.length c)) (five w9 R (.int .i64 19) (.int .i64 a) (.int .i64 0) (.string ⟨#[]⟩) (.slice A4 (1 + m) c4))) := Lib.hid (by
    have h := HCO.out w9 hb9w
    have n1 : T ≠ R := HRT2.out.1.symm
    have n2 : O ≠ R := HRT2.out.2.symm
    exact ⟨(five_cell w9 R _ _ _ _ _ T 1 n1).trans h.1, (five_cell w9 R _ _ _ _ _ O 0 n2).trans h.2.1, (five_cell w9 R _ _ _ _ _ O 1 n2).trans h.2.2.1, (five_cell w9 R _ _ _ _ _ O 2 n2).trans h.2.2.2.1, (five_cell w9 R _ _ _ _ _ O 3 n2).trans h.2.2.2.2.1, (five_cell w9 R _ _ _ _ _ O 4 n2).trans h.2.2.2.2.2⟩)
  clear bX
  refine wpAnyH_ready (rs := [8]) (by kernel_rfl) (by simp) ?_
  refine AllReadyH.cons rfl (fun K' hK' => ?_) AllReadyH.nil
  go_simp
  refine hK'.out _ _ HS5.out (fun hHeld => ?_)
  clear hK' K'
  (try simp only [Act.put, List.getElem_toArray, List.getElem_cons_zero, List.getElem_cons_succ, List.setIfInBounds_toArray, List.set_cons_zero, List.set_cons_succ])
  refine wpAnyH_take (i := 9) (v := .int .i64 q) rfl (by kernel_rfl) (by kernel_rfl) (by kernel_rfl) (fun _ _ _ h => h) (Or.inl ⟨by rfl, fun w hSw => ?_⟩) hHeld ?_
  · (try dsimp only at hSw)
    first | go_simp | rfl
  (try simp only [Act.put, List.getElem_toArray, List.getElem_cons_zero, List.getElem_cons_succ, List.setIfInBounds_toArray, List.set_cons_zero, List.set_cons_succ])
  refine wpAnyH_take (i := 10) (v := .bool true) rfl (by kernel_rfl) (by kernel_rfl) (by kernel_rfl) (fun _ _ _ h => h) (Or.inl ⟨by rfl, fun w hSw => ?_⟩) hHeld ?_
  · (try dsimp only at hSw)
    first | go_simp | rfl
  (try simp only [Act.put, List.getElem_toArray, List.getElem_cons_zero, List.getElem_cons_succ, List.setIfInBounds_toArray, List.set_cons_zero, List.set_cons_succ])
  refine wpAnyH_done (by kernel_rfl) ?_ _
  go_wp2_with (fail)
  refine bodyPost_ret (node_ret3 rfl rfl rfl rfl HE.out.1) rfl ?_
  rw [HP2.out]
  exact HE.out.2
end Go.Proofs.YtgohkmdepjmpaaaDoor.pm

/- The document's own reader of factors. -/
import Derived.Test.YtgohkmdepjmpaaaDoorCParNamed
import Derived.Deep.RegionHeld
namespace Go.Proofs.YtgohkmdepjmpaaaDoor.pm
open Go.RowKit wd lx nt ne mem
open vt (I64)

theorem tok_field (k a n : Int) (s : List UInt8) (w : World) : (Instr.field TkT (.agg #[.int .i64 k, .int .i64 a, .int .i64 n, .string ⟨s.toArray⟩]) 1).run Tryd.prog w = .ok (.int .i64 a) w := by
  kernel_rfl
set_option maxHeartbeats 2000000 in
theorem fac_part_no {l : List Tk} {v : Value} {i : Int} {w : World} (hs : Src l v w) (h0 : -9223372036854775808 ≤ i) {j : Int} (h1 : i ≤ 9223372036854775807) (m1 : isM l i [45] = false) (m2 : isM l i [33] = false) (ih : ∀ w', Src l v w' → Calls Tryd.prog 52 #[v, .int .i64 (i)] w' (Told (.no j) w')) :
    Calls Tryd.prog 35 #[v, .int .i64 i] w (Told (.no j) w) := by
  obtain ⟨P, hP⟩ : ∃ P, P = Told (.no j) w := ⟨_, rfl⟩
  rw [← hP]
  have HP := Lib.hid hP
  have IH := Lib.hid ih
  clear hP ih
  have HSRC := Lib.hid hs
  have HF := Lib.hid (hs.fair i)
  have hL := hs.len
  obtain ⟨R, hR⟩ : ∃ R, R = w.heap.size := ⟨_, rfl⟩
  obtain ⟨W, hW⟩ : ∃ W, W = w.alloc (.cells #[.int .i64 0, .int .i64 0, .int .i64 0, .string ⟨#[]⟩, .slice none 0 0] NodeT) := ⟨_, rfl⟩
  have hbW : Below w.heap.size w W := by rw [hW]; exact (Below.refl _ _).alloc (Nat.le_refl _) _
  have HBX : Hid (Box W R NodeT #[.int .i64 0, .int .i64 0, .int .i64 0, .string ⟨#[]⟩, .slice none 0 0]) := Lib.hid (by rw [hW]; exact Box.new _ _ _ _ hR)
  have HM : Hid (∀ w', Below (R + 1) W w' → Box w' R NodeT #[.int .i64 0, .int .i64 0, .int .i64 0, .string ⟨#[]⟩, .slice none 0 0] ∧ Src l v w' ∧ R + 1 ≤ w'.heap.size ∧ Below w.heap.size w w') := Lib.hid (fun w' hb => by
    have q1 := HBX.out.below hb (by omega)
    have q3 : Below w.heap.size w w' := hbW.trans (hb.mono (by omega))
    exact ⟨q1, hs.on q3, q1.lt, q3⟩)
  have HB : Hid (Below (R + 1) W W) := Lib.hid (Below.refl _ _)
  have HW := Lib.hid hW
  have HRR := Lib.hid hR
  clear hW hR hbW hs
  go_enter Tryd.func35, Tryd.ntmps35
  go_wp2_with (first | (rw [← HW.out, ← HRR.out]))
  refine (is_src (HM.out _ HB.out).2.1 HB.out (HM.out _ HB.out).2.2.1 [45] (i) (by unfold I64; omega)).mono ?_
  rintro e w2 ⟨rfl, hb2⟩
  have HB2 := Lib.hid hb2
  clear hb2
  go_wp2_with (fail)
  refine (is_src (HM.out _ HB2.out).2.1 HB2.out (HM.out _ HB2.out).2.2.1 [33] (i) (by unfold I64; omega)).mono ?_
  rintro e w3 ⟨rfl, hb3⟩
  have HB3 := Lib.hid hb3
  clear hb3
  go_wp2_with (fail)
  refine (IH.out _ (HM.out _ HB3.out).2.1).mono ?_
  rintro e w7 ⟨rfl, hb7⟩
  have HB7 := Lib.hid (HB3.out.trans (hb7.mono (HM.out _ HB3.out).2.2.1))
  have bR := (HM.out _ HB7.out).1
  have HE := Lib.hid (no_end (j := j) HRR.out bR (HM.out _ HB7.out).2.2.2)
  have r0 := bR.cell 0
  have r1 := bR.cell 1
  have r2 := bR.cell 2
  have r3 := bR.cell 3
  have r4 := bR.cell 4
  have g0 := bR.frozen 0
  have g1 := bR.frozen 1
  have g2 := bR.frozen 2
  have g3 := bR.frozen 3
  have g4 := bR.frozen 4
  simp only [List.getElem?_toArray, List.getElem?_cons_zero, List.getElem?_cons_succ] at r0 r1 r2 r3 r4
  clear bR hb7
  go_wp2_with (fail)
  refine bodyPost_ret (node_ret3 rfl rfl rfl rfl HE.out.1) rfl ?_
  rw [HP.out]
  exact HE.out.2
set_option maxHeartbeats 2000000 in
theorem fac_part {l : List Tk} {v : Value} {i : Int} {w : World} (hs : Src l v w) (h0 : -9223372036854775808 ≤ i) {j : Int} {u : NT} (h1 : i ≤ 9223372036854775807) (m1 : isM l i [45] = false) (m2 : isM l i [33] = false) (ih : ∀ w', Src l v w' → Calls Tryd.prog 52 #[v, .int .i64 (i)] w' (Told (.node u j) w')) :
    Calls Tryd.prog 35 #[v, .int .i64 i] w (Told (.node u j) w) := by
  obtain ⟨P, hP⟩ : ∃ P, P = Told (.node u j) w := ⟨_, rfl⟩
  rw [← hP]
  have HP := Lib.hid hP
  have IH := Lib.hid ih
  clear hP ih
  have HSRC := Lib.hid hs
  have HF := Lib.hid (hs.fair i)
  have hL := hs.len
  obtain ⟨R, hR⟩ : ∃ R, R = w.heap.size := ⟨_, rfl⟩
  obtain ⟨W, hW⟩ : ∃ W, W = w.alloc (.cells #[.int .i64 0, .int .i64 0, .int .i64 0, .string ⟨#[]⟩, .slice none 0 0] NodeT) := ⟨_, rfl⟩
  have hbW : Below w.heap.size w W := by rw [hW]; exact (Below.refl _ _).alloc (Nat.le_refl _) _
  have HBX : Hid (Box W R NodeT #[.int .i64 0, .int .i64 0, .int .i64 0, .string ⟨#[]⟩, .slice none 0 0]) := Lib.hid (by rw [hW]; exact Box.new _ _ _ _ hR)
  have HM : Hid (∀ w', Below (R + 1) W w' → Box w' R NodeT #[.int .i64 0, .int .i64 0, .int .i64 0, .string ⟨#[]⟩, .slice none 0 0] ∧ Src l v w' ∧ R + 1 ≤ w'.heap.size ∧ Below w.heap.size w w') := Lib.hid (fun w' hb => by
    have q1 := HBX.out.below hb (by omega)
    have q3 : Below w.heap.size w w' := hbW.trans (hb.mono (by omega))
    exact ⟨q1, hs.on q3, q1.lt, q3⟩)
  have HB : Hid (Below (R + 1) W W) := Lib.hid (Below.refl _ _)
  have HW := Lib.hid hW
  have HRR := Lib.hid hR
  clear hW hR hbW hs
  go_enter Tryd.func35, Tryd.ntmps35
  go_wp2_with (first | (rw [← HW.out, ← HRR.out]))
  refine (is_src (HM.out _ HB.out).2.1 HB.out (HM.out _ HB.out).2.2.1 [45] (i) (by unfold I64; omega)).mono ?_
  rintro e w2 ⟨rfl, hb2⟩
  have HB2 := Lib.hid hb2
  clear hb2
  go_wp2_with (fail)
  refine (is_src (HM.out _ HB2.out).2.1 HB2.out (HM.out _ HB2.out).2.2.1 [33] (i) (by unfold I64; omega)).mono ?_
  rintro e w3 ⟨rfl, hb3⟩
  have HB3 := Lib.hid hb3
  clear hb3
  go_wp2_with (fail)
  refine (IH.out _ (HM.out _ HB3.out).2.1).mono ?_
  rintro e w7 ⟨su, rfl, hk7, hd7, hb7⟩
  obtain ⟨A, c, rfl, _⟩ := hk7.form
  have HB7 := Lib.hid (HB3.out.trans (hb7.mono (HM.out _ HB3.out).2.2.1))
  have bR := (HM.out _ HB7.out).1
  have hrow : nt.Kids (fun b => w.heap.size < b) w7 u.kids (.slice A u.kids.length c) := hk7.mono fun b hb => by have h2 := (HM.out _ HB3.out).2.2.1; have := HRR.out; omega
  have HE := Lib.hid (node_end (j := j) (t := u) HRR.out bR hd7 hrow (HM.out _ HB7.out).2.2.2)
  clear hrow hk7 hd7
  have r0 := bR.cell 0
  have r1 := bR.cell 1
  have r2 := bR.cell 2
  have r3 := bR.cell 3
  have r4 := bR.cell 4
  have g0 := bR.frozen 0
  have g1 := bR.frozen 1
  have g2 := bR.frozen 2
  have g3 := bR.frozen 3
  have g4 := bR.frozen 4
  simp only [List.getElem?_toArray, List.getElem?_cons_zero, List.getElem?_cons_succ] at r0 r1 r2 r3 r4
  clear bR hb7
  go_wp2_with (fail)
  refine bodyPost_ret (node_ret3 rfl rfl rfl rfl HE.out.1) rfl ?_
  rw [HP.out]
  exact HE.out.2
set_option maxHeartbeats 2000000 in
theorem fac_no_m {l : List Tk} {v : Value} {i : Int} {w : World} (hs : Src l v w) (h0 : -9223372036854775808 ≤ i) {j : Int} (h1 : i < l.length) (m1 : isM l i [45] = true) (m2 : isM l i [33] = false) (ih : ∀ w', Src l v w' → Calls Tryd.prog 35 #[v, .int .i64 (i + 1)] w' (Told (.no j) w')) :
    Calls Tryd.prog 35 #[v, .int .i64 i] w (Told (.no j) w) := by
  obtain ⟨P, hP⟩ : ∃ P, P = Told (.no j) w := ⟨_, rfl⟩
  rw [← hP]
  have HP := Lib.hid hP
  have IH := Lib.hid ih
  clear hP ih
  have HSRC := Lib.hid hs
  have HF := Lib.hid (hs.fair i)
  have hL := hs.len
  obtain ⟨R, hR⟩ : ∃ R, R = w.heap.size := ⟨_, rfl⟩
  obtain ⟨W, hW⟩ : ∃ W, W = w.alloc (.cells #[.int .i64 0, .int .i64 0, .int .i64 0, .string ⟨#[]⟩, .slice none 0 0] NodeT) := ⟨_, rfl⟩
  have hbW : Below w.heap.size w W := by rw [hW]; exact (Below.refl _ _).alloc (Nat.le_refl _) _
  have HBX : Hid (Box W R NodeT #[.int .i64 0, .int .i64 0, .int .i64 0, .string ⟨#[]⟩, .slice none 0 0]) := Lib.hid (by rw [hW]; exact Box.new _ _ _ _ hR)
  have HM : Hid (∀ w', Below (R + 1) W w' → Box w' R NodeT #[.int .i64 0, .int .i64 0, .int .i64 0, .string ⟨#[]⟩, .slice none 0 0] ∧ Src l v w' ∧ R + 1 ≤ w'.heap.size ∧ Below w.heap.size w w') := Lib.hid (fun w' hb => by
    have q1 := HBX.out.below hb (by omega)
    have q3 : Below w.heap.size w w' := hbW.trans (hb.mono (by omega))
    exact ⟨q1, hs.on q3, q1.lt, q3⟩)
  have HB : Hid (Below (R + 1) W W) := Lib.hid (Below.refl _ _)
  have HW := Lib.hid hW
  have HRR := Lib.hid hR
  clear hW hR hbW hs
  go_enter Tryd.func35, Tryd.ntmps35
  go_wp2_with (first | (rw [← HW.out, ← HRR.out]))
  refine (is_src (HM.out _ HB.out).2.1 HB.out (HM.out _ HB.out).2.2.1 [45] (i) (by unfold I64; omega)).mono ?_
  rintro e w2 ⟨rfl, hb2⟩
  have HB2 := Lib.hid hb2
  clear hb2
  go_wp2_with (fail)
  refine (is_src (HM.out _ HB2.out).2.1 HB2.out (HM.out _ HB2.out).2.2.1 [33] (i) (by unfold I64; omega)).mono ?_
  rintro e w3 ⟨rfl, hb3⟩
  have HB3 := Lib.hid hb3
  clear hb3
  go_wp2_with (fail)
  refine (IH.out _ (HM.out _ HB3.out).2.1).mono ?_
  rintro e w7 ⟨rfl, hb7⟩
  have HB7 := Lib.hid (HB3.out.trans (hb7.mono (HM.out _ HB3.out).2.2.1))
  obtain ⟨V, hV⟩ : ∃ V, V = w7.alloc (.cells #[.int .i64 0, .int .i64 0, .int .i64 0, .string ⟨#[]⟩, .slice none 0 0] NodeT) := ⟨_, rfl⟩
  obtain ⟨O, hO⟩ : ∃ O, O = w7.heap.size := ⟨_, rfl⟩
  have hRO : R + 1 ≤ O := by rw [hO]; exact (HM.out _ HB7.out).2.2.1
  have hbV : Below (R + 1) W V := by rw [hV]; exact HB7.out.alloc (HM.out _ HB7.out).2.2.1 _
  have bO : Box V O NodeT #[.int .i64 0, .int .i64 0, .int .i64 0, .string ⟨#[]⟩, .slice none 0 0] := by rw [hV]; exact Box.new _ _ _ _ hO
  have bR := (HM.out _ hbV).1
  have ne3 : ¬ R = O := by omega
  have ne4 : ¬ O = R := fun e => ne3 e.symm
  have HBU : Hid (Below (R + 1) W (((((V.setCell ⟨O, 0, none⟩ (.int .i64 0)).setCell ⟨O, 1, none⟩ (.int .i64 0)).setCell ⟨O, 2, none⟩ (.int .i64 0)).setCell ⟨O, 3, none⟩ (.string ⟨#[]⟩)).setCell ⟨O, 4, none⟩ (.slice none 0 0))) := Lib.hid (below_five hbV hRO _ _ _ _ _)
  have HE := Lib.hid (no_end (j := j) HRR.out (HM.out _ HBU.out).1 (HM.out _ HBU.out).2.2.2)
  have r0 := bR.cell 0
  have r1 := bR.cell 1
  have r2 := bR.cell 2
  have r3 := bR.cell 3
  have r4 := bR.cell 4
  have g0 := bR.frozen 0
  have g1 := bR.frozen 1
  have g2 := bR.frozen 2
  have g3 := bR.frozen 3
  have g4 := bR.frozen 4
  simp only [List.getElem?_toArray, List.getElem?_cons_zero, List.getElem?_cons_succ] at r0 r1 r2 r3 r4
  have o0 := bO.cell 0
  have o1 := bO.cell 1
  have o2 := bO.cell 2
  have o3 := bO.cell 3
  have o4 := bO.cell 4
  have og0 := bO.frozen 0
  have og1 := bO.frozen 1
  have og2 := bO.frozen 2
  have og3 := bO.frozen 3
  have og4 := bO.frozen 4
  simp only [List.getElem?_toArray, List.getElem?_cons_zero, List.getElem?_cons_succ] at o0 o1 o2 o3 o4
  have HV := Lib.hid hV
  have HO := Lib.hid hO
  clear hV hO hRO hbV bO bR hb7
  go_wp2_with (first | (rw [← HV.out, ← HO.out]))
  refine bodyPost_ret (node_ret3 rfl rfl rfl rfl HE.out.1) rfl ?_
  rw [HP.out]
  exact HE.out.2
set_option maxHeartbeats 2000000 in
theorem fac_no_n {l : List Tk} {v : Value} {i : Int} {w : World} (hs : Src l v w) (h0 : -9223372036854775808 ≤ i) {j : Int} (h1 : i < l.length) (m1 : isM l i [45] = false) (m2 : isM l i [33] = true) (ih : ∀ w', Src l v w' → Calls Tryd.prog 35 #[v, .int .i64 (i + 1)] w' (Told (.no j) w')) :
    Calls Tryd.prog 35 #[v, .int .i64 i] w (Told (.no j) w) := by
  obtain ⟨P, hP⟩ : ∃ P, P = Told (.no j) w := ⟨_, rfl⟩
  rw [← hP]
  have HP := Lib.hid hP
  have IH := Lib.hid ih
  clear hP ih
  have HSRC := Lib.hid hs
  have HF := Lib.hid (hs.fair i)
  have hL := hs.len
  obtain ⟨R, hR⟩ : ∃ R, R = w.heap.size := ⟨_, rfl⟩
  obtain ⟨W, hW⟩ : ∃ W, W = w.alloc (.cells #[.int .i64 0, .int .i64 0, .int .i64 0, .string ⟨#[]⟩, .slice none 0 0] NodeT) := ⟨_, rfl⟩
  have hbW : Below w.heap.size w W := by rw [hW]; exact (Below.refl _ _).alloc (Nat.le_refl _) _
  have HBX : Hid (Box W R NodeT #[.int .i64 0, .int .i64 0, .int .i64 0, .string ⟨#[]⟩, .slice none 0 0]) := Lib.hid (by rw [hW]; exact Box.new _ _ _ _ hR)
  have HM : Hid (∀ w', Below (R + 1) W w' → Box w' R NodeT #[.int .i64 0, .int .i64 0, .int .i64 0, .string ⟨#[]⟩, .slice none 0 0] ∧ Src l v w' ∧ R + 1 ≤ w'.heap.size ∧ Below w.heap.size w w') := Lib.hid (fun w' hb => by
    have q1 := HBX.out.below hb (by omega)
    have q3 : Below w.heap.size w w' := hbW.trans (hb.mono (by omega))
    exact ⟨q1, hs.on q3, q1.lt, q3⟩)
  have HB : Hid (Below (R + 1) W W) := Lib.hid (Below.refl _ _)
  have HW := Lib.hid hW
  have HRR := Lib.hid hR
  clear hW hR hbW hs
  go_enter Tryd.func35, Tryd.ntmps35
  go_wp2_with (first | (rw [← HW.out, ← HRR.out]))
  refine (is_src (HM.out _ HB.out).2.1 HB.out (HM.out _ HB.out).2.2.1 [45] (i) (by unfold I64; omega)).mono ?_
  rintro e w2 ⟨rfl, hb2⟩
  have HB2 := Lib.hid hb2
  clear hb2
  go_wp2_with (fail)
  refine (is_src (HM.out _ HB2.out).2.1 HB2.out (HM.out _ HB2.out).2.2.1 [33] (i) (by unfold I64; omega)).mono ?_
  rintro e w3 ⟨rfl, hb3⟩
  have HB3 := Lib.hid hb3
  clear hb3
  go_wp2_with (fail)
  refine (IH.out _ (HM.out _ HB3.out).2.1).mono ?_
  rintro e w7 ⟨rfl, hb7⟩
  have HB7 := Lib.hid (HB3.out.trans (hb7.mono (HM.out _ HB3.out).2.2.1))
  obtain ⟨V, hV⟩ : ∃ V, V = w7.alloc (.cells #[.int .i64 0, .int .i64 0, .int .i64 0, .string ⟨#[]⟩, .slice none 0 0] NodeT) := ⟨_, rfl⟩
  obtain ⟨O, hO⟩ : ∃ O, O = w7.heap.size := ⟨_, rfl⟩
  have hRO : R + 1 ≤ O := by rw [hO]; exact (HM.out _ HB7.out).2.2.1
  have hbV : Below (R + 1) W V := by rw [hV]; exact HB7.out.alloc (HM.out _ HB7.out).2.2.1 _
  have bO : Box V O NodeT #[.int .i64 0, .int .i64 0, .int .i64 0, .string ⟨#[]⟩, .slice none 0 0] := by rw [hV]; exact Box.new _ _ _ _ hO
  have bR := (HM.out _ hbV).1
  have ne3 : ¬ R = O := by omega
  have ne4 : ¬ O = R := fun e => ne3 e.symm
  have HBU : Hid (Below (R + 1) W (((((V.setCell ⟨O, 0, none⟩ (.int .i64 0)).setCell ⟨O, 1, none⟩ (.int .i64 0)).setCell ⟨O, 2, none⟩ (.int .i64 0)).setCell ⟨O, 3, none⟩ (.string ⟨#[]⟩)).setCell ⟨O, 4, none⟩ (.slice none 0 0))) := Lib.hid (below_five hbV hRO _ _ _ _ _)
  have HE := Lib.hid (no_end (j := j) HRR.out (HM.out _ HBU.out).1 (HM.out _ HBU.out).2.2.2)
  have r0 := bR.cell 0
  have r1 := bR.cell 1
  have r2 := bR.cell 2
  have r3 := bR.cell 3
  have r4 := bR.cell 4
  have g0 := bR.frozen 0
  have g1 := bR.frozen 1
  have g2 := bR.frozen 2
  have g3 := bR.frozen 3
  have g4 := bR.frozen 4
  simp only [List.getElem?_toArray, List.getElem?_cons_zero, List.getElem?_cons_succ] at r0 r1 r2 r3 r4
  have o0 := bO.cell 0
  have o1 := bO.cell 1
  have o2 := bO.cell 2
  have o3 := bO.cell 3
  have o4 := bO.cell 4
  have og0 := bO.frozen 0
  have og1 := bO.frozen 1
  have og2 := bO.frozen 2
  have og3 := bO.frozen 3
  have og4 := bO.frozen 4
  simp only [List.getElem?_toArray, List.getElem?_cons_zero, List.getElem?_cons_succ] at o0 o1 o2 o3 o4
  have HV := Lib.hid hV
  have HO := Lib.hid hO
  clear hV hO hRO hbV bO bR hb7
  go_wp2_with (first | (rw [← HV.out, ← HO.out]))
  refine bodyPost_ret (node_ret3 rfl rfl rfl rfl HE.out.1) rfl ?_
  rw [HP.out]
  exact HE.out.2
set_option maxHeartbeats 2000000 in
theorem fac_no_mn {l : List Tk} {v : Value} {i : Int} {w : World} (hs : Src l v w) (h0 : -9223372036854775808 ≤ i) {j : Int} (h1 : i < l.length) (m1 : isM l i [45] = true) (m2 : isM l i [33] = true) (ih : ∀ w', Src l v w' → Calls Tryd.prog 35 #[v, .int .i64 (i + 1)] w' (Told (.no j) w')) :
    Calls Tryd.prog 35 #[v, .int .i64 i] w (Told (.no j) w) := by
  obtain ⟨P, hP⟩ : ∃ P, P = Told (.no j) w := ⟨_, rfl⟩
  rw [← hP]
  have HP := Lib.hid hP
  have IH := Lib.hid ih
  clear hP ih
  have HSRC := Lib.hid hs
  have HF := Lib.hid (hs.fair i)
  have hL := hs.len
  obtain ⟨R, hR⟩ : ∃ R, R = w.heap.size := ⟨_, rfl⟩
  obtain ⟨W, hW⟩ : ∃ W, W = w.alloc (.cells #[.int .i64 0, .int .i64 0, .int .i64 0, .string ⟨#[]⟩, .slice none 0 0] NodeT) := ⟨_, rfl⟩
  have hbW : Below w.heap.size w W := by rw [hW]; exact (Below.refl _ _).alloc (Nat.le_refl _) _
  have HBX : Hid (Box W R NodeT #[.int .i64 0, .int .i64 0, .int .i64 0, .string ⟨#[]⟩, .slice none 0 0]) := Lib.hid (by rw [hW]; exact Box.new _ _ _ _ hR)
  have HM : Hid (∀ w', Below (R + 1) W w' → Box w' R NodeT #[.int .i64 0, .int .i64 0, .int .i64 0, .string ⟨#[]⟩, .slice none 0 0] ∧ Src l v w' ∧ R + 1 ≤ w'.heap.size ∧ Below w.heap.size w w') := Lib.hid (fun w' hb => by
    have q1 := HBX.out.below hb (by omega)
    have q3 : Below w.heap.size w w' := hbW.trans (hb.mono (by omega))
    exact ⟨q1, hs.on q3, q1.lt, q3⟩)
  have HB : Hid (Below (R + 1) W W) := Lib.hid (Below.refl _ _)
  have HW := Lib.hid hW
  have HRR := Lib.hid hR
  clear hW hR hbW hs
  go_enter Tryd.func35, Tryd.ntmps35
  go_wp2_with (first | (rw [← HW.out, ← HRR.out]))
  refine (is_src (HM.out _ HB.out).2.1 HB.out (HM.out _ HB.out).2.2.1 [45] (i) (by unfold I64; omega)).mono ?_
  rintro e w2 ⟨rfl, hb2⟩
  have HB2 := Lib.hid hb2
  clear hb2
  go_wp2_with (fail)
  refine (is_src (HM.out _ HB2.out).2.1 HB2.out (HM.out _ HB2.out).2.2.1 [33] (i) (by unfold I64; omega)).mono ?_
  rintro e w3 ⟨rfl, hb3⟩
  have HB3 := Lib.hid hb3
  clear hb3
  go_wp2_with (fail)
  refine (IH.out _ (HM.out _ HB3.out).2.1).mono ?_
  rintro e w7 ⟨rfl, hb7⟩
  have HB7 := Lib.hid (HB3.out.trans (hb7.mono (HM.out _ HB3.out).2.2.1))
  obtain ⟨V, hV⟩ : ∃ V, V = w7.alloc (.cells #[.int .i64 0, .int .i64 0, .int .i64 0, .string ⟨#[]⟩, .slice none 0 0] NodeT) := ⟨_, rfl⟩
  obtain ⟨O, hO⟩ : ∃ O, O = w7.heap.size := ⟨_, rfl⟩
  have hRO : R + 1 ≤ O := by rw [hO]; exact (HM.out _ HB7.out).2.2.1
  have hbV : Below (R + 1) W V := by rw [hV]; exact HB7.out.alloc (HM.out _ HB7.out).2.2.1 _
  have bO : Box V O NodeT #[.int .i64 0, .int .i64 0, .int .i64 0, .string ⟨#[]⟩, .slice none 0 0] := by rw [hV]; exact Box.new _ _ _ _ hO
  have bR := (HM.out _ hbV).1
  have ne3 : ¬ R = O := by omega
  have ne4 : ¬ O = R := fun e => ne3 e.symm
  have HBU : Hid (Below (R + 1) W (((((V.setCell ⟨O, 0, none⟩ (.int .i64 0)).setCell ⟨O, 1, none⟩ (.int .i64 0)).setCell ⟨O, 2, none⟩ (.int .i64 0)).setCell ⟨O, 3, none⟩ (.string ⟨#[]⟩)).setCell ⟨O, 4, none⟩ (.slice none 0 0))) := Lib.hid (below_five hbV hRO _ _ _ _ _)
  have HE := Lib.hid (no_end (j := j) HRR.out (HM.out _ HBU.out).1 (HM.out _ HBU.out).2.2.2)
  have r0 := bR.cell 0
  have r1 := bR.cell 1
  have r2 := bR.cell 2
  have r3 := bR.cell 3
  have r4 := bR.cell 4
  have g0 := bR.frozen 0
  have g1 := bR.frozen 1
  have g2 := bR.frozen 2
  have g3 := bR.frozen 3
  have g4 := bR.frozen 4
  simp only [List.getElem?_toArray, List.getElem?_cons_zero, List.getElem?_cons_succ] at r0 r1 r2 r3 r4
  have o0 := bO.cell 0
  have o1 := bO.cell 1
  have o2 := bO.cell 2
  have o3 := bO.cell 3
  have o4 := bO.cell 4
  have og0 := bO.frozen 0
  have og1 := bO.frozen 1
  have og2 := bO.frozen 2
  have og3 := bO.frozen 3
  have og4 := bO.frozen 4
  simp only [List.getElem?_toArray, List.getElem?_cons_zero, List.getElem?_cons_succ] at o0 o1 o2 o3 o4
  have HV := Lib.hid hV
  have HO := Lib.hid hO
  clear hV hO hRO hbV bO bR hb7
  go_wp2_with (first | (rw [← HV.out, ← HO.out]))
  refine bodyPost_ret (node_ret3 rfl rfl rfl rfl HE.out.1) rfl ?_
  rw [HP.out]
  exact HE.out.2
set_option maxHeartbeats 2000000 in
theorem fac_un_m {l : List Tk} {v : Value} {i : Int} {w : World} (hs : Src l v w) (h0 : -9223372036854775808 ≤ i) {j : Int} {u : NT} (h1 : i < l.length) (m1 : isM l i [45] = true) (m2 : isM l i [33] = false) (ih : ∀ w', Src l v w' → Calls Tryd.prog 35 #[v, .int .i64 (i + 1)] w' (Told (.node u j) w')) :
    Calls Tryd.prog 35 #[v, .int .i64 i] w (Told (.node (.mk 15 (tokAt l i).at_ 2 [] [u]) j) w) := by
  obtain ⟨P, hP⟩ : ∃ P, P = Told (.node (.mk 15 (tokAt l i).at_ 2 [] [u]) j) w := ⟨_, rfl⟩
  rw [← hP]
  have HP := Lib.hid hP
  have IH := Lib.hid ih
  clear hP ih
  have HSRC := Lib.hid hs
  have HF := Lib.hid (hs.fair i)
  have hL := hs.len
  obtain ⟨R, hR⟩ : ∃ R, R = w.heap.size := ⟨_, rfl⟩
  obtain ⟨W, hW⟩ : ∃ W, W = w.alloc (.cells #[.int .i64 0, .int .i64 0, .int .i64 0, .string ⟨#[]⟩, .slice none 0 0] NodeT) := ⟨_, rfl⟩
  have hbW : Below w.heap.size w W := by rw [hW]; exact (Below.refl _ _).alloc (Nat.le_refl _) _
  have HBX : Hid (Box W R NodeT #[.int .i64 0, .int .i64 0, .int .i64 0, .string ⟨#[]⟩, .slice none 0 0]) := Lib.hid (by rw [hW]; exact Box.new _ _ _ _ hR)
  have HM : Hid (∀ w', Below (R + 1) W w' → Box w' R NodeT #[.int .i64 0, .int .i64 0, .int .i64 0, .string ⟨#[]⟩, .slice none 0 0] ∧ Src l v w' ∧ R + 1 ≤ w'.heap.size ∧ Below w.heap.size w w') := Lib.hid (fun w' hb => by
    have q1 := HBX.out.below hb (by omega)
    have q3 : Below w.heap.size w w' := hbW.trans (hb.mono (by omega))
    exact ⟨q1, hs.on q3, q1.lt, q3⟩)
  have HB : Hid (Below (R + 1) W W) := Lib.hid (Below.refl _ _)
  have HW := Lib.hid hW
  have HRR := Lib.hid hR
  clear hW hR hbW hs
  go_enter Tryd.func35, Tryd.ntmps35
  go_wp2_with (first | (rw [← HW.out, ← HRR.out]))
  refine (is_src (HM.out _ HB.out).2.1 HB.out (HM.out _ HB.out).2.2.1 [45] (i) (by unfold I64; omega)).mono ?_
  rintro e w2 ⟨rfl, hb2⟩
  have HB2 := Lib.hid hb2
  clear hb2
  go_wp2_with (fail)
  refine (is_src (HM.out _ HB2.out).2.1 HB2.out (HM.out _ HB2.out).2.2.1 [33] (i) (by unfold I64; omega)).mono ?_
  rintro e w3 ⟨rfl, hb3⟩
  have HB3 := Lib.hid hb3
  clear hb3
  go_wp2_with (fail)
  refine (IH.out _ (HM.out _ HB3.out).2.1).mono ?_
  rintro e w7 ⟨su, rfl, hk7, hd7, hb7⟩
  obtain ⟨A, c, rfl, _⟩ := hk7.form
  have HB7 := Lib.hid (HB3.out.trans (hb7.mono (HM.out _ HB3.out).2.2.1))
  obtain ⟨V, hV⟩ : ∃ V, V = w7.alloc (.cells #[.int .i64 0, .int .i64 0, .int .i64 0, .string ⟨#[]⟩, .slice none 0 0] NodeT) := ⟨_, rfl⟩
  obtain ⟨O, hO⟩ : ∃ O, O = w7.heap.size := ⟨_, rfl⟩
  have hRO : R + 1 ≤ O := by rw [hO]; exact (HM.out _ HB7.out).2.2.1
  have hbV : Below (R + 1) W V := by rw [hV]; exact HB7.out.alloc (HM.out _ HB7.out).2.2.1 _
  have bO : Box V O NodeT #[.int .i64 0, .int .i64 0, .int .i64 0, .string ⟨#[]⟩, .slice none 0 0] := by rw [hV]; exact Box.new _ _ _ _ hO
  have bR := (HM.out _ hbV).1
  have ne3 : ¬ R = O := by omega
  have ne4 : ¬ O = R := fun e => ne3 e.symm
  have r0 := bR.cell 0
  have r1 := bR.cell 1
  have r2 := bR.cell 2
  have r3 := bR.cell 3
  have r4 := bR.cell 4
  have g0 := bR.frozen 0
  have g1 := bR.frozen 1
  have g2 := bR.frozen 2
  have g3 := bR.frozen 3
  have g4 := bR.frozen 4
  simp only [List.getElem?_toArray, List.getElem?_cons_zero, List.getElem?_cons_succ] at r0 r1 r2 r3 r4
  have o0 := bO.cell 0
  have o1 := bO.cell 1
  have o2 := bO.cell 2
  have o3 := bO.cell 3
  have o4 := bO.cell 4
  have og0 := bO.frozen 0
  have og1 := bO.frozen 1
  have og2 := bO.frozen 2
  have og3 := bO.frozen 3
  have og4 := bO.frozen 4
  simp only [List.getElem?_toArray, List.getElem?_cons_zero, List.getElem?_cons_succ] at o0 o1 o2 o3 o4
  have hkU : nt.Kids (fun b => w.heap.size < b) (((((V.setCell ⟨O, 0, none⟩ (.int .i64 u.kind)).setCell ⟨O, 1, none⟩ (.int .i64 u.at_)).setCell ⟨O, 2, none⟩ (.int .i64 u.num)).setCell ⟨O, 3, none⟩ (.string ⟨u.name.toArray⟩)).setCell ⟨O, 4, none⟩ (.slice A u.kids.length c)) u.kids (.slice A u.kids.length c) := by
    have hk8 : nt.Kids (fun b => w.heap.size < b ∧ b < w7.heap.size) w7 u.kids (.slice A u.kids.length c) := (hk7.lt).mono fun b hb => ⟨by have h1 := hb.1; have h2 := (HM.out _ HB3.out).2.2.1; have := HRR.out; omega, hb.2⟩
    have hk9 : nt.Kids (fun b => w.heap.size < b ∧ b < w7.heap.size) V u.kids (.slice A u.kids.length c) := by rw [hV]; exact hk8.below ((Below.refl _ _).alloc (Nat.le_refl _) _)
    exact (kids_five hk9 (fun b hb => by have := hb.2; omega) _ _ _ _ _).mono fun b hb => hb.1
  have hbU : Below (R + 1) W (((((V.setCell ⟨O, 0, none⟩ (.int .i64 u.kind)).setCell ⟨O, 1, none⟩ (.int .i64 u.at_)).setCell ⟨O, 2, none⟩ (.int .i64 u.num)).setCell ⟨O, 3, none⟩ (.string ⟨u.name.toArray⟩)).setCell ⟨O, 4, none⟩ (.slice A u.kids.length c)) := below_five hbV hRO _ _ _ _ _
  have bOU := box_five bO (.int .i64 u.kind) (.int .i64 u.at_) (.int .i64 u.num) (.string ⟨u.name.toArray⟩) (.slice A u.kids.length c)
  change Box (((((V.setCell ⟨O, 0, none⟩ (.int .i64 u.kind)).setCell ⟨O, 1, none⟩ (.int .i64 u.at_)).setCell ⟨O, 2, none⟩ (.int .i64 u.num)).setCell ⟨O, 3, none⟩ (.string ⟨u.name.toArray⟩)).setCell ⟨O, 4, none⟩ (.slice A u.kids.length c)) O NodeT _ at bOU
  have HV := Lib.hid hV
  have HO := Lib.hid hO
  clear hV hO hb7 hk7
  go_wp2_with (first | (rw [← HV.out, ← HO.out]))
  obtain ⟨U, hU⟩ : ∃ U, U = ((((V.setCell ⟨O, 0, none⟩ (.int .i64 u.kind)).setCell ⟨O, 1, none⟩ (.int .i64 u.at_)).setCell ⟨O, 2, none⟩ (.int .i64 u.num)).setCell ⟨O, 3, none⟩ (.string ⟨u.name.toArray⟩)).setCell ⟨O, 4, none⟩ (.slice A u.kids.length c) := ⟨_, rfl⟩
  rw [← hU] at hkU hbU bOU ⊢
  have HCO : Hid (∀ w', Below U.heap.size U w' → w'.cell? ⟨O, 0, none⟩ = some (.int .i64 u.kind) ∧ w'.cell? ⟨O, 1, none⟩ = some (.int .i64 u.at_) ∧ w'.cell? ⟨O, 2, none⟩ = some (.int .i64 u.num) ∧ w'.cell? ⟨O, 3, none⟩ = some (.string ⟨u.name.toArray⟩) ∧ w'.cell? ⟨O, 4, none⟩ = some (.slice A u.kids.length c)) := Lib.hid (fun w' hb => by
    have b := bOU.on hb
    exact ⟨b.cell 0, b.cell 1, b.cell 2, b.cell 3, b.cell 4⟩)
  have HBU := Lib.hid hbU
  have HKU := Lib.hid hkU
  have HD7 := Lib.hid hd7
  have hsU : R + 1 ≤ U.heap.size := (HM.out _ hbU).2.2.1
  obtain ⟨t, ht⟩ : ∃ t, t = tokAt l i := ⟨_, rfl⟩
  have HTOK : Hid (∀ w', Below U.heap.size U w' → Calls Tryd.prog 26 #[v, .int .i64 i] w' fun e w2 => e = .returned (tkA t) ∧ Below U.heap.size U w2 ∧ Below w'.heap.size w' w2) := Lib.hid (fun w' hb => by
    have q := (HM.out _ (HBU.out.trans (hb.mono hsU)))
    refine (rtok_any l v i w' _ q.2.1.lies hL (by unfold I64; omega)).mono ?_
    rintro e w2 ⟨q1, q2⟩
    rw [ht]
    exact ⟨q1, hb.trans (q2.mono hb.size), q2⟩)
  have HFA : Hid (I64 t.at_) := Lib.hid (by rw [ht]; exact HF.out.1)
  have HRX : Hid (∀ w', Below U.heap.size U w' → Box w' R NodeT #[.int .i64 0, .int .i64 0, .int .i64 0, .string ⟨#[]⟩, .slice none 0 0]) := Lib.hid (fun w' hb => (HM.out _ (HBU.out.trans (hb.mono hsU))).1)
  have HEND : Hid (∀ X sl, Below U.heap.size U X → nt.Kids (fun b => w.heap.size < b) X [u] sl → Box (five X R (.int .i64 15) (.int .i64 t.at_) (.int .i64 2) (.string ⟨#[]⟩) sl) R NodeT #[.int .i64 15, .int .i64 t.at_, .int .i64 2, .string ⟨#[]⟩, sl] ∧ Told (.node (.mk 15 t.at_ 2 [] [u]) j) w (.returned (.tuple #[.agg #[.int .i64 15, .int .i64 t.at_, .int .i64 2, .string ⟨#[]⟩, sl], .int .i64 j, .bool true])) (five X R (.int .i64 15) (.int .i64 t.at_) (.int .i64 2) (.string ⟨#[]⟩) sl)) := Lib.hid (fun X sl hb hk =>
    node_end (t := .mk 15 t.at_ 2 [] [u]) HRR.out (HRX.out X hb) ⟨by show I64 15; unfold I64; omega, HFA.out, by show I64 2; unfold I64; omega, by show 0 ≤ 281474976710656; omega⟩ hk (HM.out _ (HBU.out.trans (hb.mono hsU))).2.2.2)
  have hwU : w.heap.size < U.heap.size := by have := HRR.out; omega
  have hP2 : P = Told (.node (.mk 15 t.at_ 2 [] [u]) j) w := by rw [ht]; exact HP.out
  have HP2 := Lib.hid hP2
  have HWU := Lib.hid hwU
  obtain ⟨k, a, n, s⟩ := t
  simp only [tkA] at HTOK HFA HEND HP2
  have hfl := fun w' => tok_field k a n s w'
  clear hU hkU hbU bOU hd7 hsU ht hwU hP2 bO bR hRO hbV
  clear r0 r1 r2 r3 r4 g0 g1 g2 g3 g4 o0 o1 o2 o3 o4 og0 og1 og2 og3 og4
  refine wp_region_held_drew (S := fun w' => w'.cell? ⟨O, 0, none⟩ = some (.int .i64 u.kind) ∧ w'.cell? ⟨O, 1, none⟩ = some (.int .i64 u.at_) ∧ w'.cell? ⟨O, 2, none⟩ = some (.int .i64 u.num) ∧ w'.cell? ⟨O, 3, none⟩ = some (.string ⟨u.name.toArray⟩) ∧ w'.cell? ⟨O, 4, none⟩ = some (.slice A u.kids.length c)) (by kernel_rfl) ?_ (fun hHeld => ?_)
  · exact HCO.out _ (Below.refl _ _).drew
  refine wpAnyH_take (i := 0) (v := v) rfl (by kernel_rfl) (by kernel_rfl) (by kernel_rfl) (fun _ _ _ h => h) (Or.inl ⟨by rfl, fun w hSw => ?_⟩) hHeld ?_
  · (try dsimp only at hSw)
    first | go_simp | rfl
  (try simp only [Act.put, List.getElem_toArray, List.getElem_cons_zero, List.getElem_cons_succ, List.setIfInBounds_toArray, List.set_cons_zero, List.set_cons_succ])
  refine wpAnyH_take (i := 1) (v := .int .i64 i) rfl (by kernel_rfl) (by kernel_rfl) (by kernel_rfl) (fun _ _ _ h => h) (Or.inl ⟨by rfl, fun w hSw => ?_⟩) hHeld ?_
  · (try dsimp only at hSw)
    first | go_simp | rfl
  (try simp only [Act.put, List.getElem_toArray, List.getElem_cons_zero, List.getElem_cons_succ, List.setIfInBounds_toArray, List.set_cons_zero, List.set_cons_succ])
  refine wpAnyH_take (i := 4) (v := .int .i64 2) rfl (by kernel_rfl) (by kernel_rfl) (by kernel_rfl) (fun _ _ _ h => h) (Or.inl ⟨by rfl, fun w hSw => ?_⟩) hHeld ?_
  · (try dsimp only at hSw)
    first | go_simp | rfl
  (try simp only [Act.put, List.getElem_toArray, List.getElem_cons_zero, List.getElem_cons_succ, List.setIfInBounds_toArray, List.set_cons_zero, List.set_cons_succ])
  refine wpAnyH_take (i := 5) (v := .agg #[.int .i64 u.kind, .int .i64 u.at_, .int .i64 u.num, .string ⟨u.name.toArray⟩, .slice A u.kids.length c]) rfl (by kernel_rfl) (by kernel_rfl) (by kernel_rfl) (fun _ _ _ h => h) (Or.inl ⟨by rfl, fun w hSw => ?_⟩) hHeld ?_
  · (try dsimp only at hSw)
    first | go_simp | rfl
  (try simp only [Act.put, List.getElem_toArray, List.getElem_cons_zero, List.getElem_cons_succ, List.setIfInBounds_toArray, List.set_cons_zero, List.set_cons_succ])
  refine wpAnyH_take (i := 8) (v := .int .i64 j) rfl (by kernel_rfl) (by kernel_rfl) (by kernel_rfl) (fun _ _ _ h => h) (Or.inl ⟨by rfl, fun w hSw => ?_⟩) hHeld ?_
  · (try dsimp only at hSw)
    first | go_simp | rfl
  (try simp only [Act.put, List.getElem_toArray, List.getElem_cons_zero, List.getElem_cons_succ, List.setIfInBounds_toArray, List.set_cons_zero, List.set_cons_succ])
  refine wpAnyH_ready (rs := [2, 6]) (by kernel_rfl) (by simp) ?_
  refine AllReadyH.cons rfl (fun K' hK' => ?_) (AllReadyH.cons rfl (fun K' hK' => ?_) AllReadyH.nil)
  · go_simp
    go_at_call 26
    refine (HTOK.out U.drew (Below.refl _ _).drew).mono ?_
    rintro e w8 ⟨rfl, hb8, _⟩
    refine hK'.out _ _ (HCO.out w8 hb8) (fun hHeld => ?_)
    clear hK' K'
    (try simp only [Act.put, List.getElem_toArray, List.getElem_cons_zero, List.getElem_cons_succ, List.setIfInBounds_toArray, List.set_cons_zero, List.set_cons_succ])
    refine wpAnyH_take (i := 3) (v := .int .i64 a) rfl (by kernel_rfl) (by kernel_rfl) (by kernel_rfl) (fun _ _ _ h => h) (Or.inl ⟨by rfl, fun w hSw => ?_⟩) hHeld ?_
    · (try dsimp only at hSw)
      first | go_simp | rfl
    (try simp only [Act.put, List.getElem_toArray, List.getElem_cons_zero, List.getElem_cons_succ, List.setIfInBounds_toArray, List.set_cons_zero, List.set_cons_succ])
    refine wpAnyH_ready (rs := [6]) (by kernel_rfl) (by simp) ?_
    refine AllReadyH.cons rfl (fun K' hK' => ?_) AllReadyH.nil
    go_simp
    obtain ⟨X, hX⟩ : ∃ X, X = w8.alloc (.cells #[.int .i64 u.kind, .int .i64 u.at_, .int .i64 u.num, .string ⟨u.name.toArray⟩, .slice A u.kids.length c] NodeT) := ⟨_, rfl⟩
    obtain ⟨N, hN⟩ : ∃ N, N = w8.heap.size := ⟨_, rfl⟩
    have hbX : Below U.heap.size U X := by rw [hX]; exact hb8.alloc hb8.size _
    have hrow : nt.Kids (fun b => w.heap.size < b) X [u] (.slice (some ⟨N, 0, none⟩) 1 1) := by rw [hX]; exact row_one hN HD7.out (HKU.out.below hb8) (by have := hb8.size; have := HWU.out; omega)
    have HS5 := Lib.hid (fun (q9 : O ≠ R) sl => (HCO.out X hbX).imp (fun h => (five_cell X R (.int .i64 15) (.int .i64 a) (.int .i64 2) (.string ⟨#[]⟩) sl O 0 q9).trans h) (fun h => h.imp (fun h => (five_cell X R (.int .i64 15) (.int .i64 a) (.int .i64 2) (.string ⟨#[]⟩) sl O 1 q9).trans h) (fun h => h.imp (fun h => (five_cell X R (.int .i64 15) (.int .i64 a) (.int .i64 2) (.string ⟨#[]⟩) sl O 2 q9).trans h) (fun h => h.imp (fun h => (five_cell X R (.int .i64 15) (.int .i64 a) (.int .i64 2) (.string ⟨#[]⟩) sl O 3 q9).trans h) (fun h => (five_cell X R (.int .i64 15) (.int .i64 a) (.int .i64 2) (.string ⟨#[]⟩) sl O 4 q9).trans h)))))
    rw [← hX, ← hN]
    refine hK'.out _ _ (HCO.out X hbX) (fun hHeld => ?_)
    clear hK' K'
    (try simp only [Act.put, List.getElem_toArray, List.getElem_cons_zero, List.getElem_cons_succ, List.setIfInBounds_toArray, List.set_cons_zero, List.set_cons_succ])
    have HE := Lib.hid (HEND.out X _ hbX hrow)
    have bX := HRX.out X hbX
    have x0 := bX.cell 0
    have x1 := bX.cell 1
    have x2 := bX.cell 2
    have x3 := bX.cell 3
    have x4 := bX.cell 4
    have xg0 := bX.frozen 0
    have xg1 := bX.frozen 1
    have xg2 := bX.frozen 2
    have xg3 := bX.frozen 3
    have xg4 := bX.frozen 4
    simp only [List.getElem?_toArray, List.getElem?_cons_zero, List.getElem?_cons_succ] at x0 x1 x2 x3 x4
    clear hX hN hbX hrow bX hb8
    refine wpAnyH_take (i := 7) (v := .agg #[.int .i64 15, .int .i64 a, .int .i64 2, .string ⟨#[]⟩, .slice (some ⟨N, 0, none⟩) 1 1]) rfl (by kernel_rfl) (by kernel_rfl) (by kernel_rfl) (fun _ _ _ h => h) (Or.inl ⟨by rfl, fun w hSw => ?_⟩) hHeld ?_
    · (try dsimp only at hSw)
      first | go_simp | rfl
    (try simp only [Act.put, List.getElem_toArray, List.getElem_cons_zero, List.getElem_cons_succ, List.setIfInBounds_toArray, List.set_cons_zero, List.set_cons_succ])
    refine wpAnyH_ready (rs := [9]) (by kernel_rfl) (by simp) ?_
    refine AllReadyH.cons rfl (fun K' hK' => ?_) AllReadyH.nil
    go_simp
    refine hK'.out _ _ (HS5.out ne4 _) (fun hHeld => ?_)
    clear hK' K'
    (try simp only [Act.put, List.getElem_toArray, List.getElem_cons_zero, List.getElem_cons_succ, List.setIfInBounds_toArray, List.set_cons_zero, List.set_cons_succ])
    refine wpAnyH_take (i := 10) (v := .int .i64 j) rfl (by kernel_rfl) (by kernel_rfl) (by kernel_rfl) (fun _ _ _ h => h) (Or.inl ⟨by rfl, fun w hSw => ?_⟩) hHeld ?_
    · (try dsimp only at hSw)
      first | go_simp | rfl
    (try simp only [Act.put, List.getElem_toArray, List.getElem_cons_zero, List.getElem_cons_succ, List.setIfInBounds_toArray, List.set_cons_zero, List.set_cons_succ])
    refine wpAnyH_take (i := 11) (v := .bool true) rfl (by kernel_rfl) (by kernel_rfl) (by kernel_rfl) (fun _ _ _ h => h) (Or.inl ⟨by rfl, fun w hSw => ?_⟩) hHeld ?_
    · (try dsimp only at hSw)
      first | go_simp | rfl
    (try simp only [Act.put, List.getElem_toArray, List.getElem_cons_zero, List.getElem_cons_succ, List.setIfInBounds_toArray, List.set_cons_zero, List.set_cons_succ])
    refine wpAnyH_done (by kernel_rfl) ?_ _
    go_wp2_with (fail)
    refine bodyPost_ret (node_ret3 rfl rfl rfl rfl HE.out.1) rfl ?_
    rw [HP2.out]
    exact HE.out.2
  · go_simp
    obtain ⟨Y, hY⟩ : ∃ Y, Y = (U.alloc (.cells #[.int .i64 u.kind, .int .i64 u.at_, .int .i64 u.num, .string ⟨u.name.toArray⟩, .slice A u.kids.length c] NodeT)).drew := ⟨_, rfl⟩
    obtain ⟨N, hN⟩ : ∃ N, N = U.heap.size := ⟨_, rfl⟩
    have hbY : Below U.heap.size U Y := by rw [hY]; exact ((Below.refl _ _).alloc (Nat.le_refl _) _).drew
    have hrowY : nt.Kids (fun b => w.heap.size < b) Y [u] (.slice (some ⟨N, 0, none⟩) 1 1) := by rw [hY]; exact (row_one (w := U) hN HD7.out HKU.out (by have := HWU.out; omega)).below (Below.refl _ _).drew
    rw [← hY, ← hN]
    refine hK'.out _ _ (HCO.out Y hbY) (fun hHeld => ?_)
    clear hK' K'
    (try simp only [Act.put, List.getElem_toArray, List.getElem_cons_zero, List.getElem_cons_succ, List.setIfInBounds_toArray, List.set_cons_zero, List.set_cons_succ])
    refine wpAnyH_ready (rs := [2]) (by kernel_rfl) (by simp) ?_
    refine AllReadyH.cons rfl (fun K' hK' => ?_) AllReadyH.nil
    clear hY
    have HTY := Lib.hid (HTOK.out Y hbY)
    clear hN
    have hN : True := trivial
    clear hbY
    go_simp
    go_at_call 26
    refine HTY.out.mono ?_
    rintro e X ⟨rfl, hb8, hbYX⟩
    have hbX : Below U.heap.size U X := hb8
    have hrow : nt.Kids (fun b => w.heap.size < b) X [u] (.slice (some ⟨N, 0, none⟩) 1 1) := hrowY.below hbYX
    have HS5 := Lib.hid (fun (q9 : O ≠ R) sl => (HCO.out X hbX).imp (fun h => (five_cell X R (.int .i64 15) (.int .i64 a) (.int .i64 2) (.string ⟨#[]⟩) sl O 0 q9).trans h) (fun h => h.imp (fun h => (five_cell X R (.int .i64 15) (.int .i64 a) (.int .i64 2) (.string ⟨#[]⟩) sl O 1 q9).trans h) (fun h => h.imp (fun h => (five_cell X R (.int .i64 15) (.int .i64 a) (.int .i64 2) (.string ⟨#[]⟩) sl O 2 q9).trans h) (fun h => h.imp (fun h => (five_cell X R (.int .i64 15) (.int .i64 a) (.int .i64 2) (.string ⟨#[]⟩) sl O 3 q9).trans h) (fun h => (five_cell X R (.int .i64 15) (.int .i64 a) (.int .i64 2) (.string ⟨#[]⟩) sl O 4 q9).trans h)))))
    refine hK'.out _ _ (HCO.out X hbX) (fun hHeld => ?_)
    clear hK' K'
    (try simp only [Act.put, List.getElem_toArray, List.getElem_cons_zero, List.getElem_cons_succ, List.setIfInBounds_toArray, List.set_cons_zero, List.set_cons_succ])
    refine wpAnyH_take (i := 3) (v := .int .i64 a) rfl (by kernel_rfl) (by kernel_rfl) (by kernel_rfl) (fun _ _ _ h => h) (Or.inl ⟨by rfl, fun w hSw => ?_⟩) hHeld ?_
    · (try dsimp only at hSw)
      first | go_simp | rfl
    (try simp only [Act.put, List.getElem_toArray, List.getElem_cons_zero, List.getElem_cons_succ, List.setIfInBounds_toArray, List.set_cons_zero, List.set_cons_succ])
    have hX : True := trivial
    have HE := Lib.hid (HEND.out X _ hbX hrow)
    have bX := HRX.out X hbX
    have x0 := bX.cell 0
    have x1 := bX.cell 1
    have x2 := bX.cell 2
    have x3 := bX.cell 3
    have x4 := bX.cell 4
    have xg0 := bX.frozen 0
    have xg1 := bX.frozen 1
    have xg2 := bX.frozen 2
    have xg3 := bX.frozen 3
    have xg4 := bX.frozen 4
    simp only [List.getElem?_toArray, List.getElem?_cons_zero, List.getElem?_cons_succ] at x0 x1 x2 x3 x4
    clear hX hN hbX hrow bX hb8
    refine wpAnyH_take (i := 7) (v := .agg #[.int .i64 15, .int .i64 a, .int .i64 2, .string ⟨#[]⟩, .slice (some ⟨N, 0, none⟩) 1 1]) rfl (by kernel_rfl) (by kernel_rfl) (by kernel_rfl) (fun _ _ _ h => h) (Or.inl ⟨by rfl, fun w hSw => ?_⟩) hHeld ?_
    · (try dsimp only at hSw)
      first | go_simp | rfl
    (try simp only [Act.put, List.getElem_toArray, List.getElem_cons_zero, List.getElem_cons_succ, List.setIfInBounds_toArray, List.set_cons_zero, List.set_cons_succ])
    refine wpAnyH_ready (rs := [9]) (by kernel_rfl) (by simp) ?_
    refine AllReadyH.cons rfl (fun K' hK' => ?_) AllReadyH.nil
    go_simp
    refine hK'.out _ _ (HS5.out ne4 _) (fun hHeld => ?_)
    clear hK' K'
    (try simp only [Act.put, List.getElem_toArray, List.getElem_cons_zero, List.getElem_cons_succ, List.setIfInBounds_toArray, List.set_cons_zero, List.set_cons_succ])
    refine wpAnyH_take (i := 10) (v := .int .i64 j) rfl (by kernel_rfl) (by kernel_rfl) (by kernel_rfl) (fun _ _ _ h => h) (Or.inl ⟨by rfl, fun w hSw => ?_⟩) hHeld ?_
    · (try dsimp only at hSw)
      first | go_simp | rfl
    (try simp only [Act.put, List.getElem_toArray, List.getElem_cons_zero, List.getElem_cons_succ, List.setIfInBounds_toArray, List.set_cons_zero, List.set_cons_succ])
    refine wpAnyH_take (i := 11) (v := .bool true) rfl (by kernel_rfl) (by kernel_rfl) (by kernel_rfl) (fun _ _ _ h => h) (Or.inl ⟨by rfl, fun w hSw => ?_⟩) hHeld ?_
    · (try dsimp only at hSw)
      first | go_simp | rfl
    (try simp only [Act.put, List.getElem_toArray, List.getElem_cons_zero, List.getElem_cons_succ, List.setIfInBounds_toArray, List.set_cons_zero, List.set_cons_succ])
    refine wpAnyH_done (by kernel_rfl) ?_ _
    go_wp2_with (fail)
    refine bodyPost_ret (node_ret3 rfl rfl rfl rfl HE.out.1) rfl ?_
    rw [HP2.out]
    exact HE.out.2
set_option maxHeartbeats 2000000 in
theorem fac_un_n {l : List Tk} {v : Value} {i : Int} {w : World} (hs : Src l v w) (h0 : -9223372036854775808 ≤ i) {j : Int} {u : NT} (h1 : i < l.length) (m1 : isM l i [45] = false) (m2 : isM l i [33] = true) (ih : ∀ w', Src l v w' → Calls Tryd.prog 35 #[v, .int .i64 (i + 1)] w' (Told (.node u j) w')) :
    Calls Tryd.prog 35 #[v, .int .i64 i] w (Told (.node (.mk 15 (tokAt l i).at_ 14 [] [u]) j) w) := by
  obtain ⟨P, hP⟩ : ∃ P, P = Told (.node (.mk 15 (tokAt l i).at_ 14 [] [u]) j) w := ⟨_, rfl⟩
  rw [← hP]
  have HP := Lib.hid hP
  have IH := Lib.hid ih
  clear hP ih
  have HSRC := Lib.hid hs
  have HF := Lib.hid (hs.fair i)
  have hL := hs.len
  obtain ⟨R, hR⟩ : ∃ R, R = w.heap.size := ⟨_, rfl⟩
  obtain ⟨W, hW⟩ : ∃ W, W = w.alloc (.cells #[.int .i64 0, .int .i64 0, .int .i64 0, .string ⟨#[]⟩, .slice none 0 0] NodeT) := ⟨_, rfl⟩
  have hbW : Below w.heap.size w W := by rw [hW]; exact (Below.refl _ _).alloc (Nat.le_refl _) _
  have HBX : Hid (Box W R NodeT #[.int .i64 0, .int .i64 0, .int .i64 0, .string ⟨#[]⟩, .slice none 0 0]) := Lib.hid (by rw [hW]; exact Box.new _ _ _ _ hR)
  have HM : Hid (∀ w', Below (R + 1) W w' → Box w' R NodeT #[.int .i64 0, .int .i64 0, .int .i64 0, .string ⟨#[]⟩, .slice none 0 0] ∧ Src l v w' ∧ R + 1 ≤ w'.heap.size ∧ Below w.heap.size w w') := Lib.hid (fun w' hb => by
    have q1 := HBX.out.below hb (by omega)
    have q3 : Below w.heap.size w w' := hbW.trans (hb.mono (by omega))
    exact ⟨q1, hs.on q3, q1.lt, q3⟩)
  have HB : Hid (Below (R + 1) W W) := Lib.hid (Below.refl _ _)
  have HW := Lib.hid hW
  have HRR := Lib.hid hR
  clear hW hR hbW hs
  go_enter Tryd.func35, Tryd.ntmps35
  go_wp2_with (first | (rw [← HW.out, ← HRR.out]))
  refine (is_src (HM.out _ HB.out).2.1 HB.out (HM.out _ HB.out).2.2.1 [45] (i) (by unfold I64; omega)).mono ?_
  rintro e w2 ⟨rfl, hb2⟩
  have HB2 := Lib.hid hb2
  clear hb2
  go_wp2_with (fail)
  refine (is_src (HM.out _ HB2.out).2.1 HB2.out (HM.out _ HB2.out).2.2.1 [33] (i) (by unfold I64; omega)).mono ?_
  rintro e w3 ⟨rfl, hb3⟩
  have HB3 := Lib.hid hb3
  clear hb3
  go_wp2_with (fail)
  refine (IH.out _ (HM.out _ HB3.out).2.1).mono ?_
  rintro e w7 ⟨su, rfl, hk7, hd7, hb7⟩
  obtain ⟨A, c, rfl, _⟩ := hk7.form
  have HB7 := Lib.hid (HB3.out.trans (hb7.mono (HM.out _ HB3.out).2.2.1))
  obtain ⟨V, hV⟩ : ∃ V, V = w7.alloc (.cells #[.int .i64 0, .int .i64 0, .int .i64 0, .string ⟨#[]⟩, .slice none 0 0] NodeT) := ⟨_, rfl⟩
  obtain ⟨O, hO⟩ : ∃ O, O = w7.heap.size := ⟨_, rfl⟩
  have hRO : R + 1 ≤ O := by rw [hO]; exact (HM.out _ HB7.out).2.2.1
  have hbV : Below (R + 1) W V := by rw [hV]; exact HB7.out.alloc (HM.out _ HB7.out).2.2.1 _
  have bO : Box V O NodeT #[.int .i64 0, .int .i64 0, .int .i64 0, .string ⟨#[]⟩, .slice none 0 0] := by rw [hV]; exact Box.new _ _ _ _ hO
  have bR := (HM.out _ hbV).1
  have ne3 : ¬ R = O := by omega
  have ne4 : ¬ O = R := fun e => ne3 e.symm
  have r0 := bR.cell 0
  have r1 := bR.cell 1
  have r2 := bR.cell 2
  have r3 := bR.cell 3
  have r4 := bR.cell 4
  have g0 := bR.frozen 0
  have g1 := bR.frozen 1
  have g2 := bR.frozen 2
  have g3 := bR.frozen 3
  have g4 := bR.frozen 4
  simp only [List.getElem?_toArray, List.getElem?_cons_zero, List.getElem?_cons_succ] at r0 r1 r2 r3 r4
  have o0 := bO.cell 0
  have o1 := bO.cell 1
  have o2 := bO.cell 2
  have o3 := bO.cell 3
  have o4 := bO.cell 4
  have og0 := bO.frozen 0
  have og1 := bO.frozen 1
  have og2 := bO.frozen 2
  have og3 := bO.frozen 3
  have og4 := bO.frozen 4
  simp only [List.getElem?_toArray, List.getElem?_cons_zero, List.getElem?_cons_succ] at o0 o1 o2 o3 o4
  have hkU : nt.Kids (fun b => w.heap.size < b) (((((V.setCell ⟨O, 0, none⟩ (.int .i64 u.kind)).setCell ⟨O, 1, none⟩ (.int .i64 u.at_)).setCell ⟨O, 2, none⟩ (.int .i64 u.num)).setCell ⟨O, 3, none⟩ (.string ⟨u.name.toArray⟩)).setCell ⟨O, 4, none⟩ (.slice A u.kids.length c)) u.kids (.slice A u.kids.length c) := by
    have hk8 : nt.Kids (fun b => w.heap.size < b ∧ b < w7.heap.size) w7 u.kids (.slice A u.kids.length c) := (hk7.lt).mono fun b hb => ⟨by have h1 := hb.1; have h2 := (HM.out _ HB3.out).2.2.1; have := HRR.out; omega, hb.2⟩
    have hk9 : nt.Kids (fun b => w.heap.size < b ∧ b < w7.heap.size) V u.kids (.slice A u.kids.length c) := by rw [hV]; exact hk8.below ((Below.refl _ _).alloc (Nat.le_refl _) _)
    exact (kids_five hk9 (fun b hb => by have := hb.2; omega) _ _ _ _ _).mono fun b hb => hb.1
  have hbU : Below (R + 1) W (((((V.setCell ⟨O, 0, none⟩ (.int .i64 u.kind)).setCell ⟨O, 1, none⟩ (.int .i64 u.at_)).setCell ⟨O, 2, none⟩ (.int .i64 u.num)).setCell ⟨O, 3, none⟩ (.string ⟨u.name.toArray⟩)).setCell ⟨O, 4, none⟩ (.slice A u.kids.length c)) := below_five hbV hRO _ _ _ _ _
  have bOU := box_five bO (.int .i64 u.kind) (.int .i64 u.at_) (.int .i64 u.num) (.string ⟨u.name.toArray⟩) (.slice A u.kids.length c)
  change Box (((((V.setCell ⟨O, 0, none⟩ (.int .i64 u.kind)).setCell ⟨O, 1, none⟩ (.int .i64 u.at_)).setCell ⟨O, 2, none⟩ (.int .i64 u.num)).setCell ⟨O, 3, none⟩ (.string ⟨u.name.toArray⟩)).setCell ⟨O, 4, none⟩ (.slice A u.kids.length c)) O NodeT _ at bOU
  have HV := Lib.hid hV
  have HO := Lib.hid hO
  clear hV hO hb7 hk7
  go_wp2_with (first | (rw [← HV.out, ← HO.out]))
  obtain ⟨U, hU⟩ : ∃ U, U = ((((V.setCell ⟨O, 0, none⟩ (.int .i64 u.kind)).setCell ⟨O, 1, none⟩ (.int .i64 u.at_)).setCell ⟨O, 2, none⟩ (.int .i64 u.num)).setCell ⟨O, 3, none⟩ (.string ⟨u.name.toArray⟩)).setCell ⟨O, 4, none⟩ (.slice A u.kids.length c) := ⟨_, rfl⟩
  rw [← hU] at hkU hbU bOU ⊢
  have HCO : Hid (∀ w', Below U.heap.size U w' → w'.cell? ⟨O, 0, none⟩ = some (.int .i64 u.kind) ∧ w'.cell? ⟨O, 1, none⟩ = some (.int .i64 u.at_) ∧ w'.cell? ⟨O, 2, none⟩ = some (.int .i64 u.num) ∧ w'.cell? ⟨O, 3, none⟩ = some (.string ⟨u.name.toArray⟩) ∧ w'.cell? ⟨O, 4, none⟩ = some (.slice A u.kids.length c)) := Lib.hid (fun w' hb => by
    have b := bOU.on hb
    exact ⟨b.cell 0, b.cell 1, b.cell 2, b.cell 3, b.cell 4⟩)
  have HBU := Lib.hid hbU
  have HKU := Lib.hid hkU
  have HD7 := Lib.hid hd7
  have hsU : R + 1 ≤ U.heap.size := (HM.out _ hbU).2.2.1
  obtain ⟨t, ht⟩ : ∃ t, t = tokAt l i := ⟨_, rfl⟩
  have HTOK : Hid (∀ w', Below U.heap.size U w' → Calls Tryd.prog 26 #[v, .int .i64 i] w' fun e w2 => e = .returned (tkA t) ∧ Below U.heap.size U w2 ∧ Below w'.heap.size w' w2) := Lib.hid (fun w' hb => by
    have q := (HM.out _ (HBU.out.trans (hb.mono hsU)))
    refine (rtok_any l v i w' _ q.2.1.lies hL (by unfold I64; omega)).mono ?_
    rintro e w2 ⟨q1, q2⟩
    rw [ht]
    exact ⟨q1, hb.trans (q2.mono hb.size), q2⟩)
  have HFA : Hid (I64 t.at_) := Lib.hid (by rw [ht]; exact HF.out.1)
  have HRX : Hid (∀ w', Below U.heap.size U w' → Box w' R NodeT #[.int .i64 0, .int .i64 0, .int .i64 0, .string ⟨#[]⟩, .slice none 0 0]) := Lib.hid (fun w' hb => (HM.out _ (HBU.out.trans (hb.mono hsU))).1)
  have HEND : Hid (∀ X sl, Below U.heap.size U X → nt.Kids (fun b => w.heap.size < b) X [u] sl → Box (five X R (.int .i64 15) (.int .i64 t.at_) (.int .i64 14) (.string ⟨#[]⟩) sl) R NodeT #[.int .i64 15, .int .i64 t.at_, .int .i64 14, .string ⟨#[]⟩, sl] ∧ Told (.node (.mk 15 t.at_ 14 [] [u]) j) w (.returned (.tuple #[.agg #[.int .i64 15, .int .i64 t.at_, .int .i64 14, .string ⟨#[]⟩, sl], .int .i64 j, .bool true])) (five X R (.int .i64 15) (.int .i64 t.at_) (.int .i64 14) (.string ⟨#[]⟩) sl)) := Lib.hid (fun X sl hb hk =>
    node_end (t := .mk 15 t.at_ 14 [] [u]) HRR.out (HRX.out X hb) ⟨by show I64 15; unfold I64; omega, HFA.out, by show I64 14; unfold I64; omega, by show 0 ≤ 281474976710656; omega⟩ hk (HM.out _ (HBU.out.trans (hb.mono hsU))).2.2.2)
  have hwU : w.heap.size < U.heap.size := by have := HRR.out; omega
  have hP2 : P = Told (.node (.mk 15 t.at_ 14 [] [u]) j) w := by rw [ht]; exact HP.out
  have HP2 := Lib.hid hP2
  have HWU := Lib.hid hwU
  obtain ⟨k, a, n, s⟩ := t
  simp only [tkA] at HTOK HFA HEND HP2
  have hfl := fun w' => tok_field k a n s w'
  clear hU hkU hbU bOU hd7 hsU ht hwU hP2 bO bR hRO hbV
  clear r0 r1 r2 r3 r4 g0 g1 g2 g3 g4 o0 o1 o2 o3 o4 og0 og1 og2 og3 og4
  refine wp_region_held_drew (S := fun w' => w'.cell? ⟨O, 0, none⟩ = some (.int .i64 u.kind) ∧ w'.cell? ⟨O, 1, none⟩ = some (.int .i64 u.at_) ∧ w'.cell? ⟨O, 2, none⟩ = some (.int .i64 u.num) ∧ w'.cell? ⟨O, 3, none⟩ = some (.string ⟨u.name.toArray⟩) ∧ w'.cell? ⟨O, 4, none⟩ = some (.slice A u.kids.length c)) (by kernel_rfl) ?_ (fun hHeld => ?_)
  · exact HCO.out _ (Below.refl _ _).drew
  refine wpAnyH_take (i := 0) (v := v) rfl (by kernel_rfl) (by kernel_rfl) (by kernel_rfl) (fun _ _ _ h => h) (Or.inl ⟨by rfl, fun w hSw => ?_⟩) hHeld ?_
  · (try dsimp only at hSw)
    first | go_simp | rfl
  (try simp only [Act.put, List.getElem_toArray, List.getElem_cons_zero, List.getElem_cons_succ, List.setIfInBounds_toArray, List.set_cons_zero, List.set_cons_succ])
  refine wpAnyH_take (i := 1) (v := .int .i64 i) rfl (by kernel_rfl) (by kernel_rfl) (by kernel_rfl) (fun _ _ _ h => h) (Or.inl ⟨by rfl, fun w hSw => ?_⟩) hHeld ?_
  · (try dsimp only at hSw)
    first | go_simp | rfl
  (try simp only [Act.put, List.getElem_toArray, List.getElem_cons_zero, List.getElem_cons_succ, List.setIfInBounds_toArray, List.set_cons_zero, List.set_cons_succ])
  refine wpAnyH_take (i := 4) (v := .int .i64 14) rfl (by kernel_rfl) (by kernel_rfl) (by kernel_rfl) (fun _ _ _ h => h) (Or.inl ⟨by rfl, fun w hSw => ?_⟩) hHeld ?_
  · (try dsimp only at hSw)
    first | go_simp | rfl
  (try simp only [Act.put, List.getElem_toArray, List.getElem_cons_zero, List.getElem_cons_succ, List.setIfInBounds_toArray, List.set_cons_zero, List.set_cons_succ])
  refine wpAnyH_take (i := 5) (v := .agg #[.int .i64 u.kind, .int .i64 u.at_, .int .i64 u.num, .string ⟨u.name.toArray⟩, .slice A u.kids.length c]) rfl (by kernel_rfl) (by kernel_rfl) (by kernel_rfl) (fun _ _ _ h => h) (Or.inl ⟨by rfl, fun w hSw => ?_⟩) hHeld ?_
  · (try dsimp only at hSw)
    first | go_simp | rfl
  (try simp only [Act.put, List.getElem_toArray, List.getElem_cons_zero, List.getElem_cons_succ, List.setIfInBounds_toArray, List.set_cons_zero, List.set_cons_succ])
  refine wpAnyH_take (i := 8) (v := .int .i64 j) rfl (by kernel_rfl) (by kernel_rfl) (by kernel_rfl) (fun _ _ _ h => h) (Or.inl ⟨by rfl, fun w hSw => ?_⟩) hHeld ?_
  · (try dsimp only at hSw)
    first | go_simp | rfl
  (try simp only [Act.put, List.getElem_toArray, List.getElem_cons_zero, List.getElem_cons_succ, List.setIfInBounds_toArray, List.set_cons_zero, List.set_cons_succ])
  refine wpAnyH_ready (rs := [2, 6]) (by kernel_rfl) (by simp) ?_
  refine AllReadyH.cons rfl (fun K' hK' => ?_) (AllReadyH.cons rfl (fun K' hK' => ?_) AllReadyH.nil)
  · go_simp
    go_at_call 26
    refine (HTOK.out U.drew (Below.refl _ _).drew).mono ?_
    rintro e w8 ⟨rfl, hb8, _⟩
    refine hK'.out _ _ (HCO.out w8 hb8) (fun hHeld => ?_)
    clear hK' K'
    (try simp only [Act.put, List.getElem_toArray, List.getElem_cons_zero, List.getElem_cons_succ, List.setIfInBounds_toArray, List.set_cons_zero, List.set_cons_succ])
    refine wpAnyH_take (i := 3) (v := .int .i64 a) rfl (by kernel_rfl) (by kernel_rfl) (by kernel_rfl) (fun _ _ _ h => h) (Or.inl ⟨by rfl, fun w hSw => ?_⟩) hHeld ?_
    · (try dsimp only at hSw)
      first | go_simp | rfl
    (try simp only [Act.put, List.getElem_toArray, List.getElem_cons_zero, List.getElem_cons_succ, List.setIfInBounds_toArray, List.set_cons_zero, List.set_cons_succ])
    refine wpAnyH_ready (rs := [6]) (by kernel_rfl) (by simp) ?_
    refine AllReadyH.cons rfl (fun K' hK' => ?_) AllReadyH.nil
    go_simp
    obtain ⟨X, hX⟩ : ∃ X, X = w8.alloc (.cells #[.int .i64 u.kind, .int .i64 u.at_, .int .i64 u.num, .string ⟨u.name.toArray⟩, .slice A u.kids.length c] NodeT) := ⟨_, rfl⟩
    obtain ⟨N, hN⟩ : ∃ N, N = w8.heap.size := ⟨_, rfl⟩
    have hbX : Below U.heap.size U X := by rw [hX]; exact hb8.alloc hb8.size _
    have hrow : nt.Kids (fun b => w.heap.size < b) X [u] (.slice (some ⟨N, 0, none⟩) 1 1) := by rw [hX]; exact row_one hN HD7.out (HKU.out.below hb8) (by have := hb8.size; have := HWU.out; omega)
    have HS5 := Lib.hid (fun (q9 : O ≠ R) sl => (HCO.out X hbX).imp (fun h => (five_cell X R (.int .i64 15) (.int .i64 a) (.int .i64 14) (.string ⟨#[]⟩) sl O 0 q9).trans h) (fun h => h.imp (fun h => (five_cell X R (.int .i64 15) (.int .i64 a) (.int .i64 14) (.string ⟨#[]⟩) sl O 1 q9).trans h) (fun h => h.imp (fun h => (five_cell X R (.int .i64 15) (.int .i64 a) (.int .i64 14) (.string ⟨#[]⟩) sl O 2 q9).trans h) (fun h => h.imp (fun h => (five_cell X R (.int .i64 15) (.int .i64 a) (.int .i64 14) (.string ⟨#[]⟩) sl O 3 q9).trans h) (fun h => (five_cell X R (.int .i64 15) (.int .i64 a) (.int .i64 14) (.string ⟨#[]⟩) sl O 4 q9).trans h)))))
    rw [← hX, ← hN]
    refine hK'.out _ _ (HCO.out X hbX) (fun hHeld => ?_)
    clear hK' K'
    (try simp only [Act.put, List.getElem_toArray, List.getElem_cons_zero, List.getElem_cons_succ, List.setIfInBounds_toArray, List.set_cons_zero, List.set_cons_succ])
    have HE := Lib.hid (HEND.out X _ hbX hrow)
    have bX := HRX.out X hbX
    have x0 := bX.cell 0
    have x1 := bX.cell 1
    have x2 := bX.cell 2
    have x3 := bX.cell 3
    have x4 := bX.cell 4
    have xg0 := bX.frozen 0
    have xg1 := bX.frozen 1
    have xg2 := bX.frozen 2
    have xg3 := bX.frozen 3
    have xg4 := bX.frozen 4
    simp only [List.getElem?_toArray, List.getElem?_cons_zero, List.getElem?_cons_succ] at x0 x1 x2 x3 x4
    clear hX hN hbX hrow bX hb8
    refine wpAnyH_take (i := 7) (v := .agg #[.int .i64 15, .int .i64 a, .int .i64 14, .string ⟨#[]⟩, .slice (some ⟨N, 0, none⟩) 1 1]) rfl (by kernel_rfl) (by kernel_rfl) (by kernel_rfl) (fun _ _ _ h => h) (Or.inl ⟨by rfl, fun w hSw => ?_⟩) hHeld ?_
    · (try dsimp only at hSw)
      first | go_simp | rfl
    (try simp only [Act.put, List.getElem_toArray, List.getElem_cons_zero, List.getElem_cons_succ, List.setIfInBounds_toArray, List.set_cons_zero, List.set_cons_succ])
    refine wpAnyH_ready (rs := [9]) (by kernel_rfl) (by simp) ?_
    refine AllReadyH.cons rfl (fun K' hK' => ?_) AllReadyH.nil
    go_simp
    refine hK'.out _ _ (HS5.out ne4 _) (fun hHeld => ?_)
    clear hK' K'
    (try simp only [Act.put, List.getElem_toArray, List.getElem_cons_zero, List.getElem_cons_succ, List.setIfInBounds_toArray, List.set_cons_zero, List.set_cons_succ])
    refine wpAnyH_take (i := 10) (v := .int .i64 j) rfl (by kernel_rfl) (by kernel_rfl) (by kernel_rfl) (fun _ _ _ h => h) (Or.inl ⟨by rfl, fun w hSw => ?_⟩) hHeld ?_
    · (try dsimp only at hSw)
      first | go_simp | rfl
    (try simp only [Act.put, List.getElem_toArray, List.getElem_cons_zero, List.getElem_cons_succ, List.setIfInBounds_toArray, List.set_cons_zero, List.set_cons_succ])
    refine wpAnyH_take (i := 11) (v := .bool true) rfl (by kernel_rfl) (by kernel_rfl) (by kernel_rfl) (fun _ _ _ h => h) (Or.inl ⟨by rfl, fun w hSw => ?_⟩) hHeld ?_
    · (try dsimp only at hSw)
      first | go_simp | rfl
    (try simp only [Act.put, List.getElem_toArray, List.getElem_cons_zero, List.getElem_cons_succ, List.setIfInBounds_toArray, List.set_cons_zero, List.set_cons_succ])
    refine wpAnyH_done (by kernel_rfl) ?_ _
    go_wp2_with (fail)
    refine bodyPost_ret (node_ret3 rfl rfl rfl rfl HE.out.1) rfl ?_
    rw [HP2.out]
    exact HE.out.2
  · go_simp
    obtain ⟨Y, hY⟩ : ∃ Y, Y = (U.alloc (.cells #[.int .i64 u.kind, .int .i64 u.at_, .int .i64 u.num, .string ⟨u.name.toArray⟩, .slice A u.kids.length c] NodeT)).drew := ⟨_, rfl⟩
    obtain ⟨N, hN⟩ : ∃ N, N = U.heap.size := ⟨_, rfl⟩
    have hbY : Below U.heap.size U Y := by rw [hY]; exact ((Below.refl _ _).alloc (Nat.le_refl _) _).drew
    have hrowY : nt.Kids (fun b => w.heap.size < b) Y [u] (.slice (some ⟨N, 0, none⟩) 1 1) := by rw [hY]; exact (row_one (w := U) hN HD7.out HKU.out (by have := HWU.out; omega)).below (Below.refl _ _).drew
    rw [← hY, ← hN]
    refine hK'.out _ _ (HCO.out Y hbY) (fun hHeld => ?_)
    clear hK' K'
    (try simp only [Act.put, List.getElem_toArray, List.getElem_cons_zero, List.getElem_cons_succ, List.setIfInBounds_toArray, List.set_cons_zero, List.set_cons_succ])
    refine wpAnyH_ready (rs := [2]) (by kernel_rfl) (by simp) ?_
    refine AllReadyH.cons rfl (fun K' hK' => ?_) AllReadyH.nil
    clear hY
    have HTY := Lib.hid (HTOK.out Y hbY)
    clear hN
    have hN : True := trivial
    clear hbY
    go_simp
    go_at_call 26
    refine HTY.out.mono ?_
    rintro e X ⟨rfl, hb8, hbYX⟩
    have hbX : Below U.heap.size U X := hb8
    have hrow : nt.Kids (fun b => w.heap.size < b) X [u] (.slice (some ⟨N, 0, none⟩) 1 1) := hrowY.below hbYX
    have HS5 := Lib.hid (fun (q9 : O ≠ R) sl => (HCO.out X hbX).imp (fun h => (five_cell X R (.int .i64 15) (.int .i64 a) (.int .i64 14) (.string ⟨#[]⟩) sl O 0 q9).trans h) (fun h => h.imp (fun h => (five_cell X R (.int .i64 15) (.int .i64 a) (.int .i64 14) (.string ⟨#[]⟩) sl O 1 q9).trans h) (fun h => h.imp (fun h => (five_cell X R (.int .i64 15) (.int .i64 a) (.int .i64 14) (.string ⟨#[]⟩) sl O 2 q9).trans h) (fun h => h.imp (fun h => (five_cell X R (.int .i64 15) (.int .i64 a) (.int .i64 14) (.string ⟨#[]⟩) sl O 3 q9).trans h) (fun h => (five_cell X R (.int .i64 15) (.int .i64 a) (.int .i64 14) (.string ⟨#[]⟩) sl O 4 q9).trans h)))))
    refine hK'.out _ _ (HCO.out X hbX) (fun hHeld => ?_)
    clear hK' K'
    (try simp only [Act.put, List.getElem_toArray, List.getElem_cons_zero, List.getElem_cons_succ, List.setIfInBounds_toArray, List.set_cons_zero, List.set_cons_succ])
    refine wpAnyH_take (i := 3) (v := .int .i64 a) rfl (by kernel_rfl) (by kernel_rfl) (by kernel_rfl) (fun _ _ _ h => h) (Or.inl ⟨by rfl, fun w hSw => ?_⟩) hHeld ?_
    · (try dsimp only at hSw)
      first | go_simp | rfl
    (try simp only [Act.put, List.getElem_toArray, List.getElem_cons_zero, List.getElem_cons_succ, List.setIfInBounds_toArray, List.set_cons_zero, List.set_cons_succ])
    have hX : True := trivial
    have HE := Lib.hid (HEND.out X _ hbX hrow)
    have bX := HRX.out X hbX
    have x0 := bX.cell 0
    have x1 := bX.cell 1
    have x2 := bX.cell 2
    have x3 := bX.cell 3
    have x4 := bX.cell 4
    have xg0 := bX.frozen 0
    have xg1 := bX.frozen 1
    have xg2 := bX.frozen 2
    have xg3 := bX.frozen 3
    have xg4 := bX.frozen 4
    simp only [List.getElem?_toArray, List.getElem?_cons_zero, List.getElem?_cons_succ] at x0 x1 x2 x3 x4
    clear hX hN hbX hrow bX hb8
    refine wpAnyH_take (i := 7) (v := .agg #[.int .i64 15, .int .i64 a, .int .i64 14, .string ⟨#[]⟩, .slice (some ⟨N, 0, none⟩) 1 1]) rfl (by kernel_rfl) (by kernel_rfl) (by kernel_rfl) (fun _ _ _ h => h) (Or.inl ⟨by rfl, fun w hSw => ?_⟩) hHeld ?_
    · (try dsimp only at hSw)
      first | go_simp | rfl
    (try simp only [Act.put, List.getElem_toArray, List.getElem_cons_zero, List.getElem_cons_succ, List.setIfInBounds_toArray, List.set_cons_zero, List.set_cons_succ])
    refine wpAnyH_ready (rs := [9]) (by kernel_rfl) (by simp) ?_
    refine AllReadyH.cons rfl (fun K' hK' => ?_) AllReadyH.nil
    go_simp
    refine hK'.out _ _ (HS5.out ne4 _) (fun hHeld => ?_)
    clear hK' K'
    (try simp only [Act.put, List.getElem_toArray, List.getElem_cons_zero, List.getElem_cons_succ, List.setIfInBounds_toArray, List.set_cons_zero, List.set_cons_succ])
    refine wpAnyH_take (i := 10) (v := .int .i64 j) rfl (by kernel_rfl) (by kernel_rfl) (by kernel_rfl) (fun _ _ _ h => h) (Or.inl ⟨by rfl, fun w hSw => ?_⟩) hHeld ?_
    · (try dsimp only at hSw)
      first | go_simp | rfl
    (try simp only [Act.put, List.getElem_toArray, List.getElem_cons_zero, List.getElem_cons_succ, List.setIfInBounds_toArray, List.set_cons_zero, List.set_cons_succ])
    refine wpAnyH_take (i := 11) (v := .bool true) rfl (by kernel_rfl) (by kernel_rfl) (by kernel_rfl) (fun _ _ _ h => h) (Or.inl ⟨by rfl, fun w hSw => ?_⟩) hHeld ?_
    · (try dsimp only at hSw)
      first | go_simp | rfl
    (try simp only [Act.put, List.getElem_toArray, List.getElem_cons_zero, List.getElem_cons_succ, List.setIfInBounds_toArray, List.set_cons_zero, List.set_cons_succ])
    refine wpAnyH_done (by kernel_rfl) ?_ _
    go_wp2_with (fail)
    refine bodyPost_ret (node_ret3 rfl rfl rfl rfl HE.out.1) rfl ?_
    rw [HP2.out]
    exact HE.out.2
set_option maxHeartbeats 2000000 in
theorem fac_un_mn {l : List Tk} {v : Value} {i : Int} {w : World} (hs : Src l v w) (h0 : -9223372036854775808 ≤ i) {j : Int} {u : NT} (h1 : i < l.length) (m1 : isM l i [45] = true) (m2 : isM l i [33] = true) (ih : ∀ w', Src l v w' → Calls Tryd.prog 35 #[v, .int .i64 (i + 1)] w' (Told (.node u j) w')) :
    Calls Tryd.prog 35 #[v, .int .i64 i] w (Told (.node (.mk 15 (tokAt l i).at_ 14 [] [u]) j) w) := by
  obtain ⟨P, hP⟩ : ∃ P, P = Told (.node (.mk 15 (tokAt l i).at_ 14 [] [u]) j) w := ⟨_, rfl⟩
  rw [← hP]
  have HP := Lib.hid hP
  have IH := Lib.hid ih
  clear hP ih
  have HSRC := Lib.hid hs
  have HF := Lib.hid (hs.fair i)
  have hL := hs.len
  obtain ⟨R, hR⟩ : ∃ R, R = w.heap.size := ⟨_, rfl⟩
  obtain ⟨W, hW⟩ : ∃ W, W = w.alloc (.cells #[.int .i64 0, .int .i64 0, .int .i64 0, .string ⟨#[]⟩, .slice none 0 0] NodeT) := ⟨_, rfl⟩
  have hbW : Below w.heap.size w W := by rw [hW]; exact (Below.refl _ _).alloc (Nat.le_refl _) _
  have HBX : Hid (Box W R NodeT #[.int .i64 0, .int .i64 0, .int .i64 0, .string ⟨#[]⟩, .slice none 0 0]) := Lib.hid (by rw [hW]; exact Box.new _ _ _ _ hR)
  have HM : Hid (∀ w', Below (R + 1) W w' → Box w' R NodeT #[.int .i64 0, .int .i64 0, .int .i64 0, .string ⟨#[]⟩, .slice none 0 0] ∧ Src l v w' ∧ R + 1 ≤ w'.heap.size ∧ Below w.heap.size w w') := Lib.hid (fun w' hb => by
    have q1 := HBX.out.below hb (by omega)
    have q3 : Below w.heap.size w w' := hbW.trans (hb.mono (by omega))
    exact ⟨q1, hs.on q3, q1.lt, q3⟩)
  have HB : Hid (Below (R + 1) W W) := Lib.hid (Below.refl _ _)
  have HW := Lib.hid hW
  have HRR := Lib.hid hR
  clear hW hR hbW hs
  go_enter Tryd.func35, Tryd.ntmps35
  go_wp2_with (first | (rw [← HW.out, ← HRR.out]))
  refine (is_src (HM.out _ HB.out).2.1 HB.out (HM.out _ HB.out).2.2.1 [45] (i) (by unfold I64; omega)).mono ?_
  rintro e w2 ⟨rfl, hb2⟩
  have HB2 := Lib.hid hb2
  clear hb2
  go_wp2_with (fail)
  refine (is_src (HM.out _ HB2.out).2.1 HB2.out (HM.out _ HB2.out).2.2.1 [33] (i) (by unfold I64; omega)).mono ?_
  rintro e w3 ⟨rfl, hb3⟩
  have HB3 := Lib.hid hb3
  clear hb3
  go_wp2_with (fail)
  refine (IH.out _ (HM.out _ HB3.out).2.1).mono ?_
  rintro e w7 ⟨su, rfl, hk7, hd7, hb7⟩
  obtain ⟨A, c, rfl, _⟩ := hk7.form
  have HB7 := Lib.hid (HB3.out.trans (hb7.mono (HM.out _ HB3.out).2.2.1))
  obtain ⟨V, hV⟩ : ∃ V, V = w7.alloc (.cells #[.int .i64 0, .int .i64 0, .int .i64 0, .string ⟨#[]⟩, .slice none 0 0] NodeT) := ⟨_, rfl⟩
  obtain ⟨O, hO⟩ : ∃ O, O = w7.heap.size := ⟨_, rfl⟩
  have hRO : R + 1 ≤ O := by rw [hO]; exact (HM.out _ HB7.out).2.2.1
  have hbV : Below (R + 1) W V := by rw [hV]; exact HB7.out.alloc (HM.out _ HB7.out).2.2.1 _
  have bO : Box V O NodeT #[.int .i64 0, .int .i64 0, .int .i64 0, .string ⟨#[]⟩, .slice none 0 0] := by rw [hV]; exact Box.new _ _ _ _ hO
  have bR := (HM.out _ hbV).1
  have ne3 : ¬ R = O := by omega
  have ne4 : ¬ O = R := fun e => ne3 e.symm
  have r0 := bR.cell 0
  have r1 := bR.cell 1
  have r2 := bR.cell 2
  have r3 := bR.cell 3
  have r4 := bR.cell 4
  have g0 := bR.frozen 0
  have g1 := bR.frozen 1
  have g2 := bR.frozen 2
  have g3 := bR.frozen 3
  have g4 := bR.frozen 4
  simp only [List.getElem?_toArray, List.getElem?_cons_zero, List.getElem?_cons_succ] at r0 r1 r2 r3 r4
  have o0 := bO.cell 0
  have o1 := bO.cell 1
  have o2 := bO.cell 2
  have o3 := bO.cell 3
  have o4 := bO.cell 4
  have og0 := bO.frozen 0
  have og1 := bO.frozen 1
  have og2 := bO.frozen 2
  have og3 := bO.frozen 3
  have og4 := bO.frozen 4
  simp only [List.getElem?_toArray, List.getElem?_cons_zero, List.getElem?_cons_succ] at o0 o1 o2 o3 o4
  have hkU : nt.Kids (fun b => w.heap.size < b) (((((V.setCell ⟨O, 0, none⟩ (.int .i64 u.kind)).setCell ⟨O, 1, none⟩ (.int .i64 u.at_)).setCell ⟨O, 2, none⟩ (.int .i64 u.num)).setCell ⟨O, 3, none⟩ (.string ⟨u.name.toArray⟩)).setCell ⟨O, 4, none⟩ (.slice A u.kids.length c)) u.kids (.slice A u.kids.length c) := by
    have hk8 : nt.Kids (fun b => w.heap.size < b ∧ b < w7.heap.size) w7 u.kids (.slice A u.kids.length c) := (hk7.lt).mono fun b hb => ⟨by have h1 := hb.1; have h2 := (HM.out _ HB3.out).2.2.1; have := HRR.out; omega, hb.2⟩
    have hk9 : nt.Kids (fun b => w.heap.size < b ∧ b < w7.heap.size) V u.kids (.slice A u.kids.length c) := by rw [hV]; exact hk8.below ((Below.refl _ _).alloc (Nat.le_refl _) _)
    exact (kids_five hk9 (fun b hb => by have := hb.2; omega) _ _ _ _ _).mono fun b hb => hb.1
  have hbU : Below (R + 1) W (((((V.setCell ⟨O, 0, none⟩ (.int .i64 u.kind)).setCell ⟨O, 1, none⟩ (.int .i64 u.at_)).setCell ⟨O, 2, none⟩ (.int .i64 u.num)).setCell ⟨O, 3, none⟩ (.string ⟨u.name.toArray⟩)).setCell ⟨O, 4, none⟩ (.slice A u.kids.length c)) := below_five hbV hRO _ _ _ _ _
  have bOU := box_five bO (.int .i64 u.kind) (.int .i64 u.at_) (.int .i64 u.num) (.string ⟨u.name.toArray⟩) (.slice A u.kids.length c)
  change Box (((((V.setCell ⟨O, 0, none⟩ (.int .i64 u.kind)).setCell ⟨O, 1, none⟩ (.int .i64 u.at_)).setCell ⟨O, 2, none⟩ (.int .i64 u.num)).setCell ⟨O, 3, none⟩ (.string ⟨u.name.toArray⟩)).setCell ⟨O, 4, none⟩ (.slice A u.kids.length c)) O NodeT _ at bOU
  have HV := Lib.hid hV
  have HO := Lib.hid hO
  clear hV hO hb7 hk7
  go_wp2_with (first | (rw [← HV.out, ← HO.out]))
  obtain ⟨U, hU⟩ : ∃ U, U = ((((V.setCell ⟨O, 0, none⟩ (.int .i64 u.kind)).setCell ⟨O, 1, none⟩ (.int .i64 u.at_)).setCell ⟨O, 2, none⟩ (.int .i64 u.num)).setCell ⟨O, 3, none⟩ (.string ⟨u.name.toArray⟩)).setCell ⟨O, 4, none⟩ (.slice A u.kids.length c) := ⟨_, rfl⟩
  rw [← hU] at hkU hbU bOU ⊢
  have HCO : Hid (∀ w', Below U.heap.size U w' → w'.cell? ⟨O, 0, none⟩ = some (.int .i64 u.kind) ∧ w'.cell? ⟨O, 1, none⟩ = some (.int .i64 u.at_) ∧ w'.cell? ⟨O, 2, none⟩ = some (.int .i64 u.num) ∧ w'.cell? ⟨O, 3, none⟩ = some (.string ⟨u.name.toArray⟩) ∧ w'.cell? ⟨O, 4, none⟩ = some (.slice A u.kids.length c)) := Lib.hid (fun w' hb => by
    have b := bOU.on hb
    exact ⟨b.cell 0, b.cell 1, b.cell 2, b.cell 3, b.cell 4⟩)
  have HBU := Lib.hid hbU
  have HKU := Lib.hid hkU
  have HD7 := Lib.hid hd7
  have hsU : R + 1 ≤ U.heap.size := (HM.out _ hbU).2.2.1
  obtain ⟨t, ht⟩ : ∃ t, t = tokAt l i := ⟨_, rfl⟩
  have HTOK : Hid (∀ w', Below U.heap.size U w' → Calls Tryd.prog 26 #[v, .int .i64 i] w' fun e w2 => e = .returned (tkA t) ∧ Below U.heap.size U w2 ∧ Below w'.heap.size w' w2) := Lib.hid (fun w' hb => by
    have q := (HM.out _ (HBU.out.trans (hb.mono hsU)))
    refine (rtok_any l v i w' _ q.2.1.lies hL (by unfold I64; omega)).mono ?_
    rintro e w2 ⟨q1, q2⟩
    rw [ht]
    exact ⟨q1, hb.trans (q2.mono hb.size), q2⟩)
  have HFA : Hid (I64 t.at_) := Lib.hid (by rw [ht]; exact HF.out.1)
  have HRX : Hid (∀ w', Below U.heap.size U w' → Box w' R NodeT #[.int .i64 0, .int .i64 0, .int .i64 0, .string ⟨#[]⟩, .slice none 0 0]) := Lib.hid (fun w' hb => (HM.out _ (HBU.out.trans (hb.mono hsU))).1)
  have HEND : Hid (∀ X sl, Below U.heap.size U X → nt.Kids (fun b => w.heap.size < b) X [u] sl → Box (five X R (.int .i64 15) (.int .i64 t.at_) (.int .i64 14) (.string ⟨#[]⟩) sl) R NodeT #[.int .i64 15, .int .i64 t.at_, .int .i64 14, .string ⟨#[]⟩, sl] ∧ Told (.node (.mk 15 t.at_ 14 [] [u]) j) w (.returned (.tuple #[.agg #[.int .i64 15, .int .i64 t.at_, .int .i64 14, .string ⟨#[]⟩, sl], .int .i64 j, .bool true])) (five X R (.int .i64 15) (.int .i64 t.at_) (.int .i64 14) (.string ⟨#[]⟩) sl)) := Lib.hid (fun X sl hb hk =>
    node_end (t := .mk 15 t.at_ 14 [] [u]) HRR.out (HRX.out X hb) ⟨by show I64 15; unfold I64; omega, HFA.out, by show I64 14; unfold I64; omega, by show 0 ≤ 281474976710656; omega⟩ hk (HM.out _ (HBU.out.trans (hb.mono hsU))).2.2.2)
  have hwU : w.heap.size < U.heap.size := by have := HRR.out; omega
  have hP2 : P = Told (.node (.mk 15 t.at_ 14 [] [u]) j) w := by rw [ht]; exact HP.out
  have HP2 := Lib.hid hP2
  have HWU := Lib.hid hwU
  obtain ⟨k, a, n, s⟩ := t
  simp only [tkA] at HTOK HFA HEND HP2
  have hfl := fun w' => tok_field k a n s w'
  clear hU hkU hbU bOU hd7 hsU ht hwU hP2 bO bR hRO hbV
  clear r0 r1 r2 r3 r4 g0 g1 g2 g3 g4 o0 o1 o2 o3 o4 og0 og1 og2 og3 og4
  refine wp_region_held_drew (S := fun w' => w'.cell? ⟨O, 0, none⟩ = some (.int .i64 u.kind) ∧ w'.cell? ⟨O, 1, none⟩ = some (.int .i64 u.at_) ∧ w'.cell? ⟨O, 2, none⟩ = some (.int .i64 u.num) ∧ w'.cell? ⟨O, 3, none⟩ = some (.string ⟨u.name.toArray⟩) ∧ w'.cell? ⟨O, 4, none⟩ = some (.slice A u.kids.length c)) (by kernel_rfl) ?_ (fun hHeld => ?_)
  · exact HCO.out _ (Below.refl _ _).drew
  refine wpAnyH_take (i := 0) (v := v) rfl (by kernel_rfl) (by kernel_rfl) (by kernel_rfl) (fun _ _ _ h => h) (Or.inl ⟨by rfl, fun w hSw => ?_⟩) hHeld ?_
  · (try dsimp only at hSw)
    first | go_simp | rfl
  (try simp only [Act.put, List.getElem_toArray, List.getElem_cons_zero, List.getElem_cons_succ, List.setIfInBounds_toArray, List.set_cons_zero, List.set_cons_succ])
  refine wpAnyH_take (i := 1) (v := .int .i64 i) rfl (by kernel_rfl) (by kernel_rfl) (by kernel_rfl) (fun _ _ _ h => h) (Or.inl ⟨by rfl, fun w hSw => ?_⟩) hHeld ?_
  · (try dsimp only at hSw)
    first | go_simp | rfl
  (try simp only [Act.put, List.getElem_toArray, List.getElem_cons_zero, List.getElem_cons_succ, List.setIfInBounds_toArray, List.set_cons_zero, List.set_cons_succ])
  refine wpAnyH_take (i := 4) (v := .int .i64 14) rfl (by kernel_rfl) (by kernel_rfl) (by kernel_rfl) (fun _ _ _ h => h) (Or.inl ⟨by rfl, fun w hSw => ?_⟩) hHeld ?_
  · (try dsimp only at hSw)
    first | go_simp | rfl
  (try simp only [Act.put, List.getElem_toArray, List.getElem_cons_zero, List.getElem_cons_succ, List.setIfInBounds_toArray, List.set_cons_zero, List.set_cons_succ])
  refine wpAnyH_take (i := 5) (v := .agg #[.int .i64 u.kind, .int .i64 u.at_, .int .i64 u.num, .string ⟨u.name.toArray⟩, .slice A u.kids.length c]) rfl (by kernel_rfl) (by kernel_rfl) (by kernel_rfl) (fun _ _ _ h => h) (Or.inl ⟨by rfl, fun w hSw => ?_⟩) hHeld ?_
  · (try dsimp only at hSw)
    first | go_simp | rfl
  (try simp only [Act.put, List.getElem_toArray, List.getElem_cons_zero, List.getElem_cons_succ, List.setIfInBounds_toArray, List.set_cons_zero, List.set_cons_succ])
  refine wpAnyH_take (i := 8) (v := .int .i64 j) rfl (by kernel_rfl) (by kernel_rfl) (by kernel_rfl) (fun _ _ _ h => h) (Or.inl ⟨by rfl, fun w hSw => ?_⟩) hHeld ?_
  · (try dsimp only at hSw)
    first | go_simp | rfl
  (try simp only [Act.put, List.getElem_toArray, List.getElem_cons_zero, List.getElem_cons_succ, List.setIfInBounds_toArray, List.set_cons_zero, List.set_cons_succ])
  refine wpAnyH_ready (rs := [2, 6]) (by kernel_rfl) (by simp) ?_
  refine AllReadyH.cons rfl (fun K' hK' => ?_) (AllReadyH.cons rfl (fun K' hK' => ?_) AllReadyH.nil)
  · go_simp
    go_at_call 26
    refine (HTOK.out U.drew (Below.refl _ _).drew).mono ?_
    rintro e w8 ⟨rfl, hb8, _⟩
    refine hK'.out _ _ (HCO.out w8 hb8) (fun hHeld => ?_)
    clear hK' K'
    (try simp only [Act.put, List.getElem_toArray, List.getElem_cons_zero, List.getElem_cons_succ, List.setIfInBounds_toArray, List.set_cons_zero, List.set_cons_succ])
    refine wpAnyH_take (i := 3) (v := .int .i64 a) rfl (by kernel_rfl) (by kernel_rfl) (by kernel_rfl) (fun _ _ _ h => h) (Or.inl ⟨by rfl, fun w hSw => ?_⟩) hHeld ?_
    · (try dsimp only at hSw)
      first | go_simp | rfl
    (try simp only [Act.put, List.getElem_toArray, List.getElem_cons_zero, List.getElem_cons_succ, List.setIfInBounds_toArray, List.set_cons_zero, List.set_cons_succ])
    refine wpAnyH_ready (rs := [6]) (by kernel_rfl) (by simp) ?_
    refine AllReadyH.cons rfl (fun K' hK' => ?_) AllReadyH.nil
    go_simp
    obtain ⟨X, hX⟩ : ∃ X, X = w8.alloc (.cells #[.int .i64 u.kind, .int .i64 u.at_, .int .i64 u.num, .string ⟨u.name.toArray⟩, .slice A u.kids.length c] NodeT) := ⟨_, rfl⟩
    obtain ⟨N, hN⟩ : ∃ N, N = w8.heap.size := ⟨_, rfl⟩
    have hbX : Below U.heap.size U X := by rw [hX]; exact hb8.alloc hb8.size _
    have hrow : nt.Kids (fun b => w.heap.size < b) X [u] (.slice (some ⟨N, 0, none⟩) 1 1) := by rw [hX]; exact row_one hN HD7.out (HKU.out.below hb8) (by have := hb8.size; have := HWU.out; omega)
    have HS5 := Lib.hid (fun (q9 : O ≠ R) sl => (HCO.out X hbX).imp (fun h => (five_cell X R (.int .i64 15) (.int .i64 a) (.int .i64 14) (.string ⟨#[]⟩) sl O 0 q9).trans h) (fun h => h.imp (fun h => (five_cell X R (.int .i64 15) (.int .i64 a) (.int .i64 14) (.string ⟨#[]⟩) sl O 1 q9).trans h) (fun h => h.imp (fun h => (five_cell X R (.int .i64 15) (.int .i64 a) (.int .i64 14) (.string ⟨#[]⟩) sl O 2 q9).trans h) (fun h => h.imp (fun h => (five_cell X R (.int .i64 15) (.int .i64 a) (.int .i64 14) (.string ⟨#[]⟩) sl O 3 q9).trans h) (fun h => (five_cell X R (.int .i64 15) (.int .i64 a) (.int .i64 14) (.string ⟨#[]⟩) sl O 4 q9).trans h)))))
    rw [← hX, ← hN]
    refine hK'.out _ _ (HCO.out X hbX) (fun hHeld => ?_)
    clear hK' K'
    (try simp only [Act.put, List.getElem_toArray, List.getElem_cons_zero, List.getElem_cons_succ, List.setIfInBounds_toArray, List.set_cons_zero, List.set_cons_succ])
    have HE := Lib.hid (HEND.out X _ hbX hrow)
    have bX := HRX.out X hbX
    have x0 := bX.cell 0
    have x1 := bX.cell 1
    have x2 := bX.cell 2
    have x3 := bX.cell 3
    have x4 := bX.cell 4
    have xg0 := bX.frozen 0
    have xg1 := bX.frozen 1
    have xg2 := bX.frozen 2
    have xg3 := bX.frozen 3
    have xg4 := bX.frozen 4
    simp only [List.getElem?_toArray, List.getElem?_cons_zero, List.getElem?_cons_succ] at x0 x1 x2 x3 x4
    clear hX hN hbX hrow bX hb8
    refine wpAnyH_take (i := 7) (v := .agg #[.int .i64 15, .int .i64 a, .int .i64 14, .string ⟨#[]⟩, .slice (some ⟨N, 0, none⟩) 1 1]) rfl (by kernel_rfl) (by kernel_rfl) (by kernel_rfl) (fun _ _ _ h => h) (Or.inl ⟨by rfl, fun w hSw => ?_⟩) hHeld ?_
    · (try dsimp only at hSw)
      first | go_simp | rfl
    (try simp only [Act.put, List.getElem_toArray, List.getElem_cons_zero, List.getElem_cons_succ, List.setIfInBounds_toArray, List.set_cons_zero, List.set_cons_succ])
    refine wpAnyH_ready (rs := [9]) (by kernel_rfl) (by simp) ?_
    refine AllReadyH.cons rfl (fun K' hK' => ?_) AllReadyH.nil
    go_simp
    refine hK'.out _ _ (HS5.out ne4 _) (fun hHeld => ?_)
    clear hK' K'
    (try simp only [Act.put, List.getElem_toArray, List.getElem_cons_zero, List.getElem_cons_succ, List.setIfInBounds_toArray, List.set_cons_zero, List.set_cons_succ])
    refine wpAnyH_take (i := 10) (v := .int .i64 j) rfl (by kernel_rfl) (by kernel_rfl) (by kernel_rfl) (fun _ _ _ h => h) (Or.inl ⟨by rfl, fun w hSw => ?_⟩) hHeld ?_
    · (try dsimp only at hSw)
      first | go_simp | rfl
    (try simp only [Act.put, List.getElem_toArray, List.getElem_cons_zero, List.getElem_cons_succ, List.setIfInBounds_toArray, List.set_cons_zero, List.set_cons_succ])
    refine wpAnyH_take (i := 11) (v := .bool true) rfl (by kernel_rfl) (by kernel_rfl) (by kernel_rfl) (fun _ _ _ h => h) (Or.inl ⟨by rfl, fun w hSw => ?_⟩) hHeld ?_
    · (try dsimp only at hSw)
      first | go_simp | rfl
    (try simp only [Act.put, List.getElem_toArray, List.getElem_cons_zero, List.getElem_cons_succ, List.setIfInBounds_toArray, List.set_cons_zero, List.set_cons_succ])
    refine wpAnyH_done (by kernel_rfl) ?_ _
    go_wp2_with (fail)
    refine bodyPost_ret (node_ret3 rfl rfl rfl rfl HE.out.1) rfl ?_
    rw [HP2.out]
    exact HE.out.2
  · go_simp
    obtain ⟨Y, hY⟩ : ∃ Y, Y = (U.alloc (.cells #[.int .i64 u.kind, .int .i64 u.at_, .int .i64 u.num, .string ⟨u.name.toArray⟩, .slice A u.kids.length c] NodeT)).drew := ⟨_, rfl⟩
    obtain ⟨N, hN⟩ : ∃ N, N = U.heap.size := ⟨_, rfl⟩
    have hbY : Below U.heap.size U Y := by rw [hY]; exact ((Below.refl _ _).alloc (Nat.le_refl _) _).drew
    have hrowY : nt.Kids (fun b => w.heap.size < b) Y [u] (.slice (some ⟨N, 0, none⟩) 1 1) := by rw [hY]; exact (row_one (w := U) hN HD7.out HKU.out (by have := HWU.out; omega)).below (Below.refl _ _).drew
    rw [← hY, ← hN]
    refine hK'.out _ _ (HCO.out Y hbY) (fun hHeld => ?_)
    clear hK' K'
    (try simp only [Act.put, List.getElem_toArray, List.getElem_cons_zero, List.getElem_cons_succ, List.setIfInBounds_toArray, List.set_cons_zero, List.set_cons_succ])
    refine wpAnyH_ready (rs := [2]) (by kernel_rfl) (by simp) ?_
    refine AllReadyH.cons rfl (fun K' hK' => ?_) AllReadyH.nil
    clear hY
    have HTY := Lib.hid (HTOK.out Y hbY)
    clear hN
    have hN : True := trivial
    clear hbY
    go_simp
    go_at_call 26
    refine HTY.out.mono ?_
    rintro e X ⟨rfl, hb8, hbYX⟩
    have hbX : Below U.heap.size U X := hb8
    have hrow : nt.Kids (fun b => w.heap.size < b) X [u] (.slice (some ⟨N, 0, none⟩) 1 1) := hrowY.below hbYX
    have HS5 := Lib.hid (fun (q9 : O ≠ R) sl => (HCO.out X hbX).imp (fun h => (five_cell X R (.int .i64 15) (.int .i64 a) (.int .i64 14) (.string ⟨#[]⟩) sl O 0 q9).trans h) (fun h => h.imp (fun h => (five_cell X R (.int .i64 15) (.int .i64 a) (.int .i64 14) (.string ⟨#[]⟩) sl O 1 q9).trans h) (fun h => h.imp (fun h => (five_cell X R (.int .i64 15) (.int .i64 a) (.int .i64 14) (.string ⟨#[]⟩) sl O 2 q9).trans h) (fun h => h.imp (fun h => (five_cell X R (.int .i64 15) (.int .i64 a) (.int .i64 14) (.string ⟨#[]⟩) sl O 3 q9).trans h) (fun h => (five_cell X R (.int .i64 15) (.int .i64 a) (.int .i64 14) (.string ⟨#[]⟩) sl O 4 q9).trans h)))))
    refine hK'.out _ _ (HCO.out X hbX) (fun hHeld => ?_)
    clear hK' K'
    (try simp only [Act.put, List.getElem_toArray, List.getElem_cons_zero, List.getElem_cons_succ, List.setIfInBounds_toArray, List.set_cons_zero, List.set_cons_succ])
    refine wpAnyH_take (i := 3) (v := .int .i64 a) rfl (by kernel_rfl) (by kernel_rfl) (by kernel_rfl) (fun _ _ _ h => h) (Or.inl ⟨by rfl, fun w hSw => ?_⟩) hHeld ?_
    · (try dsimp only at hSw)
      first | go_simp | rfl
    (try simp only [Act.put, List.getElem_toArray, List.getElem_cons_zero, List.getElem_cons_succ, List.setIfInBounds_toArray, List.set_cons_zero, List.set_cons_succ])
    have hX : True := trivial
    have HE := Lib.hid (HEND.out X _ hbX hrow)
    have bX := HRX.out X hbX
    have x0 := bX.cell 0
    have x1 := bX.cell 1
    have x2 := bX.cell 2
    have x3 := bX.cell 3
    have x4 := bX.cell 4
    have xg0 := bX.frozen 0
    have xg1 := bX.frozen 1
    have xg2 := bX.frozen 2
    have xg3 := bX.frozen 3
    have xg4 := bX.frozen 4
    simp only [List.getElem?_toArray, List.getElem?_cons_zero, List.getElem?_cons_succ] at x0 x1 x2 x3 x4
    clear hX hN hbX hrow bX hb8
    refine wpAnyH_take (i := 7) (v := .agg #[.int .i64 15, .int .i64 a, .int .i64 14, .string ⟨#[]⟩, .slice (some ⟨N, 0, none⟩) 1 1]) rfl (by kernel_rfl) (by kernel_rfl) (by kernel_rfl) (fun _ _ _ h => h) (Or.inl ⟨by rfl, fun w hSw => ?_⟩) hHeld ?_
    · (try dsimp only at hSw)
      first | go_simp | rfl
    (try simp only [Act.put, List.getElem_toArray, List.getElem_cons_zero, List.getElem_cons_succ, List.setIfInBounds_toArray, List.set_cons_zero, List.set_cons_succ])
    refine wpAnyH_ready (rs := [9]) (by kernel_rfl) (by simp) ?_
    refine AllReadyH.cons rfl (fun K' hK' => ?_) AllReadyH.nil
    go_simp
    refine hK'.out _ _ (HS5.out ne4 _) (fun hHeld => ?_)
    clear hK' K'
    (try simp only [Act.put, List.getElem_toArray, List.getElem_cons_zero, List.getElem_cons_succ, List.setIfInBounds_toArray, List.set_cons_zero, List.set_cons_succ])
    refine wpAnyH_take (i := 10) (v := .int .i64 j) rfl (by kernel_rfl) (by kernel_rfl) (by kernel_rfl) (fun _ _ _ h => h) (Or.inl ⟨by rfl, fun w hSw => ?_⟩) hHeld ?_
    · (try dsimp only at hSw)
      first | go_simp | rfl
    (try simp only [Act.put, List.getElem_toArray, List.getElem_cons_zero, List.getElem_cons_succ, List.setIfInBounds_toArray, List.set_cons_zero, List.set_cons_succ])
    refine wpAnyH_take (i := 11) (v := .bool true) rfl (by kernel_rfl) (by kernel_rfl) (by kernel_rfl) (fun _ _ _ h => h) (Or.inl ⟨by rfl, fun w hSw => ?_⟩) hHeld ?_
    · (try dsimp only at hSw)
      first | go_simp | rfl
    (try simp only [Act.put, List.getElem_toArray, List.getElem_cons_zero, List.getElem_cons_succ, List.setIfInBounds_toArray, List.set_cons_zero, List.set_cons_succ])
    refine wpAnyH_done (by kernel_rfl) ?_ _
    go_wp2_with (fail)
    refine bodyPost_ret (node_ret3 rfl rfl rfl rfl HE.out.1) rfl ?_
    rw [HP2.out]
    exact HE.out.2
theorem fac_tok13 {l : List Tk} {v : Value} {i : Int} {w : World} {f : Nat} {r : Res} (hs : Src l v w) (h0 : -9223372036854775808 ≤ i) (h1 : i ≤ 9223372036854775807) (hr : run l (f + 1) .fac i = some r)
    (ihp : ∀ (i : Int) (w : World) (r : Res), Src l v w → -9223372036854775808 ≤ i → i ≤ 9223372036854775807 → run l f .part i = some r → Calls Tryd.prog 52 #[v, .int .i64 i] w (Told r w))
    (ihf : ∀ (i : Int) (w : World) (r : Res), Src l v w → -9223372036854775808 ≤ i → i ≤ 9223372036854775807 → run l f .fac i = some r → Calls Tryd.prog 35 #[v, .int .i64 i] w (Told r w)) :
    Calls Tryd.prog 35 #[v, .int .i64 i] w (Told r w) := by
  have hLL := hs.len
  rw [run_succ] at hr
  simp only [stepR] at hr
  have he := run_ends l f
  cases m1 : isM l i [45] with
  | false =>
    cases m2 : isM l i [33] with
    | false =>
      rw [if_pos ⟨m1, m2⟩] at hr
      cases r with
      | node n j => exact fac_part hs h0 h1 m1 m2 (fun w2 hs2 => ihp i w2 _ hs2 h0 h1 hr)
      | no j => exact fac_part_no hs h0 h1 m1 m2 (fun w2 hs2 => ihp i w2 _ hs2 h0 h1 hr)
      | list ns j => have q := (he _ _ _ hr).1; simp [Mode.lists] at q
    | true =>
      have hb := (isM_in m2).2
      rw [if_neg (by rw [m2]; simp)] at hr
      cases hq : run l f .fac (i + 1) with
      | none => rw [hq] at hr; simp [andN] at hr
      | some r2 =>
        rw [hq] at hr
        cases r2 with
        | node n j =>
          simp only [andN, m2, if_true] at hr; cases hr
          exact fac_un_n hs h0 hb m1 m2 (fun w2 hs2 => ihf _ w2 _ hs2 (by omega) (by omega) hq)
        | list ns j => simp [andN] at hr
        | no j =>
          simp only [andN] at hr; cases hr
          exact fac_no_n hs h0 hb m1 m2 (fun w2 hs2 => ihf _ w2 _ hs2 (by omega) (by omega) hq)
  | true =>
    have hb := (isM_in m1).2
    rw [if_neg (by rw [m1]; simp)] at hr
    cases hq : run l f .fac (i + 1) with
    | none => rw [hq] at hr; simp [andN] at hr
    | some r2 =>
      rw [hq] at hr
      cases r2 with
      | node n j =>
        cases m2 : isM l i [33] with
        | false =>
          simp only [andN, m2] at hr; cases hr
          exact fac_un_m hs h0 hb m1 m2 (fun w2 hs2 => ihf _ w2 _ hs2 (by omega) (by omega) hq)
        | true =>
          simp only [andN, m2, if_true] at hr; cases hr
          exact fac_un_mn hs h0 hb m1 m2 (fun w2 hs2 => ihf _ w2 _ hs2 (by omega) (by omega) hq)
      | list ns j => simp [andN] at hr
      | no j =>
        simp only [andN] at hr; cases hr
        cases m2 : isM l i [33] with
        | false => exact fac_no_m hs h0 hb m1 m2 (fun w2 hs2 => ihf _ w2 _ hs2 (by omega) (by omega) hq)
        | true => exact fac_no_mn hs h0 hb m1 m2 (fun w2 hs2 => ihf _ w2 _ hs2 (by omega) (by omega) hq)
end Go.Proofs.YtgohkmdepjmpaaaDoor.pm

/- The document's own reader of levels. -/
import Derived.Test.YtgohkmdepjmpaaaDoorCParArgs
import Derived.Test.YtgohkmdepjmpaaaDoorCHeldTail
import Derived.Test.YtgohkmdepjmpaaaDoorCGrowExpr
namespace Go.Proofs.YtgohkmdepjmpaaaDoor.pm
open Go.RowKit wd lx nt ne mem
open vt (I64 own_form)

set_option maxRecDepth 100000 in
set_option maxHeartbeats 4000000 in
theorem lev_fac_no {l : List Tk} {v : Value} {i : Int} {t : Nat} {w : World} (hs : Src l v w) (h0 : -9223372036854775808 ≤ i) (h1 : i ≤ 9223372036854775807) (ht0 : 1 ≤ t) {j : Int} (ht : 5 < t) (ih : ∀ w', Src l v w' → Calls Tryd.prog 35 #[v, .int .i64 i] w' (Told (.no j) w')) :
    Calls Tryd.prog 20 #[v, .int .i64 i, .int .i64 t] w (Told (.no j) w) := by
  obtain ⟨P, hP⟩ : ∃ P, P = Told (.no j) w := ⟨_, rfl⟩
  rw [← hP]
  have HP := Lib.hid hP
  have IH := Lib.hid ih
  clear hP ih
  have ht5 : (5 : Int) < (t : Int) := by omega
  have hL := hs.len
  obtain ⟨R, hR⟩ : ∃ R, R = w.heap.size := ⟨_, rfl⟩
  obtain ⟨W, hW⟩ : ∃ W, W = w.alloc (.cells #[.int .i64 0, .int .i64 0, .int .i64 0, .string ⟨#[]⟩, .slice none 0 0] NodeT) := ⟨_, rfl⟩
  have hbW : Below w.heap.size w W := by rw [hW]; exact (Below.refl _ _).alloc (Nat.le_refl _) _
  have HBX : Hid (Box W R NodeT #[.int .i64 0, .int .i64 0, .int .i64 0, .string ⟨#[]⟩, .slice none 0 0]) := Lib.hid (by rw [hW]; exact Box.new _ _ _ _ hR)
  have HM : Hid (∀ w', Below (R + 1) W w' → Box w' R NodeT #[.int .i64 0, .int .i64 0, .int .i64 0, .string ⟨#[]⟩, .slice none 0 0] ∧ Src l v w' ∧ R + 1 ≤ w'.heap.size ∧ Below w.heap.size w w') := Lib.hid (fun w' hb => by
    have q1 := HBX.out.below hb (by omega)
    have q3 : Below w.heap.size w w' := hbW.trans (hb.mono (by omega))
    exact ⟨q1, hs.on q3, q1.lt, q3⟩)
  have HB : Hid (Below (R + 1) W W) := Lib.hid (Below.refl _ _)
  have HW := Lib.hid hW
  have HRR := Lib.hid hR
  clear hW hR hbW hs
  go_enter Tryd.func20, Tryd.ntmps20
  go_wp2_with (first | (rw [← HW.out, ← HRR.out]))
  refine (IH.out _ (HM.out _ HB.out).2.1).mono ?_
  rintro e w7 ⟨rfl, hb7⟩
  have HB7 := Lib.hid (HB.out.trans (hb7.mono (HM.out _ HB.out).2.2.1))
  have bR := (HM.out _ HB7.out).1
  have HE := Lib.hid (no_end (j := j) HRR.out bR (HM.out _ HB7.out).2.2.2)
  have r0 := bR.cell 0
  have r1 := bR.cell 1
  have r2 := bR.cell 2
  have r3 := bR.cell 3
  have r4 := bR.cell 4
  have g0 := bR.frozen 0
  have g1 := bR.frozen 1
  have g2 := bR.frozen 2
  have g3 := bR.frozen 3
  have g4 := bR.frozen 4
  simp only [List.getElem?_toArray, List.getElem?_cons_zero, List.getElem?_cons_succ] at r0 r1 r2 r3 r4
  clear bR hb7
  go_wp2_with (fail)
  refine bodyPost_ret (node_ret3 rfl rfl rfl rfl HE.out.1) rfl ?_
  rw [HP.out]
  exact HE.out.2
set_option maxRecDepth 100000 in
set_option maxHeartbeats 4000000 in
theorem lev_fac {l : List Tk} {v : Value} {i : Int} {t : Nat} {w : World} (hs : Src l v w) (h0 : -9223372036854775808 ≤ i) (h1 : i ≤ 9223372036854775807) (ht0 : 1 ≤ t) {j : Int} {u : NT} (ht : 5 < t) (ih : ∀ w', Src l v w' → Calls Tryd.prog 35 #[v, .int .i64 i] w' (Told (.node u j) w')) :
    Calls Tryd.prog 20 #[v, .int .i64 i, .int .i64 t] w (Told (.node u j) w) := by
  obtain ⟨P, hP⟩ : ∃ P, P = Told (.node u j) w := ⟨_, rfl⟩
  rw [← hP]
  have HP := Lib.hid hP
  have IH := Lib.hid ih
  clear hP ih
  have ht5 : (5 : Int) < (t : Int) := by omega
  have hL := hs.len
  obtain ⟨R, hR⟩ : ∃ R, R = w.heap.size := ⟨_, rfl⟩
  obtain ⟨W, hW⟩ : ∃ W, W = w.alloc (.cells #[.int .i64 0, .int .i64 0, .int .i64 0, .string ⟨#[]⟩, .slice none 0 0] NodeT) := ⟨_, rfl⟩
  have hbW : Below w.heap.size w W := by rw [hW]; exact (Below.refl _ _).alloc (Nat.le_refl _) _
  have HBX : Hid (Box W R NodeT #[.int .i64 0, .int .i64 0, .int .i64 0, .string ⟨#[]⟩, .slice none 0 0]) := Lib.hid (by rw [hW]; exact Box.new _ _ _ _ hR)
  have HM : Hid (∀ w', Below (R + 1) W w' → Box w' R NodeT #[.int .i64 0, .int .i64 0, .int .i64 0, .string ⟨#[]⟩, .slice none 0 0] ∧ Src l v w' ∧ R + 1 ≤ w'.heap.size ∧ Below w.heap.size w w') := Lib.hid (fun w' hb => by
    have q1 := HBX.out.below hb (by omega)
    have q3 : Below w.heap.size w w' := hbW.trans (hb.mono (by omega))
    exact ⟨q1, hs.on q3, q1.lt, q3⟩)
  have HB : Hid (Below (R + 1) W W) := Lib.hid (Below.refl _ _)
  have HW := Lib.hid hW
  have HRR := Lib.hid hR
  clear hW hR hbW hs
  go_enter Tryd.func20, Tryd.ntmps20
  go_wp2_with (first | (rw [← HW.out, ← HRR.out]))
  refine (IH.out _ (HM.out _ HB.out).2.1).mono ?_
  rintro e w7 ⟨su, rfl, hk7, hd7, hb7⟩
  obtain ⟨A, c, rfl, _⟩ := hk7.form
  have HB7 := Lib.hid (HB.out.trans (hb7.mono (HM.out _ HB.out).2.2.1))
  have bR := (HM.out _ HB7.out).1
  have hrow : nt.Kids (fun b => w.heap.size < b) w7 u.kids (.slice A u.kids.length c) := hk7.mono fun b hb => by have h2 := (HM.out _ HB.out).2.2.1; have := HRR.out; omega
  have HE := Lib.hid (node_end (j := j) (t := u) HRR.out bR hd7 hrow (HM.out _ HB7.out).2.2.2)
  clear hrow hk7 hd7
  have r0 := bR.cell 0
  have r1 := bR.cell 1
  have r2 := bR.cell 2
  have r3 := bR.cell 3
  have r4 := bR.cell 4
  have g0 := bR.frozen 0
  have g1 := bR.frozen 1
  have g2 := bR.frozen 2
  have g3 := bR.frozen 3
  have g4 := bR.frozen 4
  simp only [List.getElem?_toArray, List.getElem?_cons_zero, List.getElem?_cons_succ] at r0 r1 r2 r3 r4
  clear bR hb7
  go_wp2_with (fail)
  refine bodyPost_ret (node_ret3 rfl rfl rfl rfl HE.out.1) rfl ?_
  rw [HP.out]
  exact HE.out.2
set_option maxRecDepth 100000 in
set_option maxHeartbeats 4000000 in
theorem lev_no {l : List Tk} {v : Value} {i : Int} {t : Nat} {w : World} (hs : Src l v w) (h0 : -9223372036854775808 ≤ i) (h1 : i ≤ 9223372036854775807) (ht0 : 1 ≤ t) {j : Int} (ht : t ≤ 5) (ih : ∀ w', Src l v w' → Calls Tryd.prog 20 #[v, .int .i64 i, .int .i64 ((t : Int) + 1)] w' (Told (.no j) w')) :
    Calls Tryd.prog 20 #[v, .int .i64 i, .int .i64 t] w (Told (.no j) w) := by
  obtain ⟨P, hP⟩ : ∃ P, P = Told (.no j) w := ⟨_, rfl⟩
  rw [← hP]
  have HP := Lib.hid hP
  have IH := Lib.hid ih
  clear hP ih
  have ht5 : decide ((5 : Int) < (t : Int)) = false := by rw [decide_eq_false_iff_not]; omega
  have hL := hs.len
  obtain ⟨R, hR⟩ : ∃ R, R = w.heap.size := ⟨_, rfl⟩
  obtain ⟨W, hW⟩ : ∃ W, W = w.alloc (.cells #[.int .i64 0, .int .i64 0, .int .i64 0, .string ⟨#[]⟩, .slice none 0 0] NodeT) := ⟨_, rfl⟩
  have hbW : Below w.heap.size w W := by rw [hW]; exact (Below.refl _ _).alloc (Nat.le_refl _) _
  have HBX : Hid (Box W R NodeT #[.int .i64 0, .int .i64 0, .int .i64 0, .string ⟨#[]⟩, .slice none 0 0]) := Lib.hid (by rw [hW]; exact Box.new _ _ _ _ hR)
  have HM : Hid (∀ w', Below (R + 1) W w' → Box w' R NodeT #[.int .i64 0, .int .i64 0, .int .i64 0, .string ⟨#[]⟩, .slice none 0 0] ∧ Src l v w' ∧ R + 1 ≤ w'.heap.size ∧ Below w.heap.size w w') := Lib.hid (fun w' hb => by
    have q1 := HBX.out.below hb (by omega)
    have q3 : Below w.heap.size w w' := hbW.trans (hb.mono (by omega))
    exact ⟨q1, hs.on q3, q1.lt, q3⟩)
  have HB : Hid (Below (R + 1) W W) := Lib.hid (Below.refl _ _)
  have HW := Lib.hid hW
  have HRR := Lib.hid hR
  clear hW hR hbW hs
  go_enter Tryd.func20, Tryd.ntmps20
  go_wp2_with (first | (rw [← HW.out, ← HRR.out]))
  refine (IH.out _ (HM.out _ HB.out).2.1).mono ?_
  rintro e w7 ⟨rfl, hb7⟩
  have HB7 := Lib.hid (HB.out.trans (hb7.mono (HM.out _ HB.out).2.2.1))
  obtain ⟨V, hV⟩ : ∃ V, V = w7.alloc (.cells #[.int .i64 0, .int .i64 0, .int .i64 0, .string ⟨#[]⟩, .slice none 0 0] NodeT) := ⟨_, rfl⟩
  obtain ⟨O, hO⟩ : ∃ O, O = w7.heap.size := ⟨_, rfl⟩
  have hRO : R + 1 ≤ O := by rw [hO]; exact (HM.out _ HB7.out).2.2.1
  have hbV : Below (R + 1) W V := by rw [hV]; exact HB7.out.alloc (HM.out _ HB7.out).2.2.1 _
  have bO : Box V O NodeT #[.int .i64 0, .int .i64 0, .int .i64 0, .string ⟨#[]⟩, .slice none 0 0] := by rw [hV]; exact Box.new _ _ _ _ hO
  have bR := (HM.out _ hbV).1
  have ne3 : ¬ R = O := by omega
  have ne4 : ¬ O = R := fun e => ne3 e.symm
  have HBU : Hid (Below (R + 1) W (((((V.setCell ⟨O, 0, none⟩ (.int .i64 0)).setCell ⟨O, 1, none⟩ (.int .i64 0)).setCell ⟨O, 2, none⟩ (.int .i64 0)).setCell ⟨O, 3, none⟩ (.string ⟨#[]⟩)).setCell ⟨O, 4, none⟩ (.slice none 0 0))) := Lib.hid (below_five hbV hRO _ _ _ _ _)
  have HE := Lib.hid (no_end (j := j) HRR.out (HM.out _ HBU.out).1 (HM.out _ HBU.out).2.2.2)
  have r0 := bR.cell 0
  have r1 := bR.cell 1
  have r2 := bR.cell 2
  have r3 := bR.cell 3
  have r4 := bR.cell 4
  have g0 := bR.frozen 0
  have g1 := bR.frozen 1
  have g2 := bR.frozen 2
  have g3 := bR.frozen 3
  have g4 := bR.frozen 4
  simp only [List.getElem?_toArray, List.getElem?_cons_zero, List.getElem?_cons_succ] at r0 r1 r2 r3 r4
  have o0 := bO.cell 0
  have o1 := bO.cell 1
  have o2 := bO.cell 2
  have o3 := bO.cell 3
  have o4 := bO.cell 4
  have og0 := bO.frozen 0
  have og1 := bO.frozen 1
  have og2 := bO.frozen 2
  have og3 := bO.frozen 3
  have og4 := bO.frozen 4
  simp only [List.getElem?_toArray, List.getElem?_cons_zero, List.getElem?_cons_succ] at o0 o1 o2 o3 o4
  have HV := Lib.hid hV
  have HO := Lib.hid hO
  clear hV hO hRO hbV bO bR hb7
  go_wp2_with (first | (rw [← HV.out, ← HO.out]))
  refine bodyPost_ret (node_ret3 rfl rfl rfl rfl HE.out.1) rfl ?_
  rw [HP.out]
  exact HE.out.2
def LevRel (l : List Tk) (r : Res) (f t R L : Nat) (W : World) (jv : Value) (wr : World) : Prop :=
  ∃ (u : NT) (j : Int) (g : Nat) (s : Value), g ≤ f ∧ jv = .int .i64 j ∧ 0 ≤ j ∧ j ≤ l.length ∧ Hid (run l g (.loop t u) j = some r) ∧ Hid (Box wr L NodeT #[.int .i64 u.kind, .int .i64 u.at_, .int .i64 u.num, .string ⟨u.name.toArray⟩, s]) ∧ Hid (nt.Kids (fun b => R < b ∧ b ≠ L) wr u.kids s) ∧ Hid (Hd u) ∧ Hid (Below (R + 1) W wr)
set_option maxRecDepth 100000 in
set_option maxHeartbeats 4000000 in
theorem lev_node {l : List Tk} {v : Value} {i : Int} {t : Nat} {w : World} (hs : Src l v w) (h0 : -9223372036854775808 ≤ i) (h1 : i ≤ 9223372036854775807) (ht0 : 1 ≤ t) {f : Nat} {j : Int} {u : NT} {r : Res} (ht : t ≤ 5) (ih : ∀ w', Src l v w' → Calls Tryd.prog 20 #[v, .int .i64 i, .int .i64 ((t : Int) + 1)] w' (Told (.node u j) w')) (hj0 : 0 ≤ j) (hj1 : j ≤ l.length) (hr : run l f (.loop t u) j = some r)
    (ihl : ∀ (g : Nat), g ≤ f → ∀ (i : Int) (w : World) (r : Res), Src l v w → -9223372036854775808 ≤ i → i ≤ 9223372036854775807 → run l g (.lev (t + 1)) i = some r → Calls Tryd.prog 20 #[v, .int .i64 i, .int .i64 ((t : Int) + 1)] w (Told r w)) :
    Calls Tryd.prog 20 #[v, .int .i64 i, .int .i64 t] w (Told r w) := by
  obtain ⟨P, hP⟩ : ∃ P, P = Told r w := ⟨_, rfl⟩
  rw [← hP]
  have HP := Lib.hid hP
  have IH := Lib.hid ih
  clear hP ih
  have ht5 : decide ((5 : Int) < (t : Int)) = false := by rw [decide_eq_false_iff_not]; omega
  have IHL := Lib.hid ihl
  have HR0 := Lib.hid hr
  clear ihl hr
  have hLn := hs.len
  obtain ⟨R, hR⟩ : ∃ R, R = w.heap.size := ⟨_, rfl⟩
  obtain ⟨W, hW⟩ : ∃ W, W = w.alloc (.cells #[.int .i64 0, .int .i64 0, .int .i64 0, .string ⟨#[]⟩, .slice none 0 0] NodeT) := ⟨_, rfl⟩
  have hbW : Below w.heap.size w W := by rw [hW]; exact (Below.refl _ _).alloc (Nat.le_refl _) _
  have HBX : Hid (Box W R NodeT #[.int .i64 0, .int .i64 0, .int .i64 0, .string ⟨#[]⟩, .slice none 0 0]) := Lib.hid (by rw [hW]; exact Box.new _ _ _ _ hR)
  have HM : Hid (∀ w', Below (R + 1) W w' → Box w' R NodeT #[.int .i64 0, .int .i64 0, .int .i64 0, .string ⟨#[]⟩, .slice none 0 0] ∧ Src l v w' ∧ R + 1 ≤ w'.heap.size ∧ Below w.heap.size w w') := Lib.hid (fun w' hb => by
    have q1 := HBX.out.below hb (by omega)
    have q3 : Below w.heap.size w w' := hbW.trans (hb.mono (by omega))
    exact ⟨q1, hs.on q3, q1.lt, q3⟩)
  have HB : Hid (Below (R + 1) W W) := Lib.hid (Below.refl _ _)
  have HW := Lib.hid hW
  have HRR := Lib.hid hR
  clear hW hR hbW hs
  go_enter Tryd.func20, Tryd.ntmps20
  go_wp2_with (first | (rw [← HW.out, ← HRR.out]))
  refine (IH.out _ (HM.out _ HB.out).2.1).mono ?_
  rintro e w7 ⟨su, rfl, hk7, hd7, hb7⟩
  obtain ⟨A, c, rfl, _⟩ := hk7.form
  have HB7 := Lib.hid (HB.out.trans (hb7.mono (HM.out _ HB.out).2.2.1))
  obtain ⟨V, hV⟩ : ∃ V, V = w7.alloc (.cells #[.int .i64 0, .int .i64 0, .int .i64 0, .string ⟨#[]⟩, .slice none 0 0] NodeT) := ⟨_, rfl⟩
  obtain ⟨L, hL⟩ : ∃ L, L = w7.heap.size := ⟨_, rfl⟩
  have hRL : R + 1 ≤ L := by rw [hL]; exact (HM.out _ HB7.out).2.2.1
  have hbV : Below (R + 1) W V := by rw [hV]; exact HB7.out.alloc (HM.out _ HB7.out).2.2.1 _
  have bL : Box V L NodeT #[.int .i64 0, .int .i64 0, .int .i64 0, .string ⟨#[]⟩, .slice none 0 0] := by rw [hV]; exact Box.new _ _ _ _ hL
  have HKU : Hid (nt.Kids (fun b => R < b ∧ b ≠ L) (((((V.setCell ⟨L, 0, none⟩ (.int .i64 u.kind)).setCell ⟨L, 1, none⟩ (.int .i64 u.at_)).setCell ⟨L, 2, none⟩ (.int .i64 u.num)).setCell ⟨L, 3, none⟩ (.string ⟨u.name.toArray⟩)).setCell ⟨L, 4, none⟩ (.slice A u.kids.length c)) u.kids (.slice A u.kids.length c)) := Lib.hid (by
    have hk8 : nt.Kids (fun b => R < b ∧ b ≠ L) w7 u.kids (.slice A u.kids.length c) := (hk7.lt).mono fun b hb => ⟨by have h1 := hb.1; have h2 := (HM.out _ HB.out).2.2.1; omega, by have := hb.2; omega⟩
    have hk9 : nt.Kids (fun b => R < b ∧ b ≠ L) V u.kids (.slice A u.kids.length c) := by rw [hV]; exact hk8.below ((Below.refl _ _).alloc (Nat.le_refl _) _)
    exact kids_five hk9 (fun b hb => hb.2) _ _ _ _ _)
  have HBU : Hid (Below (R + 1) W (((((V.setCell ⟨L, 0, none⟩ (.int .i64 u.kind)).setCell ⟨L, 1, none⟩ (.int .i64 u.at_)).setCell ⟨L, 2, none⟩ (.int .i64 u.num)).setCell ⟨L, 3, none⟩ (.string ⟨u.name.toArray⟩)).setCell ⟨L, 4, none⟩ (.slice A u.kids.length c))) := Lib.hid (below_five hbV hRL _ _ _ _ _)
  have HBOU : Hid (Box (((((V.setCell ⟨L, 0, none⟩ (.int .i64 u.kind)).setCell ⟨L, 1, none⟩ (.int .i64 u.at_)).setCell ⟨L, 2, none⟩ (.int .i64 u.num)).setCell ⟨L, 3, none⟩ (.string ⟨u.name.toArray⟩)).setCell ⟨L, 4, none⟩ (.slice A u.kids.length c)) L NodeT #[.int .i64 u.kind, .int .i64 u.at_, .int .i64 u.num, .string ⟨u.name.toArray⟩, .slice A u.kids.length c]) := Lib.hid (box_five bL _ _ _ _ _)
  have o0 := bL.cell 0
  have o1 := bL.cell 1
  have o2 := bL.cell 2
  have o3 := bL.cell 3
  have o4 := bL.cell 4
  have og0 := bL.frozen 0
  have og1 := bL.frozen 1
  have og2 := bL.frozen 2
  have og3 := bL.frozen 3
  have og4 := bL.frozen 4
  simp only [List.getElem?_toArray, List.getElem?_cons_zero, List.getElem?_cons_succ] at o0 o1 o2 o3 o4
  have HV := Lib.hid hV
  have HLL := Lib.hid hL
  have HRL := Lib.hid hRL
  have HD := Lib.hid hd7
  clear hV hL hRL hbV bL hb7 hk7 hd7
  go_wp2_with (first | (rw [← HV.out, ← HLL.out]))
  obtain ⟨U, hU⟩ : ∃ U, U = ((((V.setCell ⟨L, 0, none⟩ (.int .i64 u.kind)).setCell ⟨L, 1, none⟩ (.int .i64 u.at_)).setCell ⟨L, 2, none⟩ (.int .i64 u.num)).setCell ⟨L, 3, none⟩ (.string ⟨u.name.toArray⟩)).setCell ⟨L, 4, none⟩ (.slice A u.kids.length c) := ⟨_, rfl⟩
  rw [← hU] at HKU HBU HBOU ⊢
  clear hU o0 o1 o2 o3 o4 og0 og1 og2 og3 og4 HV HLL
  go_loopw [10] (fun jv wr => LevRel l r f t R L W jv wr) (fun jv _ => l.length + 1 - (intOf jv).toNat)
  case atStart => unfold LevRel; exact ⟨u, j, f, _, Nat.le_refl _, rfl, hj0, hj1, HR0, HBOU, HKU, HD, HBU⟩
  case round =>
    clear HKU HBU HBOU HD HR0 hj0 hj1 h0 h1 IH HB HB7
    unfold LevRel at hrel
    obtain ⟨u, j, g, su, hg, rfl, hj0, hj1, hrun, hbL, hku, hdu, hbw⟩ := hrel
    cases g with
    | zero => have := hrun.out; simp [run] at this
    | succ g =>
    have hr := hrun.out
    rw [run_succ] at hr
    simp only [stepR] at hr
    clear hrun
    obtain ⟨A, c, rfl, _⟩ := hku.out.form
    have hsw := (HM.out _ hbw.out).2.2.1
    have HSG := Lib.hid (sign_tok13 l v j t wr _ (HM.out _ hbw.out).2.1.lies hLn (by unfold I64; omega))
    have hsin := signP_in (l := l) (i := j) (lv := t)
    obtain ⟨q, hq⟩ : ∃ q, q = signP l j t := ⟨_, rfl⟩
    rw [← hq] at hr HSG hsin
    clear hq
    have HRN := Lib.hid hr
    clear hr
    go_wp2_with (fail)
    refine HSG.out.mono ?_
    rintro e w2 ⟨rfl, hb2⟩
    have HB2 := Lib.hid (hbw.out.trans (hb2.mono hsw))
    have HKU := Lib.hid (hku.out.below hb2)
    have bL := hbL.out.on hb2
    have hLw := bL.lt
    have HLW := Lib.hid hLw
    have o0 := bL.cell 0
    have o1 := bL.cell 1
    have o2 := bL.cell 2
    have o3 := bL.cell 3
    have o4 := bL.cell 4
    have og0 := bL.frozen 0
    have og1 := bL.frozen 1
    have og2 := bL.frozen 2
    have og3 := bL.frozen 3
    have og4 := bL.frozen 4
    simp only [List.getElem?_toArray, List.getElem?_cons_zero, List.getElem?_cons_succ] at o0 o1 o2 o3 o4
    have HBL := Lib.hid bL
    clear hb2 HSG hku hbL hbw hsw bL hLw
    have ne3 : ¬ R = L := by have := HRL.out; omega
    have ne4 : ¬ L = R := fun e => ne3 e.symm
    by_cases hz : q = 0
    · subst hz
      have hr := HRN.out
      rw [if_pos rfl] at hr
      cases hr
      have bR := (HM.out _ HB2.out).1
      have hrow : nt.Kids (fun b => w.heap.size < b) w2 u.kids (.slice A u.kids.length c) := HKU.out.mono fun b hb => by have := HRR.out; have := hb.1; omega
      have HE := Lib.hid (node_end (j := j) (t := u) HRR.out bR hdu.out hrow (HM.out _ HB2.out).2.2.2)
      have r0 := bR.cell 0
      have r1 := bR.cell 1
      have r2 := bR.cell 2
      have r3 := bR.cell 3
      have r4 := bR.cell 4
      have g0 := bR.frozen 0
      have g1 := bR.frozen 1
      have g2 := bR.frozen 2
      have g3 := bR.frozen 3
      have g4 := bR.frozen 4
      simp only [List.getElem?_toArray, List.getElem?_cons_zero, List.getElem?_cons_succ] at r0 r1 r2 r3 r4
      clear bR hrow
      go_wp2_with (fail)
      refine bodyPost_ret (node_ret3 rfl rfl rfl rfl HE.out.1) rfl ?_
      rw [HP.out]
      exact HE.out.2
    have hq1 : (q == 0) = false := beq_eq_false_iff_ne.2 hz
    obtain ⟨⟨_, hjl⟩, hq0, hq14, _⟩ := hsin hz
    have hr := HRN.out
    rw [if_neg hz] at hr
    clear HRN hsin
    cases hq : run l g (.lev (t + 1)) (j + 1) with
    | none => rw [hq] at hr; simp [andN] at hr
    | some r2 =>
    rw [hq] at hr
    have HX := Lib.hid (IHL.out g (by omega) (j + 1) w2 r2 (HM.out _ HB2.out).2.1 (by omega) (by omega) hq)
    have hen := run_ends l _ _ _ _ hq
    clear hq
    cases r2 with
    | list _ _ => simp [andN] at hr
    | no k =>
      simp only [andN] at hr
      cases hr
      clear hen
      go_wp2_with (fail)
      refine HX.out.mono ?_
      rintro e w7 ⟨rfl, hb7⟩
      have HB7 := Lib.hid (HB2.out.trans (hb7.mono (HM.out _ HB2.out).2.2.1))
      obtain ⟨V, hV⟩ : ∃ V, V = w7.alloc (.cells #[.int .i64 0, .int .i64 0, .int .i64 0, .string ⟨#[]⟩, .slice none 0 0] NodeT) := ⟨_, rfl⟩
      obtain ⟨O, hO⟩ : ∃ O, O = w7.heap.size := ⟨_, rfl⟩
      have hRO : R + 1 ≤ O := by rw [hO]; exact (HM.out _ HB7.out).2.2.1
      have hbV : Below (R + 1) W V := by rw [hV]; exact HB7.out.alloc (HM.out _ HB7.out).2.2.1 _
      have bO : Box V O NodeT #[.int .i64 0, .int .i64 0, .int .i64 0, .string ⟨#[]⟩, .slice none 0 0] := by rw [hV]; exact Box.new _ _ _ _ hO
      have bR := (HM.out _ hbV).1
      have ne5 : ¬ R = O := by omega
      have ne6 : ¬ O = R := fun e => ne5 e.symm
      have HBU : Hid (Below (R + 1) W (((((V.setCell ⟨O, 0, none⟩ (.int .i64 0)).setCell ⟨O, 1, none⟩ (.int .i64 0)).setCell ⟨O, 2, none⟩ (.int .i64 0)).setCell ⟨O, 3, none⟩ (.string ⟨#[]⟩)).setCell ⟨O, 4, none⟩ (.slice none 0 0))) := Lib.hid (below_five hbV hRO _ _ _ _ _)
      have HE := Lib.hid (no_end (j := k) HRR.out (HM.out _ HBU.out).1 (HM.out _ HBU.out).2.2.2)
      clear o0 o1 o2 o3 o4 og0 og1 og2 og3 og4
      have r0 := bR.cell 0
      have r1 := bR.cell 1
      have r2 := bR.cell 2
      have r3 := bR.cell 3
      have r4 := bR.cell 4
      have g0 := bR.frozen 0
      have g1 := bR.frozen 1
      have g2 := bR.frozen 2
      have g3 := bR.frozen 3
      have g4 := bR.frozen 4
      simp only [List.getElem?_toArray, List.getElem?_cons_zero, List.getElem?_cons_succ] at r0 r1 r2 r3 r4
      have o0 := bO.cell 0
      have o1 := bO.cell 1
      have o2 := bO.cell 2
      have o3 := bO.cell 3
      have o4 := bO.cell 4
      have og0 := bO.frozen 0
      have og1 := bO.frozen 1
      have og2 := bO.frozen 2
      have og3 := bO.frozen 3
      have og4 := bO.frozen 4
      simp only [List.getElem?_toArray, List.getElem?_cons_zero, List.getElem?_cons_succ] at o0 o1 o2 o3 o4
      have HV := Lib.hid hV
      have HO := Lib.hid hO
      clear hV hO hRO hbV bO bR hb7 HX
      go_wp2_with (first | (rw [← HV.out, ← HO.out]))
      refine bodyPost_ret (node_ret3 rfl rfl rfl rfl HE.out.1) rfl ?_
      rw [HP.out]
      exact HE.out.2
    | node n k =>
      simp only [andN] at hr
      have hend : j < k ∧ k ≤ (l.length : Int) := by
        have := hen
        simp [Ends, Mode.strict, Mode.lists] at this
        omega
      have HRN := Lib.hid hr
      clear hr hen
      go_wp2_with (fail)
      refine HX.out.mono ?_
      rintro e w7 ⟨sn, rfl, hk7, hd7, hb7⟩
      obtain ⟨B, d, rfl, _⟩ := hk7.form
      have HB7 := Lib.hid (HB2.out.trans (hb7.mono (HM.out _ HB2.out).2.2.1))
      obtain ⟨V, hV⟩ : ∃ V, V = w7.alloc (.cells #[.int .i64 0, .int .i64 0, .int .i64 0, .string ⟨#[]⟩, .slice none 0 0] NodeT) := ⟨_, rfl⟩
      obtain ⟨O, hO⟩ : ∃ O, O = w7.heap.size := ⟨_, rfl⟩
      have hRO : R + 1 ≤ O := by rw [hO]; exact (HM.out _ HB7.out).2.2.1
      have hbV : Below (R + 1) W V := by rw [hV]; exact HB7.out.alloc (HM.out _ HB7.out).2.2.1 _
      have bO : Box V O NodeT #[.int .i64 0, .int .i64 0, .int .i64 0, .string ⟨#[]⟩, .slice none 0 0] := by rw [hV]; exact Box.new _ _ _ _ hO
      have hLO : L < O := by have := HLW.out; have := hb7.size; omega
      have hbL7 := HBL.out.on hb7
      have hk8 : nt.Kids (fun b => R < b ∧ b ≠ L ∧ b ≠ O) (((((V.setCell ⟨O, 0, none⟩ (.int .i64 n.kind)).setCell ⟨O, 1, none⟩ (.int .i64 n.at_)).setCell ⟨O, 2, none⟩ (.int .i64 n.num)).setCell ⟨O, 3, none⟩ (.string ⟨n.name.toArray⟩)).setCell ⟨O, 4, none⟩ (.slice B n.kids.length d)) n.kids (.slice B n.kids.length d) := by
        have hk8 : nt.Kids (fun b => R < b ∧ b ≠ L ∧ b ≠ O) w7 n.kids (.slice B n.kids.length d) := (hk7.lt).mono fun b hb => ⟨by have h1 := hb.1; have h2 := HLW.out; have h3 := HRL.out; omega, by have h1 := hb.1; have h2 := HLW.out; omega, by have := hb.2; omega⟩
        have hk9 : nt.Kids (fun b => R < b ∧ b ≠ L ∧ b ≠ O) V n.kids (.slice B n.kids.length d) := by rw [hV]; exact hk8.below ((Below.refl _ _).alloc (Nat.le_refl _) _)
        exact kids_five hk9 (fun b hb => hb.2.2) _ _ _ _ _
      have hku : nt.Kids (fun b => R < b ∧ b ≠ L ∧ b ≠ O) (((((V.setCell ⟨O, 0, none⟩ (.int .i64 n.kind)).setCell ⟨O, 1, none⟩ (.int .i64 n.at_)).setCell ⟨O, 2, none⟩ (.int .i64 n.num)).setCell ⟨O, 3, none⟩ (.string ⟨n.name.toArray⟩)).setCell ⟨O, 4, none⟩ (.slice B n.kids.length d)) u.kids (.slice A u.kids.length c) := by
        have hk8 : nt.Kids (fun b => R < b ∧ b ≠ L ∧ b ≠ O) w7 u.kids (.slice A u.kids.length c) := ((HKU.out.lt).mono fun b hb => ⟨hb.1.1, hb.1.2, by have := hb.2; have := hb7.size; omega⟩ : nt.Kids (fun b => R < b ∧ b ≠ L ∧ b ≠ O) w2 u.kids (.slice A u.kids.length c)).below hb7
        have hk9 : nt.Kids (fun b => R < b ∧ b ≠ L ∧ b ≠ O) V u.kids (.slice A u.kids.length c) := by rw [hV]; exact hk8.below ((Below.refl _ _).alloc (Nat.le_refl _) _)
        exact kids_five hk9 (fun b hb => hb.2.2) _ _ _ _ _
      have hbU : Below (R + 1) W (((((V.setCell ⟨O, 0, none⟩ (.int .i64 n.kind)).setCell ⟨O, 1, none⟩ (.int .i64 n.at_)).setCell ⟨O, 2, none⟩ (.int .i64 n.num)).setCell ⟨O, 3, none⟩ (.string ⟨n.name.toArray⟩)).setCell ⟨O, 4, none⟩ (.slice B n.kids.length d)) := below_five hbV hRO _ _ _ _ _
      have bOU := box_five bO (.int .i64 n.kind) (.int .i64 n.at_) (.int .i64 n.num) (.string ⟨n.name.toArray⟩) (.slice B n.kids.length d)
      have hbLV : Box V L NodeT #[.int .i64 u.kind, .int .i64 u.at_, .int .i64 u.num, .string ⟨u.name.toArray⟩, .slice A u.kids.length c] := by rw [hV]; exact hbL7.alloc _
      have bLU := ((((hbLV.far (p := ⟨O, 0, none⟩) (by show L ≠ O; omega) (.int .i64 n.kind)).far (p := ⟨O, 1, none⟩) (by show L ≠ O; omega) (.int .i64 n.at_)).far (p := ⟨O, 2, none⟩) (by show L ≠ O; omega) (.int .i64 n.num)).far (p := ⟨O, 3, none⟩) (by show L ≠ O; omega) (.string ⟨n.name.toArray⟩)).far (p := ⟨O, 4, none⟩) (by show L ≠ O; omega) (.slice B n.kids.length d)
      change Box (((((V.setCell ⟨O, 0, none⟩ (.int .i64 n.kind)).setCell ⟨O, 1, none⟩ (.int .i64 n.at_)).setCell ⟨O, 2, none⟩ (.int .i64 n.num)).setCell ⟨O, 3, none⟩ (.string ⟨n.name.toArray⟩)).setCell ⟨O, 4, none⟩ (.slice B n.kids.length d)) O NodeT _ at bOU
      clear o0 o1 o2 o3 o4 og0 og1 og2 og3 og4
      have o0 := bO.cell 0
      have o1 := bO.cell 1
      have o2 := bO.cell 2
      have o3 := bO.cell 3
      have o4 := bO.cell 4
      have og0 := bO.frozen 0
      have og1 := bO.frozen 1
      have og2 := bO.frozen 2
      have og3 := bO.frozen 3
      have og4 := bO.frozen 4
      simp only [List.getElem?_toArray, List.getElem?_cons_zero, List.getElem?_cons_succ] at o0 o1 o2 o3 o4
      have HV := Lib.hid hV
      have HO := Lib.hid hO
      clear hV hO hb7 hk7 hbL7 hbLV HX HBL HKU
      go_wp2_with (first | (rw [← HV.out, ← HO.out]))
      obtain ⟨U, hU⟩ : ∃ U, U = ((((V.setCell ⟨O, 0, none⟩ (.int .i64 n.kind)).setCell ⟨O, 1, none⟩ (.int .i64 n.at_)).setCell ⟨O, 2, none⟩ (.int .i64 n.num)).setCell ⟨O, 3, none⟩ (.string ⟨n.name.toArray⟩)).setCell ⟨O, 4, none⟩ (.slice B n.kids.length d) := ⟨_, rfl⟩
      rw [← hU] at hk8 hku hbU bOU bLU ⊢
      clear hU o0 o1 o2 o3 o4 og0 og1 og2 og3 og4 HV HO bO hbV hRO
      have hsU : R + 1 ≤ U.heap.size := (HM.out _ hbU).2.2.1
      have hLU := bLU.lt
      have HBLU : Hid (∀ w', Below U.heap.size U w' → Box w' L NodeT #[.int .i64 u.kind, .int .i64 u.at_, .int .i64 u.num, .string ⟨u.name.toArray⟩, .slice A u.kids.length c]) := Lib.hid (fun w' hb => bLU.on hb)
      have HCO : Hid (∀ w', Below U.heap.size U w' → w'.cell? ⟨L, 0, none⟩ = some (.int .i64 u.kind) ∧ w'.cell? ⟨L, 1, none⟩ = some (.int .i64 u.at_) ∧ w'.cell? ⟨L, 2, none⟩ = some (.int .i64 u.num) ∧ w'.cell? ⟨L, 3, none⟩ = some (.string ⟨u.name.toArray⟩) ∧ w'.cell? ⟨L, 4, none⟩ = some (.slice A u.kids.length c) ∧ w'.cell? ⟨O, 0, none⟩ = some (.int .i64 n.kind) ∧ w'.cell? ⟨O, 1, none⟩ = some (.int .i64 n.at_) ∧ w'.cell? ⟨O, 2, none⟩ = some (.int .i64 n.num) ∧ w'.cell? ⟨O, 3, none⟩ = some (.string ⟨n.name.toArray⟩) ∧ w'.cell? ⟨O, 4, none⟩ = some (.slice B n.kids.length d)) := Lib.hid (fun w' hb => by
        have b := bLU.on hb
        have b2 := bOU.on hb
        exact ⟨b.cell 0, b.cell 1, b.cell 2, b.cell 3, b.cell 4, b2.cell 0, b2.cell 1, b2.cell 2, b2.cell 3, b2.cell 4⟩)
      have HBU := Lib.hid hbU
      have HKN := Lib.hid (hk8.mono (G' := fun b => R < b ∧ b ≠ L) fun b hb => ⟨hb.1, hb.2.1⟩)
      have HKU := Lib.hid (hku.mono (G' := fun b => R < b ∧ b ≠ L) fun b hb => ⟨hb.1, hb.2.1⟩)
      have HDN := Lib.hid hd7
      have HGN : Hid (∀ N, U.heap.size ≤ N → R < N ∧ N ≠ L) := Lib.hid (fun N h => ⟨by omega, by omega⟩)
      have hFj := (HM.out _ hbU).2.1.fair j
      obtain ⟨tk, ht⟩ : ∃ tk, tk = tokAt l j := ⟨_, rfl⟩
      have HTOK : Hid (∀ w', Below U.heap.size U w' → Calls Tryd.prog 26 #[v, .int .i64 j] w' fun e w2 => e = .returned (tkA tk) ∧ Below U.heap.size U w2 ∧ Below w'.heap.size w' w2) := Lib.hid (fun w' hb => by
        have q := (HM.out _ (HBU.out.trans (hb.mono hsU)))
        refine (rtok_any l v j w' _ q.2.1.lies hLn (by unfold I64; omega)).mono ?_
        rintro e w2 ⟨q1, q2⟩
        rw [ht]
        exact ⟨q1, hb.trans (q2.mono hb.size), q2⟩)
      rw [← ht] at HRN hFj
      have HFA : Hid (I64 tk.at_) := Lib.hid hFj.1
      clear ht hFj
      obtain ⟨kk, a, nn, ss⟩ := tk
      simp only [tkA] at HTOK HRN HFA
      have hfl := fun w' => tok_field kk a nn ss w'
      have HQ : Hid (I64 q) := Lib.hid (by unfold I64; omega)
      have HZ : Hid (∀ X N, Below U.heap.size U X → nt.Kids (fun b => R < b ∧ b ≠ L) X [u, n] (.slice (some ⟨N, 0, none⟩) 2 2) →
          Box (five X L (.int .i64 16) (.int .i64 a) (.int .i64 q) (.string ⟨#[]⟩) (.slice (some ⟨N, 0, none⟩) 2 2)) L NodeT #[.int .i64 16, .int .i64 a, .int .i64 q, .string ⟨#[]⟩, .slice (some ⟨N, 0, none⟩) 2 2] ∧
          nt.Kids (fun b => R < b ∧ b ≠ L) (five X L (.int .i64 16) (.int .i64 a) (.int .i64 q) (.string ⟨#[]⟩) (.slice (some ⟨N, 0, none⟩) 2 2)) [u, n] (.slice (some ⟨N, 0, none⟩) 2 2) ∧
          Below (R + 1) W (five X L (.int .i64 16) (.int .i64 a) (.int .i64 q) (.string ⟨#[]⟩) (.slice (some ⟨N, 0, none⟩) 2 2))) := Lib.hid (fun X N hb hk =>
        ⟨box_five (HBLU.out X hb) _ _ _ _ _, kids_five hk (fun b hb => hb.2) _ _ _ _ _, below_five (HBU.out.trans (hb.mono hsU)) HRL.out _ _ _ _ _⟩)
      have HDZ : Hid (Hd (.mk 16 a q [] [u, n])) := Lib.hid ⟨by show I64 16; unfold I64; omega, HFA.out, HQ.out, by show 0 ≤ 281474976710656; omega⟩
      clear hk8 hku hbU bOU bLU hd7 hsU hLU hLO
      refine region_held_tail (S := fun w' => w'.cell? ⟨L, 0, none⟩ = some (.int .i64 u.kind) ∧ w'.cell? ⟨L, 1, none⟩ = some (.int .i64 u.at_) ∧ w'.cell? ⟨L, 2, none⟩ = some (.int .i64 u.num) ∧ w'.cell? ⟨L, 3, none⟩ = some (.string ⟨u.name.toArray⟩) ∧ w'.cell? ⟨L, 4, none⟩ = some (.slice A u.kids.length c) ∧ w'.cell? ⟨O, 0, none⟩ = some (.int .i64 n.kind) ∧ w'.cell? ⟨O, 1, none⟩ = some (.int .i64 n.at_) ∧ w'.cell? ⟨O, 2, none⟩ = some (.int .i64 n.num) ∧ w'.cell? ⟨O, 3, none⟩ = some (.string ⟨n.name.toArray⟩) ∧ w'.cell? ⟨O, 4, none⟩ = some (.slice B n.kids.length d)) 9 rfl (by kernel_rfl) (by kernel_rfl) ?_ (fun hHeld => ?_)
      · exact HCO.out _ (Below.refl _ _).drew
      simp only [List.take_succ_cons, List.take_zero] at *
      refine wpAnyH_take (i := 0) (v := v) rfl (by kernel_rfl) (by kernel_rfl) (by kernel_rfl) (fun _ _ _ h => h) (Or.inl ⟨by rfl, fun w hSw => ?_⟩) hHeld ?_
      · (try dsimp only at hSw)
        first | go_simp | rfl
      (try simp only [Act.put, List.getElem_toArray, List.getElem_cons_zero, List.getElem_cons_succ, List.setIfInBounds_toArray, List.set_cons_zero, List.set_cons_succ])
      refine wpAnyH_take (i := 1) (v := .int .i64 j) rfl (by kernel_rfl) (by kernel_rfl) (by kernel_rfl) (fun _ _ _ h => h) (Or.inl ⟨by rfl, fun w hSw => ?_⟩) hHeld ?_
      · (try dsimp only at hSw)
        first | go_simp | rfl
      (try simp only [Act.put, List.getElem_toArray, List.getElem_cons_zero, List.getElem_cons_succ, List.setIfInBounds_toArray, List.set_cons_zero, List.set_cons_succ])
      refine wpAnyH_take (i := 4) (v := .int .i64 q) rfl (by kernel_rfl) (by kernel_rfl) (by kernel_rfl) (fun _ _ _ h => h) (Or.inl ⟨by rfl, fun w hSw => ?_⟩) hHeld ?_
      · (try dsimp only at hSw)
        first | go_simp | rfl
      (try simp only [Act.put, List.getElem_toArray, List.getElem_cons_zero, List.getElem_cons_succ, List.setIfInBounds_toArray, List.set_cons_zero, List.set_cons_succ])
      refine wpAnyH_take (i := 5) (v := .agg #[.int .i64 u.kind, .int .i64 u.at_, .int .i64 u.num, .string ⟨u.name.toArray⟩, .slice A u.kids.length c]) rfl (by kernel_rfl) (by kernel_rfl) (by kernel_rfl) (fun _ _ _ h => h) (Or.inl ⟨by rfl, fun w hSw => ?_⟩) hHeld ?_
      · (try dsimp only at hSw)
        first | go_simp | rfl
      (try simp only [Act.put, List.getElem_toArray, List.getElem_cons_zero, List.getElem_cons_succ, List.setIfInBounds_toArray, List.set_cons_zero, List.set_cons_succ])
      refine wpAnyH_take (i := 6) (v := .agg #[.int .i64 n.kind, .int .i64 n.at_, .int .i64 n.num, .string ⟨n.name.toArray⟩, .slice B n.kids.length d]) rfl (by kernel_rfl) (by kernel_rfl) (by kernel_rfl) (fun _ _ _ h => h) (Or.inl ⟨by rfl, fun w hSw => ?_⟩) hHeld ?_
      · (try dsimp only at hSw)
        first | go_simp | rfl
      (try simp only [Act.put, List.getElem_toArray, List.getElem_cons_zero, List.getElem_cons_succ, List.setIfInBounds_toArray, List.set_cons_zero, List.set_cons_succ])
      refine wpAnyH_ready (rs := [2, 7]) (by kernel_rfl) (by simp) ?_
      refine AllReadyH.cons rfl (fun K' hK' => ?_) (AllReadyH.cons rfl (fun K' hK' => ?_) AllReadyH.nil)
      · go_simp
        go_at_call 26
        refine (HTOK.out U.drew (Below.refl _ _).drew).mono ?_
        rintro e w8 ⟨rfl, hb8, _⟩
        refine hK'.out _ _ (HCO.out w8 hb8) (fun hHeld => ?_)
        clear hK' K'
        (try simp only [Act.put, List.getElem_toArray, List.getElem_cons_zero, List.getElem_cons_succ, List.setIfInBounds_toArray, List.set_cons_zero, List.set_cons_succ])
        refine wpAnyH_take (i := 3) (v := .int .i64 a) rfl (by kernel_rfl) (by kernel_rfl) (by kernel_rfl) (fun _ _ _ h => h) (Or.inl ⟨by rfl, fun w hSw => ?_⟩) hHeld ?_
        · (try dsimp only at hSw)
          first | go_simp | rfl
        (try simp only [Act.put, List.getElem_toArray, List.getElem_cons_zero, List.getElem_cons_succ, List.setIfInBounds_toArray, List.set_cons_zero, List.set_cons_succ])
        refine wpAnyH_ready (rs := [7]) (by kernel_rfl) (by simp) ?_
        refine AllReadyH.cons rfl (fun K' hK' => ?_) AllReadyH.nil
        go_simp
        obtain ⟨X, hX⟩ : ∃ X, X = w8.alloc (.cells #[.int .i64 u.kind, .int .i64 u.at_, .int .i64 u.num, .string ⟨u.name.toArray⟩, .slice A u.kids.length c, .int .i64 n.kind, .int .i64 n.at_, .int .i64 n.num, .string ⟨n.name.toArray⟩, .slice B n.kids.length d] NodeT) := ⟨_, rfl⟩
        obtain ⟨N, hN⟩ : ∃ N, N = w8.heap.size := ⟨_, rfl⟩
        have hbX : Below U.heap.size U X := by rw [hX]; exact hb8.alloc hb8.size _
        have hrow : nt.Kids (fun b => R < b ∧ b ≠ L) X [u, n] (.slice (some ⟨N, 0, none⟩) 2 2) := by rw [hX]; exact row_two hN hdu.out HDN.out (HKU.out.below hb8) (HKN.out.below hb8) (HGN.out N (by have := hb8.size; omega))
        rw [← hX, ← hN]
        refine hK'.out _ _ (HCO.out X hbX) (fun hHeld => ?_)
        clear hK' K'
        (try simp only [Act.put, List.getElem_toArray, List.getElem_cons_zero, List.getElem_cons_succ, List.setIfInBounds_toArray, List.set_cons_zero, List.set_cons_succ])
        have HZ1 := Lib.hid (HZ.out X N hbX hrow)
        have bX := HBLU.out X hbX
        have x0 := bX.cell 0
        have x1 := bX.cell 1
        have x2 := bX.cell 2
        have x3 := bX.cell 3
        have x4 := bX.cell 4
        have xg0 := bX.frozen 0
        have xg1 := bX.frozen 1
        have xg2 := bX.frozen 2
        have xg3 := bX.frozen 3
        have xg4 := bX.frozen 4
        simp only [List.getElem?_toArray, List.getElem?_cons_zero, List.getElem?_cons_succ] at x0 x1 x2 x3 x4
        clear hX hN hbX hrow bX hb8
        refine wpAnyH_take (i := 8) (v := .agg #[.int .i64 16, .int .i64 a, .int .i64 q, .string ⟨#[]⟩, .slice (some ⟨N, 0, none⟩) 2 2]) rfl (by kernel_rfl) (by kernel_rfl) (by kernel_rfl) (fun _ _ _ h => h) (Or.inl ⟨by rfl, fun w hSw => ?_⟩) hHeld ?_
        · (try dsimp only at hSw)
          first | go_simp | rfl
        (try simp only [Act.put, List.getElem_toArray, List.getElem_cons_zero, List.getElem_cons_succ, List.setIfInBounds_toArray, List.set_cons_zero, List.set_cons_succ])
        refine wpAnyH_done (by kernel_rfl) ?_ _
        simp only [withTail]
        by_cases h3 : t = 3
        · have h3t : ((t : Int) == 3) = true := by subst h3; rfl
          have hr := HRN.out
          rw [if_pos h3] at hr
          cases hr
          have bL := HZ1.out.1
          have bR := (HM.out _ HZ1.out.2.2).1
          have hrow : nt.Kids (fun b => w.heap.size < b) _ [u, n] _ := HZ1.out.2.1.mono fun b hb => by have := HRR.out; have := hb.1; omega
          have HE := Lib.hid (node_end (j := k) (t := .mk 16 a q [] [u, n]) HRR.out bR HDZ.out hrow (HM.out _ HZ1.out.2.2).2.2.2)
          have r0 := bR.cell 0
          have r1 := bR.cell 1
          have r2 := bR.cell 2
          have r3 := bR.cell 3
          have r4 := bR.cell 4
          have g0 := bR.frozen 0
          have g1 := bR.frozen 1
          have g2 := bR.frozen 2
          have g3 := bR.frozen 3
          have g4 := bR.frozen 4
          simp only [List.getElem?_toArray, List.getElem?_cons_zero, List.getElem?_cons_succ] at r0 r1 r2 r3 r4
          have z0 := bL.cell 0
          have z1 := bL.cell 1
          have z2 := bL.cell 2
          have z3 := bL.cell 3
          have z4 := bL.cell 4
          simp only [List.getElem?_toArray, List.getElem?_cons_zero, List.getElem?_cons_succ] at z0 z1 z2 z3 z4
          clear bR bL hrow
          go_wp2_with (fail)
          refine bodyPost_ret (node_ret3 rfl rfl rfl rfl HE.out.1) rfl ?_
          rw [HP.out]
          exact HE.out.2
        · have h3t : ((t : Int) == 3) = false := beq_eq_false_iff_ne.2 (by omega)
          have hr := HRN.out
          rw [if_neg h3] at hr
          have HR1 := Lib.hid hr
          clear hr HRN
          go_wp2_with (fail)
          refine ⟨?_, by simp [intOf]; omega⟩
          unfold LevRel
          exact ⟨.mk 16 a q [] [u, n], k, g, _, by omega, rfl, by omega, by omega, HR1, Lib.hid HZ1.out.1, Lib.hid HZ1.out.2.1, HDZ, Lib.hid HZ1.out.2.2⟩
      · go_simp
        obtain ⟨Y, hY⟩ : ∃ Y, Y = (U.alloc (.cells #[.int .i64 u.kind, .int .i64 u.at_, .int .i64 u.num, .string ⟨u.name.toArray⟩, .slice A u.kids.length c, .int .i64 n.kind, .int .i64 n.at_, .int .i64 n.num, .string ⟨n.name.toArray⟩, .slice B n.kids.length d] NodeT)).drew := ⟨_, rfl⟩
        obtain ⟨N, hN⟩ : ∃ N, N = U.heap.size := ⟨_, rfl⟩
        have hbY : Below U.heap.size U Y := by rw [hY]; exact ((Below.refl _ _).alloc (Nat.le_refl _) _).drew
        have hrowY : nt.Kids (fun b => R < b ∧ b ≠ L) Y [u, n] (.slice (some ⟨N, 0, none⟩) 2 2) := by rw [hY]; exact (row_two (w := U) hN hdu.out HDN.out HKU.out HKN.out (HGN.out N (by omega))).below (Below.refl _ _).drew
        rw [← hY, ← hN]
        refine hK'.out _ _ (HCO.out Y hbY) (fun hHeld => ?_)
        clear hK' K'
        (try simp only [Act.put, List.getElem_toArray, List.getElem_cons_zero, List.getElem_cons_succ, List.setIfInBounds_toArray, List.set_cons_zero, List.set_cons_succ])
        refine wpAnyH_ready (rs := [2]) (by kernel_rfl) (by simp) ?_
        refine AllReadyH.cons rfl (fun K' hK' => ?_) AllReadyH.nil
        clear hY
        have HTY := Lib.hid (HTOK.out Y hbY)
        clear hN
        have hN : True := trivial
        clear hbY
        go_simp
        go_at_call 26
        refine HTY.out.mono ?_
        rintro e X ⟨rfl, hb8, hbYX⟩
        have hbX : Below U.heap.size U X := hb8
        have hrow : nt.Kids (fun b => R < b ∧ b ≠ L) X [u, n] (.slice (some ⟨N, 0, none⟩) 2 2) := hrowY.below hbYX
        refine hK'.out _ _ (HCO.out X hbX) (fun hHeld => ?_)
        clear hK' K'
        (try simp only [Act.put, List.getElem_toArray, List.getElem_cons_zero, List.getElem_cons_succ, List.setIfInBounds_toArray, List.set_cons_zero, List.set_cons_succ])
        refine wpAnyH_take (i := 3) (v := .int .i64 a) rfl (by kernel_rfl) (by kernel_rfl) (by kernel_rfl) (fun _ _ _ h => h) (Or.inl ⟨by rfl, fun w hSw => ?_⟩) hHeld ?_
        · (try dsimp only at hSw)
          first | go_simp | rfl
        (try simp only [Act.put, List.getElem_toArray, List.getElem_cons_zero, List.getElem_cons_succ, List.setIfInBounds_toArray, List.set_cons_zero, List.set_cons_succ])
        have hX : True := trivial
        have HZ1 := Lib.hid (HZ.out X N hbX hrow)
        have bX := HBLU.out X hbX
        have x0 := bX.cell 0
        have x1 := bX.cell 1
        have x2 := bX.cell 2
        have x3 := bX.cell 3
        have x4 := bX.cell 4
        have xg0 := bX.frozen 0
        have xg1 := bX.frozen 1
        have xg2 := bX.frozen 2
        have xg3 := bX.frozen 3
        have xg4 := bX.frozen 4
        simp only [List.getElem?_toArray, List.getElem?_cons_zero, List.getElem?_cons_succ] at x0 x1 x2 x3 x4
        clear hX hN hbX hrow bX hb8
        refine wpAnyH_take (i := 8) (v := .agg #[.int .i64 16, .int .i64 a, .int .i64 q, .string ⟨#[]⟩, .slice (some ⟨N, 0, none⟩) 2 2]) rfl (by kernel_rfl) (by kernel_rfl) (by kernel_rfl) (fun _ _ _ h => h) (Or.inl ⟨by rfl, fun w hSw => ?_⟩) hHeld ?_
        · (try dsimp only at hSw)
          first | go_simp | rfl
        (try simp only [Act.put, List.getElem_toArray, List.getElem_cons_zero, List.getElem_cons_succ, List.setIfInBounds_toArray, List.set_cons_zero, List.set_cons_succ])
        refine wpAnyH_done (by kernel_rfl) ?_ _
        simp only [withTail]
        by_cases h3 : t = 3
        · have h3t : ((t : Int) == 3) = true := by subst h3; rfl
          have hr := HRN.out
          rw [if_pos h3] at hr
          cases hr
          have bL := HZ1.out.1
          have bR := (HM.out _ HZ1.out.2.2).1
          have hrow : nt.Kids (fun b => w.heap.size < b) _ [u, n] _ := HZ1.out.2.1.mono fun b hb => by have := HRR.out; have := hb.1; omega
          have HE := Lib.hid (node_end (j := k) (t := .mk 16 a q [] [u, n]) HRR.out bR HDZ.out hrow (HM.out _ HZ1.out.2.2).2.2.2)
          have r0 := bR.cell 0
          have r1 := bR.cell 1
          have r2 := bR.cell 2
          have r3 := bR.cell 3
          have r4 := bR.cell 4
          have g0 := bR.frozen 0
          have g1 := bR.frozen 1
          have g2 := bR.frozen 2
          have g3 := bR.frozen 3
          have g4 := bR.frozen 4
          simp only [List.getElem?_toArray, List.getElem?_cons_zero, List.getElem?_cons_succ] at r0 r1 r2 r3 r4
          have z0 := bL.cell 0
          have z1 := bL.cell 1
          have z2 := bL.cell 2
          have z3 := bL.cell 3
          have z4 := bL.cell 4
          simp only [List.getElem?_toArray, List.getElem?_cons_zero, List.getElem?_cons_succ] at z0 z1 z2 z3 z4
          clear bR bL hrow
          go_wp2_with (fail)
          refine bodyPost_ret (node_ret3 rfl rfl rfl rfl HE.out.1) rfl ?_
          rw [HP.out]
          exact HE.out.2
        · have h3t : ((t : Int) == 3) = false := beq_eq_false_iff_ne.2 (by omega)
          have hr := HRN.out
          rw [if_neg h3] at hr
          have HR1 := Lib.hid hr
          clear hr HRN
          go_wp2_with (fail)
          refine ⟨?_, by simp [intOf]; omega⟩
          unfold LevRel
          exact ⟨.mk 16 a q [] [u, n], k, g, _, by omega, rfl, by omega, by omega, HR1, Lib.hid HZ1.out.1, Lib.hid HZ1.out.2.1, HDZ, Lib.hid HZ1.out.2.2⟩
end Go.Proofs.YtgohkmdepjmpaaaDoor.pm

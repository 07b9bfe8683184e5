/- The document's own readers, all together. -/
import Derived.Test.YtgohkmdepjmpaaaDoorCParFirst
import Derived.Test.YtgohkmdepjmpaaaDoorCParTotal
namespace Go.Proofs.YtgohkmdepjmpaaaDoor.pm
open Go.RowKit wd lx nt ne mem
open vt (I64 own_form)

set_option maxRecDepth 100000 in
set_option maxHeartbeats 1000000 in
theorem expr_no {l : List Tk} {v : Value} {i : Int} {w : World} (hs : Src l v w) {j : Int} (ih : ∀ w', Src l v w' → Calls Tryd.prog 20 #[v, .int .i64 i, .int .i64 1] w' (Told (.no j) w')) :
    Calls Tryd.prog 9 #[v, .int .i64 i] w (Told (.no j) w) := by
  obtain ⟨P, hP⟩ : ∃ P, P = Told (.no j) w := ⟨_, rfl⟩
  rw [← hP]
  have HP := Lib.hid hP
  have IH := Lib.hid ih
  clear hP ih
  obtain ⟨R, hR⟩ : ∃ R, R = w.heap.size := ⟨_, rfl⟩
  obtain ⟨W, hW⟩ : ∃ W, W = w.alloc (.cells #[.int .i64 0, .int .i64 0, .int .i64 0, .string ⟨#[]⟩, .slice none 0 0] NodeT) := ⟨_, rfl⟩
  have hbW : Below w.heap.size w W := by rw [hW]; exact (Below.refl _ _).alloc (Nat.le_refl _) _
  have HBX : Hid (Box W R NodeT #[.int .i64 0, .int .i64 0, .int .i64 0, .string ⟨#[]⟩, .slice none 0 0]) := Lib.hid (by rw [hW]; exact Box.new _ _ _ _ hR)
  have HM : Hid (∀ w', Below (R + 1) W w' → Box w' R NodeT #[.int .i64 0, .int .i64 0, .int .i64 0, .string ⟨#[]⟩, .slice none 0 0] ∧ Src l v w' ∧ R + 1 ≤ w'.heap.size ∧ Below w.heap.size w w') := Lib.hid (fun w' hb => by
    have q1 := HBX.out.below hb (by omega)
    have q3 : Below w.heap.size w w' := hbW.trans (hb.mono (by omega))
    exact ⟨q1, hs.on q3, q1.lt, q3⟩)
  have HB : Hid (Below (R + 1) W W) := Lib.hid (Below.refl _ _)
  have HW := Lib.hid hW
  have HRR := Lib.hid hR
  clear hW hR hbW hs
  go_enter Tryd.func9, Tryd.ntmps9
  go_wp2_with (first | (rw [← HW.out, ← HRR.out]))
  refine (IH.out _ (HM.out _ HB.out).2.1).mono ?_
  rintro e w7 ⟨rfl, hb7⟩
  have HB7 := Lib.hid (HB.out.trans (hb7.mono (HM.out _ HB.out).2.2.1))
  have bR := (HM.out _ HB7.out).1
  have HE := Lib.hid (no_end (j := j) HRR.out bR (HM.out _ HB7.out).2.2.2)
  have r0 := bR.cell 0
  have r1 := bR.cell 1
  have r2 := bR.cell 2
  have r3 := bR.cell 3
  have r4 := bR.cell 4
  have g0 := bR.frozen 0
  have g1 := bR.frozen 1
  have g2 := bR.frozen 2
  have g3 := bR.frozen 3
  have g4 := bR.frozen 4
  simp only [List.getElem?_toArray, List.getElem?_cons_zero, List.getElem?_cons_succ] at r0 r1 r2 r3 r4
  clear bR hb7
  go_wp2_with (fail)
  refine bodyPost_ret (node_ret3 rfl rfl rfl rfl HE.out.1) rfl ?_
  rw [HP.out]
  exact HE.out.2
set_option maxRecDepth 100000 in
set_option maxHeartbeats 1000000 in
theorem expr_node {l : List Tk} {v : Value} {i : Int} {w : World} (hs : Src l v w) {j : Int} {u : NT} (ih : ∀ w', Src l v w' → Calls Tryd.prog 20 #[v, .int .i64 i, .int .i64 1] w' (Told (.node u j) w')) :
    Calls Tryd.prog 9 #[v, .int .i64 i] w (Told (.node u j) w) := by
  obtain ⟨P, hP⟩ : ∃ P, P = Told (.node u j) w := ⟨_, rfl⟩
  rw [← hP]
  have HP := Lib.hid hP
  have IH := Lib.hid ih
  clear hP ih
  obtain ⟨R, hR⟩ : ∃ R, R = w.heap.size := ⟨_, rfl⟩
  obtain ⟨W, hW⟩ : ∃ W, W = w.alloc (.cells #[.int .i64 0, .int .i64 0, .int .i64 0, .string ⟨#[]⟩, .slice none 0 0] NodeT) := ⟨_, rfl⟩
  have hbW : Below w.heap.size w W := by rw [hW]; exact (Below.refl _ _).alloc (Nat.le_refl _) _
  have HBX : Hid (Box W R NodeT #[.int .i64 0, .int .i64 0, .int .i64 0, .string ⟨#[]⟩, .slice none 0 0]) := Lib.hid (by rw [hW]; exact Box.new _ _ _ _ hR)
  have HM : Hid (∀ w', Below (R + 1) W w' → Box w' R NodeT #[.int .i64 0, .int .i64 0, .int .i64 0, .string ⟨#[]⟩, .slice none 0 0] ∧ Src l v w' ∧ R + 1 ≤ w'.heap.size ∧ Below w.heap.size w w') := Lib.hid (fun w' hb => by
    have q1 := HBX.out.below hb (by omega)
    have q3 : Below w.heap.size w w' := hbW.trans (hb.mono (by omega))
    exact ⟨q1, hs.on q3, q1.lt, q3⟩)
  have HB : Hid (Below (R + 1) W W) := Lib.hid (Below.refl _ _)
  have HW := Lib.hid hW
  have HRR := Lib.hid hR
  clear hW hR hbW hs
  go_enter Tryd.func9, Tryd.ntmps9
  go_wp2_with (first | (rw [← HW.out, ← HRR.out]))
  refine (IH.out _ (HM.out _ HB.out).2.1).mono ?_
  rintro e w7 ⟨su, rfl, hk7, hd7, hb7⟩
  obtain ⟨A, c, rfl, _⟩ := hk7.form
  have HB7 := Lib.hid (HB.out.trans (hb7.mono (HM.out _ HB.out).2.2.1))
  have bR := (HM.out _ HB7.out).1
  have hrow : nt.Kids (fun b => w.heap.size < b) w7 u.kids (.slice A u.kids.length c) := hk7.mono fun b hb => by have h2 := (HM.out _ HB.out).2.2.1; have := HRR.out; omega
  have HE := Lib.hid (node_end (j := j) (t := u) HRR.out bR hd7 hrow (HM.out _ HB7.out).2.2.2)
  clear hrow hk7 hd7
  have r0 := bR.cell 0
  have r1 := bR.cell 1
  have r2 := bR.cell 2
  have r3 := bR.cell 3
  have r4 := bR.cell 4
  have g0 := bR.frozen 0
  have g1 := bR.frozen 1
  have g2 := bR.frozen 2
  have g3 := bR.frozen 3
  have g4 := bR.frozen 4
  simp only [List.getElem?_toArray, List.getElem?_cons_zero, List.getElem?_cons_succ] at r0 r1 r2 r3 r4
  clear bR hb7
  go_wp2_with (fail)
  refine bodyPost_ret (node_ret3 rfl rfl rfl rfl HE.out.1) rfl ?_
  rw [HP.out]
  exact HE.out.2
/-- what a reader of nodes at this mode does -/
abbrev Reads (l : List Tk) (v : Value) (f : Nat) (m : Mode) (F : FuncId) (more : List Value) : Prop :=
  ∀ (i : Int) (w : World) (r : Res), Src l v w → -9223372036854775808 ≤ i → i ≤ 9223372036854775807 → run l f m i = some r → Calls Tryd.prog F (#[v, .int .i64 i] ++ more.toArray) w (Told r w)
theorem expr_of {l : List Tk} {v : Value} {f : Nat} (h : Reads l v f (.lev 1) 20 [.int .i64 1]) : Reads l v f (.lev 1) 9 [] := by
  intro i w r hs h0 h1 hr
  have hen := run_ends l _ _ _ _ hr
  cases r with
  | list ns j => simp [Ends, Mode.lists] at hen
  | no j => exact expr_no hs (fun w' hs' => h i w' _ hs' h0 h1 hr)
  | node n j => exact expr_node hs (fun w' hs' => h i w' _ hs' h0 h1 hr)
theorem lev_tok13 {l : List Tk} {v : Value} {f : Nat} {t : Nat} (ht0 : 1 ≤ t) (ht6 : t ≤ 6) (ihf : Reads l v f .fac 35 [])
    (ihl : ∀ g, g ≤ f → t + 1 ≤ 6 → Reads l v g (.lev (t + 1)) 20 [.int .i64 ((t : Int) + 1)]) : Reads l v (f + 1) (.lev t) 20 [.int .i64 t] := by
  intro i w r hs h0 h1 hr
  have hLL := hs.len
  rw [run_succ] at hr
  simp only [stepR] at hr
  by_cases ht : 5 < t
  · rw [if_pos ht] at hr
    have hen := run_ends l _ _ _ _ hr
    cases r with
    | list ns j => simp [Ends, Mode.lists] at hen
    | no j => exact lev_fac_no hs h0 h1 ht0 ht (fun w' hs' => ihf i w' _ hs' h0 h1 hr)
    | node n j => exact lev_fac hs h0 h1 ht0 ht (fun w' hs' => ihf i w' _ hs' h0 h1 hr)
  · rw [if_neg ht] at hr
    have ht5 : t ≤ 5 := by omega
    cases hq : run l f (.lev (t + 1)) i with
    | none => rw [hq] at hr; simp [andN] at hr
    | some r2 =>
      rw [hq] at hr
      have hen := run_ends l _ _ _ _ hq
      cases r2 with
      | list ns j => simp [andN] at hr
      | no j =>
        simp only [andN] at hr; cases hr
        exact lev_no hs h0 h1 ht0 ht5 (fun w' hs' => ihl f (Nat.le_refl _) (by omega) i w' _ hs' h0 h1 hq)
      | node n j =>
        simp only [andN] at hr
        simp [Ends, Mode.strict, Mode.lists] at hen
        exact lev_node hs h0 h1 ht0 ht5 (fun w' hs' => ihl f (Nat.le_refl _) (by omega) i w' _ hs' h0 h1 hq) (by omega) (by omega) hr (fun g hg i w r hs h0 h1 hr => ihl g hg (by omega) i w r hs h0 h1 hr)
theorem list_len (l : List Tk) : ∀ (f : Nat) (ns0 : List NT) (i : Int) (ns : List NT) (k : Int), run l f (.more ns0) i = some (.list ns k) → (ns.length : Int) ≤ ns0.length + (k - i)
  | 0, _, _, _, _, h => by simp [run] at h
  | f + 1, ns0, i, ns, k, h => by
    rw [run_succ] at h
    simp only [stepR] at h
    cases hq : run l f (.lev 1) i with
    | none => rw [hq] at h; simp [andN] at h
    | some r2 =>
      rw [hq] at h
      have hen := run_ends l _ _ _ _ hq
      cases r2 with
      | list _ _ => simp [andN] at h
      | no j => simp [andN] at h
      | node n j =>
        simp [Ends, Mode.strict, Mode.lists] at hen
        simp only [andN] at h
        by_cases m1 : isM l j [41] = true
        · rw [if_pos m1] at h; cases h
          rw [List.length_append]; simp; omega
        · rw [if_neg m1] at h
          by_cases m2 : isM l j [44] = false
          · rw [if_pos m2] at h; cases h
          · rw [if_neg m2] at h
            have := list_len l f _ _ _ _ h
            rw [List.length_append] at this
            simp at this
            omega
theorem args_len {l : List Tk} {f : Nat} {i : Int} {ns : List NT} {k : Int} (h : run l f .args i = some (.list ns k)) (hi : 0 ≤ i) (hl : l.length ≤ 1048576) : ns.length ≤ 1099511627776 := by
  have hen := run_ends l _ _ _ _ h
  simp [Ends, Mode.strict, Mode.lists] at hen
  cases f with
  | zero => simp [run] at h
  | succ f =>
    rw [run_succ] at h
    simp only [stepR] at h
    by_cases m1 : isM l i [40] = false
    · rw [if_pos m1] at h; cases h
    · rw [if_neg m1] at h
      by_cases m2 : isM l (i + 1) [41] = true
      · rw [if_pos m2] at h; cases h; simp
      · rw [if_neg m2] at h
        have := list_len l f _ _ _ _ h
        simp at this
        omega
theorem first_tok13 {l : List Tk} {v : Value} {f : Nat} (ihc : ∀ k a, I64 k → I64 a → Reads l v f (.call k a) 68 [.int .i64 k, .int .i64 a])
    (iha : ∀ (i : Int) (w : World) (r : Res), Src l v w → -9223372036854775808 ≤ i → i ≤ 9223372036854775807 → run l f .args i = some r → Calls Tryd.prog 16 #[v, .int .i64 i] w (ToldL r w))
    (ihe : Reads l v f (.lev 1) 9 []) : Reads l v (f + 1) .first 62 [] := by
  intro i w r hs h0 h1 hr
  have hLL := hs.len
  have hF := hs.fair i
  rw [run_succ] at hr
  simp only [stepR] at hr
  by_cases hk : (tokAt l i).kind = 2
  · rw [if_pos hk] at hr; cases hr
    exact first_num hs h0 (tok_in (by rw [hk]; decide)).2 hk
  rw [if_neg hk] at hr
  by_cases w0 : isW l i sTrue = true
  · rw [if_pos w0] at hr; cases hr
    exact first_true hs h0 (isW_in w0).2 hk w0
  rw [if_neg w0] at hr
  have w0' : isW l i sTrue = false := Bool.eq_false_iff.2 w0
  by_cases w1 : isW l i sFalse = true
  · rw [if_pos w1] at hr; cases hr
    exact first_false hs h0 (isW_in w1).2 hk w0' w1
  rw [if_neg w1] at hr
  have w1' : isW l i sFalse = false := Bool.eq_false_iff.2 w1
  by_cases hk1 : (tokAt l i).kind = 1
  · have hb := (tok_in (l := l) (i := i) (by rw [hk1]; decide)).2
    rw [if_pos hk1] at hr
    by_cases m1 : isM l (i + 1) [40] = true
    · rw [if_pos m1] at hr
      have ih := fun r w' hs' hr => ihc 17 (tokAt l i).at_ (by unfold I64; omega) hF.1 i w' r hs' h0 (by omega) hr
      have hen := run_ends l _ _ _ _ hr
      cases r with
      | list ns j => simp [Ends, Mode.lists] at hen
      | no j => exact first_call_no hs h0 hb hk hk1 w0' w1' m1 (fun w' hs' => ih _ w' hs' hr)
      | node n j => exact first_call hs h0 hb hk hk1 w0' w1' m1 (fun w' hs' => ih _ w' hs' hr)
    · rw [if_neg m1] at hr; cases hr
      exact first_name hs h0 hb hk hk1 w0' w1' (Bool.eq_false_iff.2 m1)
  rw [if_neg hk1] at hr
  by_cases w2 : isW l i sFork = true
  · rw [if_pos w2] at hr
    have hb := (isW_in w2).2
    have ih := fun r w' hs' hr => ihc 18 (tokAt l i).at_ (by unfold I64; omega) hF.1 (i + 1) w' r hs' (by omega) (by omega) hr
    have hen := run_ends l _ _ _ _ hr
    cases r with
    | list ns j => simp [Ends, Mode.lists] at hen
    | no j => exact first_fork_no hs h0 hb hk hk1 w0' w1' w2 (fun w' hs' => ih _ w' hs' hr)
    | node n j => exact first_fork hs h0 hb hk hk1 w0' w1' w2 (fun w' hs' => ih _ w' hs' hr)
  rw [if_neg w2] at hr
  have w2' : isW l i sFork = false := Bool.eq_false_iff.2 w2
  by_cases w3 : isW l i sNew = true
  · rw [if_pos w3] at hr
    have hb := isW_in w3
    cases hq : run l f .typ (i + 1) with
    | none => rw [hq] at hr; simp [andN] at hr
    | some r2 =>
      rw [hq] at hr
      have hen := run_ends l _ _ _ _ hq
      have iht := fun w' hs' => typ_tok13 l v f (i + 1) w' r2 hs' (by omega) (by omega) hq
      cases r2 with
      | list ns j => simp [andN] at hr
      | no j =>
        simp only [andN] at hr; cases hr
        exact first_new_no hs h0 hb.2 hk hk1 w0' w1' w2' w3 iht
      | node n j =>
        simp only [andN] at hr
        simp [Ends, Mode.strict, Mode.lists] at hen
        cases hp : run l f .args j with
        | none => rw [hp] at hr; simp [andL] at hr
        | some r3 =>
          rw [hp] at hr
          have ihl := fun w' hs' => iha j w' r3 hs' (by omega) (by omega) hp
          cases r3 with
          | node n2 j2 => simp [andL] at hr
          | no j2 =>
            simp only [andL] at hr; cases hr
            exact first_new_args hs h0 hb.2 hk hk1 w0' w1' w2' w3 iht ihl
          | list ns j2 =>
            simp only [andL] at hr; cases hr
            cases ns with
            | nil => exact first_new_nil hs h0 hb.2 hk hk1 w0' w1' w2' w3 iht ihl
            | cons n1 ns => exact first_new hs h0 (by simp) (args_len hp (by omega) hLL) hb.2 hk hk1 w0' w1' w2' w3 iht ihl
  rw [if_neg w3] at hr
  have w3' : isW l i sNew = false := Bool.eq_false_iff.2 w3
  by_cases m1 : isM l i [40] = false
  · rw [if_pos m1] at hr; cases hr
    exact first_none hs h0 h1 hk hk1 w0' w1' w2' w3' m1
  rw [if_neg m1] at hr
  have m1' : isM l i [40] = true := by simpa using m1
  have hb := isM_in m1'
  cases hq : run l f (.lev 1) (i + 1) with
  | none => rw [hq] at hr; simp [andN] at hr
  | some r2 =>
    rw [hq] at hr
    have hen := run_ends l _ _ _ _ hq
    have ih := fun w' hs' => ihe (i + 1) w' r2 hs' (by omega) (by omega) hq
    cases r2 with
    | list ns j => simp [andN] at hr
    | no j =>
      simp only [andN] at hr; cases hr
      exact first_par_no hs h0 hb.2 hk hk1 w0' w1' w2' w3' m1' ih
    | node n j =>
      simp only [andN] at hr
      simp [Ends, Mode.strict, Mode.lists] at hen
      by_cases m2 : isM l j [41] = true
      · rw [if_pos m2] at hr; cases hr
        exact first_par hs h0 (by omega) (by omega) hb.2 hk hk1 w0' w1' w2' w3' m1' m2 ih
      · rw [if_neg m2] at hr; cases hr
        exact first_par_open hs h0 (by omega) (by omega) hb.2 hk hk1 w0' w1' w2' w3' m1' (Bool.eq_false_iff.2 m2) ih
/-- all of them, by the fuel -/
theorem par_all (l : List Tk) (v : Value) : ∀ f : Nat,
    (∀ t, 1 ≤ t → t ≤ 6 → Reads l v f (.lev t) 20 [.int .i64 (t : Nat)]) ∧ Reads l v f .fac 35 [] ∧ Reads l v f .part 52 [] ∧ Reads l v f .first 62 [] ∧
    (∀ k a, I64 k → I64 a → Reads l v f (.call k a) 68 [.int .i64 k, .int .i64 a]) ∧
    (∀ (i : Int) (w : World) (r : Res), Src l v w → -9223372036854775808 ≤ i → i ≤ 9223372036854775807 → run l f .args i = some r → Calls Tryd.prog 16 #[v, .int .i64 i] w (ToldL r w)) := by
  intro f
  induction f using Nat.strongRecOn with
  | _ f ih =>
    cases f with
    | zero => exact ⟨fun _ _ _ _ _ _ _ _ _ h => by simp [run] at h, fun _ _ _ _ _ _ h => by simp [run] at h, fun _ _ _ _ _ _ h => by simp [run] at h, fun _ _ _ _ _ _ h => by simp [run] at h, fun _ _ _ _ _ _ _ _ _ _ h => by simp [run] at h, fun _ _ _ _ _ _ h => by simp [run] at h⟩
    | succ f =>
      have hf := ih f (by omega)
      have he : ∀ g, g ≤ f → Reads l v g (.lev 1) 9 [] := fun g hg => expr_of ((ih g (by omega)).1 1 (by omega) (by omega))
      refine ⟨fun t h1 h6 => lev_tok13 h1 h6 hf.2.1 (fun g hg h6 => ?_), ?_, ?_, first_tok13 hf.2.2.2.2.1 hf.2.2.2.2.2 (he f (Nat.le_refl _)), ?_, ?_⟩
      · have := (ih g (by omega)).1 (t + 1) (by omega) h6
        rw [show ((t + 1 : Nat) : Int) = (t : Int) + 1 by omega] at this
        exact this
      · intro i w r hs h0 h1 hr
        exact fac_tok13 hs h0 h1 hr (fun i w r hs h0 h1 hr => hf.2.2.1 i w r hs h0 h1 hr) (fun i w r hs h0 h1 hr => hf.2.1 i w r hs h0 h1 hr)
      · intro i w r hs h0 h1 hr
        exact part_tok13 hs h0 h1 hr (fun i w r hs h0 h1 hr => hf.2.2.2.1 i w r hs h0 h1 hr) (fun g hg i w r hs h0 h1 hr => he g hg i w r hs h0 h1 hr)
      · intro k a hk ha i w r hs h0 h1 hr
        exact named_tok13 hs h0 h1 hk ha hr (fun i w r hs h0 h1 hr => hf.2.2.2.2.2 i w r hs h0 h1 hr)
      · intro i w r hs h0 h1 hr
        exact args_tok13 hs h0 h1 hr (fun g hg i w r hs h0 h1 hr => he g hg i w r hs h0 h1 hr)
/-- the document's own Expr, Type and Args, of whatever tokens, at whatever token -/
theorem expr_all13 {l : List Tk} {v : Value} {w : World} (i : Int) (hs : Src l v w) (hi : I64 i) : ∃ f r, run l f (.lev 1) i = some r ∧ Calls Tryd.prog 9 #[v, .int .i64 i] w (Told r w) := by
  obtain ⟨r, hr⟩ := run_all l (.lev 1) i
  exact ⟨_, r, hr, expr_of ((par_all l v _).1 1 (by omega) (by omega)) i w r hs hi.1 hi.2 hr⟩
theorem args_all13 {l : List Tk} {v : Value} {w : World} (i : Int) (hs : Src l v w) (hi : I64 i) : ∃ f r, run l f .args i = some r ∧ Calls Tryd.prog 16 #[v, .int .i64 i] w (ToldL r w) := by
  obtain ⟨r, hr⟩ := run_all l .args i
  exact ⟨_, r, hr, (par_all l v _).2.2.2.2.2 i w r hs hi.1 hi.2 hr⟩
theorem type_all13 {l : List Tk} {v : Value} {w : World} (i : Int) (hs : Src l v w) (hi : I64 i) : ∃ f r, run l f .typ i = some r ∧ Calls Tryd.prog 13 #[v, .int .i64 i] w (Told r w) := by
  obtain ⟨r, hr⟩ := run_all l .typ i
  exact ⟨_, r, hr, typ_tok13 l v _ i w r hs hi.1 hi.2 hr⟩
end Go.Proofs.YtgohkmdepjmpaaaDoor.pm

/- The document's own reader of arguments. -/
import Derived.Test.YtgohkmdepjmpaaaDoorCParOwn
import Derived.OwnWalk
namespace Go.Proofs.YtgohkmdepjmpaaaDoor.pm
open Go.RowKit wd lx nt ne mem
open vt (I64 own_form)

def ArgRel (l : List Tk) (r : Res) (f : Nat) (w : World) (o i : Value) (wr : World) : Prop := ∃ (ns : List NT) (k : Int) (g : Nat), g ≤ f ∧ i = .int .i64 k ∧ 0 ≤ k ∧ k ≤ l.length ∧ ns.length ≤ k ∧ Hid (run l g (.more ns) k = some r) ∧ Hid (nt.Own2 w.heap.size wr ns o) ∧ Hid (Below w.heap.size w wr)
set_option maxRecDepth 100000 in
set_option maxHeartbeats 4000000 in
theorem args_tok13 {l : List Tk} {v : Value} {i : Int} {w : World} {f : Nat} {r : Res} (hs : Src l v w) (h0 : -9223372036854775808 ≤ i) (h1 : i ≤ 9223372036854775807) (hr : run l (f + 1) .args i = some r)
    (ih : ∀ (g : Nat), g ≤ f → ∀ (i : Int) (w : World) (r : Res), Src l v w → -9223372036854775808 ≤ i → i ≤ 9223372036854775807 → run l g (.lev 1) i = some r → Calls Tryd.prog 9 #[v, .int .i64 i] w (Told r w)) :
    Calls Tryd.prog 16 #[v, .int .i64 i] w (ToldL r w) := by
  obtain ⟨P, hP⟩ : ∃ P, P = ToldL r w := ⟨_, rfl⟩
  rw [← hP]
  have HP := Lib.hid hP
  have hLL := hs.len
  rw [run_succ] at hr
  simp only [stepR] at hr
  have HIS : Hid (∀ (m : List UInt8) (i : Int) (w' : World), Below w.heap.size w w' → I64 i → Calls Tryd.prog 28 #[v, .int .i64 i, .string ⟨m.toArray⟩] w' fun e w2 => e = .returned (.bool (isM l i m)) ∧ Below w.heap.size w w2 ∧ Below w'.heap.size w' w2) := Lib.hid (fun m i w' hb hi => (is_tok13 l v i m w' _ (hs.on hb).lies hs.len hi).mono fun _ _ q => ⟨q.1, hb.trans (q.2.mono hb.size), q.2⟩)
  have HI1 := Lib.hid (HIS.out [40] i w (Below.refl _ _) (by unfold I64; omega))
  have HS := Lib.hid hs
  have IH := Lib.hid ih
  clear hP hs ih
  by_cases m1 : isM l i [40] = false
  · rw [if_pos m1] at hr; cases hr
    rw [m1] at HI1
    clear m1
    go_enter Tryd.func16, Tryd.ntmps16
    go_wp2_with (fail)
    refine HI1.out.mono ?_
    rintro e w1 ⟨rfl, hb1, _⟩
    have HB1 := Lib.hid hb1
    clear hb1 HI1
    go_wp2_with (fail)
    go_ret3
    rw [HP.out]
    exact ⟨rfl, HB1.out⟩
  rw [if_neg m1] at hr
  have m1' : isM l i [40] = true := by simpa using m1
  have hin := isM_in m1'
  rw [m1'] at HI1
  have HI2 := Lib.hid (fun w' hb => HIS.out [41] (i + 1) w' hb (by unfold I64; omega))
  by_cases m2 : isM l (i + 1) [41] = true
  · rw [if_pos m2, show i + 2 = i + 1 + 1 by omega] at hr; cases hr
    rw [m2] at HI2
    clear m1 m1' m2
    go_enter Tryd.func16, Tryd.ntmps16
    go_wp2_with (fail)
    refine HI1.out.mono ?_
    rintro e w1 ⟨rfl, hb1, _⟩
    have HB1 := Lib.hid (HI2.out w1 hb1)
    clear hb1 HI1 HI2
    go_wp2_with (fail)
    refine HB1.out.mono ?_
    rintro e w2 ⟨rfl, hb2, _⟩
    have HB2 := Lib.hid hb2
    clear hb2
    go_wp2_with (fail)
    go_ret3
    rw [HP.out]
    exact ⟨.slice none 0 0, rfl, nt.Own2.nil_ _ _, fun _ => rfl, HB2.out⟩
  rw [if_neg m2] at hr
  have m2' : isM l (i + 1) [41] = false := by simpa using m2
  rw [m2'] at HI2
  have HR := Lib.hid hr
  have h2 : i + 1 ≤ (l.length : Int) := by omega
  have h3 : 0 ≤ i + 1 := by omega
  clear m1 m1' m2 m2' hr
  go_enter Tryd.func16, Tryd.ntmps16
  go_wp2_with (fail)
  refine HI1.out.mono ?_
  rintro e w1 ⟨rfl, hb1, _⟩
  have HB1 := Lib.hid (HI2.out w1 hb1)
  clear hb1 HI1 HI2
  go_wp2_with (fail)
  refine HB1.out.mono ?_
  rintro e w2 ⟨rfl, hb2, _⟩
  have HB2 := Lib.hid hb2
  clear hb2
  go_wp2_with (fail)
  go_loopw [7, 1] (fun o i wr => ArgRel l r f w o i wr) (fun _ i _ => l.length + 1 - (intOf i).toNat)
  case atStart => unfold ArgRel; exact ⟨[], i + 1, f, Nat.le_refl _, by first | rfl | go_num, h3, h2, by simp; omega, HR, Lib.hid (nt.Own2.nil_ _ _), HB2⟩
  case round =>
    unfold ArgRel at hrel
    obtain ⟨ns, k, g, hg, rfl, hk0, hk1, hnk, hrun, hown, hbw⟩ := hrel
    obtain ⟨A1, c1, rfl⟩ := hown.out.form
    cases g with
    | zero => have := hrun.out; simp [run] at this
    | succ g =>
    have hr := hrun.out
    rw [run_succ] at hr
    simp only [stepR] at hr
    clear hrun
    cases hq : run l g (.lev 1) k with
    | none => rw [hq] at hr; simp [andN] at hr
    | some r2 =>
    rw [hq] at hr
    have HX := Lib.hid (IH.out g (by omega) k wr r2 (HS.out.on hbw.out) (by omega) (by omega) hq)
    have hen := run_ends l _ _ _ _ hq
    clear hq
    cases r2 with
    | list _ _ => simp [andN] at hr
    | no j =>
      simp only [andN] at hr
      cases hr
      clear hown hnk hen
      go_wp2_with (fail)
      refine HX.out.mono ?_
      rintro e w7 ⟨rfl, hb7⟩
      have HB7 := Lib.hid (hbw.out.trans (hb7.mono hbw.out.size))
      clear HX hb7
      obtain ⟨V, hV⟩ : ∃ V, V = w7.alloc (.cells #[.int .i64 0, .int .i64 0, .int .i64 0, .string ⟨#[]⟩, .slice none 0 0] NodeT) := ⟨_, rfl⟩
      obtain ⟨O, hO⟩ : ∃ O, O = w7.heap.size := ⟨_, rfl⟩
      have hRO : w.heap.size ≤ O := by rw [hO]; exact HB7.out.size
      have hbV : Below w.heap.size w V := by rw [hV]; exact HB7.out.alloc HB7.out.size _
      have bO : Box V O NodeT #[.int .i64 0, .int .i64 0, .int .i64 0, .string ⟨#[]⟩, .slice none 0 0] := by rw [hV]; exact Box.new _ _ _ _ hO
      have HBU : Hid (Below w.heap.size w (((((V.setCell ⟨O, 0, none⟩ (.int .i64 0)).setCell ⟨O, 1, none⟩ (.int .i64 0)).setCell ⟨O, 2, none⟩ (.int .i64 0)).setCell ⟨O, 3, none⟩ (.string ⟨#[]⟩)).setCell ⟨O, 4, none⟩ (.slice none 0 0))) := Lib.hid (below_five hbV hRO _ _ _ _ _)
      have o0 := bO.cell 0
      have o1 := bO.cell 1
      have o2 := bO.cell 2
      have o3 := bO.cell 3
      have o4 := bO.cell 4
      have og0 := bO.frozen 0
      have og1 := bO.frozen 1
      have og2 := bO.frozen 2
      have og3 := bO.frozen 3
      have og4 := bO.frozen 4
      simp only [List.getElem?_toArray, List.getElem?_cons_zero, List.getElem?_cons_succ] at o0 o1 o2 o3 o4
      have HV := Lib.hid hV
      have HO := Lib.hid hO
      clear hV hO hRO hbV bO
      go_wp2_with (first | (rw [← HV.out, ← HO.out]))
      go_ret3
      rw [HP.out]
      exact ⟨rfl, HBU.out⟩
    | node t j =>
      simp only [andN] at hr
      obtain ⟨n, hn⟩ : ∃ n, n = ns.length := ⟨_, rfl⟩
      have HN := Lib.hid hn
      have hend : k < j ∧ j ≤ (l.length : Int) := by
        have := hen
        simp [Ends, Mode.strict, Mode.lists] at this
        omega
      rw [← hn] at hnk hown ⊢
      clear hn
      have HHR := Lib.hid hr
      clear hr hen
      go_wp2_with (fail)
      refine HX.out.mono ?_
      rintro e w7 ⟨s7, rfl, hk7, hd7, hb7⟩
      obtain ⟨A2, c2, rfl, _⟩ := hk7.form
      have HB7 := Lib.hid (hbw.out.trans (hb7.mono hbw.out.size))
      clear HX
      obtain ⟨V, hV⟩ : ∃ V, V = w7.alloc (.cells #[.int .i64 0, .int .i64 0, .int .i64 0, .string ⟨#[]⟩, .slice none 0 0] NodeT) := ⟨_, rfl⟩
      obtain ⟨O, hO⟩ : ∃ O, O = w7.heap.size := ⟨_, rfl⟩
      have hRO : w.heap.size ≤ O := by rw [hO]; exact HB7.out.size
      have hbV : Below w.heap.size w V := by rw [hV]; exact HB7.out.alloc HB7.out.size _
      have bO : Box V O NodeT #[.int .i64 0, .int .i64 0, .int .i64 0, .string ⟨#[]⟩, .slice none 0 0] := by rw [hV]; exact Box.new _ _ _ _ hO
      have hkU : nt.Kids (fun b => wr.heap.size ≤ b) (((((V.setCell ⟨O, 0, none⟩ (.int .i64 t.kind)).setCell ⟨O, 1, none⟩ (.int .i64 t.at_)).setCell ⟨O, 2, none⟩ (.int .i64 t.num)).setCell ⟨O, 3, none⟩ (.string ⟨t.name.toArray⟩)).setCell ⟨O, 4, none⟩ (.slice A2 t.kids.length c2)) t.kids (.slice A2 t.kids.length c2) := by
        have hk8 : nt.Kids (fun b => wr.heap.size ≤ b ∧ b < w7.heap.size) w7 t.kids (.slice A2 t.kids.length c2) := (hk7.lt).mono fun b hb => ⟨hb.1, hb.2⟩
        have hk9 : nt.Kids (fun b => wr.heap.size ≤ b ∧ b < w7.heap.size) V t.kids (.slice A2 t.kids.length c2) := by rw [hV]; exact hk8.below ((Below.refl _ _).alloc (Nat.le_refl _) _)
        exact (kids_five hk9 (fun b hb => by have := hb.2; omega) _ _ _ _ _).mono fun b hb => hb.1
      have hbU : Below w.heap.size w (((((V.setCell ⟨O, 0, none⟩ (.int .i64 t.kind)).setCell ⟨O, 1, none⟩ (.int .i64 t.at_)).setCell ⟨O, 2, none⟩ (.int .i64 t.num)).setCell ⟨O, 3, none⟩ (.string ⟨t.name.toArray⟩)).setCell ⟨O, 4, none⟩ (.slice A2 t.kids.length c2)) := below_five hbV hRO _ _ _ _ _
      have hbR : Below wr.heap.size wr (((((V.setCell ⟨O, 0, none⟩ (.int .i64 t.kind)).setCell ⟨O, 1, none⟩ (.int .i64 t.at_)).setCell ⟨O, 2, none⟩ (.int .i64 t.num)).setCell ⟨O, 3, none⟩ (.string ⟨t.name.toArray⟩)).setCell ⟨O, 4, none⟩ (.slice A2 t.kids.length c2)) := below_five (by rw [hV]; exact hb7.alloc hb7.size _) (by rw [hO]; exact hb7.size) _ _ _ _ _
      have bOU := box_five bO (.int .i64 t.kind) (.int .i64 t.at_) (.int .i64 t.num) (.string ⟨t.name.toArray⟩) (.slice A2 t.kids.length c2)
      change Box (((((V.setCell ⟨O, 0, none⟩ (.int .i64 t.kind)).setCell ⟨O, 1, none⟩ (.int .i64 t.at_)).setCell ⟨O, 2, none⟩ (.int .i64 t.num)).setCell ⟨O, 3, none⟩ (.string ⟨t.name.toArray⟩)).setCell ⟨O, 4, none⟩ (.slice A2 t.kids.length c2)) O NodeT _ at bOU
      have o0 := bO.cell 0
      have o1 := bO.cell 1
      have o2 := bO.cell 2
      have o3 := bO.cell 3
      have o4 := bO.cell 4
      have og0 := bO.frozen 0
      have og1 := bO.frozen 1
      have og2 := bO.frozen 2
      have og3 := bO.frozen 3
      have og4 := bO.frozen 4
      simp only [List.getElem?_toArray, List.getElem?_cons_zero, List.getElem?_cons_succ] at o0 o1 o2 o3 o4
      have HV := Lib.hid hV
      have HO := Lib.hid hO
      clear hV hO hb7 hk7 hRO hbV bO
      obtain ⟨U, hU⟩ : ∃ U, U = ((((V.setCell ⟨O, 0, none⟩ (.int .i64 t.kind)).setCell ⟨O, 1, none⟩ (.int .i64 t.at_)).setCell ⟨O, 2, none⟩ (.int .i64 t.num)).setCell ⟨O, 3, none⟩ (.string ⟨t.name.toArray⟩)).setCell ⟨O, 4, none⟩ (.slice A2 t.kids.length c2) := ⟨_, rfl⟩
      rw [← hU] at hkU hbU bOU hbR
      have HU := Lib.hid hU
      have v0 := bOU.cell 0
      have v1 := bOU.cell 1
      have v2 := bOU.cell 2
      have v3 := bOU.cell 3
      have v4 := bOU.cell 4
      simp only [List.getElem?_toArray, List.getElem?_cons_zero, List.getElem?_cons_succ] at v0 v1 v2 v3 v4
      have hko := hown.out.lt
      have HOWN := Lib.hid (hown.out.below hbR)
      have HKU : Hid (nt.Kids (fun b => w.heap.size ≤ b ∧ some b ≠ (Value.slice A1 n c1).ownBlock) U t.kids (.slice A2 t.kids.length c2)) := Lib.hid (hkU.mono fun b hb => ⟨by have := hbw.out.size; omega, fun e => by have := (hko b e.symm).2; omega⟩)
      have HBU := Lib.hid hbU
      have HD := Lib.hid hd7
      have hn3 : n ≤ 1099511627776 := by omega
      clear hU hkU hbU bOU hbR hko hd7
      go_wp2_with (first | (rw [← HV.out, ← HO.out]) | (rw [← HU.out]) | (at_builtin; (refine wpList_nodeB (w0 := w) (wr := U) rfl (.tmp 33) (.tmp 35) rfl n ns t (.slice A1 n c1) (.slice A2 t.kids.length c2) U.heap.size rfl rfl HOWN.out HD.out HKU.out HBU.out HN.out hn3 rfl ?_); intro A4 c4 w4 ho4 hb4; have HO4 := Lib.hid ho4; have HB4 := Lib.hid hb4; clear ho4 hb4))
      have HI3 := Lib.hid (HIS.out [41] j w4 HB4.out (by unfold I64; omega))
      have hr := HHR.out
      clear HHR v0 v1 v2 v3 v4 o0 o1 o2 o3 o4 og0 og1 og2 og3 og4
      cases m3 : isM l j [41] with
      | true =>
        rw [m3] at HI3
        rw [if_pos m3] at hr; cases hr
        refine HI3.out.mono ?_
        rintro e w5 ⟨rfl, hb5, hc5⟩
        have HB5 := Lib.hid hb5
        have HO5 := Lib.hid (HO4.out.below hc5)
        clear hb5 hc5
        go_wp2_with (fail)
        go_ret3
        rw [HP.out]
        exact ⟨_, rfl, HO5.out, fun h => absurd h (by simp), HB5.out⟩
      | false =>
        rw [m3] at HI3
        rw [if_neg (by rw [m3]; simp)] at hr
        refine HI3.out.mono ?_
        rintro e w5 ⟨rfl, hb5, hc5⟩
        have HB5 := Lib.hid hb5
        have HO5 := Lib.hid (HO4.out.below hc5)
        have HI4 := Lib.hid (HIS.out [44] j w5 hb5 (by unfold I64; omega))
        clear hb5 hc5 HI3
        go_wp2_with (fail)
        cases m4 : isM l j [44] with
        | false =>
          rw [m4] at HI4
          rw [if_pos m4] at hr; cases hr
          refine HI4.out.mono ?_
          rintro e w6 ⟨rfl, hb6, _⟩
          have HB6 := Lib.hid hb6
          clear hb6
          go_wp2_with (fail)
          go_ret3
          rw [HP.out]
          exact ⟨rfl, HB6.out⟩
        | true =>
          have hjl := (isM_in m4).2
          rw [m4] at HI4
          rw [if_neg (by rw [m4]; simp)] at hr
          refine HI4.out.mono ?_
          rintro e w6 ⟨rfl, hb6, hc6⟩
          have HB6 := Lib.hid hb6
          have HO6 := Lib.hid (HO5.out.below hc6)
          have HR6 := Lib.hid hr
          clear hb6 hc6 hr
          go_wp2_with (fail)
          refine ⟨?_, by simp [intOf]; omega⟩
          unfold ArgRel
          refine ⟨ns ++ [t], j + 1, g, by omega, by first | rfl | go_num, by omega, by omega, by rw [List.length_append, ← HN.out]; simp; omega, HR6, ?_, HB6⟩
          exact HO6
end Go.Proofs.YtgohkmdepjmpaaaDoor.pm

/- The reader's steps: what it takes, what it opens. -/
import Derived.Test.YtjbdfckanabepaaDoorValRdr
import Derived.Test.YtjbdfckanabepaaDoorShelf
import Derived.Deep.LoopGhost
import Derived.Deep.AppendLies
import Derived.Deep.RegionLaw
namespace Go.Proofs.YtjbdfckanabepaaDoor.vt
open Go.RowKit mem

theorem take_no (rb : Nat) (s p : List UInt8) (w : World) (hc : w.cell? ⟨rb, 0, none⟩ = some (.string ⟨s.toArray⟩)) (hp : Lib.hasPrefix s p = false) :
    Calls Tryd.prog 32 #[.pointer (some ⟨rb, 0, none⟩), .string ⟨p.toArray⟩] w fun e w' => e = .returned (.bool false) ∧ w = w' := by
  have HP : Hid (Lib.hasPrefix (⟨s.toArray⟩ : ByteArray).data.toList (⟨p.toArray⟩ : ByteArray).data.toList = false) := Lib.hid hp
  clear hp
  go_enter Tryd.func32, Tryd.ntmps32
  go_wp2_with (go_at_call 42; refine (Tryd.strings_CutPrefix _ _ _).mono ?_; rintro e w' ⟨rfl, rfl⟩; rw [HP.out])
  go_ret
  exact ⟨rfl, rfl⟩
theorem take_yes (rb : Nat) (s p : List UInt8) (w : World) (hc : w.cell? ⟨rb, 0, none⟩ = some (.string ⟨s.toArray⟩)) (hf : w.frozen? ⟨rb, 0, none⟩ = false) (hp : Lib.hasPrefix s p = true) :
    Calls Tryd.prog 32 #[.pointer (some ⟨rb, 0, none⟩), .string ⟨p.toArray⟩] w fun e w' => e = .returned (.bool true) ∧ w.setCell ⟨rb, 0, none⟩ (.string ⟨(s.drop p.length).toArray⟩) = w' := by
  have HP : Hid (Lib.hasPrefix (⟨s.toArray⟩ : ByteArray).data.toList (⟨p.toArray⟩ : ByteArray).data.toList = true) := Lib.hid hp
  have HT : Hid (Lib.trimPrefix (⟨s.toArray⟩ : ByteArray).data.toList (⟨p.toArray⟩ : ByteArray).data.toList = s.drop p.length) := Lib.hid (by show Lib.trimPrefix s p = _; unfold Lib.trimPrefix; rw [if_pos hp])
  clear hp
  go_enter Tryd.func32, Tryd.ntmps32
  go_wp2_with (go_at_call 42; refine (Tryd.strings_CutPrefix _ _ _).mono ?_; rintro e w' ⟨rfl, rfl⟩; rw [HP.out, HT.out])
  go_ret
  exact ⟨rfl, rfl⟩
/-- take, at a text that begins so, or not -/
def Took (B rb : Nat) (s p : List UInt8) (o : List (Int × Nat)) (d : List VT) (w : World) (e : Ending) (w' : World) : Prop :=
  e = .returned (.bool (Lib.hasPrefix s p)) ∧ Rdr B rb (Lib.trimPrefix s p) o d w' ∧ Below B w w' ∧ w'.heap.size = w.heap.size ∧ ∀ k, k ≠ rb → w'.heap[k]? = w.heap[k]?
theorem Rdr.cell0 {B rb : Nat} {s : List UInt8} {o : List (Int × Nat)} {d : List VT} {w : World} (h : Rdr B rb s o d w) : w.cell? ⟨rb, 0, none⟩ = some (.string ⟨s.toArray⟩) ∧ ∀ i, w.frozen? ⟨rb, i, none⟩ = false := by
  obtain ⟨_, vo, vd, vs, hh, _⟩ := h
  exact ⟨(cell_of_row w rb 0 _ _ _ hh), fun i => by unfold World.frozen?; rw [hh]; simp⟩
theorem take_any (B rb : Nat) (s p : List UInt8) (o : List (Int × Nat)) (d : List VT) (w : World) (h : Rdr B rb s o d w) :
    Calls Tryd.prog 32 #[.pointer (some ⟨rb, 0, none⟩), .string ⟨p.toArray⟩] w (Took B rb s p o d w) := by
  cases hp : Lib.hasPrefix s p with
  | false =>
    refine (take_no rb s p w h.cell0.1 hp).mono fun e w' ⟨he, hw⟩ => ?_
    subst hw
    refine ⟨by rw [hp]; exact he, ?_, Below.refl _ _, rfl, fun _ _ => rfl⟩
    have : Lib.trimPrefix s p = s := by unfold Lib.trimPrefix; rw [hp]; rfl
    rw [this]; exact h
  | true =>
    refine (take_yes rb s p w h.cell0.1 (h.cell0.2 0) hp).mono fun e w' ⟨he, hw⟩ => ?_
    subst hw
    refine ⟨by rw [hp]; exact he, ?_, (Below.refl _ _).setCell (p := ⟨rb, 0, none⟩) h.1 _, World.size_setCell _ _ _, fun k hk => set_same _ _ _ _ _ hk⟩
    have : Lib.trimPrefix s p = s.drop p.length := by unfold Lib.trimPrefix; rw [if_pos hp]
    rw [this]; exact h.rest
theorem prefix_one (c : UInt8) : ∀ s : List UInt8, Lib.hasPrefix s [c] = (match s with | [] => false | a :: _ => c == a)
  | [] => rfl
  | a :: r => by show (c == a && [].isPrefixOf r) = _; simp
def opnOf : Frames → List (Int × Nat)
  | [] => []
  | (k, _) :: f => opnOf f ++ [(k, (doneOf f).length)]
where doneOf : Frames → List VT
  | [] => []
  | (_, l) :: f => doneOf f ++ l
abbrev doneOf : Frames → List VT := opnOf.doneOf
theorem opn_len : ∀ f : Frames, (opnOf f).length = f.length
  | [] => rfl
  | (_, _) :: f => by rw [opnOf, List.length_append, opn_len f]; rfl
theorem infoPart : (Tryd.prog.info? 69).map (fun i => (i.zero, i.size, i.bytes)) = some (some (.agg #[.int .i64 0, .int .i64 0]), 2, 16) := by kernel_rfl
theorem grown_alloc {w w1 : World} {o : Obj} {row : Option Nat} (h : ((w.alloc o).drew).grownBy w1 row) : w.grownBy w1 row :=
  ⟨h.os, h.tape, h.output, Nat.le_trans (by show _ ≤ (w.alloc o).heap.size; simp) h.size, fun k hk hr => (h.block k (by show k < (w.alloc o).heap.size; simp; omega) hr).trans (Below.heap_alloc w o k hk)⟩
/-- what is open, behind one bracket more -/
theorem open_step {B rb : Nat} {r : List UInt8} {f' : Frames} {k : Int} {w2 w3 : World} {vo vd vo' : Value} {vs : List Value} {o3 : Obj} (hB : B ≤ rb) (hh : w2.heap[rb]? = some (.cells #[.string ⟨r.toArray⟩, vo, vd] 52 (0, 0)))
    (ho : w2.ownsRow B 69 2 vo (opnOf f').length (opnV (opnOf f'))) (hd : w2.ownsRow B 24 3 vd (doneOf f').length vs) (hv : Vals (KG B w2 vd) w2 (doneOf f') vs)
    (h1 : w3.ownsRow B 69 2 vo' ((opnOf f').length + 1) (opnV (opnOf f') ++ [.int .i64 k, .int .i64 ((doneOf f').length : Nat)])) (hg : ((w2.alloc o3).drew).grownBy w3 vo.ownBlock) :
    Rdr B rb r (opnOf ((k, []) :: f')) (doneOf ((k, []) :: f')) (w3.setCell ⟨rb, 1, none⟩ vo') ∧ (∀ W, Below B W w2 → Below B W (w3.setCell ⟨rb, 1, none⟩ vo')) ∧ w3.cell? ⟨rb, 1, none⟩ = some vo ∧ w3.frozen? ⟨rb, 1, none⟩ = false := by
  have hg2 := grown_alloc hg
  have hr := Rdr.open_ (k, (doneOf f').length) hB hh ho hd hv h1 hg2
  have hd2 : doneOf ((k, []) :: f') = doneOf f' := by show opnOf.doneOf f' ++ [] = _; simp
  have ht : Typ w2 52 rb := ⟨_, _, hh⟩
  have hrb : w3.heap[rb]? = _ := (hg2.block rb ht.lt (fun e => (Typ.own ho e.symm).ne ht (by decide) rfl)).trans hh
  refine ⟨by rw [opnOf, hd2]; exact hr, fun W hW => ?_, cell_of_row w3 rb 1 _ _ _ hrb, by unfold World.frozen?; rw [hrb]; simp⟩
  exact (hW.grown hg2 (by have := ht.lt; omega) (fun k hk => (ho.lt k hk).1)).setCell (p := ⟨rb, 1, none⟩) hB _
def OpensRel (B rb : Nat) (s : List UInt8) (f : Frames) (W : World) (g : Nat) (wr : World) : Prop :=
  ∃ (s' : List UInt8) (f' : Frames), Hid (opensF s' f' = opensF s f) ∧ f.length ≤ f'.length ∧ Rdr B rb s' (opnOf f') (doneOf f') wr ∧ Below B W wr ∧ s'.length ≤ g ∧ f'.length + s'.length ≤ 1048576 ∧ (doneOf f').length = (doneOf f).length
def Opened (B rb : Nat) (s : List UInt8) (f : Frames) (w : World) (e : Ending) (w' : World) : Prop :=
  e = .returned (.bool (decide (f.length < (opensF s f).2.length))) ∧ Rdr B rb (opensF s f).1 (opnOf (opensF s f).2) (doneOf (opensF s f).2) w' ∧ Below B w w'
set_option maxHeartbeats 2000000 in
set_option maxRecDepth 100000 in
theorem opens_any (B rb : Nat) (s : List UInt8) (f : Frames) (w : World) (h : Rdr B rb s (opnOf f) (doneOf f) w) (hlen : f.length + s.length ≤ 1048576) (hd : (doneOf f).length ≤ 1048576) (hB : B ≤ w.heap.size) :
    Calls Tryd.prog 39 #[.pointer (some ⟨rb, 0, none⟩)] w (Opened B rb s f w) := by
  obtain ⟨i0, hi, hz0, hz1, hz2⟩ := info_parts infoPart
  have HR := Lib.hid h
  obtain ⟨hBr, vo, vd, vs, hh, ho, _, _⟩ := h
  obtain ⟨Ao, co, rfl⟩ := own_form ho
  have c1 : w.cell? ⟨rb, 1, none⟩ = some (.slice Ao (opnOf f).length co) := cell_of_row w rb 1 _ _ _ hh
  have HO := Lib.hid (opn_len f)
  obtain ⟨N, hN⟩ : ∃ N, N = (opnOf f).length := ⟨_, rfl⟩
  rw [← hN] at c1
  have HN : Hid (N = f.length) := Lib.hid (by rw [hN]; exact HO.out)
  have hNl : N ≤ 1048576 := by have := HN.out; omega
  clear ho hh hN HO
  go_enter Tryd.func39, Tryd.ntmps39
  go_wp2
  go_loopg [] s.length (fun g wr => OpensRel B rb s f w g wr)
  case atStart => unfold OpensRel; exact ⟨s, f, Lib.hid rfl, Nat.le_refl _, HR.out, Below.refl _ _, Nat.le_refl _, hlen, rfl⟩
  case round =>
    obtain ⟨s', f', HE, hle, hr, hb, hg, hl, hdl⟩ := hrel
    have HRR := Lib.hid hr
    have HB := Lib.hid hb
    obtain ⟨hc0, hfz⟩ := hr.cell0
    have HFZ := Lib.hid hfz
    clear hr hb hfz
    by_cases h91 : ∃ r, s' = 91 :: r
    · obtain ⟨r, rfl⟩ := h91
      have HT := Lib.hid (take_yes rb (91 :: r) [91] wr hc0 (HFZ.out 0) (by rw [prefix_one]; rfl))
      have HE2 : Hid (opensF r ((2, []) :: f') = opensF s f) := Lib.hid (by rw [← HE.out, opensF, if_pos rfl])
      rw [List.length_cons] at hg hl
      clear hc0
      go_wp2_with (fail)
      refine HT.out.mono ?_
      rintro e w2 ⟨rfl, hw⟩
      have hr2 : Rdr B rb r (opnOf f') (doneOf f') w2 := by rw [← hw]; exact HRR.out.rest
      have HB2 : Hid (Below B w w2) := Lib.hid (by rw [← hw]; exact HB.out.setCell (p := ⟨rb, 0, none⟩) HRR.out.1 _)
      clear hw
      obtain ⟨hBr2, vo, vd, vs, hh, ho, hd, hv⟩ := hr2
      obtain ⟨A1, c1', rfl⟩ := own_form ho
      obtain ⟨A2, c2', rfl⟩ := own_form hd
      have c1 : w2.cell? ⟨rb, 1, none⟩ = some _ := cell_of_row w2 rb 1 _ _ _ hh
      have c2 : w2.cell? ⟨rb, 2, none⟩ = some _ := cell_of_row w2 rb 2 _ _ _ hh
      have f1 : w2.frozen? ⟨rb, 1, none⟩ = false := by unfold World.frozen?; rw [hh]; simp
      have hrl : rb < w2.heap.size := (Array.getElem?_eq_some_iff.1 hh).1
      obtain ⟨M, hM⟩ : ∃ M, M = (opnOf f').length := ⟨_, rfl⟩
      obtain ⟨D, hD⟩ : ∃ D, D = (doneOf f').length := ⟨_, rfl⟩
      have hMf : M = f'.length := by rw [hM, opn_len]
      have HST := Lib.hid (fun w3 vo' o3 (h1 : w3.ownsRow B 69 2 vo' (M + 1) (opnV (opnOf f') ++ [.int .i64 2, .int .i64 D])) (hg3 : ((w2.alloc o3).drew).grownBy w3 (Value.slice A1 M c1').ownBlock) => open_step (w2 := w2) (f' := f') (k := 2) (vo' := vo') hBr2 hh ho hd hv (by rw [← hM, ← hD]; exact h1) (by rw [← hM]; exact hg3))
      rw [← hM] at c1 ho
      rw [← hD] at c2
      have HO := Lib.hid ho
      have HMF := Lib.hid hMf
      have hMl : M ≤ 1048576 := by omega
      clear ho hd hv hh hM hD hMf
      go_wp2_with (fail)
      have h1 := Lib.hid (two_int .i64 2 D)
      have hBH : B ≤ w2.heap.size := by have := HB2.out.size; omega
      go_region_law (first | (refine step_append_lies _ (by rfl) (.tmp 23) (.tmp 30) 50 (by rfl) B 69 i0 (.agg #[.int .i64 0, .int .i64 0]) 2 16 Tryd.underlying50 hi hz0 hz1 hz2 (by rfl) (by decide) (.slice A1 M c1') M (opnV (opnOf f')) (by rfl) ((HO.out.alloc _).drew) ⟨w2.heap.size, 0, none⟩ 1 1 [.int .i64 2, .int .i64 D] (by rfl) (by rfl) (World.news_of_block (heap_alloc_new w2 _)) h1.out (by decide) (by unfold maxLen; omega) (by omega) (by simp; omega) (w2.heap.size + 1) (by simp) ?_; intro g cap w3 hown hgrow hat hlt; obtain ⟨q1, q2, q3, q4⟩ := HST.out w3 _ _ hown hgrow; have HQ1 := Lib.hid q1; have HQ2 := Lib.hid q2; clear q1 q2 hown hgrow hat))
      all_goals
        go_wp2_with (fail)
        go_roundg r.length
        case measure => omega
        case rel =>
          unfold OpensRel
          exact ⟨r, (2, []) :: f', HE2, by rw [List.length_cons]; omega, HQ1.out, HQ2.out _ HB2.out, Nat.le_refl _, by rw [List.length_cons]; omega, by show (opnOf.doneOf f' ++ []).length = _; rw [List.append_nil]; exact hdl⟩
    · by_cases h123 : ∃ r, s' = 123 :: r
      · obtain ⟨r, rfl⟩ := h123
        have HT := Lib.hid (take_yes rb (123 :: r) [123] wr hc0 (HFZ.out 0) (by rw [prefix_one]; rfl))
        have HE2 : Hid (opensF r ((3, []) :: f') = opensF s f) := Lib.hid (by rw [← HE.out, opensF, if_neg (by decide), if_pos rfl])
        rw [List.length_cons] at hg hl
        have HT0 := Lib.hid (take_no rb (123 :: r) [91] wr hc0 (by rw [prefix_one]; rfl))
        clear hc0
        go_wp2_with (fail)
        refine HT0.out.mono ?_
        rintro e w' ⟨rfl, rfl⟩
        go_wp2_with (fail)
        refine HT.out.mono ?_
        rintro e w2 ⟨rfl, hw⟩
        have hr2 : Rdr B rb r (opnOf f') (doneOf f') w2 := by rw [← hw]; exact HRR.out.rest
        have HB2 : Hid (Below B w w2) := Lib.hid (by rw [← hw]; exact HB.out.setCell (p := ⟨rb, 0, none⟩) HRR.out.1 _)
        clear hw
        obtain ⟨hBr2, vo, vd, vs, hh, ho, hd, hv⟩ := hr2
        obtain ⟨A1, c1', rfl⟩ := own_form ho
        obtain ⟨A2, c2', rfl⟩ := own_form hd
        have c1 : w2.cell? ⟨rb, 1, none⟩ = some _ := cell_of_row w2 rb 1 _ _ _ hh
        have c2 : w2.cell? ⟨rb, 2, none⟩ = some _ := cell_of_row w2 rb 2 _ _ _ hh
        have f1 : w2.frozen? ⟨rb, 1, none⟩ = false := by unfold World.frozen?; rw [hh]; simp
        have hrl : rb < w2.heap.size := (Array.getElem?_eq_some_iff.1 hh).1
        obtain ⟨M, hM⟩ : ∃ M, M = (opnOf f').length := ⟨_, rfl⟩
        obtain ⟨D, hD⟩ : ∃ D, D = (doneOf f').length := ⟨_, rfl⟩
        have hMf : M = f'.length := by rw [hM, opn_len]
        have HST := Lib.hid (fun w3 vo' o3 (h1 : w3.ownsRow B 69 2 vo' (M + 1) (opnV (opnOf f') ++ [.int .i64 3, .int .i64 D])) (hg3 : ((w2.alloc o3).drew).grownBy w3 (Value.slice A1 M c1').ownBlock) => open_step (w2 := w2) (f' := f') (k := 3) (vo' := vo') hBr2 hh ho hd hv (by rw [← hM, ← hD]; exact h1) (by rw [← hM]; exact hg3))
        rw [← hM] at c1 ho
        rw [← hD] at c2
        have HO := Lib.hid ho
        have HMF := Lib.hid hMf
        have hMl : M ≤ 1048576 := by omega
        clear ho hd hv hh hM hD hMf
        go_wp2_with (fail)
        have h1 := Lib.hid (two_int .i64 3 D)
        have hBH : B ≤ w2.heap.size := by have := HB2.out.size; omega
        go_region_law (first | (refine step_append_lies _ (by rfl) (.tmp 41) (.tmp 48) 50 (by rfl) B 69 i0 (.agg #[.int .i64 0, .int .i64 0]) 2 16 Tryd.underlying50 hi hz0 hz1 hz2 (by rfl) (by decide) (.slice A1 M c1') M (opnV (opnOf f')) (by rfl) ((HO.out.alloc _).drew) ⟨w2.heap.size, 0, none⟩ 1 1 [.int .i64 3, .int .i64 D] (by rfl) (by rfl) (World.news_of_block (heap_alloc_new w2 _)) h1.out (by decide) (by unfold maxLen; omega) (by omega) (by simp; omega) (w2.heap.size + 1) (by simp) ?_; intro g cap w3 hown hgrow hat hlt; obtain ⟨q1, q2, q3, q4⟩ := HST.out w3 _ _ hown hgrow; have HQ1 := Lib.hid q1; have HQ2 := Lib.hid q2; clear q1 q2 hown hgrow hat))
        all_goals
          go_wp2_with (fail)
          go_roundg r.length
          case measure => omega
          case rel =>
            unfold OpensRel
            exact ⟨r, (3, []) :: f', HE2, by rw [List.length_cons]; omega, HQ1.out, HQ2.out _ HB2.out, Nat.le_refl _, by rw [List.length_cons]; omega, by show (opnOf.doneOf f' ++ []).length = _; rw [List.append_nil]; exact hdl⟩
      · have hno : opensF s' f' = (s', f') := by
          cases s' with
          | nil => rfl
          | cons c r => rw [opensF, if_neg (fun h => h91 ⟨r, by rw [h]⟩), if_neg (fun h => h123 ⟨r, by rw [h]⟩)]
        have p91 : Lib.hasPrefix s' [91] = false := by
          cases s' with
          | nil => rfl
          | cons c r => rw [prefix_one]; exact beq_eq_false_iff_ne.2 (fun h => h91 ⟨r, by rw [h]⟩)
        have p123 : Lib.hasPrefix s' [123] = false := by
          cases s' with
          | nil => rfl
          | cons c r => rw [prefix_one]; exact beq_eq_false_iff_ne.2 (fun h => h123 ⟨r, by rw [h]⟩)
        have HT0 := Lib.hid (take_no rb s' [91] wr hc0 p91)
        have HT1 := Lib.hid (take_no rb s' [123] wr hc0 p123)
        have HF : Hid (opensF s f = (s', f')) := Lib.hid (by rw [← HE.out, hno])
        obtain ⟨_, vo', vd', vs', hh', ho', _⟩ := HRR.out
        obtain ⟨A1, c1', rfl⟩ := own_form ho'
        have c1 : wr.cell? ⟨rb, 1, none⟩ = some _ := cell_of_row wr rb 1 _ _ _ hh'
        obtain ⟨M, hM⟩ : ∃ M, M = (opnOf f').length := ⟨_, rfl⟩
        rw [← hM] at c1
        have hMf : M = f'.length := by rw [hM, opn_len]
        have HD : Hid (decide (N < M) = decide (f.length < (opensF s f).2.length)) := Lib.hid (by rw [HF.out, ← hMf, HN.out])
        have hMl : M ≤ 1048576 := by omega
        clear hc0 hno p91 p123 hh' ho' hM hMf h91 h123
        go_wp2_with (fail)
        refine HT0.out.mono ?_
        rintro e w' ⟨rfl, rfl⟩
        go_wp2_with (fail)
        refine HT1.out.mono ?_
        rintro e w' ⟨rfl, rfl⟩
        go_wp2_with (fail)
        go_ret
        refine ⟨congrArg (fun b => Ending.returned (Value.bool b)) ?_, by rw [HF.out]; exact HRR.out, HB.out⟩
        rw [← HD.out]
end Go.Proofs.YtjbdfckanabepaaDoor.vt

/- WordKnows' law: whether any text is a word, or a given function, and its mark. -/
import Derived.Test.YtkjlefhplghifaaDoorWordWorks
import Derived.Deep.RegionHeld3
namespace Go.Proofs.YtkjlefhplghifaaDoor.wd
open Go.RowKit mem vt

theorem rall_got (w : World) : Calls Tryd.prog 7 #[] w fun e w' => ∃ v, e = .returned v ∧ Got w.heap.size 9 1 20 (strV words20) v w w' :=
  (rall_any w).mono fun e w' ⟨h1, h2⟩ => by
    subst h2
    refine ⟨_, h1, ?_, (Below.refl _ _).alloc (Nat.le_refl _) _⟩
    exact World.ownsRow_lit (size := 1) (e := 9) w (strV words20).toArray 20 (base := w.heap.size) (by omega) (by decide) (by decide)
theorem giv_cases (s : List UInt8) :
    ((s == [108, 101, 110]) = true ∧ (s == [105, 110, 112, 117, 116]) = false ∧ (s == [102, 105, 108, 108]) = false ∧ (s == [105, 110, 112, 117, 116, 115]) = false ∧ givN s = 1 ∧ givB s = true) ∨
    ((s == [108, 101, 110]) = false ∧ (s == [105, 110, 112, 117, 116]) = true ∧ (s == [102, 105, 108, 108]) = false ∧ (s == [105, 110, 112, 117, 116, 115]) = false ∧ givN s = 1 ∧ givB s = true) ∨
    ((s == [108, 101, 110]) = false ∧ (s == [105, 110, 112, 117, 116]) = false ∧ (s == [102, 105, 108, 108]) = true ∧ (s == [105, 110, 112, 117, 116, 115]) = false ∧ givN s = 2 ∧ givB s = true) ∨
    ((s == [108, 101, 110]) = false ∧ (s == [105, 110, 112, 117, 116]) = false ∧ (s == [102, 105, 108, 108]) = false ∧ (s == [105, 110, 112, 117, 116, 115]) = true ∧ givN s = 0 ∧ givB s = true) ∨
    ((s == [108, 101, 110]) = false ∧ (s == [105, 110, 112, 117, 116]) = false ∧ (s == [102, 105, 108, 108]) = false ∧ (s == [105, 110, 112, 117, 116, 115]) = false ∧ givN s = 0 ∧ givB s = false) := by
  by_cases h1 : s = [108, 101, 110]
  · subst h1; left; decide +kernel
  by_cases h2 : s = [105, 110, 112, 117, 116]
  · subst h2; right; left; decide +kernel
  by_cases h3 : s = [102, 105, 108, 108]
  · subst h3; right; right; left; decide +kernel
  by_cases h4 : s = [105, 110, 112, 117, 116, 115]
  · subst h4; right; right; right; left; decide +kernel
  right; right; right; right
  have e : givF s = -1 := by
    unfold givF nLen nInput nFill nInputs
    rw [if_neg (by simp [h1, h2]), if_neg h3, if_neg h4]
  refine ⟨by rw [beq_eq_false_iff_ne]; exact h1, by rw [beq_eq_false_iff_ne]; exact h2, by rw [beq_eq_false_iff_ne]; exact h3, by rw [beq_eq_false_iff_ne]; exact h4, ?_, ?_⟩
  · unfold givN; rw [e]; rfl
  · unfold givB; rw [e]; rfl
def KnRel (w : World) (v1 v2 i : Value) (wr : World) : Prop :=
  ∃ k : Nat, i = .int .i64 k ∧ k ≤ 20 ∧ Hid (wr.ownsRow w.heap.size 9 1 v1 20 (strV words20)) ∧ Hid (wr.ownsRow w.heap.size 9 1 v2 20 (strV words20)) ∧ Hid (Below w.heap.size w wr)
set_option maxHeartbeats 400000 in
theorem knows_law (s : List UInt8) (w : World) (hs : s.length ≤ 100) (hL : LD w) : Calls Tryd.prog 3 #[.string ⟨s.toArray⟩] w fun e w' => e = .returned (.bool true) ∧ Below w.heap.size w w' := by
  have hs2 : (s.length : Int) ≤ 100 := by omega
  have HW := Lib.hid (fun w' hb => from_base (w := w) (w1 := w') (works_any w' (hL.on hb)) hb)
  have HGi := Lib.hid (fun w' hb => from_base (w := w) (w1 := w') (given_any s w' (by omega) (hL.on hb)) hb)
  have HIs := Lib.hid (fun w' hb => from_base (w := w) (w1 := w') (is_any s w' (by omega) (hL.on hb)) hb)
  have HRi := Lib.hid (fun w' hb => from_base (w := w) (w1 := w') (ris_any s w') hb)
  have HMk := Lib.hid (fun w' hb => from_base (w := w) (w1 := w') (mark_any s w' (by omega) (hL.on hb)) hb)
  have HRm := Lib.hid (fun w' hb => from_base (w := w) (w1 := w') (rmark_any s w' (by omega)) hb)
  have HAll := Lib.hid (fun w' (hb : Below w.heap.size w w') => all_any w' (hL.on hb))
  have HRal := Lib.hid (fun w' => rall_got w')
  obtain ⟨I, hI⟩ : ∃ I, I = isW s := ⟨_, rfl⟩
  rw [← hI] at HIs HRi
  obtain ⟨M, hM⟩ : ∃ M, M = markF s := ⟨_, rfl⟩
  rw [← hM] at HMk HRm
  clear hI hM
  have hb0 : Below w.heap.size w w := Below.refl _ _
  go_enter Tryd.func3, Tryd.ntmps3
  go_wp2_with (fail)
  refine (HW.out _ hb0).mono ?_
  rintro e w1 ⟨rfl, hb1⟩
  go_wp2_with (fail)
  refine (HAll.out _ hb1).mono ?_
  rintro e w2 ⟨v1, rfl, hg1⟩
  have hb2 := hb1.trans (hg1.2.mono hb1.size)
  have hz1 := hb1.size
  have ho1 := own_base hg1.1 hz1
  go_wp2_with (fail)
  refine (HRal.out _).mono ?_
  rintro e w3 ⟨v2, rfl, hg2⟩
  have hb3 := hb2.trans (hg2.2.mono hb2.size)
  have ho2 := own_base hg2.1 hb2.size
  have ho3 := own_below ho1 hg2.2
  obtain ⟨g1, c1, rfl⟩ := own_addr ho3 (by omega)
  obtain ⟨g2, c2, rfl⟩ := own_addr ho2 (by omega)
  have HO1 := Lib.hid ho3
  have HO2 := Lib.hid ho2
  have HB3 := Lib.hid hb3
  clear hb0 hb1 hb2 hb3 hg1 hg2 ho1 ho2 ho3 hz1
  go_wp2_with (fail)
  go_loopw [5] (fun i wr => KnRel w (.slice (some ⟨g1, 0, none⟩) 20 c1) (.slice (some ⟨g2, 0, none⟩) 20 c2) i wr) (fun i _ => 20 - (intOf i).toNat)
  case atStart => unfold KnRel; exact ⟨0, rfl, by omega, HO1, HO2, HB3⟩
  case round =>
    unfold KnRel at hrel
    obtain ⟨k, rfl, hk, HP, HQ, HB⟩ := hrel
    by_cases hlt : k < 20
    · have hlt' : (k : Int) < 20 := by omega
      have hk0 : (0 : Int) ≤ (k : Int) := by omega
      have hkl : k < words20.length := hlt
      have a0 := HP.out.cellAt k (by omega)
      have b0 := HQ.out.cellAt k (by omega)
      rw [strV_at words20 k hkl] at a0 b0
      have hin := words_in _ (List.getElem_mem hkl)
      have hml : words20[k].length ≤ 6 := (by decide : ∀ m ∈ words20, m.length ≤ 6) _ (List.getElem_mem hkl)
      obtain ⟨m, hm⟩ : ∃ m, m = words20[k] := ⟨_, rfl⟩
      rw [← hm] at a0 b0 hin hml
      have HI := Lib.hid (is_any m wr.drew (by omega) (hL.on HB.out.drew))
      rw [hin] at HI
      clear hm hin hml hkl
      go_wp2_with (fail)
      go_region_held3 (fun w' => w'.cell? ⟨g1, k, none⟩ = some (.string ⟨m.toArray⟩) ∧ w'.cell? ⟨g2, k, none⟩ = some (.string ⟨m.toArray⟩)) (first | go_keep)
        (first
          | (go_at_call 8; (with_reducible refine HI.out.mono ?_); rintro e w4 ⟨rfl, hb4⟩; have p1 := own_below HP.out.drew hb4; have p2 := own_below HQ.out.drew hb4; have q1 := (p1.cellAt k (by omega)).trans ((HP.out.cellAt k (by omega)).symm.trans a0); have q2 := (p2.cellAt k (by omega)).trans ((HQ.out.cellAt k (by omega)).symm.trans b0); have HP4 := Lib.hid p1; have HQ4 := Lib.hid p2; have HB4 := Lib.hid (HB.out.drew.trans (hb4.mono HB.out.size)); clear p1 p2 hb4))
      all_goals
        go_wp2_with (fail)
        go_roundw
        case rel => unfold KnRel; exact ⟨k + 1, by go_num, by omega, HP4, HQ4, HB4⟩
        case measure => simp [intOf]; omega
    · obtain rfl : k = 20 := by omega
      have hbb := HB.out
      go_wp2_with (fail)
      refine (HGi.out _ hbb).mono ?_
      rintro e w4 ⟨rfl, hb4⟩
      clear HAll HRal HO1 HO2 HB3 HP HQ HW HB hbb
      rcases giv_cases s with ⟨e1, e2, e3, e4, gN, gB⟩ | ⟨e1, e2, e3, e4, gN, gB⟩ | ⟨e1, e2, e3, e4, gN, gB⟩ | ⟨e1, e2, e3, e4, gN, gB⟩ | ⟨e1, e2, e3, e4, gN, gB⟩
      all_goals
        rw [gN, gB]
        clear gN gB
        go_wp2_with (fail)
        refine (HIs.out _ hb4).mono ?_
        rintro e w5 ⟨rfl, hb5⟩
        go_wp2_with (fail)
        refine (HRi.out _ hb5).mono ?_
        rintro e w6 ⟨rfl, hb6⟩
        go_wp2_with (fail)
        refine (HMk.out _ hb6).mono ?_
        rintro e w7 ⟨rfl, hb7⟩
        go_wp2_with (fail)
        refine (HRm.out _ hb7).mono ?_
        rintro e w8 ⟨rfl, hb8⟩
        go_wp2_with (fail)
        go_ret
        exact ⟨rfl, hb8⟩
theorem list_of (s : ByteArray) : (⟨s.data.toList.toArray⟩ : ByteArray) = s := by cases s; rfl
theorem knows_long (s : ByteArray) (w : World) (hs : 100 < s.size) (hm : s.size ≤ 9223372036854775807) (hL : LD w) : Calls Tryd.prog 3 #[.string s] w fun e w' => e = .returned (.bool true) ∧ Below w.heap.size w w' := by
  have hs2 : 100 < (s.size : Int) := by omega
  have HW := Lib.hid (fun w' hb => from_base (w := w) (w1 := w') (works_any w' (hL.on hb)) hb)
  have hb0 : Below w.heap.size w w := Below.refl _ _
  go_enter Tryd.func3, Tryd.ntmps3
  go_wp2_with (fail)
  refine (HW.out _ hb0).mono ?_
  rintro e w1 ⟨rfl, hb1⟩
  go_wp2_with (fail)
  refine (HW.out _ hb1).mono ?_
  rintro e w2 ⟨rfl, hb2⟩
  go_wp2_with (fail)
  go_ret
  exact ⟨rfl, hb2⟩
theorem knows_any (s : ByteArray) (w : World) (hm : s.size ≤ 9223372036854775807) (hL : LD w) : Calls Tryd.prog 3 #[.string s] w fun e w' => e = .returned (.bool true) ∧ Below w.heap.size w w' := by
  by_cases h : 100 < s.size
  · exact knows_long s w h hm hL
  · have := knows_law s.data.toList w (by simp; omega) hL
    rw [list_of] at this; exact this
end Go.Proofs.YtkjlefhplghifaaDoor.wd

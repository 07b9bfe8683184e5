/- WordSigns' law: any number's spelling, and the sign of any text. -/
import Derived.Test.YtkjlefhplghifaaDoorWordWorks
namespace Go.Proofs.YtkjlefhplghifaaDoor.wd
open Go.RowKit mem vt

def SgRel (w : World) (i : Value) (wr : World) : Prop := ∃ k : Nat, i = .int .i64 ((k : Int) + 1) ∧ k ≤ 14 ∧ Hid (Below w.heap.size w wr)
set_option maxHeartbeats 400000 in
theorem signs_law (k : Int) (s : List UInt8) (w : World) (hk : I64 k) (hs : s.length ≤ 100) (hL : LD w) : Calls Tryd.prog 4 #[.int .i64 k, .string ⟨s.toArray⟩] w fun e w' => e = .returned (.bool true) ∧ Below w.heap.size w w' := by
  have hs2 : (s.length : Int) ≤ 100 := by omega
  have HW := Lib.hid (fun w' hb => from_base (w := w) (w1 := w') (works_any w' (hL.on hb)) hb)
  have HSp := Lib.hid (fun w' hb => from_base (w := w) (w1 := w') (spell_any k w' hk (hL.on hb)) hb)
  have HRs := Lib.hid (fun w' hb => from_base (w := w) (w1 := w') (rspell_any k w' hk) hb)
  have HSt := Lib.hid (fun w' hb => from_base (w := w) (w1 := w') (sign_any (spellF k) w' (by have := spell_len k; omega) (hL.on hb)) hb)
  have HSs := Lib.hid (fun w' hb => from_base (w := w) (w1 := w') (sign_any s w' (by omega) (hL.on hb)) hb)
  have HBi := Lib.hid (fun w' hb => from_base (w := w) (w1 := w') (bind_any k w' hk (hL.on hb)) hb)
  have HRb := Lib.hid (fun w' => rbind_any k w' hk)
  have key : (spellF k ≠ [] ∧ signF (spellF k) = k ∧ isS (spellF k) = true) ∨ (spellF k = [] ∧ signF (spellF k) = 0 ∧ isS (spellF k) = false) := by
    by_cases h : k < 1 ∨ 14 < k
    · right
      rw [spell_out h]
      exact ⟨rfl, by decide +kernel, by decide +kernel⟩
    · left
      obtain ⟨h1, h2, h3⟩ := spell_in (k := k) (by omega) (by omega)
      exact ⟨h3, h2, decide_eq_true h1⟩
  have key2 : (isS s = true ∧ (s == []) = false ∧ ∀ w', Below w.heap.size w w' → Calls Tryd.prog 15 #[.int .i64 (signF s)] w' fun e w'' => e = .returned (.string ⟨s.toArray⟩) ∧ Below w.heap.size w w'') ∨ (isS s = false ∧ signF s = 0 ∧ ∀ n : Nat, n < 14 → spellF ((n : Int) + 1) ≠ s) := by
    by_cases h : s ∈ signs14
    · left
      obtain ⟨h1, h2, h3, h4⟩ := sign_in h
      refine ⟨decide_eq_true h, by rw [beq_eq_false_iff_ne]; exact h4, fun w' hb => ?_⟩
      have := from_base (w := w) (rspell_any (signF s) w' (by unfold I64; omega)) hb
      rw [h3] at this; exact this
    · right
      obtain ⟨h1, h2⟩ := sign_out h
      exact ⟨h2, h1, fun n hn => spell_not h trivial _ (by omega) (by omega)⟩
  have HRS := Lib.hid (fun (n : Nat) (hn : n < 14) w' hb => from_base (w := w) (w1 := w') (rspell_any ((n : Int) + 1) w' (by unfold I64; omega)) hb)
  have hkk := Lib.hid hk
  obtain ⟨T, hT⟩ : ∃ T, T = spellF k := ⟨_, rfl⟩
  rw [← hT] at HSp HRs HSt key
  obtain ⟨B, hB⟩ : ∃ B, B = bindF k := ⟨_, rfl⟩
  rw [← hB] at HBi HRb
  clear hT hB hk
  rcases key with ⟨kA, kB, kC⟩ | ⟨kA, kB, kC⟩
  · rcases key2 with ⟨mA, mB, mC⟩ | ⟨mA, mB, mC⟩
    · have hb0 : Below w.heap.size w w := Below.refl _ _
      rw [kB, kC] at HSt
      have hT0 : T.isEmpty = false := by rw [List.isEmpty_eq_false_iff]; exact kA
      clear kB kC kA
      rw [mA] at HSs
      have hS0 : s.isEmpty = false := by cases s with | nil => exact absurd mB (by decide) | cons a r => rfl
      have HM := Lib.hid mC
      obtain ⟨m, hm⟩ : ∃ m, m = signF s := ⟨_, rfl⟩
      rw [← hm] at HSs HM
      clear hm mA mB mC
      go_enter Tryd.func4, Tryd.ntmps4
      go_wp2_with (fail)
      refine (HW.out _ hb0).mono ?_
      rintro e w1 ⟨rfl, hb1⟩
      go_wp2_with (fail)
      refine (HSp.out _ hb1).mono ?_
      rintro e w2 ⟨rfl, hb2⟩
      go_wp2_with (fail)
      refine (HSt.out _ hb2).mono ?_
      rintro e w3 ⟨rfl, hb3⟩
      go_wp2_with (fail)
      refine (HSs.out _ hb3).mono ?_
      rintro e w4 ⟨rfl, hb4⟩
      go_wp2_with (fail)
      refine (HRs.out _ hb4).mono ?_
      rintro e w5 ⟨rfl, hb5⟩
      go_wp2_with (fail)
      refine (HBi.out _ hb5).mono ?_
      rintro e w6 ⟨rfl, hb6⟩
      go_wp2_with (fail)
      refine (HRb.out _).mono ?_
      rintro e w7 ⟨rfl, rfl⟩
      go_wp2_with (fail)
      refine (HM.out _ hb6).mono ?_
      rintro e w8 ⟨rfl, hb8⟩
      go_wp2_with (fail)
      go_ret
      exact ⟨rfl, hb8⟩
    · have hb0 : Below w.heap.size w w := Below.refl _ _
      rw [kB, kC] at HSt
      have hT0 : T.isEmpty = false := by rw [List.isEmpty_eq_false_iff]; exact kA
      clear kB kC kA
      rw [mA, mB] at HSs
      have HM := Lib.hid mC
      clear mA mB mC
      go_enter Tryd.func4, Tryd.ntmps4
      go_wp2_with (fail)
      refine (HW.out _ hb0).mono ?_
      rintro e w1 ⟨rfl, hb1⟩
      go_wp2_with (fail)
      refine (HSp.out _ hb1).mono ?_
      rintro e w2 ⟨rfl, hb2⟩
      go_wp2_with (fail)
      refine (HSt.out _ hb2).mono ?_
      rintro e w3 ⟨rfl, hb3⟩
      go_wp2_with (fail)
      refine (HSs.out _ hb3).mono ?_
      rintro e w4 ⟨rfl, hb4⟩
      go_wp2_with (fail)
      refine (HRs.out _ hb4).mono ?_
      rintro e w5 ⟨rfl, hb5⟩
      go_wp2_with (fail)
      refine (HBi.out _ hb5).mono ?_
      rintro e w6 ⟨rfl, hb6⟩
      go_wp2_with (fail)
      refine (HRb.out _).mono ?_
      rintro e w7 ⟨rfl, rfl⟩
      go_wp2_with (fail)
      have HB6 := Lib.hid hb6
      clear hb0 hb1 hb2 hb3 hb4 hb5 hb6
      go_loopw [10] (fun i wr => SgRel w i wr) (fun i _ => 15 - (intOf i).toNat)
      case atStart => unfold SgRel; exact ⟨0, rfl, by omega, HB6⟩
      case round =>
        unfold SgRel at hrel
        obtain ⟨n, rfl, hn, HB⟩ := hrel
        by_cases hlt : n < 14
        · have hlt' : (n : Int) + 1 ≤ 14 := by omega
          have hX : (spellF ((n : Int) + 1) == s) = false := by rw [beq_eq_false_iff_ne]; exact HM.out n hlt
          have HR := Lib.hid (HRS.out n hlt wr HB.out)
          obtain ⟨X, hXX⟩ : ∃ X, X = spellF ((n : Int) + 1) := ⟨_, rfl⟩
          rw [← hXX] at HR hX
          clear hXX
          go_wp2_with (fail)
          refine HR.out.mono ?_
          rintro e w8 ⟨rfl, hb8⟩
          have HB8 := Lib.hid hb8
          clear hb8
          go_wp2_with (fail)
          go_roundw
          case rel => unfold SgRel; exact ⟨n + 1, by go_num, by omega, HB8⟩
          case measure => simp [intOf]; omega
        · obtain rfl : n = 14 := by omega
          go_wp2_with (fail)
          go_ret
          exact ⟨rfl, HB.out⟩
  · rcases key2 with ⟨mA, mB, mC⟩ | ⟨mA, mB, mC⟩
    · have hb0 : Below w.heap.size w w := Below.refl _ _
      subst kA
      rw [kB, kC] at HSt
      clear kB kC
      rw [mA] at HSs
      have hS0 : s.isEmpty = false := by cases s with | nil => exact absurd mB (by decide) | cons a r => rfl
      have HM := Lib.hid mC
      obtain ⟨m, hm⟩ : ∃ m, m = signF s := ⟨_, rfl⟩
      rw [← hm] at HSs HM
      clear hm mA mB mC
      go_enter Tryd.func4, Tryd.ntmps4
      go_wp2_with (fail)
      refine (HW.out _ hb0).mono ?_
      rintro e w1 ⟨rfl, hb1⟩
      go_wp2_with (fail)
      refine (HSp.out _ hb1).mono ?_
      rintro e w2 ⟨rfl, hb2⟩
      go_wp2_with (fail)
      refine (HSt.out _ hb2).mono ?_
      rintro e w3 ⟨rfl, hb3⟩
      go_wp2_with (fail)
      refine (HSs.out _ hb3).mono ?_
      rintro e w4 ⟨rfl, hb4⟩
      go_wp2_with (fail)
      refine (HRs.out _ hb4).mono ?_
      rintro e w5 ⟨rfl, hb5⟩
      go_wp2_with (fail)
      refine (HBi.out _ hb5).mono ?_
      rintro e w6 ⟨rfl, hb6⟩
      go_wp2_with (fail)
      refine (HRb.out _).mono ?_
      rintro e w7 ⟨rfl, rfl⟩
      go_wp2_with (fail)
      refine (HM.out _ hb6).mono ?_
      rintro e w8 ⟨rfl, hb8⟩
      go_wp2_with (fail)
      go_ret
      exact ⟨rfl, hb8⟩
    · have hb0 : Below w.heap.size w w := Below.refl _ _
      subst kA
      rw [kB, kC] at HSt
      clear kB kC
      rw [mA, mB] at HSs
      have HM := Lib.hid mC
      clear mA mB mC
      go_enter Tryd.func4, Tryd.ntmps4
      go_wp2_with (fail)
      refine (HW.out _ hb0).mono ?_
      rintro e w1 ⟨rfl, hb1⟩
      go_wp2_with (fail)
      refine (HSp.out _ hb1).mono ?_
      rintro e w2 ⟨rfl, hb2⟩
      go_wp2_with (fail)
      refine (HSt.out _ hb2).mono ?_
      rintro e w3 ⟨rfl, hb3⟩
      go_wp2_with (fail)
      refine (HSs.out _ hb3).mono ?_
      rintro e w4 ⟨rfl, hb4⟩
      go_wp2_with (fail)
      refine (HRs.out _ hb4).mono ?_
      rintro e w5 ⟨rfl, hb5⟩
      go_wp2_with (fail)
      refine (HBi.out _ hb5).mono ?_
      rintro e w6 ⟨rfl, hb6⟩
      go_wp2_with (fail)
      refine (HRb.out _).mono ?_
      rintro e w7 ⟨rfl, rfl⟩
      go_wp2_with (fail)
      have HB6 := Lib.hid hb6
      clear hb0 hb1 hb2 hb3 hb4 hb5 hb6
      go_loopw [10] (fun i wr => SgRel w i wr) (fun i _ => 15 - (intOf i).toNat)
      case atStart => unfold SgRel; exact ⟨0, rfl, by omega, HB6⟩
      case round =>
        unfold SgRel at hrel
        obtain ⟨n, rfl, hn, HB⟩ := hrel
        by_cases hlt : n < 14
        · have hlt' : (n : Int) + 1 ≤ 14 := by omega
          have hX : (spellF ((n : Int) + 1) == s) = false := by rw [beq_eq_false_iff_ne]; exact HM.out n hlt
          have HR := Lib.hid (HRS.out n hlt wr HB.out)
          obtain ⟨X, hXX⟩ : ∃ X, X = spellF ((n : Int) + 1) := ⟨_, rfl⟩
          rw [← hXX] at HR hX
          clear hXX
          go_wp2_with (fail)
          refine HR.out.mono ?_
          rintro e w8 ⟨rfl, hb8⟩
          have HB8 := Lib.hid hb8
          clear hb8
          go_wp2_with (fail)
          go_roundw
          case rel => unfold SgRel; exact ⟨n + 1, by go_num, by omega, HB8⟩
          case measure => simp [intOf]; omega
        · obtain rfl : n = 14 := by omega
          go_wp2_with (fail)
          go_ret
          exact ⟨rfl, HB.out⟩
theorem list_of2 (s : ByteArray) : (⟨s.data.toList.toArray⟩ : ByteArray) = s := by cases s; rfl
theorem signs_long (k : Int) (s : ByteArray) (w : World) (hs : 100 < s.size) (hm : s.size ≤ 9223372036854775807) (hL : LD w) : Calls Tryd.prog 4 #[.int .i64 k, .string s] w fun e w' => e = .returned (.bool true) ∧ Below w.heap.size w w' := by
  have hs2 : 100 < (s.size : Int) := by omega
  have HW := Lib.hid (fun w' hb => from_base (w := w) (w1 := w') (works_any w' (hL.on hb)) hb)
  have hb0 : Below w.heap.size w w := Below.refl _ _
  go_enter Tryd.func4, Tryd.ntmps4
  go_wp2_with (fail)
  refine (HW.out _ hb0).mono ?_
  rintro e w1 ⟨rfl, hb1⟩
  go_wp2_with (fail)
  refine (HW.out _ hb1).mono ?_
  rintro e w2 ⟨rfl, hb2⟩
  go_wp2_with (fail)
  go_ret
  exact ⟨rfl, hb2⟩
theorem signs_any (k : Int) (s : ByteArray) (w : World) (hk : I64 k) (hm : s.size ≤ 9223372036854775807) (hL : LD w) : Calls Tryd.prog 4 #[.int .i64 k, .string s] w fun e w' => e = .returned (.bool true) ∧ Below w.heap.size w w' := by
  by_cases h : 100 < s.size
  · exact signs_long k s w h hm hL
  · have := signs_law k s.data.toList w hk (by simp; omega) hL
    rw [list_of2] at this; exact this
end Go.Proofs.YtkjlefhplghifaaDoor.wd

/- LexBack's law: what is spelled is cut into the same tokens; tokens rise, and blanks alone stand between them. -/
import Derived.Test.YtjppfnofceejhaaDoorLexCutsLaw
import Derived.Test.YtjppfnofceejhaaDoorFastLex
namespace Go.Proofs.YtjppfnofceejhaaDoor.lx
open Go.RowKit mem vt wd

set_option maxRecDepth 100000 in
theorem back_long (s : ByteArray) (w : World) (hs : 500 < s.size) (hm : s.size ≤ 9223372036854775807) (hL : LD w) : Calls Tryd.prog 4 #[.string s] w fun e w' => e = .returned (.bool true) ∧ Below w.heap.size w w' := by
  have hs2 : 500 < (s.size : Int) := by omega
  have HW := Lib.hid (fun w' hb => from_b (w := w) (w1 := w') (works_any w' (hL.on hb)) hb)
  have hb0 : Below w.heap.size w w := Below.refl _ _
  go_enter Tryd.func4, Tryd.ntmps4
  go_wp2_with (fail)
  refine (HW.out _ hb0).mono ?_
  rintro e w1 ⟨rfl, hb1⟩
  go_wp2_with (fail)
  refine (HW.out _ hb1).mono ?_
  rintro e w2 ⟨rfl, hb2⟩
  go_wp2_with (fail)
  go_ret
  exact ⟨rfl, hb2⟩
set_option maxRecDepth 100000 in
theorem back_bad (s : ByteArray) (w : World) (hs : s.size ≤ 500) (hbad : (lexW s.data.toList 0).1 ≠ 0) (hL : LD w) : Calls Tryd.prog 4 #[.string s] w fun e w' => e = .returned (.bool true) ∧ Below w.heap.size w w' := by
  have hs2 : (s.size : Int) ≤ 500 := by omega
  have hl : s.data.toList.length = s.size := by simp
  have HW := Lib.hid (fun w' hb => from_b (w := w) (w1 := w') (works_any w' (hL.on hb)) hb)
  have HA := Lib.hid (fun w' (hb : Below w.heap.size w w') => lall_any s w' (by omega) (hL.on hb))
  have hn := lex_none _ s.data.toList 0 (Nat.le_refl _) hbad
  have hlex := lexA_in (l := s.data.toList) (by omega)
  unfold AllPost at HA
  rw [hlex] at HA
  obtain ⟨⟨er, at_, ts⟩, hr⟩ : ∃ r, r = lexW s.data.toList 0 := ⟨_, rfl⟩
  rw [← hr] at HA hbad hn
  simp only at HA hbad hn
  subst hn
  have e0 : (er == 0) = false := by rw [beq_eq_false_iff_ne]; exact hbad
  clear hr hlex hbad
  have hb0 : Below w.heap.size w w := Below.refl _ _
  go_enter Tryd.func4, Tryd.ntmps4
  go_wp2_with (fail)
  refine (HW.out _ hb0).mono ?_
  rintro e w1 ⟨rfl, hb1⟩
  go_wp2_with (fail)
  refine (HA.out _ hb1).mono ?_
  rintro e w2 ⟨v1, rfl, hg1⟩
  have hb2 := hb1.trans (hg1.2.mono hb1.size)
  obtain ⟨A1, c1, rfl⟩ := own_form hg1.1
  clear hg1
  simp only [List.length_nil]
  go_wp2_with (fail)
  go_ret
  exact ⟨rfl, hb2⟩
theorem alike_len : ∀ {a b : List Tok}, Alike a b → a.length = b.length
  | [], [], _ => rfl
  | _ :: a, _ :: b, h => by rw [List.length_cons, List.length_cons, alike_len h.2]
  | [], _ :: _, h => h.elim
  | _ :: _, [], h => h.elim
theorem alike_at : ∀ {a b : List Tok}, Alike a b → ∀ (k : Nat) (h1 : k < a.length) (h2 : k < b.length), same3 a[k] b[k]
  | _ :: _, _ :: _, h, 0, _, _ => h.1
  | _ :: _, _ :: _, h, k + 1, h1, h2 => alike_at h.2 k (by simpa using h1) (by simpa using h2)
  | [], [], _, k, h1, _ => absurd h1 (by simp)
  | [], _ :: _, h, _, _, _ => h.elim
  | _ :: _, [], h, _, _, _ => h.elim
/-- the texts of tokens that lie in a text are together no longer -/
theorem lies_len {s : List UInt8} : ∀ {e : Nat} {l : List Tok}, e ≤ s.length → Lies s e l → (tailS l).length ≤ (s.length - e) + l.length
  | e, [], _, _ => by unfold tailS; simp
  | e, t :: l, he, h => by
    obtain ⟨h1, h2, _, _, h5⟩ := h
    have ih := lies_len h2 h5
    have : (tailS (t :: l)).length ≤ t.text.length + 1 + (tailS l).length := by
      unfold tailS
      rw [List.flatMap_cons, List.length_append]
      split <;> simp
    rw [List.length_cons]
    omega
theorem cut_at (s : ByteArray) (a b : Nat) (h1 : a ≤ b) (h2 : b ≤ s.size) (l : List UInt8) (h : (s.data.toList.drop a).take (b - a) = l) (w : World) :
    (Instr.slice 9 (.string s) (some (.int .i64 a)) (some (.int .i64 b)) none).run Tryd.prog w = .ok (.string ⟨l.toArray⟩) w := by
  have x := run_slice_string (P := Tryd.prog) w 9 s .i64 .i64 (a : Int) (b : Int) Tryd.underlying9 (by omega) (by omega) (by omega)
  rw [Int.toNat_natCast, Int.toNat_natCast] at x
  rw [x]
  refine congrArg (fun z => Result.ok (Value.string z) w) ?_
  apply ByteArray.ext
  apply Array.ext'
  rw [Lib.extract_data, h]
def BkRel (s : ByteArray) (w : World) (ts us : List Tok) (v1 v2 en i : Value) (wr : World) : Prop :=
  ∃ k e : Nat, i = .int .i64 k ∧ en = .int .i64 e ∧ k ≤ ts.length ∧ e ≤ s.size ∧ Hid (Lies s.data.toList e (ts.drop k)) ∧ Hid (TokS wr.heap.size wr ts v1) ∧ Hid (TokS wr.heap.size wr us v2) ∧ Hid (Below w.heap.size w wr)
set_option maxRecDepth 100000 in
set_option maxHeartbeats 2000000 in
theorem back_good (s : ByteArray) (w : World) (hs : s.size ≤ 500) (ts : List Tok) (q : Nat) (hok : lexW s.data.toList 0 = (0, q, ts)) (hL : LD w) : Calls Tryd.prog 4 #[.string s] w fun e w' => e = .returned (.bool true) ∧ Below w.heap.size w w' := by
  have hs2 : (s.size : Int) ≤ 500 := by omega
  have hl : s.data.toList.length = s.size := by simp
  have HW := Lib.hid (fun w' hb => from_b (w := w) (w1 := w') (works_any w' (hL.on hb)) hb)
  have HA := Lib.hid (fun w' (hb : Below w.heap.size w w') => lall_any s w' (by omega) (hL.on hb))
  have hcnt := lex_count _ s.data.toList 0 (Nat.le_refl _)
  rw [hok] at hcnt
  simp only at hcnt
  obtain ⟨hlies, htoks⟩ := lex_lies s.data.toList _ 0 ts q (Nat.le_refl _) (Nat.zero_le _) hok
  have htl := lies_len (Nat.zero_le _) hlies
  rw [hl] at htl hcnt
  have hsl : (spellL ts).length ≤ (tailS ts).length := by unfold spellL; rw [List.length_drop]; omega
  obtain ⟨us, hus, hal⟩ := lex_spell ts 0 htoks
  have hlen := alike_len hal
  have HP1 : Hid (∀ w1 e w', AllPost s.data.toList w1 e w' → ∃ A c, e = .returned (.tuple #[.slice A ts.length c, .int .i64 q, .int .i64 0]) ∧ TokS w'.heap.size w' ts (.slice A ts.length c) ∧ Below w1.heap.size w1 w') := Lib.hid (fun w1 e w' h => all_ok h ((lexA_in (by omega)).trans hok))
  have HP2 : Hid (∀ w1 e w', AllPost (spellL ts) w1 e w' → ∃ A c, e = .returned (.tuple #[.slice A ts.length c, .int .i64 0, .int .i64 0]) ∧ TokS w'.heap.size w' us (.slice A ts.length c) ∧ Below w1.heap.size w1 w') := Lib.hid (fun w1 e w' h => by
    have := all_ok h ((lexA_in (by omega)).trans hus)
    rw [← hlen] at this
    exact this)
  have HS := Lib.hid (fun v w1 h => lspell_any ts v w1 w1.heap.size h (Nat.le_refl _) (by omega) (by omega))
  have HA2 := Lib.hid (fun w' (hb : Below w.heap.size w w') => lall_any ⟨(spellL ts).toArray⟩ w' (by show (spellL ts).length ≤ _; omega) (hL.on hb))
  have HLI := Lib.hid hlies
  have HAL := Lib.hid hal
  have HLEN := Lib.hid hlen
  have hN : (ts.length : Int) ≤ 501 := by omega
  have hb0 : Below w.heap.size w w := Below.refl _ _
  obtain ⟨sp, hsp⟩ : ∃ sp, sp = spellL ts := ⟨_, rfl⟩
  rw [← hsp] at HP2 HS HA2
  clear hok htoks hlies htl hus hal hlen hsl hcnt hsp
  go_enter Tryd.func4, Tryd.ntmps4
  go_wp2_with (fail)
  refine (HW.out _ hb0).mono ?_
  rintro e w1 ⟨rfl, hb1⟩
  go_wp2_with (fail)
  refine (HA.out _ hb1).mono ?_
  intro e w2 hp
  obtain ⟨A1, c1, rfl, ht1, hb2⟩ := HP1.out _ _ _ hp
  clear hp
  go_wp2_with (fail)
  refine (HS.out _ _ ht1).mono ?_
  rintro e w3 ⟨rfl, hb3⟩
  go_wp2_with (fail)
  refine (HA2.out _ ((hb1.trans (hb2.mono hb1.size)).trans (hb3.mono (hb1.trans (hb2.mono hb1.size)).size))).mono ?_
  intro e w4 hp
  obtain ⟨A2, c2, rfl, ht2, hb4⟩ := HP2.out _ _ _ hp
  have HT1 : Hid (TokS w4.heap.size w4 ts (.slice A1 ts.length c1)) := Lib.hid (((ht1.below hb3).more hb3.size).below hb4 |>.more hb4.size)
  have HT2 := Lib.hid ht2
  have h12 := hb1.trans (hb2.mono hb1.size)
  have h13 := h12.trans (hb3.mono h12.size)
  have HB4 := Lib.hid (h13.trans (hb4.mono h13.size))
  clear hp ht1 ht2 hb0 hb1 hb2 hb3 hb4 h12 h13 HS HA2 HP2 HP1 HA HW
  go_wp2_with (fail)
  go_loopw [9, 10] (fun en i wr => BkRel s w ts us (.slice A1 ts.length c1) (.slice A2 ts.length c2) en i wr) (fun _ i _ => ts.length - (intOf i).toNat)
  case atStart => unfold BkRel; exact ⟨0, 0, rfl, rfl, by omega, by omega, HLI, HT1, HT2, HB4⟩
  case round =>
    unfold BkRel at hrel
    obtain ⟨k, e, rfl, rfl, hk, he, HL, HX, HY, HB⟩ := hrel
    by_cases hlt : k < ts.length
    · have hlt' : (k : Int) < (ts.length : Int) := by omega
      have hk0 : (0 : Int) ≤ (k : Int) := by omega
      have hku : k < us.length := by rw [← HLEN.out]; exact hlt
      obtain ⟨b1, o1, rfl, hbl, x⟩ := TokS.cells HX.out (by omega)
      obtain ⟨b2, o2, rfl, _, y⟩ := TokS.cells HY.out (by omega)
      obtain ⟨x0, x1, x2, x3⟩ := x k hlt
      obtain ⟨y0, y1, y2, y3⟩ := y k hku
      obtain ⟨a1, a2, a3⟩ := alike_at HAL.out k hlt hku
      rw [← a1] at y0
      rw [← a2] at y2
      rw [← a3] at y3
      have hld := HL.out
      rw [List.drop_eq_getElem_cons hlt] at hld
      obtain ⟨l1, l2, l3, l4, l5⟩ := hld
      obtain ⟨t, ht⟩ : ∃ t, t = ts[k] := ⟨_, rfl⟩
      rw [← ht] at x0 x1 x2 x3 y0 y2 y3 l1 l2 l3 l4 l5
      rw [hl] at l2
      have HL5 := Lib.hid l5
      have hsl1 := cut_at s t.at_ (t.at_ + t.text.length) (by omega) l2 t.text (by rw [show t.at_ + t.text.length - t.at_ = t.text.length by omega]; exact l3)
      have hsl2 := cut_at s e t.at_ l1 (by omega) _ rfl
      have HG := Lib.hid l4
      obtain ⟨g, hg⟩ : ∃ g, g = (s.data.toList.drop e).take (t.at_ - e) := ⟨_, rfl⟩
      rw [← hg] at hsl2 HG
      have hgl : g.length ≤ 500 := by rw [hg, List.length_take, List.length_drop]; omega
      rw [Int.natCast_add] at hsl1
      have n1 : ¬ (t.at_ : Int) < (e : Int) := by omega
      have n2 : ¬ (s.size : Int) < (t.at_ : Int) + (t.text.length : Int) := by omega
      have n3 := IntWalk.i64_in ((t.at_ : Int) + (t.text.length : Int)) (by omega)
      have m1 : decide ((t.at_ : Int) < (e : Int)) = false := decide_eq_false n1
      have m1n : decide (t.at_ < e) = false := decide_eq_false (by omega)
      have n1n : ¬ t.at_ < e := by omega
      have m2 : decide ((s.size : Int) < (t.at_ : Int) + (t.text.length : Int)) = false := decide_eq_false n2
      have HAG := Lib.hid (fun w' (hb : Below w.heap.size w w') => lall_any ⟨g.toArray⟩ w' (by show g.length ≤ _; omega) (hL.on hb))
      have HPG : Hid (∀ w1 e w', AllPost g w1 e w' → ∃ A c, e = .returned (.tuple #[.slice A 1 c, .int .i64 0, .int .i64 0]) ∧ Below w1.heap.size w1 w') := Lib.hid (fun w1 e w' h => by
        obtain ⟨A, c, h1, _, h2⟩ := all_ok h ((lexA_in (by omega)).trans (HG.out 0))
        exact ⟨A, c, h1, h2⟩)
      have l2' : (t.at_ : Int) + (t.text.length : Int) ≤ 500 := by omega
      clear y1 ht x y a1 a2 a3 hku l3 l4 l5 hg hgl HG
      obtain ⟨⟨tk, ta, tn, tt⟩, htt⟩ : ∃ r, r = t := ⟨_, rfl⟩
      subst htt
      simp only at *
      go_wp2_with (fail)
      refine wp_region_quiet_lit (by kernel_rfl) (lexB_fast (by kernel_rfl)) ?_
      repeat (go_big_quiet_step (fail))
      refine wpQuiet_nil ?_
      rintro _ ⟨nq, rfl⟩
      go_wp2_with (fail)
      refine (HAG.out _ (below_drewN HB.out nq)).mono ?_
      intro e1 w5 hp
      obtain ⟨A3, c3, rfl, hb5⟩ := HPG.out _ _ _ hp
      clear hp
      have HB5 := Lib.hid (HB.out.trans (((below_drewN (Below.refl wr.heap.size wr) nq).trans hb5).mono HB.out.size))
      have hbq := (below_drewN (Below.refl wr.heap.size wr) nq).trans hb5
      have HX5 : Hid (TokS w5.heap.size w5 ts (.slice (some ⟨b1, o1, none⟩) ts.length c1)) := Lib.hid ((HX.out.below hbq).more hbq.size)
      have HY5 : Hid (TokS w5.heap.size w5 us (.slice (some ⟨b2, o2, none⟩) ts.length c2)) := Lib.hid ((HY.out.below hbq).more hbq.size)
      have z1 := (hbq.cell (p := ⟨b1, o1 + k * 4 + 1, none⟩) (by dsimp only; omega)).trans x1
      have z3 := (hbq.cell (p := ⟨b1, o1 + k * 4 + 3, none⟩) (by dsimp only; omega)).trans x3
      clear hb5 hbq x0 x1 x2 x3 y0 y2 y3 hsl1 hsl2 HX HY HB
      go_wp2_with (fail)
      go_quiet (fail)
      go_wp2_with (fail)
      go_roundw
      case rel => unfold BkRel; exact ⟨k + 1, ta + tt.length, by go_num, by go_num, by omega, by omega, HL5, Lib.hid HX5.out, Lib.hid HY5.out, Lib.hid (below_drewN HB5.out _)⟩
      case measure => simp [intOf]; omega
    · obtain rfl : k = ts.length := by omega
      go_wp2_with (fail)
      go_ret
      exact ⟨rfl, HB.out⟩
theorem back_any (s : ByteArray) (w : World) (hm : s.size ≤ 9223372036854775807) (hL : LD w) : Calls Tryd.prog 4 #[.string s] w fun e w' => e = .returned (.bool true) ∧ Below w.heap.size w w' := by
  by_cases h : 500 < s.size
  · exact back_long s w h hm hL
  · by_cases hb : (lexW s.data.toList 0).1 = 0
    · exact back_good s w (by omega) _ _ (by rw [← hb]) hL
    · exact back_bad s w (by omega) hb hL
end Go.Proofs.YtjppfnofceejhaaDoor.lx

/- The layer's works() answers true. -/
import Derived.Test.YtjbdfckanabepaaDoorValWorks
namespace Go.Proofs.YtjbdfckanabepaaDoor.vt
open Go.RowKit mem

theorem i64_one : I64 (VT.kind (.mk 0 1 [])) ∧ I64 (VT.num (.mk 0 1 [])) := by unfold I64; exact ⟨⟨by decide, by decide⟩, by decide, by decide⟩
theorem i64_two : I64 (VT.kind (.mk 0 (-2) [])) ∧ I64 (VT.num (.mk 0 (-2) [])) := by unfold I64; exact ⟨⟨by decide, by decide⟩, by decide, by decide⟩
theorem i64_tr : I64 (VT.kind (.mk 1 1 [])) ∧ I64 (VT.num (.mk 1 1 [])) := by unfold I64; exact ⟨⟨by decide, by decide⟩, by decide, by decide⟩
theorem i64_ar : I64 (VT.kind (.mk 2 0 [])) ∧ I64 (VT.num (.mk 2 0 [])) := by unfold I64; exact ⟨⟨by decide, by decide⟩, by decide, by decide⟩
theorem laid_on {w w' : World} (h : whole.Laid w.heap.size w) (hb : Below w.heap.size w w') : whole.Laid w'.heap.size w' := laid_high (h.on hb) hb.size
theorem wa_size : wrap64 ((wa.size : Nat) : Int) = 3 := by decide +kernel
theorem wb_deep : wb.deepW = 2 := by decide +kernel
theorem wa_fits : wa.fits := by
  unfold wa
  rw [fits_mk, fitsL, fitsL, fitsL, fits_mk, fits_mk, fitsL]
  refine ⟨⟨⟨by decide, by decide⟩, by decide, by decide⟩, ⟨⟨⟨by decide, by decide⟩, by decide, by decide⟩, trivial⟩, ⟨⟨⟨by decide, by decide⟩, by decide, by decide⟩, trivial⟩, trivial⟩
theorem wb_fits : wb.fits := by
  unfold wb
  rw [fits_mk, fitsL, fitsL, fitsL, fits_mk, fits_mk, fitsL]
  refine ⟨⟨⟨by decide, by decide⟩, by decide, by decide⟩, ⟨⟨⟨by decide, by decide⟩, by decide, by decide⟩, trivial⟩, ⟨⟨⟨by decide, by decide⟩, by decide, by decide⟩, trivial⟩, trivial⟩
set_option maxHeartbeats 2000000 in
set_option maxRecDepth 100000 in
theorem works_any (w : World) (hL : whole.Laid w.heap.size w) : Calls Tryd.prog 6 #[] w fun e w' => e = .returned (.bool true) ∧ Below w.heap.size w w' := by
  have HL := Lib.hid hL
  clear hL
  go_enter Tryd.func6, Tryd.ntmps6
  go_wp2_with (first
    | (go_at_call 23; refine (int_any 1 _).mono ?_; rintro e w1 ⟨rfl, hb1⟩)
    | (go_at_call 23; refine (int_any (-2) _).mono ?_; rintro e w2 ⟨rfl, hb2⟩))
  have HB2 : Hid (Below w.heap.size w w2) := Lib.hid (hb1.trans (hb2.mono hb1.size))
  clear hb1 hb2
  have HK2 := Lib.hid (kids_two w2 i64_one i64_two (Kids.nil_ _ _) (Kids.nil_ _ _))
  have HB3 : Hid (∀ o, Below w2.heap.size w2 (w2.alloc o)) := Lib.hid fun o => (Below.refl _ _).alloc (Nat.le_refl _) _
  refine (arr_any [.mk 0 1 [], .mk 0 (-2) []] _ _ HK2.out (by simp)).mono ?_
  rintro e w3 ⟨s3, rfl, hb3, ho3⟩
  have hk3 := ho3.kids (fun _ h => h) (fun _ _ => trivial)
  obtain ⟨A3, c3, rfl, _⟩ := hk3.form
  have HA3 := Lib.hid (VarIs.new (t := wa) w3.heap.size rfl hk3)
  have HB3 : Hid (Below w.heap.size w (w3.alloc (.cells #[.int .i64 2, .int .i64 0, .slice A3 2 c3] 24))) := Lib.hid ((HB2.out.trans (((HB3.out _).trans (hb3.mono (by simp))).mono HB2.out.size)).alloc (by have := HB2.out.size; have := hb3.size; simp at this; omega) _)
  have hz3 : w2.heap.size < w3.heap.size := by have := hb3.size; simp at this; omega
  clear hb3 ho3 hk3 HK2
  go_wp2_with (fail)
  obtain ⟨w4, hw4⟩ : ∃ w4, w4 = w3.alloc (.cells #[.int .i64 2, .int .i64 0, .slice A3 2 c3] 24) := ⟨_, rfl⟩
  have HA4 : Hid (VarIs w4 w3.heap.size wa (.slice A3 2 c3)) := Lib.hid (by rw [hw4]; exact HA3.out)
  have HB4 : Hid (Below w.heap.size w w4) := Lib.hid (by rw [hw4]; exact HB3.out)
  obtain ⟨ba, hba⟩ : ∃ ba, ba = w3.heap.size := ⟨_, rfl⟩
  rw [← hba] at HA4
  have e4 : w4.heap.size = ba + 1 := by rw [hw4, hba]; simp
  rw [← hw4, ← hba]
  have HE4 := Lib.hid e4
  clear hw4 HA3 HB3 hba hz3 HB2 e4
  refine (bool_any true _).mono ?_
  rintro e w5 ⟨rfl, hb5⟩
  have HA5 := Lib.hid (HA4.out.below hb5)
  have HB5 := Lib.hid (HB4.out.trans (hb5.mono HB4.out.size))
  clear hb5 HA4 HB4
  go_wp2_with (fail)
  refine (arr_any [] _ _ (Kids.nil_ (fun _ => True) _) (by simp)).mono ?_
  rintro e w6 ⟨s6, rfl, hb6, ho6⟩
  have hk6 := ho6.kids (fun _ h => h) (fun _ _ => trivial)
  obtain ⟨A6, c6, rfl, _⟩ := hk6.form
  have HA6 := Lib.hid (HA5.out.below hb6)
  have HB6 := Lib.hid (HB5.out.trans (hb6.mono HB5.out.size))
  have HK6 := Lib.hid (kids_two w6 i64_tr i64_ar (Kids.nil_ _ _) hk6)
  have hnb : ∀ o, Below w6.heap.size w6 (w6.alloc o) := fun o => (Below.refl _ _).alloc (Nat.le_refl _) _
  have HNB := Lib.hid hnb
  clear hb6 ho6 hk6 HA5 HB5 hnb
  go_wp2_with (fail)
  refine (rec_any [.mk 1 1 [], .mk 2 0 []] _ _ HK6.out (by simp)).mono ?_
  rintro e w7 ⟨s7, rfl, hb7, ho7⟩
  have hk7 := ho7.kids (fun _ h => h) (fun _ _ => trivial)
  obtain ⟨A7, c7, rfl, _⟩ := hk7.form
  have hb7' := (HNB.out _).trans (hb7.mono (by simp))
  have HA7 := Lib.hid (HA6.out.below hb7')
  have HB7 := Lib.hid (HB6.out.trans (hb7'.mono HB6.out.size))
  have HV7 := Lib.hid (VarIs.new (t := wb) w7.heap.size rfl hk7)
  have HNB7 := Lib.hid (fun o => (Below.refl w7.heap.size w7).alloc (Nat.le_refl _) o)
  clear hb7 hb7' ho7 hk7 HA6 HB6 HNB HK6
  go_wp2_with (fail)
  obtain ⟨w8, hw8⟩ : ∃ w8, w8 = w7.alloc (.cells #[.int .i64 3, .int .i64 0, .slice A7 2 c7] 24) := ⟨_, rfl⟩
  obtain ⟨bb, hbb⟩ : ∃ bb, bb = w7.heap.size := ⟨_, rfl⟩
  have HA8 : Hid (VarIs w8 ba wa (.slice A3 2 c3)) := Lib.hid (by rw [hw8]; exact HA7.out.below (HNB7.out _))
  have HV8 : Hid (VarIs w8 bb wb (.slice A7 2 c7)) := Lib.hid (by rw [hw8, hbb]; exact HV7.out)
  have HB8 : Hid (Below w.heap.size w w8) := Lib.hid (by rw [hw8]; exact HB7.out.trans ((HNB7.out _).mono HB7.out.size))
  have HL8 := Lib.hid (laid_on HL.out HB8.out)
  rw [← hw8, ← hbb]
  clear hw8 HA7 HB7 HNB7 HV7 hbb HL
  refine (read_any 100 [123, 116, 114, 117, 101, 44, 32, 91, 93, 125] w8 (by simp) (by omega) HL8.out).mono ?_
  intro e w9 hp
  unfold ReadPost at hp
  rw [wb_read] at hp
  obtain ⟨s9, he9, hk9, hb9, _⟩ := hp
  have hk9 := hk9.mono (G' := fun _ => True) fun _ _ => trivial
  obtain ⟨A9, c9, rfl, _⟩ := hk9.form
  obtain rfl : e = .returned (.tuple #[.agg #[.int .i64 3, .int .i64 0, .slice A9 2 c9], .int .i64 0]) := he9
  have HNB9 := Lib.hid (fun o => (Below.refl w9.heap.size w9).alloc (Nat.le_refl _) o)
  have HV9 : Hid (VarIs (w9.alloc (.cells #[.int .i64 3, .int .i64 0, .slice A9 2 c9] 24)) ba wa (.slice A3 2 c3) ∧ VarIs (w9.alloc (.cells #[.int .i64 3, .int .i64 0, .slice A9 2 c9] 24)) bb wb (.slice A7 2 c7) ∧ VarIs (w9.alloc (.cells #[.int .i64 3, .int .i64 0, .slice A9 2 c9] 24)) w9.heap.size wb (.slice A9 2 c9)) := Lib.hid
    ⟨(HA8.out.below hb9).below (HNB9.out _), (HV8.out.below hb9).below (HNB9.out _), VarIs.new (t := wb) w9.heap.size rfl hk9⟩
  have HL10 : Hid (whole.Laid (w9.alloc (.cells #[.int .i64 3, .int .i64 0, .slice A9 2 c9] 24)).heap.size (w9.alloc (.cells #[.int .i64 3, .int .i64 0, .slice A9 2 c9] 24))) := Lib.hid (laid_on (laid_on HL8.out hb9) (HNB9.out _))
  have HB10 : Hid (Below w.heap.size w (w9.alloc (.cells #[.int .i64 3, .int .i64 0, .slice A9 2 c9] 24))) := Lib.hid ((HB8.out.trans (hb9.mono HB8.out.size)).trans ((HNB9.out _).mono (by have := HB8.out.size; have := hb9.size; omega)))
  obtain ⟨⟨a0, a1, a2⟩, _, _⟩ := HV9.out.1
  clear hb9 hk9 HA8 HB8 HV8 HL8 HNB9
  go_wp2_with (fail)
  obtain ⟨w10, hw10⟩ : ∃ w10, w10 = w9.alloc (.cells #[.int .i64 3, .int .i64 0, .slice A9 2 c9] 24) := ⟨_, rfl⟩
  obtain ⟨bc, hbc⟩ : ∃ bc, bc = w9.heap.size := ⟨_, rfl⟩
  rw [← hw10, ← hbc] at HV9
  rw [← hw10] at HL10 HB10 ⊢
  rw [← hbc]
  have HV : Hid (∀ w', Below w10.heap.size w10 w' → VarIs w' ba wa (.slice A3 2 c3) ∧ VarIs w' bb wb (.slice A7 2 c7) ∧ VarIs w' bc wb (.slice A9 2 c9)) := Lib.hid fun w' h => ⟨HV9.out.1.below h, HV9.out.2.1.below h, HV9.out.2.2.below h⟩
  have h10 : Below w10.heap.size w10 w10 := Below.refl _ _
  clear hw10 hbc a0 a1 a2 HV9
  refine (text_any wa _ w10 (HV.out w10 h10).1.2.1 wa_fits (by decide) (laid_on HL10.out h10)).mono ?_
  rintro e w11 ⟨rfl, hb⟩
  have h11 := h10.trans (hb.mono h10.size)
  rw [wa_text]
  obtain ⟨⟨⟨a0, a1, a2⟩, _, _⟩, ⟨⟨b0, b1, b2⟩, _, _⟩, ⟨⟨c0, c1, c2⟩, _, _⟩⟩ := HV.out w11 h11
  have H11 := Lib.hid h11
  clear hb
  go_wp2_with (fail)
  clear a0 a1 a2 b0 b1 b2 c0 c1 c2
  refine (text_any wb _ w11 (HV.out w11 h11).2.1.2.1 wb_fits (by decide) (laid_on HL10.out h11)).mono ?_
  rintro e w12 ⟨rfl, hb⟩
  have h12 := h11.trans (hb.mono h11.size)
  rw [wb_text]
  obtain ⟨⟨⟨a0, a1, a2⟩, _, _⟩, ⟨⟨b0, b1, b2⟩, _, _⟩, ⟨⟨c0, c1, c2⟩, _, _⟩⟩ := HV.out w12 h12
  have H12 := Lib.hid h12
  clear hb
  go_wp2_with (fail)
  clear a0 a1 a2 b0 b1 b2 c0 c1 c2
  refine (same_any wb wb _ _ w12 (HV.out w12 h12).2.2.2.1 (HV.out w12 h12).2.1.2.1).mono ?_
  rintro e w13 ⟨rfl, hb⟩
  have h13 := h12.trans (hb.mono h12.size)
  rw [eqB_self]
  obtain ⟨⟨⟨a0, a1, a2⟩, _, _⟩, ⟨⟨b0, b1, b2⟩, _, _⟩, ⟨⟨c0, c1, c2⟩, _, _⟩⟩ := HV.out w13 h13
  have H13 := Lib.hid h13
  clear hb
  go_wp2_with (fail)
  clear a0 a1 a2 b0 b1 b2 c0 c1 c2
  refine (size_any wa _ w13 (HV.out w13 h13).1.2.1).mono ?_
  rintro e w14 ⟨rfl, hb⟩
  have h14 := h13.trans (hb.mono h13.size)
  rw [wa_size]
  obtain ⟨⟨⟨a0, a1, a2⟩, _, _⟩, ⟨⟨b0, b1, b2⟩, _, _⟩, ⟨⟨c0, c1, c2⟩, _, _⟩⟩ := HV.out w14 h14
  have H14 := Lib.hid h14
  clear hb
  go_wp2_with (fail)
  clear a0 a1 a2 b0 b1 b2 c0 c1 c2
  refine (deep_any wb _ w14 (HV.out w14 h14).2.1.2.1).mono ?_
  rintro e w15 ⟨rfl, hb⟩
  have h15 := h14.trans (hb.mono h14.size)
  rw [wb_deep]
  obtain ⟨⟨⟨a0, a1, a2⟩, _, _⟩, ⟨⟨b0, b1, b2⟩, _, _⟩, ⟨⟨c0, c1, c2⟩, _, _⟩⟩ := HV.out w15 h15
  have H15 := Lib.hid h15
  clear hb
  go_wp2_with (fail)
  clear a0 a1 a2 b0 b1 b2 c0 c1 c2
  refine (same_any wa wb _ _ w15 (HV.out w15 h15).1.2.1 (HV.out w15 h15).2.1.2.1).mono ?_
  rintro e w16 ⟨rfl, hb⟩
  have h16 := h15.trans (hb.mono h15.size)
  rw [wa_not]
  clear hb
  go_wp2_with (fail)
  go_ret
  exact ⟨rfl, HB10.out.trans (h16.mono HB10.out.size)⟩
end Go.Proofs.YtjbdfckanabepaaDoor.vt

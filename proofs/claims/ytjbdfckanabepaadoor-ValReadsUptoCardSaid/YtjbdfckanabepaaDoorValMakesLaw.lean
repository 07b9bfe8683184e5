/- The law on what is made of any values. -/
import Derived.Test.YtjbdfckanabepaaDoorValWorks2
namespace Go.Proofs.YtjbdfckanabepaaDoor.vt
open Go.RowKit mem

def LawHolds (w : World) (e : Ending) (w' : World) : Prop := e = .returned (.bool true) ∧ Below w.heap.size w w'
def MakesRel (l : List VT) (N : Nat) (W : World) (r i : Value) (wr : World) : Prop :=
  ∃ (k : Nat) (b : Bool), k ≤ N ∧ i = .int .i64 k ∧ r = .bool b ∧ Hid (b = rightL (l.take k)) ∧ Below W.heap.size W wr
theorem smallI_cases (t : VT) : smallI t = 0 ∨ smallI t = 1 := by
  unfold smallI; split
  · exact Or.inl rfl
  · exact Or.inr rfl
set_option maxHeartbeats 2000000 in
set_option maxRecDepth 100000 in
theorem makes_law (n : Int) (b : Bool) (l : List VT) (s : Value) (w : World) (h : Kids (fun _ => True) w l s) (hL : whole.Laid w.heap.size w) :
    Calls Tryd.prog 5 #[.int .i64 n, .bool b, s] w (LawHolds w) := by
  have HK : Hid (∀ w', Below w.heap.size w w' → Kids (fun _ => True) w' l s) := Lib.hid fun w' hb => h.below hb
  have HL : Hid (∀ w', Below w.heap.size w w' → whole.Laid w'.heap.size w') := Lib.hid fun w' hb => laid_on hL hb
  obtain ⟨A, cap, rfl, _⟩ := h.form
  obtain ⟨N, hN⟩ : ∃ N, N = l.length := ⟨_, rfl⟩
  rw [← hN] at HK ⊢
  have HN := Lib.hid hN
  clear h hL hN
  go_enter Tryd.func5, Tryd.ntmps5
  go_wp2_with (fail)
  refine (works_any w (HL.out _ (Below.refl _ _))).mono ?_
  rintro e w1 ⟨rfl, h1⟩
  by_cases hbig : (40 : Int) < N
  · have H1 := Lib.hid h1
    clear h1
    go_wp2_with (fail)
    refine (works_any w1 (HL.out _ H1.out)).mono ?_
    rintro e w2 ⟨rfl, h2⟩
    have H2 := Lib.hid (H1.out.trans (h2.mono H1.out.size))
    clear h2
    go_wp2_with (fail)
    go_ret
    exact ⟨rfl, H2.out⟩
  have H1 := Lib.hid h1
  clear h1
  go_wp2_with (fail)
  go_loopw [7, 8] (fun r i wr => MakesRel l N w r i wr) (fun _ i _ => N - (intOf i).toNat)
  case atStart => unfold MakesRel; exact ⟨0, true, Nat.zero_le _, rfl, rfl, Lib.hid rfl, H1.out⟩
  case round =>
    obtain ⟨k, r, hk, rfl, rfl, HR, hb⟩ := hrel
    have HB := Lib.hid hb
    clear hb
    by_cases hlt : k < N
    · have hlt' : (k : Int) < N := by omega
      have hkl : k < l.length := by have := HN.out; omega
      obtain ⟨bb, off, cap', s', hsl, hbz, i1, i2, c0, c1, c2, hkid⟩ := Kids.kid (HK.out _ HB.out) (Below.refl _ _) k hkl
      injection hsl with hA hLL hCC
      subst hA
      subst hCC
      clear hLL
      obtain ⟨A', q', rfl, _⟩ := hkid.form
      obtain ⟨t, ht⟩ : ∃ t, t = l[k] := ⟨_, rfl⟩
      rw [← ht] at c0 c1 c2 hkid i1 i2
      have HT := Lib.hid ht
      obtain ⟨m, hm⟩ : ∃ m, m = t.kids.length := ⟨_, rfl⟩
      rw [← hm] at c2 hkid
      have HKD := Lib.hid hkid
      have hk0 : (0 : Int) ≤ k := by omega
      clear hkid ht hm
      have HSM := Lib.hid (small_any t _ wr HKD.out)
      have HRT := Lib.hid (fun w' (hb : Below wr.heap.size wr w') => rright_any t _ w' (HKD.out.below hb))
      have HC := Lib.hid (fun w' (hb : Below wr.heap.size wr w') => And.intro ((hb.cell (p := ⟨bb, off + k * 3, none⟩) hbz).trans c0) (And.intro ((hb.cell (p := ⟨bb, off + k * 3 + 1, none⟩) hbz).trans c1) ((hb.cell (p := ⟨bb, off + k * 3 + 2, none⟩) hbz).trans c2)))
      have HN1 : Hid (rightL (l.take (k + 1)) = (rightL (l.take k) && t.right)) := Lib.hid (by rw [rightL_take l k hkl, HT.out])
      obtain ⟨q, hq⟩ : ∃ q, q = t.right := ⟨_, rfl⟩
      rw [← hq] at HN1
      go_wp2_with (fail)
      refine HSM.out.mono ?_
      rintro e w2 ⟨rfl, hb2⟩
      have HB2 := Lib.hid (HB.out.trans (hb2.mono HB.out.size))
      have HS2 := Lib.hid hb2
      clear c0 c1 c2
      obtain ⟨c0, c1, c2⟩ := HC.out w2 hb2
      clear hb2
      rcases smallI_cases t with hs | hs
      · rw [hs]
        clear hs
        go_wp2_with (fail)
        go_ret
        exact ⟨rfl, HB2.out⟩
      · rw [hs]
        clear hs
        cases r
        · have HF : Hid (false = rightL (l.take (k + 1))) := Lib.hid (by rw [HN1.out, ← HR.out]; rfl)
          go_wp2_with (fail)
          go_roundw
          case rel => unfold MakesRel; exact ⟨k + 1, false, by omega, by go_num, rfl, HF, HB2.out⟩
          case measure => simp [intOf]; omega
        · have HF : Hid (q = rightL (l.take (k + 1))) := Lib.hid (by rw [HN1.out, ← HR.out]; rfl)
          go_wp2_with (fail)
          refine (HRT.out w2 HS2.out).mono ?_
          rintro e w3 ⟨rfl, hb3⟩
          have HB3 := Lib.hid (HB2.out.trans (hb3.mono HB2.out.size))
          clear hb3
          rw [← hq]
          clear hq
          go_wp2_with (fail)
          go_roundw
          case rel => unfold MakesRel; exact ⟨k + 1, q, by omega, by go_num, rfl, HF, HB3.out⟩
          case measure => simp [intOf]; omega
    · have HR2 : Hid (r = rightL l) := Lib.hid (by have e := HR.out; rwa [List.take_of_length_le (by have := HN.out; omega)] at e)
      have hlt' : ¬ (k : Int) < N := by omega
      have HKR := Lib.hid (HK.out _ HB.out)
      have hl : l.length ≤ 1048576 := by have := HN.out; omega
      have HA := Lib.hid (arr_any l _ wr HKR.out hl)
      go_wp2_with (fail)
      refine HA.out.mono ?_
      rintro e w4 ⟨s4, rfl, hb4, ho4⟩
      have hk4 := ho4.kids (fun _ h => h) (fun _ _ => trivial)
      obtain ⟨A4, c4, rfl, _⟩ := hk4.form
      have HB4 := Lib.hid (HB.out.trans (hb4.mono HB.out.size))
      have HRC := Lib.hid (rec_any l _ w4 (HK.out w4 HB4.out) hl)
      have HK4 := Lib.hid hk4
      rw [← HN.out] at HK4 ⊢
      clear hk4 hb4 ho4 HA
      go_wp2_with (fail)
      refine HRC.out.mono ?_
      rintro e w5 ⟨s5, rfl, hb5, ho5⟩
      have hk5 := ho5.kids (fun _ h => h) (fun _ _ => trivial)
      obtain ⟨A5, c5, rfl, _⟩ := hk5.form
      rw [← HN.out] at hk5 ⊢
      obtain ⟨W, hW⟩ : ∃ W, W = (w5.alloc (.cells #[.int .i64 2, .int .i64 0, .slice A4 N c4] 24)).alloc (.cells #[.int .i64 3, .int .i64 0, .slice A5 N c5] 24) := ⟨_, rfl⟩
      obtain ⟨bx, hbx⟩ : ∃ bx, bx = w5.heap.size := ⟨_, rfl⟩
      obtain ⟨byy, hby⟩ : ∃ byy, byy = w5.heap.size + 1 := ⟨_, rfl⟩
      have hal1 : ∀ o, Below w5.heap.size w5 (w5.alloc o) := fun o => (Below.refl _ _).alloc (Nat.le_refl _) o
      have hal2 : ∀ o o', Below (w5.alloc o).heap.size (w5.alloc o) ((w5.alloc o).alloc o') := fun o o' => (Below.refl _ _).alloc (Nat.le_refl _) o'
      have HVX : Hid (VarIs W bx (.mk 2 0 l) (.slice A4 N c4)) := Lib.hid (by rw [hW, hbx]; exact (VarIs.new (t := .mk 2 0 l) _ rfl (HK4.out.below hb5)).below (hal2 _ _))
      have HVY : Hid (VarIs W byy (.mk 3 0 l) (.slice A5 N c5)) := Lib.hid (by rw [hW, hby]; exact VarIs.new (t := .mk 3 0 l) _ (by simp) (Kids.below (l := l) hk5 (hal1 _)))
      have HBW : Hid (Below w.heap.size w W) := Lib.hid (by rw [hW]; exact (HB4.out.trans (hb5.mono HB4.out.size)).trans (((hal1 _).trans ((hal2 _ _).mono (by simp))).mono (by have := HB4.out.size; have := hb5.size; omega)))
      have HRA : Hid ((VT.mk 2 0 l).right = r) := Lib.hid (by rw [right_mk, HR2.out]; rfl)
      have HRB : Hid ((VT.mk 3 0 l).right = r) := Lib.hid (by rw [right_mk, HR2.out]; rfl)
      clear hk5 hb5 ho5 HK4 hal1 hal2 HRC HB4
      cases b
      · go_wp2_with (fail)
        rw [← hW, ← hby, ← hbx]

        clear hW hbx hby
        have HBO := Lib.hid (bool_any false W)
        refine HBO.out.mono ?_
        rintro e w6 ⟨rfl, hb6⟩
        rw [show bit false = 0 from rfl]
        have h6 : Below W.heap.size W w6 := hb6
        have HVF := Lib.hid (VarIs.new (t := .mk 1 0 []) w6.heap.size rfl (Kids.nil_ _ w6))
        have HIN := Lib.hid (int_any n (w6.alloc (.cells #[.int .i64 1, .int .i64 0, .slice none 0 0] 24)))
        have HAL := Lib.hid ((Below.refl w6.heap.size w6).alloc (Nat.le_refl _) (.cells #[.int .i64 1, .int .i64 0, .slice none 0 0] 24))
        clear hb6
        go_wp2_with (fail)
        refine HIN.out.mono ?_
        rintro e w7 ⟨rfl, hb7⟩
        obtain ⟨bf, hbf⟩ : ∃ bf, bf = w6.heap.size := ⟨_, rfl⟩
        have HVF7 : Hid (VarIs w7 bf (.mk 1 0 []) (.slice none 0 0)) := Lib.hid (by rw [hbf]; exact HVF.out.below hb7)
        have h67 : Below w6.heap.size w6 w7 := HAL.out.trans (hb7.mono HAL.out.size)
        have h7 : Below W.heap.size W w7 := h6.trans (h67.mono h6.size)
        rw [← hbf]
        clear hb7 HVF HAL hbf HIN
        have HV7 : Hid (∀ w', Below w7.heap.size w7 w' → VarIs w' bx (.mk 2 0 l) (.slice A4 N c4) ∧ VarIs w' byy (.mk 3 0 l) (.slice A5 N c5) ∧ VarIs w' bf (.mk 1 0 []) (.slice none 0 0) ∧ Kids (fun _ => True) w' l (.slice A N cap)) := Lib.hid fun w' h =>
          ⟨(HVX.out.below h7).below h, (HVY.out.below h7).below h, HVF7.out.below h, HK.out w' (HBW.out.trans ((h7.trans (h.mono h7.size)).mono HBW.out.size))⟩
        have HB7 := Lib.hid (HBW.out.trans (h7.mono HBW.out.size))
        have HSM := Lib.hid (rsame_any (.mk 0 n []) (.mk 0 n []) _ _ w7 (Kids.nil_ (fun _ => True) w7) (Kids.nil_ (fun _ => True) w7))
        have g7 : Below w7.heap.size w7 w7 := Below.refl _ _
        clear HVF7 h67 h7 h6
        go_wp2_with (fail)
        refine HSM.out.mono ?_
        rintro e w8 ⟨rfl, hb⟩
        rw [eqB_self]
        have g8 : Below w7.heap.size w7 w8 := hb
        obtain ⟨⟨⟨a0, a1, a2⟩, _, _⟩, ⟨⟨b0, b1, b2⟩, _, _⟩, ⟨⟨c0, c1, c2⟩, _, _⟩, _⟩ := HV7.out w8 g8
        have HG8 := Lib.hid g8
        have HC1 := Lib.hid (rsameAll_any l (fun u _ => rsame_any u) l _ _ w8 (HV7.out w8 g8).1.2.1 (HV7.out w8 g8).2.2.2)
        have a2 : w8.cell? ⟨bx, 2, none⟩ = some (.slice A4 N c4) := a2
        have b2 : w8.cell? ⟨byy, 2, none⟩ = some (.slice A5 N c5) := b2
        have a0 : w8.cell? ⟨bx, 0, none⟩ = some (.int .i64 2) := a0
        have a1 : w8.cell? ⟨bx, 1, none⟩ = some (.int .i64 0) := a1
        have b0 : w8.cell? ⟨byy, 0, none⟩ = some (.int .i64 3) := b0
        have b1 : w8.cell? ⟨byy, 1, none⟩ = some (.int .i64 0) := b1
        have c0 : w8.cell? ⟨bf, 0, none⟩ = some (.int .i64 1) := c0
        have c1 : w8.cell? ⟨bf, 1, none⟩ = some (.int .i64 0) := c1
        clear hb g8 g7
        go_wp2_with (fail)
        refine HC1.out.mono ?_
        rintro e w9 ⟨rfl, hb⟩
        rw [eqB_self]
        have g9 := HG8.out.trans (hb.mono HG8.out.size)
        clear a0 a1 a2 b0 b1 b2 c0 c1 c2 hb
        have b2 : w9.cell? ⟨byy, 2, none⟩ = some (.slice A5 N c5) := (HV7.out w9 g9).2.1.1.2.2
        have HC2 := Lib.hid (rsameAll_any l (fun u _ => rsame_any u) l _ _ w9 (HV7.out w9 g9).2.1.2.1 (HV7.out w9 g9).2.2.2)
        have HG9 := Lib.hid g9
        clear g9
        go_wp2_with (fail)
        refine HC2.out.mono ?_
        rintro e w10 ⟨rfl, hb⟩
        rw [eqB_self]
        have g10 := HG9.out.trans (hb.mono HG9.out.size)
        clear b2 hb
        have a0 : w10.cell? ⟨bx, 0, none⟩ = some (.int .i64 2) := (HV7.out w10 g10).1.1.1
        have a1 : w10.cell? ⟨bx, 1, none⟩ = some (.int .i64 0) := (HV7.out w10 g10).1.1.2.1
        have a2 : w10.cell? ⟨bx, 2, none⟩ = some (.slice A4 N c4) := (HV7.out w10 g10).1.1.2.2
        have HC3 := Lib.hid (right_any (.mk 2 0 l) _ w10 (HV7.out w10 g10).1.2.1)
        have HG10 := Lib.hid g10
        clear g10
        go_wp2_with (fail)
        refine HC3.out.mono ?_
        rintro e w11 ⟨rfl, hb⟩
        rw [HRA.out]
        have g11 := HG10.out.trans (hb.mono HG10.out.size)
        clear a0 a1 a2 hb
        have b0 : w11.cell? ⟨byy, 0, none⟩ = some (.int .i64 3) := (HV7.out w11 g11).2.1.1.1
        have b1 : w11.cell? ⟨byy, 1, none⟩ = some (.int .i64 0) := (HV7.out w11 g11).2.1.1.2.1
        have b2 : w11.cell? ⟨byy, 2, none⟩ = some (.slice A5 N c5) := (HV7.out w11 g11).2.1.1.2.2
        have HC4 := Lib.hid (right_any (.mk 3 0 l) _ w11 (HV7.out w11 g11).2.1.2.1)
        have HG11 := Lib.hid g11
        clear g11
        go_wp2_with (fail)
        refine HC4.out.mono ?_
        rintro e w12 ⟨rfl, hb⟩
        rw [HRB.out]
        have HG12 := Lib.hid (HG11.out.trans (hb.mono HG11.out.size))
        clear hb
        go_wp2_with (fail)
        go_ret
        exact ⟨rfl, HB7.out.trans (HG12.out.mono HB7.out.size)⟩
      · go_wp2_with (fail)
        rw [← hW, ← hby, ← hbx]
        clear hW hbx hby
        have HBO := Lib.hid (bool_any true W)
        refine HBO.out.mono ?_
        rintro e w6 ⟨rfl, hb6⟩
        rw [show bit true = 1 from rfl]
        have h6 : Below W.heap.size W w6 := hb6
        have HVF := Lib.hid (VarIs.new (t := .mk 1 1 []) w6.heap.size rfl (Kids.nil_ _ w6))
        have HIN := Lib.hid (int_any n (w6.alloc (.cells #[.int .i64 1, .int .i64 1, .slice none 0 0] 24)))
        have HAL := Lib.hid ((Below.refl w6.heap.size w6).alloc (Nat.le_refl _) (.cells #[.int .i64 1, .int .i64 1, .slice none 0 0] 24))
        clear hb6
        go_wp2_with (fail)
        refine HIN.out.mono ?_
        rintro e w7 ⟨rfl, hb7⟩
        obtain ⟨bf, hbf⟩ : ∃ bf, bf = w6.heap.size := ⟨_, rfl⟩
        have HVF7 : Hid (VarIs w7 bf (.mk 1 1 []) (.slice none 0 0)) := Lib.hid (by rw [hbf]; exact HVF.out.below hb7)
        have h67 : Below w6.heap.size w6 w7 := HAL.out.trans (hb7.mono HAL.out.size)
        have h7 : Below W.heap.size W w7 := h6.trans (h67.mono h6.size)
        rw [← hbf]
        clear hb7 HVF HAL hbf HIN
        have HV7 : Hid (∀ w', Below w7.heap.size w7 w' → VarIs w' bx (.mk 2 0 l) (.slice A4 N c4) ∧ VarIs w' byy (.mk 3 0 l) (.slice A5 N c5) ∧ VarIs w' bf (.mk 1 1 []) (.slice none 0 0) ∧ Kids (fun _ => True) w' l (.slice A N cap)) := Lib.hid fun w' h =>
          ⟨(HVX.out.below h7).below h, (HVY.out.below h7).below h, HVF7.out.below h, HK.out w' (HBW.out.trans ((h7.trans (h.mono h7.size)).mono HBW.out.size))⟩
        have HB7 := Lib.hid (HBW.out.trans (h7.mono HBW.out.size))
        have HSM := Lib.hid (rsame_any (.mk 0 n []) (.mk 0 n []) _ _ w7 (Kids.nil_ (fun _ => True) w7) (Kids.nil_ (fun _ => True) w7))
        have g7 : Below w7.heap.size w7 w7 := Below.refl _ _
        clear HVF7 h67 h7 h6
        go_wp2_with (fail)
        refine HSM.out.mono ?_
        rintro e w8 ⟨rfl, hb⟩
        rw [eqB_self]
        have g8 : Below w7.heap.size w7 w8 := hb
        obtain ⟨⟨⟨a0, a1, a2⟩, _, _⟩, ⟨⟨b0, b1, b2⟩, _, _⟩, ⟨⟨c0, c1, c2⟩, _, _⟩, _⟩ := HV7.out w8 g8
        have HG8 := Lib.hid g8
        have HC1 := Lib.hid (rsameAll_any l (fun u _ => rsame_any u) l _ _ w8 (HV7.out w8 g8).1.2.1 (HV7.out w8 g8).2.2.2)
        have a2 : w8.cell? ⟨bx, 2, none⟩ = some (.slice A4 N c4) := a2
        have b2 : w8.cell? ⟨byy, 2, none⟩ = some (.slice A5 N c5) := b2
        have a0 : w8.cell? ⟨bx, 0, none⟩ = some (.int .i64 2) := a0
        have a1 : w8.cell? ⟨bx, 1, none⟩ = some (.int .i64 0) := a1
        have b0 : w8.cell? ⟨byy, 0, none⟩ = some (.int .i64 3) := b0
        have b1 : w8.cell? ⟨byy, 1, none⟩ = some (.int .i64 0) := b1
        have c0 : w8.cell? ⟨bf, 0, none⟩ = some (.int .i64 1) := c0
        have c1 : w8.cell? ⟨bf, 1, none⟩ = some (.int .i64 1) := c1
        clear hb g8 g7
        go_wp2_with (fail)
        refine HC1.out.mono ?_
        rintro e w9 ⟨rfl, hb⟩
        rw [eqB_self]
        have g9 := HG8.out.trans (hb.mono HG8.out.size)
        clear a0 a1 a2 b0 b1 b2 c0 c1 c2 hb
        have b2 : w9.cell? ⟨byy, 2, none⟩ = some (.slice A5 N c5) := (HV7.out w9 g9).2.1.1.2.2
        have HC2 := Lib.hid (rsameAll_any l (fun u _ => rsame_any u) l _ _ w9 (HV7.out w9 g9).2.1.2.1 (HV7.out w9 g9).2.2.2)
        have HG9 := Lib.hid g9
        clear g9
        go_wp2_with (fail)
        refine HC2.out.mono ?_
        rintro e w10 ⟨rfl, hb⟩
        rw [eqB_self]
        have g10 := HG9.out.trans (hb.mono HG9.out.size)
        clear b2 hb
        have a0 : w10.cell? ⟨bx, 0, none⟩ = some (.int .i64 2) := (HV7.out w10 g10).1.1.1
        have a1 : w10.cell? ⟨bx, 1, none⟩ = some (.int .i64 0) := (HV7.out w10 g10).1.1.2.1
        have a2 : w10.cell? ⟨bx, 2, none⟩ = some (.slice A4 N c4) := (HV7.out w10 g10).1.1.2.2
        have HC3 := Lib.hid (right_any (.mk 2 0 l) _ w10 (HV7.out w10 g10).1.2.1)
        have HG10 := Lib.hid g10
        clear g10
        go_wp2_with (fail)
        refine HC3.out.mono ?_
        rintro e w11 ⟨rfl, hb⟩
        rw [HRA.out]
        have g11 := HG10.out.trans (hb.mono HG10.out.size)
        clear a0 a1 a2 hb
        have b0 : w11.cell? ⟨byy, 0, none⟩ = some (.int .i64 3) := (HV7.out w11 g11).2.1.1.1
        have b1 : w11.cell? ⟨byy, 1, none⟩ = some (.int .i64 0) := (HV7.out w11 g11).2.1.1.2.1
        have b2 : w11.cell? ⟨byy, 2, none⟩ = some (.slice A5 N c5) := (HV7.out w11 g11).2.1.1.2.2
        have HC4 := Lib.hid (right_any (.mk 3 0 l) _ w11 (HV7.out w11 g11).2.1.2.1)
        have HG11 := Lib.hid g11
        clear g11
        go_wp2_with (fail)
        refine HC4.out.mono ?_
        rintro e w12 ⟨rfl, hb⟩
        rw [HRB.out]
        have HG12 := Lib.hid (HG11.out.trans (hb.mono HG11.out.size))
        clear hb
        go_wp2_with (fail)
        go_ret
        exact ⟨rfl, HB7.out.trans (HG12.out.mono HB7.out.size)⟩
end Go.Proofs.YtjbdfckanabepaaDoor.vt

/- The law on what is told of any two values. -/
import Derived.Test.YtjbdfckanabepaaDoorValMakesLaw
import Derived.Laws.Bits64
namespace Go.Proofs.YtjbdfckanabepaaDoor.vt
open Go.RowKit mem

theorem xor_back (n : Int) (h : I64 n) : bits .xor .i64 (bits .xor .i64 n 1) 1 = n := by
  have we : ∀ x : Int, IntKind.i64.wrap x = wrap64 x := fun x => by rw [IntKind.wrap_i64]; unfold wrap64; omega
  have e : ∀ a, bits .xor .i64 a 1 = wrap64 ((BitVec.ofInt 64 a ^^^ BitVec.ofInt 64 1).toNat : Int) := fun a => by
    rw [← we]; rfl
  have o : ∀ v : BitVec 64, BitVec.ofInt 64 (wrap64 (v.toNat : Int)) = v := fun v => by
    apply BitVec.eq_of_toNat_eq
    rw [BitVec.toNat_ofInt]
    unfold wrap64
    have := v.isLt
    omega
  rw [e, e, o, BitVec.xor_assoc, BitVec.xor_self, BitVec.xor_zero, BitVec.toNat_ofInt]
  unfold wrap64
  unfold I64 at h
  omega
/-- what holds ahead of the law's last statement -/
def At15 (w : World) (K bc : Nat) (t u : VT) (s s' s4 : Value) (wx : World) : Prop := (VarIs wx K t s ∧ VarIs wx (K + 1) u s' ∧ VarIs wx bc t s4) ∧ Below w.heap.size w wx
/-- a cell that is written, and written back -/
theorem same_back {w : World} {g : Nat} {v0 x : Value} (h : w.cell? ⟨g, 1, none⟩ = some v0) : ∀ (b o : Nat) (v : Value), w.cell? ⟨b, o, none⟩ = some v → (((w.setCell ⟨g, 1, none⟩ x).drew.setCell ⟨g, 1, none⟩ v0).drew).cell? ⟨b, o, none⟩ = some v := by
  intro b o v hv
  by_cases hb : b = g ∧ o = 1
  · obtain ⟨rfl, rfl⟩ := hb
    rw [hv] at h
    injection h with h
    subst h
    have h1 : (w.setCell ⟨b, 1, none⟩ x).cell? ⟨b, 1, none⟩ = some x := World.cell?_setCell_same _ _ _ hv
    exact World.cell?_setCell_same (w := (w.setCell ⟨b, 1, none⟩ x).drew) _ _ (show (w.setCell ⟨b, 1, none⟩ x).drew.cell? ⟨b, 1, none⟩ = some x from h1)
  · have hne : (⟨g, 1, none⟩ : Addr) ≠ ⟨b, o, none⟩ := fun e => by injection e with e1 e2; exact hb ⟨e1.symm, e2.symm⟩
    show ((w.setCell ⟨g, 1, none⟩ x).drew.setCell ⟨g, 1, none⟩ v0).cell? ⟨b, o, none⟩ = _
    rw [World.cell?_setCell_other _ _ _ _ hne]
    show (w.setCell ⟨g, 1, none⟩ x).cell? ⟨b, o, none⟩ = _
    rw [World.cell?_setCell_other _ _ _ _ hne]
    exact hv
theorem VarIs.carry {w w' : World} {b : Nat} {t : VT} {s : Value} (h : VarIs w b t s) (hc : ∀ b o v, w.cell? ⟨b, o, none⟩ = some v → w'.cell? ⟨b, o, none⟩ = some v) (hz : w.heap.size ≤ w'.heap.size) : VarIs w' b t s :=
  ⟨⟨hc _ _ _ h.1.1, hc _ _ _ h.1.2.1, hc _ _ _ h.1.2.2⟩, h.2.1.carry fun b o v _ hv => ⟨trivial, hc b o v hv⟩, Nat.lt_of_lt_of_le h.2.2 hz⟩
theorem text_same (t : VT) (h : t.right = true) : textOf t = t.text := by unfold textOf; rw [if_pos h]
theorem text_none (t : VT) (h : t.right = false) : textOf t = [] := by unfold textOf; rw [h]; rfl
set_option maxHeartbeats 2000000 in
set_option maxRecDepth 100000 in
theorem tells_law (t u : VT) (s s' : Value) (w : World) (hi : I64 t.kind ∧ I64 t.num) (hi' : I64 u.kind ∧ I64 u.num) (h : Kids (fun _ => True) w t.kids s) (h' : Kids (fun _ => True) w u.kids s') (hs : t.size ≤ 1048576) (hL : whole.Laid w.heap.size w) :
    Calls Tryd.prog 3 #[.agg #[.int .i64 t.kind, .int .i64 t.num, s], .agg #[.int .i64 u.kind, .int .i64 u.num, s']] w (LawHolds w) := by
  have hft : t.fits := by rw [VT.eta t, fits_mk]; exact ⟨hi, h.fits⟩
  have hfu : u.fits := by rw [VT.eta u, fits_mk]; exact ⟨hi', h'.fits⟩
  obtain ⟨K, hK⟩ : ∃ K, K = w.heap.size := ⟨_, rfl⟩
  obtain ⟨W0, hW0⟩ : ∃ W0, W0 = (w.alloc (.cells #[.int .i64 t.kind, .int .i64 t.num, s] 24)).alloc (.cells #[.int .i64 u.kind, .int .i64 u.num, s'] 24) := ⟨_, rfl⟩
  have hb1 : Below w.heap.size w (w.alloc (.cells #[.int .i64 t.kind, .int .i64 t.num, s] 24)) := (Below.refl _ _).alloc (Nat.le_refl _) _
  have hb2 : ∀ w1 : World, ∀ o, Below w1.heap.size w1 (w1.alloc o) := fun w1 o => (Below.refl _ _).alloc (Nat.le_refl _) o
  have hb0 : Below w.heap.size w W0 := by rw [hW0]; exact hb1.trans ((hb2 _ _).mono (by simp))
  have hA0 : VarIs W0 K t s := by rw [hW0, hK]; exact (VarIs.new _ rfl h).below (hb2 _ _)
  have hB0 : VarIs W0 (K + 1) u s' := by rw [hW0, hK]; exact VarIs.new _ (by simp) (h'.below hb1)
  have HV : Hid (∀ w', Below W0.heap.size W0 w' → (VarIs w' K t s ∧ VarIs w' (K + 1) u s') ∧ whole.Laid w'.heap.size w') := Lib.hid fun w' hb => ⟨⟨hA0.below hb, hB0.below hb⟩, laid_on (laid_on hL hb0) hb⟩
  have HL0 := Lib.hid (fun w' (hb : Below W0.heap.size W0 w') => hb0.trans (hb.mono hb0.size))
  have HLT := Lib.hid h.lt
  have HFT := Lib.hid hft
  have HFU := Lib.hid hfu
  have HI := Lib.hid hi
  have HWZ : Hid (W0.heap.size = w.heap.size + 2) := Lib.hid (by rw [hW0]; simp)
  have HLW : Hid (∀ w', Below w.heap.size w w' → whole.Laid w'.heap.size w') := Lib.hid fun w' hb => laid_on hL hb
  obtain ⟨A, cap, rfl, _⟩ := h.form
  obtain ⟨A', cap', rfl, _⟩ := h'.form
  obtain ⟨N, hN⟩ : ∃ N, N = t.kids.length := ⟨_, rfl⟩
  obtain ⟨N', hN'⟩ : ∃ N', N' = u.kids.length := ⟨_, rfl⟩
  rw [← hN, ← hN'] at hW0 ⊢
  rw [← hN, ← hN'] at HV
  rw [← hN] at HLT
  have HN := Lib.hid hN
  have HN' := Lib.hid hN'
  have hK0 : Below W0.heap.size W0 W0 := Below.refl _ _
  clear hN hN' h h' hb1 hb2 hb0 hA0 hB0 hL hft hfu hi hi'
  go_enter Tryd.func3, Tryd.ntmps3
  go_wp2_with (fail)
  rw [← hW0, ← hK]
  have HK := Lib.hid hK
  clear hW0 hK
  have HWK := Lib.hid (works_any W0 (HV.out W0 hK0).2)
  refine HWK.out.mono ?_
  rintro e w1 ⟨rfl, h1⟩
  have a0 : w1.cell? ⟨K, 0, none⟩ = some ((.int .i64 t.kind)) := (HV.out w1 h1).1.1.1.1
  have a1 : w1.cell? ⟨K, 1, none⟩ = some ((.int .i64 t.num)) := (HV.out w1 h1).1.1.1.2.1
  have a2 : w1.cell? ⟨K, 2, none⟩ = some ((.slice A N cap)) := (HV.out w1 h1).1.1.1.2.2
  have HSA := Lib.hid (small_any t _ w1 (HV.out w1 h1).1.1.2.1)

  have HX := Lib.hid h1
  clear h1 HWK hK0
  go_wp2_with (fail)
  refine HSA.out.mono ?_
  rintro e w2 ⟨rfl, hb⟩
  have h2 := HX.out.trans (hb.mono HX.out.size)
  clear hb HX a0 a1 a2 HSA
  have HX := Lib.hid h2
  rcases smallI_cases t with hsm | hsm
  · rw [hsm]
    clear hsm h2
    have HWK := Lib.hid (works_any w2 (HV.out w2 HX.out).2)
    go_wp2_with (fail)
    refine HWK.out.mono ?_
    rintro e w9 ⟨rfl, hb⟩
    have HE := Lib.hid (HL0.out _ (HX.out.trans (hb.mono HX.out.size)))
    clear hb
    go_wp2_with (fail)
    go_ret
    exact ⟨rfl, HE.out⟩
  rw [hsm]
  clear hsm
  have b0 : w2.cell? ⟨K + 1, 0, none⟩ = some ((.int .i64 u.kind)) := (HV.out w2 h2).1.2.1.1
  have b1 : w2.cell? ⟨K + 1, 1, none⟩ = some ((.int .i64 u.num)) := (HV.out w2 h2).1.2.1.2.1
  have b2 : w2.cell? ⟨K + 1, 2, none⟩ = some ((.slice A' N' cap')) := (HV.out w2 h2).1.2.1.2.2
  have HSB := Lib.hid (small_any u _ w2 (HV.out w2 h2).1.2.2.1)

  clear h2
  go_wp2_with (fail)
  refine HSB.out.mono ?_
  rintro e w3 ⟨rfl, hb⟩
  have h3 := HX.out.trans (hb.mono HX.out.size)
  clear hb HX b0 b1 b2 HSB
  have HX := Lib.hid h3
  rcases smallI_cases u with hsm | hsm
  · rw [hsm]
    clear hsm h3
    have HWK := Lib.hid (works_any w3 (HV.out w3 HX.out).2)
    go_wp2_with (fail)
    refine HWK.out.mono ?_
    rintro e w9 ⟨rfl, hb⟩
    have HE := Lib.hid (HL0.out _ (HX.out.trans (hb.mono HX.out.size)))
    clear hb
    go_wp2_with (fail)
    go_ret
    exact ⟨rfl, HE.out⟩
  rw [hsm]
  clear hsm
  have a0 : w3.cell? ⟨K, 0, none⟩ = some ((.int .i64 t.kind)) := (HV.out w3 h3).1.1.1.1
  have a1 : w3.cell? ⟨K, 1, none⟩ = some ((.int .i64 t.num)) := (HV.out w3 h3).1.1.1.2.1
  have a2 : w3.cell? ⟨K, 2, none⟩ = some ((.slice A N cap)) := (HV.out w3 h3).1.1.1.2.2
  have HCL := Lib.hid (clone_any t hs _ _ w3 (HV.out w3 h3).1.1.2.1)

  clear h3
  go_wp2_with (fail)
  refine HCL.out.mono ?_
  rintro e w4 ⟨s4, rfl, hb4, ho4⟩
  clear a0 a1 a2 HCL
  have hk4 := ho4.kids (G' := fun _ => True) (fun _ _ => trivial) (fun _ _ => trivial)
  obtain ⟨A4, c4, rfl, _⟩ := hk4.form
  have h4 := HX.out.trans (hb4.mono HX.out.size)
  have HO4 := Lib.hid ho4
  have hz3 := HX.out.size
  obtain ⟨w5, hw5⟩ : ∃ w5, w5 = w4.alloc (.cells #[.int .i64 t.kind, .int .i64 t.num, .slice A4 t.kids.length c4] 24) := ⟨_, rfl⟩
  have hb5 : Below w4.heap.size w4 w5 := by rw [hw5]; exact (Below.refl _ _).alloc (Nat.le_refl _) _
  obtain ⟨bc, hbc⟩ : ∃ bc, bc = w4.heap.size := ⟨_, rfl⟩
  have hvc : VarIs w5 bc t (.slice A4 t.kids.length c4) := by rw [hw5, hbc]; exact VarIs.new _ rfl hk4
  have h5 := h4.trans (hb5.mono h4.size)
  have HVC : Hid (∀ w', Below w5.heap.size w5 w' → VarIs w' bc t (.slice A4 t.kids.length c4)) := Lib.hid fun w' hb => hvc.below hb
  have HV5 : Hid (∀ w', Below w5.heap.size w5 w' → (VarIs w' K t (.slice A N cap) ∧ VarIs w' (K + 1) u (.slice A' N' cap')) ∧ whole.Laid w'.heap.size w') := Lib.hid fun w' hb => HV.out w' (h5.trans (hb.mono h5.size))
  have HL5 : Hid (∀ w', Below w5.heap.size w5 w' → Below w.heap.size w w') := Lib.hid fun w' hb => HL0.out w' (h5.trans (hb.mono h5.size))
  -- where the clone lies
  have HG4 : Hid (0 < N → ∃ ab ao g, A = some ⟨ab, ao, none⟩ ∧ ab < w.heap.size ∧ A4 = some ⟨g, 0, none⟩ ∧ W0.heap.size ≤ g ∧ g < w4.heap.size ∧ (∀ i, w4.frozen? ⟨g, i, none⟩ = false) ∧ Kids (fun b => W0.heap.size ≤ b) w4 t.kids (.slice A4 t.kids.length c4)) := Lib.hid (fun hp => by
    obtain ⟨vs, hvv, hoo⟩ := HO4.out
    obtain ⟨A9, c9, e9, _, hh9⟩ := HLT.out
    obtain ⟨ab, ao, hA9, hab, _⟩ := hh9 (by have := HN.out; omega)
    injection e9 with e9 _ _
    rcases hoo.2 with ⟨_, hn⟩ | ⟨g, cc, cur, hv, hge, hg, _⟩
    · have := HN.out; omega
    · injection hv with hv _ _
      refine ⟨ab, ao, g, by rw [e9, hA9], hab.2, hv, by have := HX.out.size; omega, (Array.getElem?_eq_some_iff.1 hg).1, fun i => by unfold World.frozen?; rw [hg]; simp, ?_⟩
      exact HO4.out.kids (fun b hb => by have := HX.out.size; omega) (fun b hb => by have := HX.out.size; omega))
  have HB5 := Lib.hid hb5
  rw [← HN.out] at hw5 HVC HG4 ⊢
  clear hb4 ho4 hk4 h4 hb5 hvc h5 HX
  have HX : Hid (Below w5.heap.size w5 w5) := Lib.hid (Below.refl _ _)
  have a0 : w5.cell? ⟨K, 0, none⟩ = some ((.int .i64 t.kind)) := (HV5.out w5 HX.out).1.1.1.1
  have a1 : w5.cell? ⟨K, 1, none⟩ = some ((.int .i64 t.num)) := (HV5.out w5 HX.out).1.1.1.2.1
  have a2 : w5.cell? ⟨K, 2, none⟩ = some ((.slice A N cap)) := (HV5.out w5 HX.out).1.1.1.2.2
  have HRR := Lib.hid (rright_any t _ w5 (HV5.out w5 HX.out).1.1.2.1)

  rw [hw5] at a0 a1 a2
  go_wp2_with (fail)
  rw [← hw5, ← hbc]
  rw [← hw5] at a0 a1 a2
  have HW5 := Lib.hid hw5
  have HBC := Lib.hid hbc
  clear hw5 hbc
  refine HRR.out.mono ?_
  rintro e w6 ⟨rfl, h6⟩
  have HX := Lib.hid h6
  clear h6 a0 a1 a2 HRR
  go_upto_if 24 with (fail)
  go_cut [6] (fun s6 wx => s6 = .string ⟨(textOf t).toArray⟩ ∧ Below w5.heap.size w5 wx)
  case first =>
    cases hr : t.right
    · have HTN := Lib.hid (text_none t hr)
      clear hr
      go_wp2_with (fail)
      go_meet
      exact ⟨by rw [HTN.out], HX.out⟩
    · have HTS := Lib.hid (text_same t hr)
      have a0 : w6.cell? ⟨K, 0, none⟩ = some ((.int .i64 t.kind)) := (HV5.out w6 HX.out).1.1.1.1
      have a1 : w6.cell? ⟨K, 1, none⟩ = some ((.int .i64 t.num)) := (HV5.out w6 HX.out).1.1.1.2.1
      have a2 : w6.cell? ⟨K, 2, none⟩ = some ((.slice A N cap)) := (HV5.out w6 HX.out).1.1.1.2.2
      have HRT := Lib.hid (rtextv_any t _ _ w6 (HV5.out w6 HX.out).1.1.2.1 hr HFT.out hs)
      clear hr
      go_wp2_with (fail)
      refine HRT.out.mono ?_
      rintro e w7 ⟨rfl, hb⟩
      have HX7 := Lib.hid (HX.out.trans (hb.mono HX.out.size))
      clear hb a0 a1 a2
      go_wp2_with (fail)
      go_meet
      exact ⟨by rw [HTS.out], HX7.out⟩
  case rest =>
    obtain ⟨rfl, h7⟩ := hcut
    have HX := Lib.hid h7
    have a0 : wc.cell? ⟨K, 0, none⟩ = some ((.int .i64 t.kind)) := (HV5.out wc h7).1.1.1.1
    have a1 : wc.cell? ⟨K, 1, none⟩ = some ((.int .i64 t.num)) := (HV5.out wc h7).1.1.1.2.1
    have a2 : wc.cell? ⟨K, 2, none⟩ = some ((.slice A N cap)) := (HV5.out wc h7).1.1.1.2.2
    obtain ⟨⟨c0, c1, c2⟩, _, _⟩ := HVC.out wc h7
    have HSM := Lib.hid (rsame_any t t _ _ wc (HV5.out wc h7).1.1.2.1 (HVC.out wc h7).2.1)
    clear h7
    go_wp2_with (fail)
    refine HSM.out.mono ?_
    rintro e w8 ⟨rfl, hb⟩
    rw [eqB_self]
    have h8 := HX.out.trans (hb.mono HX.out.size)
    clear hb HX a0 a1 a2 c0 c1 c2 HSM
    have HX := Lib.hid h8
    have a0 : w8.cell? ⟨K, 0, none⟩ = some ((.int .i64 t.kind)) := (HV5.out w8 h8).1.1.1.1
    have a1 : w8.cell? ⟨K, 1, none⟩ = some ((.int .i64 t.num)) := (HV5.out w8 h8).1.1.1.2.1
    have a2 : w8.cell? ⟨K, 2, none⟩ = some ((.slice A N cap)) := (HV5.out w8 h8).1.1.1.2.2
    have HTX := Lib.hid (text_any t _ w8 (HV5.out w8 h8).1.1.2.1 HFT.out hs (HV5.out w8 h8).2)
    clear h8
    go_wp2_with (fail)
    refine HTX.out.mono ?_
    rintro e w9 ⟨rfl, hb⟩
    have h9 := HX.out.trans (hb.mono HX.out.size)
    clear hb HX a0 a1 a2 HTX
    have HX := Lib.hid h9
    obtain ⟨⟨c0, c1, c2⟩, _, _⟩ := HVC.out w9 h9
    clear h9
    go_upto_if 40 with (fail)
    go_cut [7] (fun _ wx => At15 w K bc t u (.slice A N cap) (.slice A' N' cap') (.slice A4 N c4) wx)
    case first =>
      by_cases hp : 0 < N
      · obtain ⟨ab, ao, g, rfl, hab, rfl, hWg, hg4, hfz, hkg⟩ := HG4.out hp
        have hpt : 0 < t.kids.length := by have := HN.out; omega
        have hz45 := HB5.out.size
        have hz59 := HX.out.size
        obtain ⟨b1, o1, q1, s1, e1, hbz1, i1, i2, k0, k1, k2, _⟩ := Kids.kid (HV5.out w9 HX.out).1.1.2.1 (Below.refl _ _) 0 hpt
        injection e1 with e1 e1l e1c
        injection e1 with e1
        injection e1 with e1 e1o
        subst e1
        subst e1o
        clear e1l e1c
        obtain ⟨b2, o2, q2, s2, e2, hbz2, _, _, g0, g1, g2, _⟩ := Kids.kid (HVC.out w9 HX.out).2.1 (Below.refl _ _) 0 hpt
        injection e2 with e2 e2l e2c
        injection e2 with e2
        injection e2 with e2 e2o
        subst e2
        subst e2o
        clear e2l e2c
        rw [Nat.zero_mul, Nat.add_zero] at k1 g1

        obtain ⟨n0, hn0⟩ : ∃ n0, n0 = t.kids[0].num := ⟨_, rfl⟩
        rw [← hn0] at k1 g1 i2
        have a2 : w9.cell? ⟨K, 2, none⟩ = some (.slice (some ⟨ab, ao, none⟩) N cap) := (HV5.out w9 HX.out).1.1.1.2.2
        have f1 : w9.frozen? ⟨g, 1, none⟩ = false := ((HB5.out.frozen (p := ⟨g, 1, none⟩) hg4).trans (hfz 1) |> fun e => (HX.out.frozen (p := ⟨g, 1, none⟩) (by show g < _; omega)).trans e)
        have hKz : K < w.heap.size + 1 := by have := HK.out; omega
        have hwz : w.heap.size + 2 ≤ g := by have := HWZ.out; omega
        have hne1 : g ≠ K := by omega
        have hne2 : g ≠ ab := by omega
        have hne3 : g ≠ bc := by have := HBC.out; omega
        have hXB := xor_back n0 i2
        obtain ⟨x1, hx1⟩ : ∃ x1, bits .xor .i64 n0 1 = x1 := ⟨_, rfl⟩
        rw [hx1] at hXB
        have hp1 : (0 : Int) < N := by omega
        have HSB := Lib.hid (same_back (w := w9) (g := g) (v0 := .int .i64 n0) (x := .int .i64 x1) g1)
        clear k0 k2 g0 g2 hkg hfz hn0 c0 c1
        go_wp2_with (fail)
        go_still_tail 10, (by kernel_rfl)
        change wpList _ _ _ _ _ w9.drew
        go_wp2_with (fail)
        obtain ⟨W9, hW9⟩ : ∃ W9, W9 = (w9.setCell ⟨g, 1, none⟩ (.int .i64 x1)).drew := ⟨_, rfl⟩
        have d2 : W9.cell? ⟨bc, 2, none⟩ = some (.slice (some ⟨g, 0, none⟩) N c4) := by
          rw [hW9]
          show (w9.setCell ⟨g, 1, none⟩ (.int .i64 x1)).cell? ⟨bc, 2, none⟩ = _
          rw [cell_set_other _ _ _ _ _ _ (Ne.symm hne3)]; exact c2
        have d1 : W9.cell? ⟨g, 1, none⟩ = some (.int .i64 x1) := by
          rw [hW9]; exact World.cell?_setCell_same _ _ _ g1
        have e1 : W9.frozen? ⟨g, 1, none⟩ = false := by
          rw [hW9]
          show (w9.setCell ⟨g, 1, none⟩ (.int .i64 x1)).frozen? ⟨g, 1, none⟩ = false
          rw [World.frozen?_setCell]; exact f1
        rw [← hW9]
        have HW9 := Lib.hid hW9
        clear hW9 a2 c2 k1 g1 f1 hne1 hne2
        go_still_tail 10, (by kernel_rfl)
        change wpList _ _ _ _ _ W9.drew
        go_wp2_with (fail)
        go_meet
        have hgw : w.heap.size ≤ g := by omega
        have hzz : w9.heap.size ≤ ((W9.setCell ⟨g, 1, none⟩ (.int .i64 n0)).drew).heap.size := by
          show _ ≤ (W9.setCell ⟨g, 1, none⟩ (.int .i64 n0)).heap.size
          rw [World.size_setCell, HW9.out]
          show _ ≤ (w9.setCell ⟨g, 1, none⟩ (.int .i64 x1)).heap.size
          rw [World.size_setCell]; exact Nat.le_refl _
        have hca : ∀ b o v, w9.cell? ⟨b, o, none⟩ = some v → ((W9.setCell ⟨g, 1, none⟩ (.int .i64 n0)).drew).cell? ⟨b, o, none⟩ = some v := by rw [HW9.out]; exact HSB.out
        have hv9 := (HV5.out w9 HX.out).1
        refine ⟨⟨hv9.1.carry hca hzz, hv9.2.carry hca hzz, (HVC.out w9 HX.out).carry hca hzz⟩, ?_⟩
        rw [HW9.out]
        exact ((((HL5.out w9 HX.out).setCell (p := ⟨g, 1, none⟩) hgw _).drew).setCell (p := ⟨g, 1, none⟩) hgw _).drew
      · obtain rfl : N = 0 := by omega
        go_wp2_with (fail)
        go_meet
        have hv9 := (HV5.out w9 HX.out).1
        exact ⟨⟨hv9.1, hv9.2, HVC.out w9 HX.out⟩, HL5.out w9 HX.out⟩
    case rest =>
      obtain ⟨⟨hva, hvb, hvc⟩, hbw⟩ := hcut
      have HCC : Hid (∀ w', Below wc.heap.size wc w' → VarIs w' K t (.slice A N cap) ∧ VarIs w' (K + 1) u (.slice A' N' cap') ∧ VarIs w' bc t (.slice A4 N c4)) := Lib.hid fun w' hb => ⟨hva.below hb, hvb.below hb, hvc.below hb⟩
      have HBW := Lib.hid hbw
      obtain ⟨rr, hrr⟩ : ∃ rr, rr = t.right := ⟨_, rfl⟩
      obtain ⟨sz, hsz⟩ : ∃ sz, sz = wrap64 (t.size : Int) := ⟨_, rfl⟩
      obtain ⟨dp, hdp⟩ : ∃ dp, dp = t.deepW := ⟨_, rfl⟩
      obtain ⟨qq, hqq⟩ : ∃ qq, qq = eqB t u := ⟨_, rfl⟩
      have HC1 : Hid (∀ w', Below wc.heap.size wc w' → Calls Tryd.prog 13 #[.agg #[.int .i64 t.kind, .int .i64 t.num, .slice A N cap]] w' fun e w'' => e = .returned (.bool rr) ∧ Below w'.heap.size w' w'') := Lib.hid fun w' hb => by rw [hrr]; exact right_any t _ w' (HCC.out w' hb).1.2.1
      have HC2 : Hid (∀ w', Below wc.heap.size wc w' → Calls Tryd.prog 9 #[.agg #[.int .i64 t.kind, .int .i64 t.num, .slice A N cap]] w' fun e w'' => e = .returned (.bool rr) ∧ Below w'.heap.size w' w'') := Lib.hid fun w' hb => by rw [hrr]; exact rright_any t _ w' (HCC.out w' hb).1.2.1
      have HC3 : Hid (∀ w', Below wc.heap.size wc w' → Calls Tryd.prog 14 #[.agg #[.int .i64 t.kind, .int .i64 t.num, .slice A N cap]] w' fun e w'' => e = .returned (.int .i64 sz) ∧ Below w'.heap.size w' w'') := Lib.hid fun w' hb => by rw [hsz]; exact size_any t _ w' (HCC.out w' hb).1.2.1
      have HC4 : Hid (∀ w', Below wc.heap.size wc w' → Calls Tryd.prog 15 #[.agg #[.int .i64 t.kind, .int .i64 t.num, .slice A N cap]] w' fun e w'' => e = .returned (.int .i64 sz) ∧ Below w'.heap.size w' w'') := Lib.hid fun w' hb => by rw [hsz]; exact rsize_any t _ w' (HCC.out w' hb).1.2.1
      have HC5 : Hid (∀ w', Below wc.heap.size wc w' → Calls Tryd.prog 16 #[.agg #[.int .i64 t.kind, .int .i64 t.num, .slice A N cap]] w' fun e w'' => e = .returned (.int .i64 dp) ∧ Below w'.heap.size w' w'') := Lib.hid fun w' hb => by rw [hdp]; exact deep_any t _ w' (HCC.out w' hb).1.2.1
      have HC6 : Hid (∀ w', Below wc.heap.size wc w' → Calls Tryd.prog 17 #[.agg #[.int .i64 t.kind, .int .i64 t.num, .slice A N cap]] w' fun e w'' => e = .returned (.int .i64 dp) ∧ Below w'.heap.size w' w'') := Lib.hid fun w' hb => by rw [hdp]; exact rdeep_any t _ w' (HCC.out w' hb).1.2.1
      have HC7 : Hid (∀ w', Below wc.heap.size wc w' → Calls Tryd.prog 18 #[.agg #[.int .i64 t.kind, .int .i64 t.num, .slice A N cap], .agg #[.int .i64 u.kind, .int .i64 u.num, .slice A' N' cap']] w' fun e w'' => e = .returned (.bool qq) ∧ Below w'.heap.size w' w'') := Lib.hid fun w' hb => by rw [hqq]; exact same_any t u _ _ w' (HCC.out w' hb).1.2.1 (HCC.out w' hb).2.1.2.1
      have HC8 : Hid (∀ w', Below wc.heap.size wc w' → Calls Tryd.prog 11 #[.agg #[.int .i64 t.kind, .int .i64 t.num, .slice A N cap], .agg #[.int .i64 u.kind, .int .i64 u.num, .slice A' N' cap']] w' fun e w'' => e = .returned (.bool qq) ∧ Below w'.heap.size w' w'') := Lib.hid fun w' hb => by rw [hqq]; exact rsame_any t u _ _ w' (HCC.out w' hb).1.2.1 (HCC.out w' hb).2.1.2.1
      have HC9 : Hid (∀ w', Below wc.heap.size wc w' → Calls Tryd.prog 18 #[.agg #[.int .i64 t.kind, .int .i64 t.num, .slice A N cap], .agg #[.int .i64 t.kind, .int .i64 t.num, .slice A4 N c4]] w' fun e w'' => e = .returned (.bool true) ∧ Below w'.heap.size w' w'') := Lib.hid fun w' hb => by rw [← eqB_self t]; exact same_any t t _ _ w' (HCC.out w' hb).1.2.1 (HCC.out w' hb).2.2.2.1
      have HC : Hid (∀ w', Below wc.heap.size wc w' → w'.cell? ⟨K, 0, none⟩ = some (.int .i64 t.kind) ∧ w'.cell? ⟨K, 1, none⟩ = some (.int .i64 t.num) ∧ w'.cell? ⟨K, 2, none⟩ = some (.slice A N cap) ∧ w'.cell? ⟨K + 1, 0, none⟩ = some (.int .i64 u.kind) ∧ w'.cell? ⟨K + 1, 1, none⟩ = some (.int .i64 u.num) ∧ w'.cell? ⟨K + 1, 2, none⟩ = some (.slice A' N' cap') ∧ w'.cell? ⟨bc, 0, none⟩ = some (.int .i64 t.kind) ∧ w'.cell? ⟨bc, 1, none⟩ = some (.int .i64 t.num) ∧ w'.cell? ⟨bc, 2, none⟩ = some (.slice A4 N c4)) := Lib.hid fun w' hb => by
        obtain ⟨⟨⟨x0, x1, x2⟩, _⟩, ⟨⟨y0, y1, y2⟩, _⟩, ⟨⟨z0, z1, z2⟩, _⟩⟩ := HCC.out w' hb
        exact ⟨x0, x1, x2, y0, y1, y2, z0, z1, z2⟩
      obtain ⟨a0, a1, a2, b0, b1, b2, c0, c1, c2⟩ := HC.out wc (Below.refl _ _)
      clear hva hvb hvc hbw hrr hsz hdp hqq
      go_wp2_with (fail)
      go_region_held3 (fun w' => w'.cell? ⟨K, 0, none⟩ = some (.int .i64 t.kind) ∧ w'.cell? ⟨K, 1, none⟩ = some (.int .i64 t.num) ∧ w'.cell? ⟨K, 2, none⟩ = some (.slice A N cap) ∧ w'.cell? ⟨K + 1, 0, none⟩ = some (.int .i64 u.kind) ∧ w'.cell? ⟨K + 1, 1, none⟩ = some (.int .i64 u.num) ∧ w'.cell? ⟨K + 1, 2, none⟩ = some (.slice A' N' cap') ∧ w'.cell? ⟨bc, 0, none⟩ = some (.int .i64 t.kind) ∧ w'.cell? ⟨bc, 1, none⟩ = some (.int .i64 t.num) ∧ w'.cell? ⟨bc, 2, none⟩ = some (.slice A4 N c4)) (first | go_keep)
        (first
          | (go_at_call 13; (with_reducible refine (HC1.out _ (Below.refl _ wc).drew).mono ?_); rintro e w11 ⟨rfl, hb11⟩; have hB11 : Below wc.heap.size wc w11 := (Below.refl _ wc).drew.trans (hb11.mono (by simp)); obtain ⟨p0, p1, p2, p3, p4, p5, p6, p7, p8⟩ := HC.out w11 hB11)
          | (go_at_call 9; (with_reducible refine (HC2.out w11 hB11).mono ?_); rintro e w12 ⟨rfl, hb12⟩; have hB12 : Below wc.heap.size wc w12 := hB11.trans (hb12.mono hB11.size); obtain ⟨q0, q1, q2, q3, q4, q5, q6, q7, q8⟩ := HC.out w12 hB12)
          | (go_at_call 14; (with_reducible refine (HC3.out w12 hB12).mono ?_); rintro e w13 ⟨rfl, hb13⟩; have hB13 : Below wc.heap.size wc w13 := hB12.trans (hb13.mono hB12.size); obtain ⟨r0, r1, r2, r3, r4, r5, r6, r7, r8⟩ := HC.out w13 hB13)
          | (go_at_call 15; (with_reducible refine (HC4.out w13 hB13).mono ?_); rintro e w14 ⟨rfl, hb14⟩; have hB14 : Below wc.heap.size wc w14 := hB13.trans (hb14.mono hB13.size); obtain ⟨s0, s1, s2, s3, s4, s5, s6, s7, s8⟩ := HC.out w14 hB14)
          | (go_at_call 16; (with_reducible refine (HC5.out w14 hB14).mono ?_); rintro e w15 ⟨rfl, hb15⟩; have hB15 : Below wc.heap.size wc w15 := hB14.trans (hb15.mono hB14.size); obtain ⟨t0, t1, t2, t3, t4, t5, t6, t7, t8⟩ := HC.out w15 hB15)
          | (go_at_call 17; (with_reducible refine (HC6.out w15 hB15).mono ?_); rintro e w16 ⟨rfl, hb16⟩; have hB16 : Below wc.heap.size wc w16 := hB15.trans (hb16.mono hB15.size); obtain ⟨v0, v1, v2, v3, v4, v5, v6, v7, v8⟩ := HC.out w16 hB16)
          | (go_at_call 18; (with_reducible refine (HC7.out w16 hB16).mono ?_); rintro e w17 ⟨rfl, hb17⟩; have hB17 : Below wc.heap.size wc w17 := hB16.trans (hb17.mono hB16.size); obtain ⟨x0, x1, x2, x3, x4, x5, x6, x7, x8⟩ := HC.out w17 hB17)
          | (go_at_call 11; (with_reducible refine (HC8.out w17 hB17).mono ?_); rintro e w18 ⟨rfl, hb18⟩; have hB18 : Below wc.heap.size wc w18 := hB17.trans (hb18.mono hB17.size); obtain ⟨y0, y1, y2, y3, y4, y5, y6, y7, y8⟩ := HC.out w18 hB18)
          | (go_at_call 18; (with_reducible refine (HC9.out w18 hB18).mono ?_); rintro e w19 ⟨rfl, hb19⟩; have hB19 : Below wc.heap.size wc w19 := hB18.trans (hb19.mono hB18.size); obtain ⟨z0, z1, z2, z3, z4, z5, z6, z7, z8⟩ := HC.out w19 hB19))
      have HE := Lib.hid (HBW.out.trans (hB19.mono HBW.out.size))
      clear hb11 hB11 hb12 hB12 hb13 hB13 hb14 hB14 hb15 hB15 hb16 hB16 hb17 hB17 hb18 hB18 hb19 hB19
      go_wp2_with (fail)
      go_ret
      exact ⟨rfl, HE.out⟩
end Go.Proofs.YtjbdfckanabepaaDoor.vt

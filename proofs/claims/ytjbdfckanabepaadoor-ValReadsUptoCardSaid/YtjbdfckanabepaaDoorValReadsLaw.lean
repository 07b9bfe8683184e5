/- The law on what is read of texts. -/
import Derived.Test.YtjbdfckanabepaaDoorValTellsLaw
import Derived.Deep.RegionHeld3
namespace Go.Proofs.YtjbdfckanabepaaDoor.vt
open Go.RowKit mem

theorem small_size {t : VT} (hs : t.size ≤ 1048576) (h : smallI t = 1) : t.size ≤ 300 := by
  unfold smallI at h
  split at h
  · cases h
  · rename_i hn
    unfold wrap64 at hn
    omega
theorem text_beq (a b : List UInt8) : ((a == b) == decide (a = b)) = true := by
  by_cases h : a = b
  · subst h; simp
  · simp [h]
/-- unlike right values have unlike texts -/
theorem texts_apart {t u : VT} (ht : t.right = true) (hu : u.right = true) (hft : t.fits) (hfu : u.fits) : eqB t u = decide (t.text = u.text) := by
  by_cases h : t.text = u.text
  · rw [decide_eq_true h]
    have h1 := readS6_back t ht hft
    rw [h, readS6_back u hu hfu] at h1
    injection h1 with h1
    exact eqB_yes h1.symm
  · rw [decide_eq_false h]
    exact eqB_no fun e => h (by rw [e])
set_option maxHeartbeats 2000000 in
set_option maxRecDepth 100000 in
theorem reads_law (t u : VT) (s s' : Value) (l : List UInt8) (w : World) (hi : I64 t.kind ∧ I64 t.num) (hi' : I64 u.kind ∧ I64 u.num) (h : Kids (fun _ => True) w t.kids s) (h' : Kids (fun _ => True) w u.kids s') (hs : t.size ≤ 1048576) (hs' : u.size ≤ 1048576) (hL : whole.Laid w.heap.size w) :
    Calls Tryd.prog 4 #[.agg #[.int .i64 t.kind, .int .i64 t.num, s], .agg #[.int .i64 u.kind, .int .i64 u.num, s'], .string ⟨l.toArray⟩] w (LawHolds w) := by
  have hft : t.fits := by rw [VT.eta t, fits_mk]; exact ⟨hi, h.fits⟩
  have hfu : u.fits := by rw [VT.eta u, fits_mk]; exact ⟨hi', h'.fits⟩
  obtain ⟨K, hK⟩ : ∃ K, K = w.heap.size := ⟨_, rfl⟩
  obtain ⟨W0, hW0⟩ : ∃ W0, W0 = (w.alloc (.cells #[.int .i64 t.kind, .int .i64 t.num, s] 24)).alloc (.cells #[.int .i64 u.kind, .int .i64 u.num, s'] 24) := ⟨_, rfl⟩
  have hb1 : Below w.heap.size w (w.alloc (.cells #[.int .i64 t.kind, .int .i64 t.num, s] 24)) := (Below.refl _ _).alloc (Nat.le_refl _) _
  have hb2 : ∀ w1 : World, ∀ o, Below w1.heap.size w1 (w1.alloc o) := fun w1 o => (Below.refl _ _).alloc (Nat.le_refl _) o
  have hb0 : Below w.heap.size w W0 := by rw [hW0]; exact hb1.trans ((hb2 _ _).mono (by simp))
  have hA0 : VarIs W0 K t s := by rw [hW0, hK]; exact (VarIs.new _ rfl h).below (hb2 _ _)
  have hB0 : VarIs W0 (K + 1) u s' := by rw [hW0, hK]; exact VarIs.new _ (by simp) (h'.below hb1)
  have HV : Hid (∀ w', Below W0.heap.size W0 w' → (VarIs w' K t s ∧ VarIs w' (K + 1) u s') ∧ whole.Laid w'.heap.size w') := Lib.hid fun w' hb => ⟨⟨hA0.below hb, hB0.below hb⟩, laid_on (laid_on hL hb0) hb⟩
  have HL0 := Lib.hid (fun w' (hb : Below W0.heap.size W0 w') => hb0.trans (hb.mono hb0.size))
  have HFT := Lib.hid hft
  have HFU := Lib.hid hfu
  have HNB := Lib.hid hb2
  obtain ⟨A, cap, rfl, _⟩ := h.form
  obtain ⟨A', cap', rfl, _⟩ := h'.form
  obtain ⟨N, hN⟩ : ∃ N, N = t.kids.length := ⟨_, rfl⟩
  obtain ⟨N', hN'⟩ : ∃ N', N' = u.kids.length := ⟨_, rfl⟩
  rw [← hN, ← hN'] at hW0 ⊢
  rw [← hN, ← hN'] at HV
  have HN := Lib.hid hN
  have HN' := Lib.hid hN'
  have hK0 : Below W0.heap.size W0 W0 := Below.refl _ _
  clear hN hN' h h' hb1 hb2 hb0 hA0 hB0 hL hft hfu hi hi'
  go_enter Tryd.func4, Tryd.ntmps4
  go_wp2_with (fail)
  rw [← hW0, ← hK]
  clear hW0 hK
  have HWK := Lib.hid (works_any W0 (HV.out W0 hK0).2)
  refine HWK.out.mono ?_
  rintro e w1 ⟨rfl, h1⟩
  have a0 : w1.cell? ⟨K, 0, none⟩ = some ((.int .i64 t.kind)) := (HV.out w1 h1).1.1.1.1
  have a1 : w1.cell? ⟨K, 1, none⟩ = some ((.int .i64 t.num)) := (HV.out w1 h1).1.1.1.2.1
  have a2 : w1.cell? ⟨K, 2, none⟩ = some ((.slice A N cap)) := (HV.out w1 h1).1.1.1.2.2
  have HSA := Lib.hid (small_any t _ w1 (HV.out w1 h1).1.1.2.1)
  have HX := Lib.hid h1
  clear h1 HWK hK0
  go_wp2_with (fail)
  refine HSA.out.mono ?_
  rintro e w2 ⟨rfl, hb⟩
  have h2 := HX.out.trans (hb.mono HX.out.size)
  clear hb HX a0 a1 a2 HSA
  have HX := Lib.hid h2
  rcases smallI_cases t with hsm | hsm
  · rw [hsm]
    clear hsm h2
    have HWK := Lib.hid (works_any w2 (HV.out w2 HX.out).2)
    go_wp2_with (fail)
    refine HWK.out.mono ?_
    rintro e w9 ⟨rfl, hb⟩
    have HE := Lib.hid (HL0.out _ (HX.out.trans (hb.mono HX.out.size)))
    clear hb
    go_wp2_with (fail)
    go_ret
    exact ⟨rfl, HE.out⟩
  rw [hsm]
  have HS300 := Lib.hid (small_size hs hsm)
  clear hsm
  have b0 : w2.cell? ⟨K + 1, 0, none⟩ = some ((.int .i64 u.kind)) := (HV.out w2 h2).1.2.1.1
  have b1 : w2.cell? ⟨K + 1, 1, none⟩ = some ((.int .i64 u.num)) := (HV.out w2 h2).1.2.1.2.1
  have b2 : w2.cell? ⟨K + 1, 2, none⟩ = some ((.slice A' N' cap')) := (HV.out w2 h2).1.2.1.2.2
  have HSB := Lib.hid (small_any u _ w2 (HV.out w2 h2).1.2.2.1)
  clear h2
  go_wp2_with (fail)
  refine HSB.out.mono ?_
  rintro e w3 ⟨rfl, hb⟩
  have h3 := HX.out.trans (hb.mono HX.out.size)
  clear hb HX b0 b1 b2 HSB
  have HX := Lib.hid h3
  rcases smallI_cases u with hsm | hsm
  · rw [hsm]
    clear hsm h3
    have HWK := Lib.hid (works_any w3 (HV.out w3 HX.out).2)
    go_wp2_with (fail)
    refine HWK.out.mono ?_
    rintro e w9 ⟨rfl, hb⟩
    have HE := Lib.hid (HL0.out _ (HX.out.trans (hb.mono HX.out.size)))
    clear hb
    go_wp2_with (fail)
    go_ret
    exact ⟨rfl, HE.out⟩
  rw [hsm]
  clear hsm
  by_cases hlen : (300 : Int) < l.length
  · clear h3
    have HWK := Lib.hid (works_any w3 (HV.out w3 HX.out).2)
    go_wp2_with (fail)
    refine HWK.out.mono ?_
    rintro e w9 ⟨rfl, hb⟩
    have HE := Lib.hid (HL0.out _ (HX.out.trans (hb.mono HX.out.size)))
    clear hb
    go_wp2_with (fail)
    go_ret
    exact ⟨rfl, HE.out⟩
  have hlen' : l.length ≤ 300 := by omega
  have HRD := Lib.hid (read_any 300 l w3 hlen' (by omega) (HV.out w3 h3).2)
  clear h3
  cases hrd : readS6 l with
  | none =>
    go_wp2_with (fail)
    refine HRD.out.mono ?_
    intro e w4 hp
    unfold ReadPost at hp
    rw [hrd] at hp
    obtain ⟨rfl, hb4⟩ := hp
    have h4 := HX.out.trans (hb4.mono HX.out.size)
    obtain ⟨w5, hw5⟩ : ∃ w5, w5 = w4.alloc (.cells #[.int .i64 0, .int .i64 0, .slice none 0 0] 24) := ⟨_, rfl⟩
    have hb5 : Below w4.heap.size w4 w5 := by rw [hw5]; exact HNB.out _ _
    have h5 := h4.trans (hb5.mono h4.size)
    have HQ := Lib.hid (rsame_any (.mk 0 0 []) (.mk 0 0 []) _ _ w5 (Kids.nil_ (fun _ => True) w5) (Kids.nil_ (fun _ => True) w5))
    have HX5 := Lib.hid h5
    clear hb4 h4 hb5 h5 hrd HX HRD
    go_wp2_with (fail)
    rw [← hw5]
    clear hw5
    refine HQ.out.mono ?_
    rintro e w6 ⟨rfl, hb⟩
    rw [eqB_self]
    have HX := Lib.hid (HX5.out.trans (hb.mono HX5.out.size))
    clear hb HQ
    have h6 := HX.out
    have a0 : w6.cell? ⟨K, 0, none⟩ = some ((.int .i64 t.kind)) := (HV.out w6 h6).1.1.1.1
    have a1 : w6.cell? ⟨K, 1, none⟩ = some ((.int .i64 t.num)) := (HV.out w6 h6).1.1.1.2.1
    have a2 : w6.cell? ⟨K, 2, none⟩ = some ((.slice A N cap)) := (HV.out w6 h6).1.1.1.2.2
    have HRA := Lib.hid (rright_any t _ w6 (HV.out w6 h6).1.1.2.1)
    clear h6
    go_wp2_with (fail)
    refine HRA.out.mono ?_
    rintro e w8 ⟨rfl, hb⟩
    have h8 := HX.out.trans (hb.mono HX.out.size)
    clear hb HX a0 a1 a2 HRA
    have HX := Lib.hid h8
    cases hr : t.right
    · clear h8
      have HE := Lib.hid (HL0.out _ HX.out)
      go_wp2_with (fail)
      go_ret
      exact ⟨rfl, HE.out⟩
    have a0 : w8.cell? ⟨K, 0, none⟩ = some ((.int .i64 t.kind)) := (HV.out w8 h8).1.1.1.1
    have a1 : w8.cell? ⟨K, 1, none⟩ = some ((.int .i64 t.num)) := (HV.out w8 h8).1.1.1.2.1
    have a2 : w8.cell? ⟨K, 2, none⟩ = some ((.slice A N cap)) := (HV.out w8 h8).1.1.1.2.2
    have hts := text_same t hr
    have HTX := Lib.hid (text_any t _ w8 (HV.out w8 h8).1.1.2.1 HFT.out hs (HV.out w8 h8).2)
    rw [hts] at HTX
    have HRB := Lib.hid (readS6_back t hr HFT.out)
    have HR := Lib.hid hr
    have htl : t.text.length ≤ 10000 := by have := text_len t HFT.out; have := HS300.out; omega
    have HTS := Lib.hid hts
    clear h8 hr hts
    go_wp2_with (fail)
    refine HTX.out.mono ?_
    rintro e w10 ⟨rfl, hb⟩
    have h10 := HX.out.trans (hb.mono HX.out.size)
    clear hb HX a0 a1 a2 HTX
    have HX := Lib.hid h10
    have HRD := Lib.hid (read_any 10000 t.text w10 htl (by omega) (HV.out w10 h10).2)
    clear h10
    go_wp2_with (fail)
    refine HRD.out.mono ?_
    intro e w11 hp
    unfold ReadPost at hp
    rw [HRB.out] at hp
    obtain ⟨s11, rfl, hk11, hb11, _⟩ := hp
    have hk11 := hk11.mono (G' := fun _ => True) fun _ _ => trivial
    obtain ⟨A11, c11, rfl, _⟩ := hk11.form
    have h11 := HX.out.trans (hb11.mono HX.out.size)
    obtain ⟨w12, hw12⟩ : ∃ w12, w12 = w11.alloc (.cells #[.int .i64 t.kind, .int .i64 t.num, .slice A11 t.kids.length c11] 24) := ⟨_, rfl⟩
    have hb12 : Below w11.heap.size w11 w12 := by rw [hw12]; exact HNB.out _ _
    have h12 := h11.trans (hb12.mono h11.size)
    have HQ := Lib.hid (rsame_any t t _ _ w12 (hk11.below hb12) (HV.out w12 h12).1.1.2.1)
    have HX12 := Lib.hid h12
    have a0 : w12.cell? ⟨K, 0, none⟩ = some ((.int .i64 t.kind)) := (HV.out w12 h12).1.1.1.1
    have a1 : w12.cell? ⟨K, 1, none⟩ = some ((.int .i64 t.num)) := (HV.out w12 h12).1.1.1.2.1
    have a2 : w12.cell? ⟨K, 2, none⟩ = some ((.slice A N cap)) := (HV.out w12 h12).1.1.1.2.2
    rw [hw12] at a0 a1 a2
    clear hb11 h11 hb12 h12 HX HRD hk11
    go_wp2_with (fail)
    rw [← hw12]
    clear hw12 a0 a1 a2
    refine HQ.out.mono ?_
    rintro e w13 ⟨rfl, hb⟩
    rw [eqB_self]
    have h13 := HX12.out.trans (hb.mono HX12.out.size)
    have HX := Lib.hid h13
    have HVW : Hid (∀ w', Below w13.heap.size w13 w' → (VarIs w' K t (.slice A N cap) ∧ VarIs w' (K + 1) u (.slice A' N' cap')) ∧ whole.Laid w'.heap.size w') := Lib.hid fun w' hb => HV.out w' (h13.trans (hb.mono h13.size))
    clear hb HQ HX12 h13
    obtain ⟨rr, hrr⟩ : ∃ rr, rr = u.right := ⟨_, rfl⟩
    have HC1 : Hid (∀ w', Below w13.heap.size w13 w' → Calls Tryd.prog 9 #[.agg #[.int .i64 u.kind, .int .i64 u.num, .slice A' N' cap']] w' fun e w'' => e = .returned (.bool rr) ∧ Below w'.heap.size w' w'') := Lib.hid fun w' hb => by rw [hrr]; exact rright_any u _ w' (HVW.out w' hb).1.2.2.1
    have HC : Hid (∀ w', Below w13.heap.size w13 w' → w'.cell? ⟨K, 0, none⟩ = some (.int .i64 t.kind) ∧ w'.cell? ⟨K, 1, none⟩ = some (.int .i64 t.num) ∧ w'.cell? ⟨K, 2, none⟩ = some (.slice A N cap) ∧ w'.cell? ⟨K + 1, 0, none⟩ = some (.int .i64 u.kind) ∧ w'.cell? ⟨K + 1, 1, none⟩ = some (.int .i64 u.num) ∧ w'.cell? ⟨K + 1, 2, none⟩ = some (.slice A' N' cap')) := Lib.hid fun w' hb => by
      obtain ⟨⟨x0, x1, x2⟩, _⟩ := (HVW.out w' hb).1.1
      obtain ⟨⟨y0, y1, y2⟩, _⟩ := (HVW.out w' hb).1.2
      exact ⟨x0, x1, x2, y0, y1, y2⟩
    obtain ⟨a0, a1, a2, b0, b1, b2⟩ := HC.out w13 (Below.refl _ _)
    cases rr
    · clear hrr
      go_wp2_with (fail)
      refine wp_region_held_drew (S := (fun w' => w'.cell? ⟨K, 0, none⟩ = some (.int .i64 t.kind) ∧ w'.cell? ⟨K, 1, none⟩ = some (.int .i64 t.num) ∧ w'.cell? ⟨K, 2, none⟩ = some (.slice A N cap) ∧ w'.cell? ⟨K + 1, 0, none⟩ = some (.int .i64 u.kind) ∧ w'.cell? ⟨K + 1, 1, none⟩ = some (.int .i64 u.num) ∧ w'.cell? ⟨K + 1, 2, none⟩ = some (.slice A' N' cap'))) (by kernel_rfl) ?_ (fun hHeld => ?_)
      · simp [*]
      refine wpAnyH_take (i := 0) (v := .agg #[.int .i64 u.kind, .int .i64 u.num, .slice A' N' cap']) rfl (by kernel_rfl) (by kernel_rfl) (by kernel_rfl) (fun _ _ _ h => h) (Or.inl ⟨by rfl, fun w hSw => ?_⟩) hHeld ?_
      · (try dsimp only at hSw)
        first | go_simp | rfl
      (try simp only [Act.put, List.setIfInBounds_toArray, List.set_cons_zero, List.set_cons_succ])
      refine wpAnyH_ready (rs := [1]) (by kernel_rfl) (by simp) ?_
      refine AllReadyH.cons rfl (fun K' hK' => ?_) AllReadyH.nil
      go_simp
      go_at_call 9
      refine (HC1.out _ (Below.refl _ w13).drew).mono ?_
      rintro e w14 ⟨rfl, hb14⟩
      have hB14 : Below w13.heap.size w13 w14 := (Below.refl _ w13).drew.trans (hb14.mono (by simp))
      have hS14 := HC.out w14 hB14
      refine hK'.out _ _ hS14 (fun hHeld => ?_)
      clear hK' K'
      (try simp only [Act.put, List.setIfInBounds_toArray, List.set_cons_zero, List.set_cons_succ])
      refine wpAnyH_take (i := 2) (v := .bool true) rfl (by kernel_rfl) (by kernel_rfl) (by kernel_rfl) (fun _ _ _ h => h) (Or.inl ⟨by rfl, fun w hSw => ?_⟩) hHeld ?_
      · (try dsimp only at hSw)
        first | go_simp | rfl
      (try simp only [Act.put, List.setIfInBounds_toArray, List.set_cons_zero, List.set_cons_succ])
      refine wpAnyH_take (i := 3) (v := .bool true) rfl (by kernel_rfl) (by kernel_rfl) (by kernel_rfl) (fun _ _ _ h => h) (Or.inl ⟨by rfl, fun w hSw => ?_⟩) hHeld ?_
      · (try dsimp only at hSw)
        first | go_simp | rfl
      (try simp only [Act.put, List.setIfInBounds_toArray, List.set_cons_zero, List.set_cons_succ])
      refine wpAnyH_take (i := 4) (v := undef) rfl (by kernel_rfl) (by kernel_rfl) (by kernel_rfl) (fun _ _ _ h => h) (Or.inr ⟨by rfl, rfl⟩) hHeld ?_
      (try simp only [Act.put, List.setIfInBounds_toArray, List.set_cons_zero, List.set_cons_succ])
      refine wpAnyH_take (i := 6) (v := undef) rfl (by kernel_rfl) (by kernel_rfl) (by kernel_rfl) (fun _ _ _ h => h) (Or.inr ⟨by rfl, rfl⟩) hHeld ?_
      (try simp only [Act.put, List.setIfInBounds_toArray, List.set_cons_zero, List.set_cons_succ])
      refine wpAnyH_take (i := 9) (v := undef) rfl (by kernel_rfl) (by kernel_rfl) (by kernel_rfl) (fun _ _ _ h => h) (Or.inr ⟨by rfl, rfl⟩) hHeld ?_
      (try simp only [Act.put, List.setIfInBounds_toArray, List.set_cons_zero, List.set_cons_succ])
      refine wpAnyH_take (i := 10) (v := undef) rfl (by kernel_rfl) (by kernel_rfl) (by kernel_rfl) (fun _ _ _ h => h) (Or.inr ⟨by rfl, rfl⟩) hHeld ?_
      (try simp only [Act.put, List.setIfInBounds_toArray, List.set_cons_zero, List.set_cons_succ])
      refine wpAnyH_ready (rs := [5]) (by kernel_rfl) (by simp) ?_
      refine AllReadyH.cons rfl (fun K' hK' => ?_) AllReadyH.nil
      go_simp
      refine hK'.out _ _ hHeld (fun hHeld => ?_)
      clear hK' K'
      (try simp only [Act.put, List.setIfInBounds_toArray, List.set_cons_zero, List.set_cons_succ])
      refine wpAnyH_ready (rs := [7]) (by kernel_rfl) (by simp) ?_
      refine AllReadyH.cons rfl (fun K' hK' => ?_) AllReadyH.nil
      go_simp
      refine hK'.out _ _ hHeld (fun hHeld => ?_)
      clear hK' K'
      (try simp only [Act.put, List.setIfInBounds_toArray, List.set_cons_zero, List.set_cons_succ])
      refine wpAnyH_take (i := 8) (v := undef) rfl (by kernel_rfl) (by kernel_rfl) (by kernel_rfl) (fun _ _ _ h => h) (Or.inr ⟨by rfl, rfl⟩) hHeld ?_
      (try simp only [Act.put, List.setIfInBounds_toArray, List.set_cons_zero, List.set_cons_succ])
      refine wpAnyH_ready (rs := [11]) (by kernel_rfl) (by simp) ?_
      refine AllReadyH.cons rfl (fun K' hK' => ?_) AllReadyH.nil
      go_simp
      refine hK'.out _ _ hHeld (fun hHeld => ?_)
      clear hK' K'
      (try simp only [Act.put, List.setIfInBounds_toArray, List.set_cons_zero, List.set_cons_succ])
      refine wpAnyH_ready (rs := [12]) (by kernel_rfl) (by simp) ?_
      refine AllReadyH.cons rfl (fun K' hK' => ?_) AllReadyH.nil
      go_simp
      refine hK'.out _ _ hHeld (fun hHeld => ?_)
      clear hK' K'
      (try simp only [Act.put, List.setIfInBounds_toArray, List.set_cons_zero, List.set_cons_succ])
      refine wpAnyH_ready (rs := [13]) (by kernel_rfl) (by simp) ?_
      refine AllReadyH.cons rfl (fun K' hK' => ?_) AllReadyH.nil
      go_simp
      refine hK'.out _ _ hHeld (fun hHeld => ?_)
      clear hK' K'
      (try simp only [Act.put, List.setIfInBounds_toArray, List.set_cons_zero, List.set_cons_succ])
      refine wpAnyH_ready (rs := [14]) (by kernel_rfl) (by simp) ?_
      refine AllReadyH.cons rfl (fun K' hK' => ?_) AllReadyH.nil
      go_simp
      refine hK'.out _ _ hHeld (fun hHeld => ?_)
      clear hK' K'
      (try simp only [Act.put, List.setIfInBounds_toArray, List.set_cons_zero, List.set_cons_succ])
      refine wpAnyH_done (by kernel_rfl) ?_ _
      have HE := Lib.hid (HL0.out _ (HX.out.trans (hB14.mono HX.out.size)))
      clear hb14 hB14
      go_wp2_with (fail)
      go_ret
      exact ⟨rfl, HE.out⟩
    · have HAP := Lib.hid (texts_apart HR.out hrr.symm HFT.out HFU.out)
      have hus := text_same u hrr.symm
      have HC2 : Hid (∀ w', Below w13.heap.size w13 w' → Calls Tryd.prog 12 #[.agg #[.int .i64 t.kind, .int .i64 t.num, .slice A N cap]] w' fun e w'' => e = .returned (.string ⟨t.text.toArray⟩) ∧ Below w'.heap.size w' w'') := Lib.hid fun w' hb => by rw [← HTS.out]; exact text_any t _ w' (HVW.out w' hb).1.1.2.1 HFT.out hs (HVW.out w' hb).2
      have HC3 : Hid (∀ w', Below w13.heap.size w13 w' → Calls Tryd.prog 12 #[.agg #[.int .i64 u.kind, .int .i64 u.num, .slice A' N' cap']] w' fun e w'' => e = .returned (.string ⟨u.text.toArray⟩) ∧ Below w'.heap.size w' w'') := Lib.hid fun w' hb => by rw [← hus]; exact text_any u _ w' (HVW.out w' hb).1.2.2.1 HFU.out hs' (HVW.out w' hb).2
      have HC4 : Hid (∀ w', Below w13.heap.size w13 w' → Calls Tryd.prog 11 #[.agg #[.int .i64 t.kind, .int .i64 t.num, .slice A N cap], .agg #[.int .i64 u.kind, .int .i64 u.num, .slice A' N' cap']] w' fun e w'' => e = .returned (.bool (decide (t.text = u.text))) ∧ Below w'.heap.size w' w'') := Lib.hid fun w' hb => by rw [← HAP.out]; exact rsame_any t u _ _ w' (HVW.out w' hb).1.1.2.1 (HVW.out w' hb).1.2.2.1
      clear hrr hus
      go_wp2_with (fail)
      go_region_held3 (fun w' => w'.cell? ⟨K, 0, none⟩ = some (.int .i64 t.kind) ∧ w'.cell? ⟨K, 1, none⟩ = some (.int .i64 t.num) ∧ w'.cell? ⟨K, 2, none⟩ = some (.slice A N cap) ∧ w'.cell? ⟨K + 1, 0, none⟩ = some (.int .i64 u.kind) ∧ w'.cell? ⟨K + 1, 1, none⟩ = some (.int .i64 u.num) ∧ w'.cell? ⟨K + 1, 2, none⟩ = some (.slice A' N' cap')) (first | go_keep)
        (first
          | (go_at_call 9; (with_reducible refine (HC1.out _ (Below.refl _ w13).drew).mono ?_); rintro e w14 ⟨rfl, hb14⟩; have hB14 : Below w13.heap.size w13 w14 := (Below.refl _ w13).drew.trans (hb14.mono (by simp)); obtain ⟨p0, p1, p2, p3, p4, p5⟩ := HC.out w14 hB14)
          | (go_at_call 12; (with_reducible refine (HC2.out w14 hB14).mono ?_); rintro e w15 ⟨rfl, hb15⟩; have hB15 : Below w13.heap.size w13 w15 := hB14.trans (hb15.mono hB14.size); obtain ⟨q0, q1, q2, q3, q4, q5⟩ := HC.out w15 hB15)
          | (go_at_call 12; (with_reducible refine (HC3.out w15 hB15).mono ?_); rintro e w16 ⟨rfl, hb16⟩; have hB16 : Below w13.heap.size w13 w16 := hB15.trans (hb16.mono hB15.size); obtain ⟨r0, r1, r2, r3, r4, r5⟩ := HC.out w16 hB16)
          | (go_at_call 11; (with_reducible refine (HC4.out w16 hB16).mono ?_); rintro e w17 ⟨rfl, hb17⟩; have hB17 : Below w13.heap.size w13 w17 := hB16.trans (hb17.mono hB16.size); obtain ⟨z0, z1, z2, z3, z4, z5⟩ := HC.out w17 hB17))
      have HE := Lib.hid (HL0.out _ (HX.out.trans (hB17.mono HX.out.size)))
      clear hb14 hB14 hb15 hB15 hb16 hB16 hb17 hB17
      go_wp2_with (fail)
      go_ret
      exact ⟨congrArg (fun b => Ending.returned (Value.bool b)) (text_beq _ _), HE.out⟩
  | some v =>
    have hok := readS6_ok hrd
    go_wp2_with (fail)
    refine HRD.out.mono ?_
    intro e w4 hp
    unfold ReadPost at hp
    rw [hrd] at hp
    obtain ⟨s4, rfl, hk4, hb4, hi4⟩ := hp
    have hk4 := hk4.mono (G' := fun _ => True) fun _ _ => trivial
    have hfv : v.fits := by rw [VT.eta v, fits_mk]; exact ⟨hi4, hk4.fits⟩
    have hszv : v.size ≤ 1048576 := by have := text_ge v hok.1; rw [hok.2] at this; omega
    obtain ⟨A4, c4, rfl, _⟩ := hk4.form
    have h4 := HX.out.trans (hb4.mono HX.out.size)
    obtain ⟨w5, hw5⟩ : ∃ w5, w5 = w4.alloc (.cells #[.int .i64 v.kind, .int .i64 v.num, .slice A4 v.kids.length c4] 24) := ⟨_, rfl⟩
    have hb5 : Below w4.heap.size w4 w5 := by rw [hw5]; exact HNB.out _ _
    have h5 := h4.trans (hb5.mono h4.size)
    obtain ⟨bv, hbv⟩ : ∃ bv, bv = w4.heap.size := ⟨_, rfl⟩
    have hvv : VarIs w5 bv v (.slice A4 v.kids.length c4) := by rw [hw5, hbv]; exact VarIs.new _ rfl hk4
    have HVV := Lib.hid hvv
    have HRT := Lib.hid (rright_any v _ w5 hvv.2.1)
    have HTX := Lib.hid (fun w' (hb : Below w5.heap.size w5 w') => rtextv_any v _ _ w' (hvv.2.1.below hb) hok.1 hfv hszv)
    rw [hok.2] at HTX
    rw [hok.1] at HRT
    have HX5 := Lib.hid h5
    clear hb4 h4 hb5 h5 hrd HX HRD hok hk4 hfv hszv hi4 hvv
    go_wp2_with (fail)
    rw [← hw5, ← hbv]
    clear hw5 hbv
    refine HRT.out.mono ?_
    rintro e w6 ⟨rfl, hb⟩
    have h6 := HX5.out.trans (hb.mono HX5.out.size)
    obtain ⟨⟨c0, c1, c2⟩, _, _⟩ := HVV.out.below hb
    have HT6 := Lib.hid (HTX.out w6 hb)
    have HX := Lib.hid h6
    clear hb h6 HTX HRT
    go_wp2_with (fail)
    refine HT6.out.mono ?_
    rintro e w7 ⟨rfl, hb⟩
    have HX7 := Lib.hid (HX.out.trans (hb.mono HX.out.size))
    clear hb c0 c1 c2 HT6 HX
    obtain ⟨w6', hw6⟩ : ∃ w6', w6' = w7 := ⟨_, rfl⟩
    rw [← hw6] at HX7 ⊢
    have HX := HX7
    clear hw6 HX7
    have h6 := HX.out
    have a0 : w6'.cell? ⟨K, 0, none⟩ = some ((.int .i64 t.kind)) := (HV.out w6' h6).1.1.1.1
    have a1 : w6'.cell? ⟨K, 1, none⟩ = some ((.int .i64 t.num)) := (HV.out w6' h6).1.1.1.2.1
    have a2 : w6'.cell? ⟨K, 2, none⟩ = some ((.slice A N cap)) := (HV.out w6' h6).1.1.1.2.2
    have HRA := Lib.hid (rright_any t _ w6' (HV.out w6' h6).1.1.2.1)
    clear h6
    go_wp2_with (fail)
    refine HRA.out.mono ?_
    rintro e w8 ⟨rfl, hb⟩
    have h8 := HX.out.trans (hb.mono HX.out.size)
    clear hb HX a0 a1 a2 HRA
    have HX := Lib.hid h8
    cases hr : t.right
    · clear h8
      have HE := Lib.hid (HL0.out _ HX.out)
      go_wp2_with (fail)
      go_ret
      exact ⟨rfl, HE.out⟩
    have a0 : w8.cell? ⟨K, 0, none⟩ = some ((.int .i64 t.kind)) := (HV.out w8 h8).1.1.1.1
    have a1 : w8.cell? ⟨K, 1, none⟩ = some ((.int .i64 t.num)) := (HV.out w8 h8).1.1.1.2.1
    have a2 : w8.cell? ⟨K, 2, none⟩ = some ((.slice A N cap)) := (HV.out w8 h8).1.1.1.2.2
    have hts := text_same t hr
    have HTX := Lib.hid (text_any t _ w8 (HV.out w8 h8).1.1.2.1 HFT.out hs (HV.out w8 h8).2)
    rw [hts] at HTX
    have HRB := Lib.hid (readS6_back t hr HFT.out)
    have HR := Lib.hid hr
    have htl : t.text.length ≤ 10000 := by have := text_len t HFT.out; have := HS300.out; omega
    have HTS := Lib.hid hts
    clear h8 hr hts
    go_wp2_with (fail)
    refine HTX.out.mono ?_
    rintro e w10 ⟨rfl, hb⟩
    have h10 := HX.out.trans (hb.mono HX.out.size)
    clear hb HX a0 a1 a2 HTX
    have HX := Lib.hid h10
    have HRD := Lib.hid (read_any 10000 t.text w10 htl (by omega) (HV.out w10 h10).2)
    clear h10
    go_wp2_with (fail)
    refine HRD.out.mono ?_
    intro e w11 hp
    unfold ReadPost at hp
    rw [HRB.out] at hp
    obtain ⟨s11, rfl, hk11, hb11, _⟩ := hp
    have hk11 := hk11.mono (G' := fun _ => True) fun _ _ => trivial
    obtain ⟨A11, c11, rfl, _⟩ := hk11.form
    have h11 := HX.out.trans (hb11.mono HX.out.size)
    obtain ⟨w12, hw12⟩ : ∃ w12, w12 = w11.alloc (.cells #[.int .i64 t.kind, .int .i64 t.num, .slice A11 t.kids.length c11] 24) := ⟨_, rfl⟩
    have hb12 : Below w11.heap.size w11 w12 := by rw [hw12]; exact HNB.out _ _
    have h12 := h11.trans (hb12.mono h11.size)
    have HQ := Lib.hid (rsame_any t t _ _ w12 (hk11.below hb12) (HV.out w12 h12).1.1.2.1)
    have HX12 := Lib.hid h12
    have a0 : w12.cell? ⟨K, 0, none⟩ = some ((.int .i64 t.kind)) := (HV.out w12 h12).1.1.1.1
    have a1 : w12.cell? ⟨K, 1, none⟩ = some ((.int .i64 t.num)) := (HV.out w12 h12).1.1.1.2.1
    have a2 : w12.cell? ⟨K, 2, none⟩ = some ((.slice A N cap)) := (HV.out w12 h12).1.1.1.2.2
    rw [hw12] at a0 a1 a2
    clear hb11 h11 hb12 h12 HX HRD hk11
    go_wp2_with (fail)
    rw [← hw12]
    clear hw12 a0 a1 a2
    refine HQ.out.mono ?_
    rintro e w13 ⟨rfl, hb⟩
    rw [eqB_self]
    have h13 := HX12.out.trans (hb.mono HX12.out.size)
    have HX := Lib.hid h13
    have HVW : Hid (∀ w', Below w13.heap.size w13 w' → (VarIs w' K t (.slice A N cap) ∧ VarIs w' (K + 1) u (.slice A' N' cap')) ∧ whole.Laid w'.heap.size w') := Lib.hid fun w' hb => HV.out w' (h13.trans (hb.mono h13.size))
    clear hb HQ HX12 h13
    obtain ⟨rr, hrr⟩ : ∃ rr, rr = u.right := ⟨_, rfl⟩
    have HC1 : Hid (∀ w', Below w13.heap.size w13 w' → Calls Tryd.prog 9 #[.agg #[.int .i64 u.kind, .int .i64 u.num, .slice A' N' cap']] w' fun e w'' => e = .returned (.bool rr) ∧ Below w'.heap.size w' w'') := Lib.hid fun w' hb => by rw [hrr]; exact rright_any u _ w' (HVW.out w' hb).1.2.2.1
    have HC : Hid (∀ w', Below w13.heap.size w13 w' → w'.cell? ⟨K, 0, none⟩ = some (.int .i64 t.kind) ∧ w'.cell? ⟨K, 1, none⟩ = some (.int .i64 t.num) ∧ w'.cell? ⟨K, 2, none⟩ = some (.slice A N cap) ∧ w'.cell? ⟨K + 1, 0, none⟩ = some (.int .i64 u.kind) ∧ w'.cell? ⟨K + 1, 1, none⟩ = some (.int .i64 u.num) ∧ w'.cell? ⟨K + 1, 2, none⟩ = some (.slice A' N' cap')) := Lib.hid fun w' hb => by
      obtain ⟨⟨x0, x1, x2⟩, _⟩ := (HVW.out w' hb).1.1
      obtain ⟨⟨y0, y1, y2⟩, _⟩ := (HVW.out w' hb).1.2
      exact ⟨x0, x1, x2, y0, y1, y2⟩
    obtain ⟨a0, a1, a2, b0, b1, b2⟩ := HC.out w13 (Below.refl _ _)
    cases rr
    · clear hrr
      go_wp2_with (fail)
      refine wp_region_held_drew (S := (fun w' => w'.cell? ⟨K, 0, none⟩ = some (.int .i64 t.kind) ∧ w'.cell? ⟨K, 1, none⟩ = some (.int .i64 t.num) ∧ w'.cell? ⟨K, 2, none⟩ = some (.slice A N cap) ∧ w'.cell? ⟨K + 1, 0, none⟩ = some (.int .i64 u.kind) ∧ w'.cell? ⟨K + 1, 1, none⟩ = some (.int .i64 u.num) ∧ w'.cell? ⟨K + 1, 2, none⟩ = some (.slice A' N' cap'))) (by kernel_rfl) ?_ (fun hHeld => ?_)
      · simp [*]
      refine wpAnyH_take (i := 0) (v := .agg #[.int .i64 u.kind, .int .i64 u.num, .slice A' N' cap']) rfl (by kernel_rfl) (by kernel_rfl) (by kernel_rfl) (fun _ _ _ h => h) (Or.inl ⟨by rfl, fun w hSw => ?_⟩) hHeld ?_
      · (try dsimp only at hSw)
        first | go_simp | rfl
      (try simp only [Act.put, List.setIfInBounds_toArray, List.set_cons_zero, List.set_cons_succ])
      refine wpAnyH_ready (rs := [1]) (by kernel_rfl) (by simp) ?_
      refine AllReadyH.cons rfl (fun K' hK' => ?_) AllReadyH.nil
      go_simp
      go_at_call 9
      refine (HC1.out _ (Below.refl _ w13).drew).mono ?_
      rintro e w14 ⟨rfl, hb14⟩
      have hB14 : Below w13.heap.size w13 w14 := (Below.refl _ w13).drew.trans (hb14.mono (by simp))
      have hS14 := HC.out w14 hB14
      refine hK'.out _ _ hS14 (fun hHeld => ?_)
      clear hK' K'
      (try simp only [Act.put, List.setIfInBounds_toArray, List.set_cons_zero, List.set_cons_succ])
      refine wpAnyH_take (i := 2) (v := .bool true) rfl (by kernel_rfl) (by kernel_rfl) (by kernel_rfl) (fun _ _ _ h => h) (Or.inl ⟨by rfl, fun w hSw => ?_⟩) hHeld ?_
      · (try dsimp only at hSw)
        first | go_simp | rfl
      (try simp only [Act.put, List.setIfInBounds_toArray, List.set_cons_zero, List.set_cons_succ])
      refine wpAnyH_take (i := 3) (v := .bool true) rfl (by kernel_rfl) (by kernel_rfl) (by kernel_rfl) (fun _ _ _ h => h) (Or.inl ⟨by rfl, fun w hSw => ?_⟩) hHeld ?_
      · (try dsimp only at hSw)
        first | go_simp | rfl
      (try simp only [Act.put, List.setIfInBounds_toArray, List.set_cons_zero, List.set_cons_succ])
      refine wpAnyH_take (i := 4) (v := undef) rfl (by kernel_rfl) (by kernel_rfl) (by kernel_rfl) (fun _ _ _ h => h) (Or.inr ⟨by rfl, rfl⟩) hHeld ?_
      (try simp only [Act.put, List.setIfInBounds_toArray, List.set_cons_zero, List.set_cons_succ])
      refine wpAnyH_take (i := 6) (v := undef) rfl (by kernel_rfl) (by kernel_rfl) (by kernel_rfl) (fun _ _ _ h => h) (Or.inr ⟨by rfl, rfl⟩) hHeld ?_
      (try simp only [Act.put, List.setIfInBounds_toArray, List.set_cons_zero, List.set_cons_succ])
      refine wpAnyH_take (i := 9) (v := undef) rfl (by kernel_rfl) (by kernel_rfl) (by kernel_rfl) (fun _ _ _ h => h) (Or.inr ⟨by rfl, rfl⟩) hHeld ?_
      (try simp only [Act.put, List.setIfInBounds_toArray, List.set_cons_zero, List.set_cons_succ])
      refine wpAnyH_take (i := 10) (v := undef) rfl (by kernel_rfl) (by kernel_rfl) (by kernel_rfl) (fun _ _ _ h => h) (Or.inr ⟨by rfl, rfl⟩) hHeld ?_
      (try simp only [Act.put, List.setIfInBounds_toArray, List.set_cons_zero, List.set_cons_succ])
      refine wpAnyH_ready (rs := [5]) (by kernel_rfl) (by simp) ?_
      refine AllReadyH.cons rfl (fun K' hK' => ?_) AllReadyH.nil
      go_simp
      refine hK'.out _ _ hHeld (fun hHeld => ?_)
      clear hK' K'
      (try simp only [Act.put, List.setIfInBounds_toArray, List.set_cons_zero, List.set_cons_succ])
      refine wpAnyH_ready (rs := [7]) (by kernel_rfl) (by simp) ?_
      refine AllReadyH.cons rfl (fun K' hK' => ?_) AllReadyH.nil
      go_simp
      refine hK'.out _ _ hHeld (fun hHeld => ?_)
      clear hK' K'
      (try simp only [Act.put, List.setIfInBounds_toArray, List.set_cons_zero, List.set_cons_succ])
      refine wpAnyH_take (i := 8) (v := undef) rfl (by kernel_rfl) (by kernel_rfl) (by kernel_rfl) (fun _ _ _ h => h) (Or.inr ⟨by rfl, rfl⟩) hHeld ?_
      (try simp only [Act.put, List.setIfInBounds_toArray, List.set_cons_zero, List.set_cons_succ])
      refine wpAnyH_ready (rs := [11]) (by kernel_rfl) (by simp) ?_
      refine AllReadyH.cons rfl (fun K' hK' => ?_) AllReadyH.nil
      go_simp
      refine hK'.out _ _ hHeld (fun hHeld => ?_)
      clear hK' K'
      (try simp only [Act.put, List.setIfInBounds_toArray, List.set_cons_zero, List.set_cons_succ])
      refine wpAnyH_ready (rs := [12]) (by kernel_rfl) (by simp) ?_
      refine AllReadyH.cons rfl (fun K' hK' => ?_) AllReadyH.nil
      go_simp
      refine hK'.out _ _ hHeld (fun hHeld => ?_)
      clear hK' K'
      (try simp only [Act.put, List.setIfInBounds_toArray, List.set_cons_zero, List.set_cons_succ])
      refine wpAnyH_ready (rs := [13]) (by kernel_rfl) (by simp) ?_
      refine AllReadyH.cons rfl (fun K' hK' => ?_) AllReadyH.nil
      go_simp
      refine hK'.out _ _ hHeld (fun hHeld => ?_)
      clear hK' K'
      (try simp only [Act.put, List.setIfInBounds_toArray, List.set_cons_zero, List.set_cons_succ])
      refine wpAnyH_ready (rs := [14]) (by kernel_rfl) (by simp) ?_
      refine AllReadyH.cons rfl (fun K' hK' => ?_) AllReadyH.nil
      go_simp
      refine hK'.out _ _ hHeld (fun hHeld => ?_)
      clear hK' K'
      (try simp only [Act.put, List.setIfInBounds_toArray, List.set_cons_zero, List.set_cons_succ])
      refine wpAnyH_done (by kernel_rfl) ?_ _
      have HE := Lib.hid (HL0.out _ (HX.out.trans (hB14.mono HX.out.size)))
      clear hb14 hB14
      go_wp2_with (fail)
      go_ret
      exact ⟨rfl, HE.out⟩
    · have HAP := Lib.hid (texts_apart HR.out hrr.symm HFT.out HFU.out)
      have hus := text_same u hrr.symm
      have HC2 : Hid (∀ w', Below w13.heap.size w13 w' → Calls Tryd.prog 12 #[.agg #[.int .i64 t.kind, .int .i64 t.num, .slice A N cap]] w' fun e w'' => e = .returned (.string ⟨t.text.toArray⟩) ∧ Below w'.heap.size w' w'') := Lib.hid fun w' hb => by rw [← HTS.out]; exact text_any t _ w' (HVW.out w' hb).1.1.2.1 HFT.out hs (HVW.out w' hb).2
      have HC3 : Hid (∀ w', Below w13.heap.size w13 w' → Calls Tryd.prog 12 #[.agg #[.int .i64 u.kind, .int .i64 u.num, .slice A' N' cap']] w' fun e w'' => e = .returned (.string ⟨u.text.toArray⟩) ∧ Below w'.heap.size w' w'') := Lib.hid fun w' hb => by rw [← hus]; exact text_any u _ w' (HVW.out w' hb).1.2.2.1 HFU.out hs' (HVW.out w' hb).2
      have HC4 : Hid (∀ w', Below w13.heap.size w13 w' → Calls Tryd.prog 11 #[.agg #[.int .i64 t.kind, .int .i64 t.num, .slice A N cap], .agg #[.int .i64 u.kind, .int .i64 u.num, .slice A' N' cap']] w' fun e w'' => e = .returned (.bool (decide (t.text = u.text))) ∧ Below w'.heap.size w' w'') := Lib.hid fun w' hb => by rw [← HAP.out]; exact rsame_any t u _ _ w' (HVW.out w' hb).1.1.2.1 (HVW.out w' hb).1.2.2.1
      clear hrr hus
      go_wp2_with (fail)
      go_region_held3 (fun w' => w'.cell? ⟨K, 0, none⟩ = some (.int .i64 t.kind) ∧ w'.cell? ⟨K, 1, none⟩ = some (.int .i64 t.num) ∧ w'.cell? ⟨K, 2, none⟩ = some (.slice A N cap) ∧ w'.cell? ⟨K + 1, 0, none⟩ = some (.int .i64 u.kind) ∧ w'.cell? ⟨K + 1, 1, none⟩ = some (.int .i64 u.num) ∧ w'.cell? ⟨K + 1, 2, none⟩ = some (.slice A' N' cap')) (first | go_keep)
        (first
          | (go_at_call 9; (with_reducible refine (HC1.out _ (Below.refl _ w13).drew).mono ?_); rintro e w14 ⟨rfl, hb14⟩; have hB14 : Below w13.heap.size w13 w14 := (Below.refl _ w13).drew.trans (hb14.mono (by simp)); obtain ⟨p0, p1, p2, p3, p4, p5⟩ := HC.out w14 hB14)
          | (go_at_call 12; (with_reducible refine (HC2.out w14 hB14).mono ?_); rintro e w15 ⟨rfl, hb15⟩; have hB15 : Below w13.heap.size w13 w15 := hB14.trans (hb15.mono hB14.size); obtain ⟨q0, q1, q2, q3, q4, q5⟩ := HC.out w15 hB15)
          | (go_at_call 12; (with_reducible refine (HC3.out w15 hB15).mono ?_); rintro e w16 ⟨rfl, hb16⟩; have hB16 : Below w13.heap.size w13 w16 := hB15.trans (hb16.mono hB15.size); obtain ⟨r0, r1, r2, r3, r4, r5⟩ := HC.out w16 hB16)
          | (go_at_call 11; (with_reducible refine (HC4.out w16 hB16).mono ?_); rintro e w17 ⟨rfl, hb17⟩; have hB17 : Below w13.heap.size w13 w17 := hB16.trans (hb17.mono hB16.size); obtain ⟨z0, z1, z2, z3, z4, z5⟩ := HC.out w17 hB17))
      have HE := Lib.hid (HL0.out _ (HX.out.trans (hB17.mono HX.out.size)))
      clear hb14 hB14 hb15 hB15 hb16 hB16 hb17 hB17
      go_wp2_with (fail)
      go_ret
      exact ⟨congrArg (fun b => Ending.returned (Value.bool b)) (text_beq _ _), HE.out⟩
end Go.Proofs.YtjbdfckanabepaaDoor.vt

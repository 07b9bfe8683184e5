/- What grows of seeds: places. -/
import Derived.Test.YtkmkeaeaalnbjaaDoorCGrowExpr
namespace Go.Proofs.YtkmkeaeaalnbjaaDoor.nt
open Go.RowKit mem wd lx
open vt (I64 own_base own_form own_below wpList_append_mine)

theorem place_name {s : List UInt8} (h : named s = true) : (NT.mk 12 0 0 s []).place = true := by
  rw [place_mk, expr_name h]; rfl
theorem place_expr {t : NT} (h : t.place = true) : t.expr = true := by
  obtain ⟨k, a, n, s, l⟩ := t
  rw [place_mk, Bool.and_eq_true] at h
  exact h.1
theorem placeH_cons (t : NT) (r : List NT) : placeH (t :: r) = t.place := by rw [placeH]
theorem place_field {s : List UInt8} {t : NT} (h : t.place = true) (h2 : named s = true) : (NT.mk 14 0 0 s [t]).place = true := by
  rw [place_mk, expr_field (place_expr h) h2, placeH_cons, h]; rfl
theorem place_index {t u : NT} (h : t.place = true) (h2 : u.expr = true) : (NT.mk 13 0 0 [] [t, u]).place = true := by
  rw [place_mk, expr_index (place_expr h) h2, placeH_cons, h]; rfl
def gP : Nat → Nat
  | 0 => 2
  | d + 1 => 20 + gP d
theorem gP_succ (d : Nat) : gP (d + 1) = 20 + gP d := rfl
theorem gE_one : gE 1 = 16 := rfl
set_option maxHeartbeats 4000000 in
set_option maxRecDepth 100000 in
theorem gplace_any : ∀ (d p u : Nat) (sl : Value) (w : World), d ≤ 20 → Sd w p sl u → u + gP d ≤ 1099511627776 →
    Calls Tryd.prog 66 #[.pointer (some ⟨p, 0, none⟩), .int .i64 d] w (GrowPost NT.place (gP d) p u sl w) := by
  intro d
  induction d with
  | zero =>
    intro p u sl w hd hs hu
    obtain ⟨KK, hKK⟩ : ∃ KK, KK = gP 0 := ⟨_, rfl⟩
    have HKK : Hid (KK = 2) := Lib.hid (by rw [hKK]; rfl)
    change u + 2 ≤ _ at hu
    rw [← hKK]
    clear hKK
    have HS0 := Lib.hid hs
    obtain ⟨R, hR⟩ : ∃ R, R = w.heap.size := ⟨_, rfl⟩
    obtain ⟨W, hW⟩ : ∃ W, W = w.alloc (.cells #[.int .i64 0, .int .i64 0, .int .i64 0, .string ⟨#[]⟩, .slice none 0 0] NodeT) := ⟨_, rfl⟩
    have hbW : Below w.heap.size w W := by rw [hW]; exact (Below.refl _ _).alloc (Nat.le_refl _) _
    have HBX : Hid (Box W R NodeT #[.int .i64 0, .int .i64 0, .int .i64 0, .string ⟨#[]⟩, .slice none 0 0]) := Lib.hid (by rw [hW]; exact Box.new _ _ _ _ hR)
    have HN := Lib.hid (next_any 4 p u sl W (by decide) (hs.below hbW) (by omega))
    have HGW : Hid (w.grownBy W (some p)) := Lib.hid (grow_below (grow_refl w p) hbW)
    have HpW : Hid (p < w.heap.size) := Lib.hid hs.1.lt
    have HpR : Hid (p ≠ R) := Lib.hid (by have := hs.1.lt; omega)
    have HU := Lib.hid hu
    have HW := Lib.hid hW
    have HRR := Lib.hid hR
    clear hW hR hbW hs hu
    go_enter Tryd.func66, Tryd.ntmps66
    go_wp2_with (first | (rw [← HW.out, ← HRR.out]))
    refine HN.out.mono ?_
    intro e w1 hp1
    unfold NextPost at hp1
    obtain ⟨x, rfl, hx, hs, hg⟩ := hp1
    have HS1 := Lib.hid hs
    have HB1 := Lib.hid (box_grow HBX.out hg HpR.out)
    have HG1 := Lib.hid (grow_trans HGW.out hg)
    have HX1 : Hid (w.heap.size < w1.heap.size) := Lib.hid (by have := HB1.out.lt; have := HRR.out; omega)
    obtain ⟨k, rfl⟩ : ∃ k : Nat, x = (k : Int) := ⟨x.toNat, by omega⟩
    have hk : k < 4 := by omega
    clear hs hg hx
    clear hk
    have HN2 := Lib.hid (word_any p (u + 1) sl w1 HS1.out (by have := HU.out; omega))
    go_wp2_with (fail)
    refine HN2.out.mono ?_
    intro e w2 hp2
    unfold WordPost at hp2
    obtain ⟨nm, rfl, hnm, hs, hg⟩ := hp2
    have HNM := Lib.hid hnm
    clear hnm
    have HS2 := Lib.hid hs
    have HB2 := Lib.hid (box_grow HB1.out hg HpR.out)
    have HG2 := Lib.hid (grow_trans HG1.out hg)
    have HX2 : Hid (w.heap.size < w2.heap.size) := Lib.hid (by have := hg.size; have := HX1.out; omega)
    clear hs hg
    have HE := Lib.hid (grow_end (f := NT.place) (K := KK) (u := u) (t := .mk 12 0 0 nm []) HS0.out HRR.out HB2.out (place_name HNM.out.1) (hd_of _ _ _ _ _ (by unfold I64; omega) (by unfold I64; omega) (by unfold I64; omega) (HNM.out.2)) (by rw [size_mk, sizeL]; have := HKK.out; omega) (nil_kids _ _) HS2.out (by have := HKK.out; omega) HG2.out)
    have bx := HB2.out
    have r0 := bx.cell 0
    have r1 := bx.cell 1
    have r2 := bx.cell 2
    have r3 := bx.cell 3
    have r4 := bx.cell 4
    simp only [List.getElem?_toArray, List.getElem?_cons_zero, List.getElem?_cons_succ] at r0 r1 r2 r3 r4
    have rf0 := bx.frozen 0
    have rf1 := bx.frozen 1
    have rf2 := bx.frozen 2
    have rf3 := bx.frozen 3
    have rf4 := bx.frozen 4
    clear bx
    go_wp2_with (fail)
    exact bodyPost_ret (node_ret rfl rfl HE.out.1) rfl HE.out.2
  | succ d1 ih =>
    intro p u sl w hd hs hu
    have IH := Lib.hid ih
    clear ih
    rw [gP_succ] at hu ⊢
    obtain ⟨g, hgq⟩ : ∃ g, g = gP d1 := ⟨_, rfl⟩
    rw [← hgq] at hu IH ⊢
    obtain ⟨KK, hKK⟩ : ∃ KK, KK = 20 + g := ⟨_, rfl⟩
    have HKK := Lib.hid hKK
    rw [← hKK]
    clear hKK hgq
    have HS0 := Lib.hid hs
    obtain ⟨R, hR⟩ : ∃ R, R = w.heap.size := ⟨_, rfl⟩
    obtain ⟨W, hW⟩ : ∃ W, W = w.alloc (.cells #[.int .i64 0, .int .i64 0, .int .i64 0, .string ⟨#[]⟩, .slice none 0 0] NodeT) := ⟨_, rfl⟩
    have hbW : Below w.heap.size w W := by rw [hW]; exact (Below.refl _ _).alloc (Nat.le_refl _) _
    have HBX : Hid (Box W R NodeT #[.int .i64 0, .int .i64 0, .int .i64 0, .string ⟨#[]⟩, .slice none 0 0]) := Lib.hid (by rw [hW]; exact Box.new _ _ _ _ hR)
    have HN := Lib.hid (next_any 4 p u sl W (by decide) (hs.below hbW) (by omega))
    have HGW : Hid (w.grownBy W (some p)) := Lib.hid (grow_below (grow_refl w p) hbW)
    have HpW : Hid (p < w.heap.size) := Lib.hid hs.1.lt
    have HpR : Hid (p ≠ R) := Lib.hid (by have := hs.1.lt; omega)
    have HU := Lib.hid hu
    have HW := Lib.hid hW
    have HRR := Lib.hid hR
    clear hW hR hbW hs hu
    go_enter Tryd.func66, Tryd.ntmps66
    go_wp2_with (first | (rw [← HW.out, ← HRR.out]))
    refine HN.out.mono ?_
    intro e w1 hp1
    unfold NextPost at hp1
    obtain ⟨x, rfl, hx, hs, hg⟩ := hp1
    have HS1 := Lib.hid hs
    have HB1 := Lib.hid (box_grow HBX.out hg HpR.out)
    have HG1 := Lib.hid (grow_trans HGW.out hg)
    have HX1 : Hid (w.heap.size < w1.heap.size) := Lib.hid (by have := HB1.out.lt; have := HRR.out; omega)
    obtain ⟨k, rfl⟩ : ∃ k : Nat, x = (k : Int) := ⟨x.toNat, by omega⟩
    have hk : k < 4 := by omega
    clear hs hg hx
    have hdd := IntWalk.i64_in (d1 : Int) (by omega)
    have hd1 : ¬ (d1 : Int) + 1 < 1 := by omega
    rcases (show k = 0 ∨ k = 1 ∨ 2 ≤ k by omega) with rfl | rfl | h9
    · clear hk
      have HN2 := Lib.hid (word_any p (u + 1) sl w1 HS1.out (by have := HU.out; omega))
      go_wp2_with (fail)
      refine HN2.out.mono ?_
      intro e w2 hp2
      unfold WordPost at hp2
      obtain ⟨nm, rfl, hnm, hs, hg⟩ := hp2
      have HNM := Lib.hid hnm
      clear hnm
      have HS2 := Lib.hid hs
      have HB2 := Lib.hid (box_grow HB1.out hg HpR.out)
      have HG2 := Lib.hid (grow_trans HG1.out hg)
      have HX2 : Hid (w.heap.size < w2.heap.size) := Lib.hid (by have := hg.size; have := HX1.out; omega)
      clear hs hg
      have HN3 := Lib.hid (IH.out p (u + 1 + 1) sl w2 (by omega) HS2.out (by have := HU.out; omega))
      go_wp2_with (fail)
      refine HN3.out.mono ?_
      intro e w3 hp2
      unfold GrowPost at hp2
      obtain ⟨t1, st1, v1, rfl, hf, hdt, hst, hkk, hs, hu2, hg⟩ := hp2
      have HS3 := Lib.hid hs
      have HB3 := Lib.hid (box_grow HB2.out hg HpR.out)
      have HG3 := Lib.hid (grow_trans HG2.out hg)
      have HX3 : Hid (w.heap.size < w3.heap.size) := Lib.hid (by have := hg.size; have := HX2.out; omega)
      have HFt1 := Lib.hid hf
      have HDt1 := Lib.hid hdt
      have HZt1 := Lib.hid hst
      have HUt1 := Lib.hid hu2
      have HKt1 : Hid (Kids (fun b => w.heap.size < b) w3 t1.kids st1) := Lib.hid (hkk.mono fun b hb => by have := HX2.out; omega)
      clear hf hdt hst hkk hs hu2 hg
      obtain ⟨V, hV⟩ : ∃ V, V = w3.alloc (.cells #[.int .i64 t1.kind, .int .i64 t1.at_, .int .i64 t1.num, .string ⟨t1.name.toArray⟩, st1] NodeT) := ⟨_, rfl⟩
      obtain ⟨H2, hH2⟩ : ∃ H2, H2 = w3.heap.size := ⟨_, rfl⟩
      have hbV : Below w3.heap.size w3 V := by rw [hV]; exact (Below.refl _ _).alloc (Nat.le_refl _) _
      have hrow : Kids (fun b => w.heap.size < b) V [t1] (.slice (some ⟨H2, 0, none⟩) 1 1) := by rw [hV]; exact row_one hH2 HDt1.out HKt1.out (by have := HX3.out; omega)
      have HBV := Lib.hid (HB3.out.on hbV)
      have HE := Lib.hid (grow_end (f := NT.place) (K := KK) (u := u) (t := .mk 14 0 0 nm [t1]) HS0.out HRR.out HBV.out (place_field HFt1.out HNM.out.1) (hd_of _ _ _ _ _ (by unfold I64; omega) (by unfold I64; omega) (by unfold I64; omega) (HNM.out.2)) (by rw [size_mk, sizeL, sizeL]; have := HKK.out; have := HZt1.out; omega) hrow (HS3.out.below hbV) (by have := HKK.out; have := HUt1.out; omega) (grow_below HG3.out hbV))
      have HV := Lib.hid hV
      have HH2 := Lib.hid hH2
      have bx := HBV.out
      have r0 := bx.cell 0
      have r1 := bx.cell 1
      have r2 := bx.cell 2
      have r3 := bx.cell 3
      have r4 := bx.cell 4
      simp only [List.getElem?_toArray, List.getElem?_cons_zero, List.getElem?_cons_succ] at r0 r1 r2 r3 r4
      have rf0 := bx.frozen 0
      have rf1 := bx.frozen 1
      have rf2 := bx.frozen 2
      have rf3 := bx.frozen 3
      have rf4 := bx.frozen 4
      clear bx hV hH2 hbV hrow
      go_wp2_with (first | (rw [← HV.out, ← HH2.out]))
      exact bodyPost_ret (node_ret rfl rfl HE.out.1) rfl HE.out.2
    · clear hk
      have HN2 := Lib.hid (IH.out p (u + 1) sl w1 (by omega) HS1.out (by have := HU.out; omega))
      go_wp2_with (fail)
      refine HN2.out.mono ?_
      intro e w2 hp2
      unfold GrowPost at hp2
      obtain ⟨t1, st1, v1, rfl, hf, hdt, hst, hkk, hs, hu2, hg⟩ := hp2
      have HS2 := Lib.hid hs
      have HB2 := Lib.hid (box_grow HB1.out hg HpR.out)
      have HG2 := Lib.hid (grow_trans HG1.out hg)
      have HX2 : Hid (w.heap.size < w2.heap.size) := Lib.hid (by have := hg.size; have := HX1.out; omega)
      have HFt1 := Lib.hid hf
      have HDt1 := Lib.hid hdt
      have HZt1 := Lib.hid hst
      have HUt1 := Lib.hid hu2
      have HKt1 : Hid (Kids (fun b => w.heap.size < b) w2 t1.kids st1) := Lib.hid (hkk.mono fun b hb => by have := HX1.out; omega)
      clear hf hdt hst hkk hs hu2 hg
      have hv1 := HUt1.out
      have HN3 := Lib.hid (gexpr_any 1 p v1 sl w2 (by omega) HS2.out (by have := HU.out; have := gE_one; omega))
      go_wp2_with (fail)
      refine HN3.out.mono ?_
      intro e w3 hp2
      unfold GrowPost at hp2
      obtain ⟨t2, st2, v2, rfl, hf, hdt, hst, hkk, hs, hu2, hg⟩ := hp2
      have HS3 := Lib.hid hs
      have HB3 := Lib.hid (box_grow HB2.out hg HpR.out)
      have HG3 := Lib.hid (grow_trans HG2.out hg)
      have HX3 : Hid (w.heap.size < w3.heap.size) := Lib.hid (by have := hg.size; have := HX2.out; omega)
      replace HKt1 : Hid (Kids (fun b => w.heap.size < b) w3 t1.kids st1) := Lib.hid (kids_grow HKt1.out hg fun b hb => by have := HpW.out; omega)
      have HFt2 := Lib.hid hf
      have HDt2 := Lib.hid hdt
      have HZt2 := Lib.hid hst
      have HUt2 := Lib.hid hu2
      have HKt2 : Hid (Kids (fun b => w.heap.size < b) w3 t2.kids st2) := Lib.hid (hkk.mono fun b hb => by have := HX2.out; omega)
      clear hf hdt hst hkk hs hu2 hg
      clear hv1
      obtain ⟨V, hV⟩ : ∃ V, V = w3.alloc (.cells #[.int .i64 t1.kind, .int .i64 t1.at_, .int .i64 t1.num, .string ⟨t1.name.toArray⟩, st1, .int .i64 t2.kind, .int .i64 t2.at_, .int .i64 t2.num, .string ⟨t2.name.toArray⟩, st2] NodeT) := ⟨_, rfl⟩
      obtain ⟨H2, hH2⟩ : ∃ H2, H2 = w3.heap.size := ⟨_, rfl⟩
      have hbV : Below w3.heap.size w3 V := by rw [hV]; exact (Below.refl _ _).alloc (Nat.le_refl _) _
      have hrow : Kids (fun b => w.heap.size < b) V [t1, t2] (.slice (some ⟨H2, 0, none⟩) 2 2) := by rw [hV]; exact row_two hH2 HDt1.out HDt2.out HKt1.out HKt2.out (by have := HX3.out; omega)
      have HBV := Lib.hid (HB3.out.on hbV)
      have HE := Lib.hid (grow_end (f := NT.place) (K := KK) (u := u) (t := .mk 13 0 0 [] [t1, t2]) HS0.out HRR.out HBV.out (place_index HFt1.out HFt2.out) (hd_of _ _ _ _ _ (by unfold I64; omega) (by unfold I64; omega) (by unfold I64; omega) (by simp)) (by rw [size_mk, sizeL, sizeL, sizeL]; have := HKK.out; have := HZt1.out; have := HZt2.out; have := gE_one; omega) hrow (HS3.out.below hbV) (by have := HKK.out; have := HUt1.out; have := HUt2.out; have := gE_one; omega) (grow_below HG3.out hbV))
      have HV := Lib.hid hV
      have HH2 := Lib.hid hH2
      have bx := HBV.out
      have r0 := bx.cell 0
      have r1 := bx.cell 1
      have r2 := bx.cell 2
      have r3 := bx.cell 3
      have r4 := bx.cell 4
      simp only [List.getElem?_toArray, List.getElem?_cons_zero, List.getElem?_cons_succ] at r0 r1 r2 r3 r4
      have rf0 := bx.frozen 0
      have rf1 := bx.frozen 1
      have rf2 := bx.frozen 2
      have rf3 := bx.frozen 3
      have rf4 := bx.frozen 4
      clear bx hV hH2 hbV hrow
      go_wp2_with (first | (rw [← HV.out, ← HH2.out]))
      exact bodyPost_ret (node_ret rfl rfl HE.out.1) rfl HE.out.2
    · have h9 : 1 < (k : Int) := by omega
      clear hk
      have HN2 := Lib.hid (word_any p (u + 1) sl w1 HS1.out (by have := HU.out; omega))
      go_wp2_with (fail)
      refine HN2.out.mono ?_
      intro e w2 hp2
      unfold WordPost at hp2
      obtain ⟨nm, rfl, hnm, hs, hg⟩ := hp2
      have HNM := Lib.hid hnm
      clear hnm
      have HS2 := Lib.hid hs
      have HB2 := Lib.hid (box_grow HB1.out hg HpR.out)
      have HG2 := Lib.hid (grow_trans HG1.out hg)
      have HX2 : Hid (w.heap.size < w2.heap.size) := Lib.hid (by have := hg.size; have := HX1.out; omega)
      clear hs hg
      have HE := Lib.hid (grow_end (f := NT.place) (K := KK) (u := u) (t := .mk 12 0 0 nm []) HS0.out HRR.out HB2.out (place_name HNM.out.1) (hd_of _ _ _ _ _ (by unfold I64; omega) (by unfold I64; omega) (by unfold I64; omega) (HNM.out.2)) (by rw [size_mk, sizeL]; have := HKK.out; omega) (nil_kids _ _) HS2.out (by have := HKK.out; omega) HG2.out)
      have bx := HB2.out
      have r0 := bx.cell 0
      have r1 := bx.cell 1
      have r2 := bx.cell 2
      have r3 := bx.cell 3
      have r4 := bx.cell 4
      simp only [List.getElem?_toArray, List.getElem?_cons_zero, List.getElem?_cons_succ] at r0 r1 r2 r3 r4
      have rf0 := bx.frozen 0
      have rf1 := bx.frozen 1
      have rf2 := bx.frozen 2
      have rf3 := bx.frozen 3
      have rf4 := bx.frozen 4
      clear bx
      go_wp2_with (fail)
      exact bodyPost_ret (node_ret rfl rfl HE.out.1) rfl HE.out.2
end Go.Proofs.YtkmkeaeaalnbjaaDoor.nt

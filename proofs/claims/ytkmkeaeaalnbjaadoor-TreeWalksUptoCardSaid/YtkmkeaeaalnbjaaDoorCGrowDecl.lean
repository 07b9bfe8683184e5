/- What grows of seeds: declarations. -/
import Derived.Test.YtkmkeaeaalnbjaaDoorCGGrow
namespace Go.Proofs.YtkmkeaeaalnbjaaDoor.nt
open Go.RowKit mem wd lx
open vt (I64 own_base own_form own_below wpList_append_mine)

def gD : Nat := 60000
theorem gD_eq : gD = 60000 := rfl
theorem own2_down {B B' : Nat} {w : World} {l : List NT} {v : Value} (h : Own2 B w l v) (hB : B' ≤ B) : Own2 B' w l v := by
  obtain ⟨vs, hv, ho⟩ := h
  exact ⟨vs, hv.mono fun b hb => ⟨by omega, hb.2⟩, own_base ho hB⟩
set_option maxHeartbeats 8000000 in
set_option maxRecDepth 100000 in
theorem gdecl_any : ∀ (p u : Nat) (sl : Value) (w : World), Sd w p sl u → u + gD ≤ 1099511627776 →
    Calls Tryd.prog 38 #[.pointer (some ⟨p, 0, none⟩)] w (GrowPost declN gD p u sl w) := by
  intro p u sl w hs hu
  have HS0 := Lib.hid hs
  obtain ⟨R, hR⟩ : ∃ R, R = w.heap.size := ⟨_, rfl⟩
  obtain ⟨W, hW⟩ : ∃ W, W = w.alloc (.cells ZN NodeT) := ⟨_, rfl⟩
  have hbW : Below w.heap.size w W := by rw [hW]; exact (Below.refl _ _).alloc (Nat.le_refl _) _
  have HBX : Hid (Box W R NodeT ZN) := Lib.hid (by rw [hW]; exact Box.new _ _ _ _ hR)
  have HN := Lib.hid (next_any 5 p u sl W (by decide) (hs.below hbW) (by have := gD_eq; omega))
  have HGW : Hid (w.grownBy W (some p)) := Lib.hid (grow_below (grow_refl w p) hbW)
  have HpW : Hid (p < w.heap.size) := Lib.hid hs.1.lt
  have HU := Lib.hid hu
  have HW := Lib.hid hW
  have HRR := Lib.hid hR
  clear hW hR hbW hs hu
  go_enter Tryd.func38, Tryd.ntmps38
  go_wp2_with (first | (rw [← HW.out, ← HRR.out]))
  refine HN.out.mono ?_
  intro e w1 hp1
  unfold NextPost at hp1
  obtain ⟨x, rfl, hx, hs1, hg1⟩ := hp1
  obtain ⟨k, rfl⟩ : ∃ k : Nat, x = (k : Int) := ⟨x.toNat, by omega⟩
  have hk : k < 5 := by omega
  have HB1 := Lib.hid (box_grow HBX.out hg1 (by have := HpW.out; have := HRR.out; omega))
  have HG1 := Lib.hid (grow_trans HGW.out hg1)
  have HN2 := Lib.hid (word_any p (u + 1) sl w1 hs1 (by have := HU.out; have := gD_eq; omega))
  clear hs1 hg1 hx
  go_wp2_with (fail)
  refine HN2.out.mono ?_
  intro e w2 hp2
  unfold WordPost at hp2
  obtain ⟨nm, rfl, hnm, hs2, hg2⟩ := hp2
  have HNM := Lib.hid hnm
  obtain ⟨O, hO⟩ : ∃ O, O = w2.heap.size := ⟨_, rfl⟩
  obtain ⟨w3, hw3⟩ : ∃ W, W = w2.alloc (.cells #[.int .i64 0, .int .i64 0, .int .i64 0, .string ⟨nm.toArray⟩, .slice none 0 0] NodeT) := ⟨_, rfl⟩
  have hB2 : Box w2 R NodeT ZN := box_grow HB1.out hg2 (by have := HpW.out; have := HRR.out; omega)
  have hb3 : Below w2.heap.size w2 w3 := by rw [hw3]; exact (Below.refl _ _).alloc (Nat.le_refl _) _
  have D3 : Hid (DSt w p R O sl w3 (u + 1 + 1) 0 0 nm [] (.slice none 0 0)) := Lib.hid { hpR := by have := HpW.out; have := HRR.out; omega, hRO := by have := hB2.lt; omega, hpO := by have := hB2.lt; have := HpW.out; have := HRR.out; omega, hO := by have := hB2.lt; have := HRR.out; omega, h0 := ⟨u, HS0.out⟩, hb := hB2.on hb3, ho := by rw [hw3, hO]; exact Box.new _ _ _ _ rfl, hl := Own2.nil_ _ _, hs := hs2.below hb3, hg := grow_below (grow_trans HG1.out hg2) hb3 }
  have HW3 := Lib.hid hw3
  have HO := Lib.hid hO
  clear hw3 hO hb3 hB2 hs2 hg2 hnm
  rcases (show k = 0 ∨ k = 1 ∨ k = 2 ∨ k = 3 ∨ k = 4 by omega) with rfl | rfl | rfl | rfl | rfl
  · clear hk
    obtain ⟨w4, hw4⟩ : ∃ W, W = w3.setCell ⟨O, 0, none⟩ (.int .i64 51) := ⟨_, rfl⟩
    have Hw4 := Lib.hid hw4
    have D4 := Lib.hid (D3.out.kind 51)
    rw [← hw4] at D4
    clear hw4
    have bx := D3.out.ho
    have x0 := bx.cell 0
    have x1 := bx.cell 1
    have x2 := bx.cell 2
    have x3 := bx.cell 3
    have x4 := bx.cell 4
    simp only [List.getElem?_toArray, List.getElem?_cons_zero, List.getElem?_cons_succ] at x0 x1 x2 x3 x4
    have xf0 := bx.frozen 0
    have xf1 := bx.frozen 1
    have xf2 := bx.frozen 2
    have xf3 := bx.frozen 3
    have xf4 := bx.frozen 4
    clear bx
    have HN_w5 := Lib.hid (next_any 3 p (u + 1 + 1) sl w4 (by decide) D4.out.hs (by have := HU.out; have := gD_eq; omega))
    go_wp2_with (first | (rw [← HW3.out, ← HO.out]) | (rw [← Hw4.out]))
    refine HN_w5.out.mono ?_
    intro e w5 hp2
    unfold NextPost at hp2
    obtain ⟨y, rfl, hy, hs, hg⟩ := hp2
    have D5 := Lib.hid (D4.out.call hg hs)
    clear hs hg
    clear x0 xf0 x1 xf1 x2 xf2 x3 xf3 x4 xf4
    obtain ⟨m, rfl⟩ : ∃ m : Nat, y = (m : Int) := ⟨y.toNat, by omega⟩
    have HN_w6 := Lib.hid (gparams_any (1 + m) (by omega) p (u + 1 + 1 + 1) sl w5 D5.out.hs (by have := HU.out; have := gD_eq; omega))
    rw [show (((1 + m : Nat)) : Int) = 1 + (m : Int) by omega] at HN_w6
    go_wp2_with (fail)
    refine HN_w6.out.mono ?_
    intro e w6 hp2
    unfold ParsPost at hp2
    obtain ⟨l, lv, u9, rfl, hf, hsz, hln, ho2, hs, hu2, hg⟩ := hp2
    have D6 := Lib.hid (D5.out.call hg hs)
    have HOW := Lib.hid (own2_down ho2 D5.out.size)
    have HFL := Lib.hid hf
    have HSL := Lib.hid hsz
    have HUL := Lib.hid hu2
    have HLN := Lib.hid hln
    clear hs hg hf hsz hln ho2 hu2
    obtain ⟨A9, c9, rfl⟩ := HOW.out.form
    obtain ⟨n9, hn9⟩ : ∃ n9, n9 = l.length := ⟨_, rfl⟩
    rw [← hn9] at HOW HLN ⊢
    have HNN := Lib.hid hn9
    clear hn9
    obtain ⟨w7, hw7⟩ : ∃ W, W = w6.setCell ⟨O, 4, none⟩ (.slice A9 n9 c9) := ⟨_, rfl⟩
    have Hw7 := Lib.hid hw7
    have D7 := Lib.hid (D6.out.kids HOW.out)
    rw [← hw7] at D7
    clear hw7
    have bx := D6.out.ho
    have y0 := bx.cell 0
    have y1 := bx.cell 1
    have y2 := bx.cell 2
    have y3 := bx.cell 3
    have y4 := bx.cell 4
    simp only [List.getElem?_toArray, List.getElem?_cons_zero, List.getElem?_cons_succ] at y0 y1 y2 y3 y4
    have yf0 := bx.frozen 0
    have yf1 := bx.frozen 1
    have yf2 := bx.frozen 2
    have yf3 := bx.frozen 3
    have yf4 := bx.frozen 4
    clear bx
    have hne : l ≠ [] := fun e => by have := HNN.out; have := HLN.out; rw [e] at *; simp at *; omega
    have bx := D7.out.ho
    have x0 := bx.cell 0
    have x1 := bx.cell 1
    have x2 := bx.cell 2
    have x3 := bx.cell 3
    have x4 := bx.cell 4
    simp only [List.getElem?_toArray, List.getElem?_cons_zero, List.getElem?_cons_succ] at x0 x1 x2 x3 x4
    have xf0 := bx.frozen 0
    have xf1 := bx.frozen 1
    have xf2 := bx.frozen 2
    have xf3 := bx.frozen 3
    have xf4 := bx.frozen 4
    clear bx
    have bx := D7.out.hb
    have r0 := bx.cell 0
    have r1 := bx.cell 1
    have r2 := bx.cell 2
    have r3 := bx.cell 3
    have r4 := bx.cell 4
    simp only [List.getElem?_toArray, List.getElem?_cons_zero, List.getElem?_cons_succ] at r0 r1 r2 r3 r4
    have rf0 := bx.frozen 0
    have rf1 := bx.frozen 1
    have rf2 := bx.frozen 2
    have rf3 := bx.frozen 3
    have rf4 := bx.frozen 4
    clear bx
    have HE := Lib.hid (D7.out.tell HRR.out (f := declN) (K := gD) HS0.out (decl_rec HNM.out.1 HFL.out hne) (by unfold I64; omega) (by unfold I64; omega) HNM.out.2 (by have := HSL.out; have := gD_eq; omega) (by have := HUL.out; have := gD_eq; omega))
    go_wp2_with (first | (rw [← Hw7.out]))
    exact bodyPost_ret (node_ret2 rfl rfl HE.out.1) rfl HE.out.2
  · clear hk
    obtain ⟨w4, hw4⟩ : ∃ W, W = w3.setCell ⟨O, 0, none⟩ (.int .i64 52) := ⟨_, rfl⟩
    have Hw4 := Lib.hid hw4
    have D4 := Lib.hid (D3.out.kind 52)
    rw [← hw4] at D4
    clear hw4
    have bx := D3.out.ho
    have x0 := bx.cell 0
    have x1 := bx.cell 1
    have x2 := bx.cell 2
    have x3 := bx.cell 3
    have x4 := bx.cell 4
    simp only [List.getElem?_toArray, List.getElem?_cons_zero, List.getElem?_cons_succ] at x0 x1 x2 x3 x4
    have xf0 := bx.frozen 0
    have xf1 := bx.frozen 1
    have xf2 := bx.frozen 2
    have xf3 := bx.frozen 3
    have xf4 := bx.frozen 4
    clear bx
    have HN_w5 := Lib.hid (next_any 4 p (u + 1 + 1) sl w4 (by decide) D4.out.hs (by have := HU.out; have := gD_eq; omega))
    go_wp2_with (first | (rw [← HW3.out, ← HO.out]) | (rw [← Hw4.out]))
    refine HN_w5.out.mono ?_
    intro e w5 hp2
    unfold NextPost at hp2
    obtain ⟨n0, rfl, hn0, hs, hg⟩ := hp2
    have D5 := Lib.hid (D4.out.call hg hs)
    clear hs hg
    clear x0 xf0 x1 xf1 x2 xf2 x3 xf3 x4 xf4
    obtain ⟨w6, hw6⟩ : ∃ W, W = w5.setCell ⟨O, 2, none⟩ (.int .i64 n0) := ⟨_, rfl⟩
    have Hw6 := Lib.hid hw6
    have D6 := Lib.hid (D5.out.num n0)
    rw [← hw6] at D6
    clear hw6
    have bx := D5.out.ho
    have x0 := bx.cell 0
    have x1 := bx.cell 1
    have x2 := bx.cell 2
    have x3 := bx.cell 3
    have x4 := bx.cell 4
    simp only [List.getElem?_toArray, List.getElem?_cons_zero, List.getElem?_cons_succ] at x0 x1 x2 x3 x4
    have xf0 := bx.frozen 0
    have xf1 := bx.frozen 1
    have xf2 := bx.frozen 2
    have xf3 := bx.frozen 3
    have xf4 := bx.frozen 4
    clear bx
    have HN_w7 := Lib.hid ((fun p u sl w h1 h2 => gtype_any 2 p u sl w (by decide) h1 h2) p (u + 1 + 1 + 1) sl w6 D6.out.hs (by have := HU.out; have := gD_eq; have := gS_two; omega))
    go_wp2_with (first | (rw [← Hw6.out]))
    refine HN_w7.out.mono ?_
    intro e w7 hp2
    unfold GrowPost at hp2
    obtain ⟨t1, st1, ut1, rfl, hft, hdt, hst, hkk, hs, hu2, hg⟩ := hp2
    have D7 := Lib.hid (D6.out.call hg hs)
    have HFt1 := Lib.hid hft
    have HDt1 := Lib.hid hdt
    have HZt1 := Lib.hid hst
    have HUt1 := Lib.hid hu2
    have HKt1 : Hid (Kids (fun b => O < b) w7 t1.kids st1) := Lib.hid (hkk.mono fun b hb => by have := D6.out.size; omega)
    clear x0 xf0 x1 xf1 x2 xf2 x3 xf3 x4 xf4
    obtain ⟨V, hV⟩ : ∃ V, V = w7.alloc (.cells #[.int .i64 t1.kind, .int .i64 t1.at_, .int .i64 t1.num, .string ⟨t1.name.toArray⟩, st1] NodeT) := ⟨_, rfl⟩
    obtain ⟨H7, hH7⟩ : ∃ H, H = w7.heap.size := ⟨_, rfl⟩
    have hbV : Below w7.heap.size w7 V := by rw [hV]; exact (Below.refl _ _).alloc (Nat.le_refl _) _
    have HOW : Hid (Own2 (O + 1) V [t1] (.slice (some ⟨H7, 0, none⟩) 1 1)) := Lib.hid (by rw [hV, hH7]; exact D7.out.one HDt1.out HKt1.out)
    have DV := Lib.hid (D7.out.below hbV)
    have HV := Lib.hid hV
    have HH7 := Lib.hid hH7
    clear hV hH7 hbV hft hdt hst hkk hs hu2 hg
    obtain ⟨w8, hw8⟩ : ∃ W, W = V.setCell ⟨O, 4, none⟩ (.slice (some ⟨H7, 0, none⟩) 1 1) := ⟨_, rfl⟩
    have Hw8 := Lib.hid hw8
    have D8 := Lib.hid (DV.out.kids HOW.out)
    rw [← hw8] at D8
    clear hw8
    have bx := DV.out.ho
    have x0 := bx.cell 0
    have x1 := bx.cell 1
    have x2 := bx.cell 2
    have x3 := bx.cell 3
    have x4 := bx.cell 4
    simp only [List.getElem?_toArray, List.getElem?_cons_zero, List.getElem?_cons_succ] at x0 x1 x2 x3 x4
    have xf0 := bx.frozen 0
    have xf1 := bx.frozen 1
    have xf2 := bx.frozen 2
    have xf3 := bx.frozen 3
    have xf4 := bx.frozen 4
    clear bx
    have HN_w9 := Lib.hid (next_any 2 p ut1 sl w8 (by decide) D8.out.hs (by have := HU.out; have := gD_eq; have := HUt1.out; omega))
    go_wp2_with (first | (rw [← HV.out, ← HH7.out]) | (rw [← Hw8.out]))
    refine HN_w9.out.mono ?_
    intro e w9 hp2
    unfold NextPost at hp2
    obtain ⟨y, rfl, hy, hs, hg⟩ := hp2
    have D9 := Lib.hid (D8.out.call hg hs)
    clear hs hg
    clear x0 xf0 x1 xf1 x2 xf2 x3 xf3 x4 xf4
    by_cases y1 : y = 1
    · subst y1
      clear hy
      have HI : Hid (∀ w', Below w9.heap.size w9 w' → Calls Tryd.prog 58 #[.pointer (some ⟨p, 0, none⟩)] w' (WordPost p (ut1 + 1) sl w')) := Lib.hid (fun w' hb' => word_any p (ut1 + 1) sl w' (D9.out.hs.below hb') (by have := HU.out; have := HUt1.out; have := gD_eq; omega))
      have bx := D9.out.ho
      have xx4 := bx.cell 4
      simp only [List.getElem?_toArray, List.getElem?_cons_zero, List.getElem?_cons_succ] at xx4
      have xxf := bx.frozen 4
      clear bx
      go_wp2_with (fail)
      go_region_law (first
        | (refine step_node (p := p) (w0 := w) (wr := w10) (by rfl) _ _ (by rfl) (O + 1) 1 [t1] (.mk 12 0 0 nm2 []) (.slice (some ⟨H7, 0, none⟩) 1 1) (.slice none 0 0) w10.heap.size (by rfl) (by rfl) D10.out.hl (hd_of _ _ _ _ _ (by unfold I64; omega) (by unfold I64; omega) (by unfold I64; omega) HNM2.out.2) (Kids.nil_ _ _) D10.out.hg (by have := D10.out.hO; omega) D10.out.size rfl (by omega) (by rfl) ?_; intro A4 c4 w11 ho4 hg4 hk4; have HAP := Lib.hid (D10.out.app ho4 hg4 hk4); have hbz := HAP.out.1; have zz4 := hbz.cell 4; simp only [List.getElem?_toArray, List.getElem?_cons_zero, List.getElem?_cons_succ] at zz4; have zzf := hbz.frozen 4; clear hbz; (obtain ⟨w12, hw12⟩ : ∃ W, W = w11.setCell ⟨O, 4, none⟩ (.slice A4 (1 + 1) c4) := ⟨_, rfl⟩); have Hw12 := Lib.hid hw12; have D12 := Lib.hid HAP.out.2; (rw [← hw12] at D12); clear ho4 hg4 hk4 hw12)
        | (go_simp; go_at_call 58; (with_reducible refine (HI.out _ ((Below.refl _ _).drew)).mono ?_); intro e w10 hp2; unfold WordPost at hp2; obtain ⟨nm2, rfl, hnm2, hs, hg⟩ := hp2; have D10 := Lib.hid (D9.out.call (grow_trans (grow_below (grow_refl w9 p) ((Below.refl _ _).drew)) hg) hs); have HNM2 := Lib.hid hnm2; clear hnm2; have hby := D10.out.ho; have yy4 := hby.cell 4; simp only [List.getElem?_toArray, List.getElem?_cons_zero, List.getElem?_cons_succ] at yy4; have yyf := hby.frozen 4; have hbq := hby.on ((Below.refl _ _).alloc (Nat.le_refl _) (.cells #[.int .i64 12, .int .i64 0, .int .i64 0, .string ⟨nm2.toArray⟩, .slice none 0 0] NodeT)); have qq4 := hbq.cell 4; simp only [List.getElem?_toArray, List.getElem?_cons_zero, List.getElem?_cons_succ] at qq4; clear hbq hby hs hg))
      all_goals
        have bx := D12.out.ho
        have x0 := bx.cell 0
        have x1 := bx.cell 1
        have x2 := bx.cell 2
        have x3 := bx.cell 3
        have x4 := bx.cell 4
        simp only [List.getElem?_toArray, List.getElem?_cons_zero, List.getElem?_cons_succ] at x0 x1 x2 x3 x4
        have xf0 := bx.frozen 0
        have xf1 := bx.frozen 1
        have xf2 := bx.frozen 2
        have xf3 := bx.frozen 3
        have xf4 := bx.frozen 4
        clear bx
        have bx := D12.out.hb
        have r0 := bx.cell 0
        have r1 := bx.cell 1
        have r2 := bx.cell 2
        have r3 := bx.cell 3
        have r4 := bx.cell 4
        simp only [List.getElem?_toArray, List.getElem?_cons_zero, List.getElem?_cons_succ] at r0 r1 r2 r3 r4
        have rf0 := bx.frozen 0
        have rf1 := bx.frozen 1
        have rf2 := bx.frozen 2
        have rf3 := bx.frozen 3
        have rf4 := bx.frozen 4
        clear bx
        have HE := Lib.hid (D12.out.tell HRR.out (f := declN) (K := gD) HS0.out (decl_iso2 HNM.out.1 (by have := hn0; omega) HFt1.out HNM2.out.1) (by unfold I64; omega) (by unfold I64; have := hn0; omega) HNM.out.2 (by have := HZt1.out; simp only [sizeL_append, sizeL, size_mk]; have := gD_eq; omega) (by have := HUt1.out; have := gD_eq; omega))
        go_wp2_with (first | (rw [← Hw12.out]))
        exact bodyPost_ret (node_ret2 rfl rfl HE.out.1) rfl HE.out.2
    · have y2 : (y == 1) = false := beq_eq_false_iff_ne.2 y1
      clear y1
      have bx := D9.out.ho
      have x0 := bx.cell 0
      have x1 := bx.cell 1
      have x2 := bx.cell 2
      have x3 := bx.cell 3
      have x4 := bx.cell 4
      simp only [List.getElem?_toArray, List.getElem?_cons_zero, List.getElem?_cons_succ] at x0 x1 x2 x3 x4
      have xf0 := bx.frozen 0
      have xf1 := bx.frozen 1
      have xf2 := bx.frozen 2
      have xf3 := bx.frozen 3
      have xf4 := bx.frozen 4
      clear bx
      have bx := D9.out.hb
      have r0 := bx.cell 0
      have r1 := bx.cell 1
      have r2 := bx.cell 2
      have r3 := bx.cell 3
      have r4 := bx.cell 4
      simp only [List.getElem?_toArray, List.getElem?_cons_zero, List.getElem?_cons_succ] at r0 r1 r2 r3 r4
      have rf0 := bx.frozen 0
      have rf1 := bx.frozen 1
      have rf2 := bx.frozen 2
      have rf3 := bx.frozen 3
      have rf4 := bx.frozen 4
      clear bx
      have HE := Lib.hid (D9.out.tell HRR.out (f := declN) (K := gD) HS0.out (decl_iso1 HNM.out.1 (by have := hn0; omega) HFt1.out) (by unfold I64; omega) (by unfold I64; have := hn0; omega) HNM.out.2 (by have := HZt1.out; simp only [sizeL]; have := gD_eq; omega) (by have := HUt1.out; have := gD_eq; omega))
      go_wp2_with (fail)
      exact bodyPost_ret (node_ret2 rfl rfl HE.out.1) rfl HE.out.2
  · clear hk
    obtain ⟨w4, hw4⟩ : ∃ W, W = w3.setCell ⟨O, 0, none⟩ (.int .i64 54) := ⟨_, rfl⟩
    have Hw4 := Lib.hid hw4
    have D4 := Lib.hid (D3.out.kind 54)
    rw [← hw4] at D4
    clear hw4
    have bx := D3.out.ho
    have x0 := bx.cell 0
    have x1 := bx.cell 1
    have x2 := bx.cell 2
    have x3 := bx.cell 3
    have x4 := bx.cell 4
    simp only [List.getElem?_toArray, List.getElem?_cons_zero, List.getElem?_cons_succ] at x0 x1 x2 x3 x4
    have xf0 := bx.frozen 0
    have xf1 := bx.frozen 1
    have xf2 := bx.frozen 2
    have xf3 := bx.frozen 3
    have xf4 := bx.frozen 4
    clear bx
    have HN_w5 := Lib.hid (gparams_any 3 (by omega) p (u + 1 + 1) sl w4 D4.out.hs (by have := HU.out; have := gD_eq; omega))
    go_wp2_with (first | (rw [← HW3.out, ← HO.out]) | (rw [← Hw4.out]))
    refine HN_w5.out.mono ?_
    intro e w5 hp2
    unfold ParsPost at hp2
    obtain ⟨l, lv, u9, rfl, hf, hsz, hln, ho2, hs, hu2, hg⟩ := hp2
    have D5 := Lib.hid (D4.out.call hg hs)
    have HOW := Lib.hid (own2_down ho2 D4.out.size)
    have HFL := Lib.hid hf
    have HSL := Lib.hid hsz
    have HUL := Lib.hid hu2
    have HLN := Lib.hid hln
    clear hs hg hf hsz hln ho2 hu2
    obtain ⟨A9, c9, rfl⟩ := HOW.out.form
    obtain ⟨n9, hn9⟩ : ∃ n9, n9 = l.length := ⟨_, rfl⟩
    rw [← hn9] at HOW HLN ⊢
    have HNN := Lib.hid hn9
    clear hn9
    clear x0 xf0 x1 xf1 x2 xf2 x3 xf3 x4 xf4
    obtain rfl : n9 = 3 := by have := HNN.out; have := HLN.out; omega
    have HN_w6 := Lib.hid (gblock_any 2 (by decide) p u9 sl w5 D5.out.hs (by have := HU.out; have := gD_eq; have := gS_two; have := HUL.out; omega))
    go_wp2_with (fail)
    refine HN_w6.out.mono ?_
    intro e w6 hp2
    unfold GrowPost at hp2
    obtain ⟨t1, st1, ut1, rfl, hft, hdt, hst, hkk, hs, hu2, hg⟩ := hp2
    have D6 := Lib.hid (D5.out.call hg hs)
    have HFt1 := Lib.hid hft
    have HDt1 := Lib.hid hdt
    have HZt1 := Lib.hid hst
    have HUt1 := Lib.hid hu2
    have HKt1 : Hid (Kids (fun b => O < b) w6 t1.kids st1) := Lib.hid (hkk.mono fun b hb => by have := D5.out.size; omega)
    have HOX := Lib.hid (HOW.out.grow hg (by have := D5.out.hpO; omega))
    have HKX : Hid (Kids (fun b => O + 1 ≤ b ∧ some b ≠ (Value.slice A9 3 c9).ownBlock) w6 t1.kids st1) := Lib.hid (hkk.mono fun b hb => ⟨by have := D5.out.size; omega, fun e => by have := (HOW.out.lt b e.symm).2; omega⟩)
    clear hft hdt hst hkk hs hu2 hg
    have bx := D6.out.ho
    have x0 := bx.cell 0
    have x1 := bx.cell 1
    have x2 := bx.cell 2
    have x3 := bx.cell 3
    have x4 := bx.cell 4
    simp only [List.getElem?_toArray, List.getElem?_cons_zero, List.getElem?_cons_succ] at x0 x1 x2 x3 x4
    have xf0 := bx.frozen 0
    have xf1 := bx.frozen 1
    have xf2 := bx.frozen 2
    have xf3 := bx.frozen 3
    have xf4 := bx.frozen 4
    clear bx
    go_wp2_with (first | (at_builtin; (refine wpList_node (p := p) (w0 := w) (wr := w6) rfl _ _ rfl (O + 1) 3 l t1 (.slice A9 3 c9) st1 w6.heap.size rfl rfl HOX.out HDt1.out HKX.out D6.out.hg (by have := D6.out.hO; omega) D6.out.size HNN.out (by decide) rfl ?_); intro A4 c4 w8 ho4 hg4 hk4; have HAP := Lib.hid (D6.out.app2 ho4 hg4 (fun b hb => (HOX.out.lt b hb).1) hk4); have hbz := HAP.out.1; have zz4 := hbz.cell 4; simp only [List.getElem?_toArray, List.getElem?_cons_zero, List.getElem?_cons_succ] at zz4; have zzf := hbz.frozen 4; clear hbz; (obtain ⟨w9, hw9⟩ : ∃ W, W = w8.setCell ⟨O, 4, none⟩ (.slice A4 (3 + 1) c4) := ⟨_, rfl⟩); have Hw9 := Lib.hid hw9; have D9 := Lib.hid HAP.out.2; (rw [← hw9] at D9); clear ho4 hg4 hk4 hw9; (have bx := D9.out.ho); (have v0 := bx.cell 0); (have v1 := bx.cell 1); (have v2 := bx.cell 2); (have v3 := bx.cell 3); (have v4 := bx.cell 4); (have by_ := D9.out.hb); (have r0 := by_.cell 0); (have r1 := by_.cell 1); (have r2 := by_.cell 2); (have r3 := by_.cell 3); (have r4 := by_.cell 4); simp only [List.getElem?_toArray, List.getElem?_cons_zero, List.getElem?_cons_succ] at v0 v1 v2 v3 v4 r0 r1 r2 r3 r4; (have rf0 := by_.frozen 0); (have rf1 := by_.frozen 1); (have rf2 := by_.frozen 2); (have rf3 := by_.frozen 3); (have rf4 := by_.frozen 4); clear bx by_) | (rw [← Hw9.out]))
    have HE := Lib.hid (D9.out.tell HRR.out (f := declN) (K := gD) HS0.out (decl_merge HNM.out.1 HNN.out.symm HFL.out HFt1.out) (by unfold I64; omega) (by unfold I64; omega) HNM.out.2 (by have := HSL.out; have := HZt1.out; simp only [sizeL_append, sizeL]; have := gS_two; have := gD_eq; omega) (by have := HUL.out; have := HUt1.out; have := gS_two; have := gD_eq; omega))
    exact bodyPost_ret (node_ret2 rfl rfl HE.out.1) rfl HE.out.2
  · clear hk
    obtain ⟨w4, hw4⟩ : ∃ W, W = w3.setCell ⟨O, 0, none⟩ (.int .i64 53) := ⟨_, rfl⟩
    have Hw4 := Lib.hid hw4
    have D4 := Lib.hid (D3.out.kind 53)
    rw [← hw4] at D4
    clear hw4
    have bx := D3.out.ho
    have x0 := bx.cell 0
    have x1 := bx.cell 1
    have x2 := bx.cell 2
    have x3 := bx.cell 3
    have x4 := bx.cell 4
    simp only [List.getElem?_toArray, List.getElem?_cons_zero, List.getElem?_cons_succ] at x0 x1 x2 x3 x4
    have xf0 := bx.frozen 0
    have xf1 := bx.frozen 1
    have xf2 := bx.frozen 2
    have xf3 := bx.frozen 3
    have xf4 := bx.frozen 4
    clear bx
    have HN_w5 := Lib.hid (next_any 3 p (u + 1 + 1) sl w4 (by decide) D4.out.hs (by have := HU.out; have := gD_eq; omega))
    go_wp2_with (first | (rw [← HW3.out, ← HO.out]) | (rw [← Hw4.out]))
    refine HN_w5.out.mono ?_
    intro e w5 hp2
    unfold NextPost at hp2
    obtain ⟨y, rfl, hy, hs, hg⟩ := hp2
    have D5 := Lib.hid (D4.out.call hg hs)
    clear hs hg
    clear x0 xf0 x1 xf1 x2 xf2 x3 xf3 x4 xf4
    obtain ⟨m, rfl⟩ : ∃ m : Nat, y = (m : Int) := ⟨y.toNat, by omega⟩
    have HN_w6 := Lib.hid (gparams_any m (by omega) p (u + 1 + 1 + 1) sl w5 D5.out.hs (by have := HU.out; have := gD_eq; omega))
    go_wp2_with (fail)
    refine HN_w6.out.mono ?_
    intro e w6 hp2
    unfold ParsPost at hp2
    obtain ⟨l, lv, u9, rfl, hf, hsz, hln, ho2, hs, hu2, hg⟩ := hp2
    have D6 := Lib.hid (D5.out.call hg hs)
    have HOW := Lib.hid (own2_down ho2 D5.out.size)
    have HFL := Lib.hid hf
    have HSL := Lib.hid hsz
    have HUL := Lib.hid hu2
    have HLN := Lib.hid hln
    clear hs hg hf hsz hln ho2 hu2
    obtain ⟨A9, c9, rfl⟩ := HOW.out.form
    obtain ⟨n9, hn9⟩ : ∃ n9, n9 = l.length := ⟨_, rfl⟩
    rw [← hn9] at HOW HLN ⊢
    have HNN := Lib.hid hn9
    clear hn9
    have hn9 : n9 ≤ 2 := by have := HNN.out; have := HLN.out; omega
    obtain ⟨w7, hw7⟩ : ∃ W, W = w6.setCell ⟨O, 4, none⟩ (.slice A9 n9 c9) := ⟨_, rfl⟩
    have Hw7 := Lib.hid hw7
    have D7 := Lib.hid (D6.out.kids HOW.out)
    rw [← hw7] at D7
    clear hw7
    have bx := D6.out.ho
    have x0 := bx.cell 0
    have x1 := bx.cell 1
    have x2 := bx.cell 2
    have x3 := bx.cell 3
    have x4 := bx.cell 4
    simp only [List.getElem?_toArray, List.getElem?_cons_zero, List.getElem?_cons_succ] at x0 x1 x2 x3 x4
    have xf0 := bx.frozen 0
    have xf1 := bx.frozen 1
    have xf2 := bx.frozen 2
    have xf3 := bx.frozen 3
    have xf4 := bx.frozen 4
    clear bx
    have HI : Hid (∀ w', Below w7.heap.size w7 w' → Calls Tryd.prog 60 #[.pointer (some ⟨p, 0, none⟩), .int .i64 2] w' (GrowPost NT.typ (2 * 2 + 2) p u9 sl w')) := Lib.hid (fun w' hb' => gtype_any 2 p u9 sl w' (by decide) (D7.out.hs.below hb') (by have := HU.out; have := HUL.out; have := gD_eq; omega))
    have bx := D7.out.ho
    have xx4 := bx.cell 4
    simp only [List.getElem?_toArray, List.getElem?_cons_zero, List.getElem?_cons_succ] at xx4
    have xxf := bx.frozen 4
    clear bx
    go_wp2_with (first | (rw [← Hw7.out]))
    go_region_law (first
      | (refine step_node (p := p) (w0 := w) (wr := w8) (by rfl) _ _ (by rfl) (O + 1) n9 l t1 (.slice A9 n9 c9) st1 w8.heap.size (by rfl) (by rfl) D8.out.hl HDt1.out HKt1.out D8.out.hg (by have := D8.out.hO; omega) D8.out.size HNN.out (by omega) (by rfl) ?_; intro A4 c4 w9 ho4 hg4 hk4; have HAP := Lib.hid (D8.out.app ho4 hg4 hk4); have hbz := HAP.out.1; have zz4 := hbz.cell 4; simp only [List.getElem?_toArray, List.getElem?_cons_zero, List.getElem?_cons_succ] at zz4; have zzf := hbz.frozen 4; clear hbz; (obtain ⟨w10, hw10⟩ : ∃ W, W = w9.setCell ⟨O, 4, none⟩ (.slice A4 (n9 + 1) c4) := ⟨_, rfl⟩); have Hw10 := Lib.hid hw10; have D10 := Lib.hid HAP.out.2; (rw [← hw10] at D10); clear ho4 hg4 hk4 hw10)
      | (go_simp; go_at_call 60; (with_reducible refine (HI.out _ ((Below.refl _ _).drew)).mono ?_); intro e w8 hp2; unfold GrowPost at hp2; obtain ⟨t1, st1, ut1, rfl, hft, hdt, hst, hkk, hs, hu2, hg⟩ := hp2; have D8 := Lib.hid (D7.out.call (grow_trans (grow_below (grow_refl w7 p) ((Below.refl _ _).drew)) hg) hs); have HFt1 := Lib.hid hft; have HDt1 := Lib.hid hdt; have HZt1 := Lib.hid hst; have HUt1 := Lib.hid hu2; have HKt1 := Lib.hid (kids_apart D7.out hkk); clear hft hdt hst hkk hu2; have hby := D8.out.ho; have yy4 := hby.cell 4; simp only [List.getElem?_toArray, List.getElem?_cons_zero, List.getElem?_cons_succ] at yy4; have yyf := hby.frozen 4; have hbq := hby.on ((Below.refl _ _).alloc (Nat.le_refl _) (.cells #[.int .i64 t1.kind, .int .i64 t1.at_, .int .i64 t1.num, .string ⟨t1.name.toArray⟩, st1] NodeT)); have qq4 := hbq.cell 4; simp only [List.getElem?_toArray, List.getElem?_cons_zero, List.getElem?_cons_succ] at qq4; clear hbq hby hs hg))
    all_goals
      clear HI
      have HN10 : Hid (n9 + 1 = (l ++ [t1]).length) := Lib.hid (by rw [List.length_append, ← HNN.out]; rfl)
      have HI : Hid (∀ w', Below w10.heap.size w10 w' → Calls Tryd.prog 39 #[.pointer (some ⟨p, 0, none⟩), .int .i64 2] w' (GrowPost NT.blk (3 * gS 2 + 1) p ut1 sl w')) := Lib.hid (fun w' hb' => gblock_any 2 (by decide) p ut1 sl w' (D10.out.hs.below hb') (by have := HU.out; have := HUL.out; have := HUt1.out; have := gS_two; have := gD_eq; omega))
      have bx := D10.out.ho
      have xx4 := bx.cell 4
      simp only [List.getElem?_toArray, List.getElem?_cons_zero, List.getElem?_cons_succ] at xx4
      have xxf := bx.frozen 4
      clear bx
      go_wp2_with (first | (rw [← Hw10.out]))
      go_region_law (first
        | (refine step_node (p := p) (w0 := w) (wr := w11) (by rfl) _ _ (by rfl) (O + 1) (n9 + 1) (l ++ [t1]) tb (.slice A4 (n9 + 1) c4) stb w11.heap.size (by rfl) (by rfl) D11.out.hl HDtb.out HKtb.out D11.out.hg (by have := D11.out.hO; omega) D11.out.size HN10.out (by omega) (by rfl) ?_; intro A5 c5 w12 ho4 hg4 hk4; have HAP := Lib.hid (D11.out.app ho4 hg4 hk4); have hbz := HAP.out.1; have zz4 := hbz.cell 4; simp only [List.getElem?_toArray, List.getElem?_cons_zero, List.getElem?_cons_succ] at zz4; have zzf := hbz.frozen 4; clear hbz; (obtain ⟨w13, hw13⟩ : ∃ W, W = w12.setCell ⟨O, 4, none⟩ (.slice A5 ((n9 + 1) + 1) c5) := ⟨_, rfl⟩); have Hw13 := Lib.hid hw13; have D13 := Lib.hid HAP.out.2; (rw [← hw13] at D13); clear ho4 hg4 hk4 hw13)
        | (go_simp; go_at_call 39; (with_reducible refine (HI.out _ ((Below.refl _ _).drew)).mono ?_); intro e w11 hp2; unfold GrowPost at hp2; obtain ⟨tb, stb, utb, rfl, hft, hdt, hst, hkk, hs, hu2, hg⟩ := hp2; have D11 := Lib.hid (D10.out.call (grow_trans (grow_below (grow_refl w10 p) ((Below.refl _ _).drew)) hg) hs); have HFtb := Lib.hid hft; have HDtb := Lib.hid hdt; have HZtb := Lib.hid hst; have HUtb := Lib.hid hu2; have HKtb := Lib.hid (kids_apart D10.out hkk); clear hft hdt hst hkk hu2; have hby := D11.out.ho; have yy4 := hby.cell 4; simp only [List.getElem?_toArray, List.getElem?_cons_zero, List.getElem?_cons_succ] at yy4; have yyf := hby.frozen 4; have hbq := hby.on ((Below.refl _ _).alloc (Nat.le_refl _) (.cells #[.int .i64 tb.kind, .int .i64 tb.at_, .int .i64 tb.num, .string ⟨tb.name.toArray⟩, stb] NodeT)); have qq4 := hbq.cell 4; simp only [List.getElem?_toArray, List.getElem?_cons_zero, List.getElem?_cons_succ] at qq4; clear hbq hby hs hg))
      all_goals
        have bx := D13.out.ho
        have x0 := bx.cell 0
        have x1 := bx.cell 1
        have x2 := bx.cell 2
        have x3 := bx.cell 3
        have x4 := bx.cell 4
        simp only [List.getElem?_toArray, List.getElem?_cons_zero, List.getElem?_cons_succ] at x0 x1 x2 x3 x4
        have xf0 := bx.frozen 0
        have xf1 := bx.frozen 1
        have xf2 := bx.frozen 2
        have xf3 := bx.frozen 3
        have xf4 := bx.frozen 4
        clear bx
        have bx := D13.out.hb
        have r0 := bx.cell 0
        have r1 := bx.cell 1
        have r2 := bx.cell 2
        have r3 := bx.cell 3
        have r4 := bx.cell 4
        simp only [List.getElem?_toArray, List.getElem?_cons_zero, List.getElem?_cons_succ] at r0 r1 r2 r3 r4
        have rf0 := bx.frozen 0
        have rf1 := bx.frozen 1
        have rf2 := bx.frozen 2
        have rf3 := bx.frozen 3
        have rf4 := bx.frozen 4
        clear bx
        have HE := Lib.hid (D13.out.tell HRR.out (f := declN) (K := gD) HS0.out (decl_fun HNM.out.1 HFL.out (answer_typ HFt1.out) HFtb.out) (by unfold I64; omega) (by unfold I64; omega) HNM.out.2 (by have := HSL.out; have := HZt1.out; have := HZtb.out; simp only [sizeL_append, sizeL]; have := gS_two; have := gD_eq; omega) (by have := HUL.out; have := HUt1.out; have := HUtb.out; have := gS_two; have := gD_eq; omega))
        go_wp2_with (first | (rw [← Hw13.out]))
        exact bodyPost_ret (node_ret2 rfl rfl HE.out.1) rfl HE.out.2
  · clear hk
    obtain ⟨w4, hw4⟩ : ∃ W, W = w3.setCell ⟨O, 0, none⟩ (.int .i64 53) := ⟨_, rfl⟩
    have Hw4 := Lib.hid hw4
    have D4 := Lib.hid (D3.out.kind 53)
    rw [← hw4] at D4
    clear hw4
    have bx := D3.out.ho
    have x0 := bx.cell 0
    have x1 := bx.cell 1
    have x2 := bx.cell 2
    have x3 := bx.cell 3
    have x4 := bx.cell 4
    simp only [List.getElem?_toArray, List.getElem?_cons_zero, List.getElem?_cons_succ] at x0 x1 x2 x3 x4
    have xf0 := bx.frozen 0
    have xf1 := bx.frozen 1
    have xf2 := bx.frozen 2
    have xf3 := bx.frozen 3
    have xf4 := bx.frozen 4
    clear bx
    have HN_w5 := Lib.hid (next_any 3 p (u + 1 + 1) sl w4 (by decide) D4.out.hs (by have := HU.out; have := gD_eq; omega))
    go_wp2_with (first | (rw [← HW3.out, ← HO.out]) | (rw [← Hw4.out]))
    refine HN_w5.out.mono ?_
    intro e w5 hp2
    unfold NextPost at hp2
    obtain ⟨y, rfl, hy, hs, hg⟩ := hp2
    have D5 := Lib.hid (D4.out.call hg hs)
    clear hs hg
    clear x0 xf0 x1 xf1 x2 xf2 x3 xf3 x4 xf4
    obtain ⟨m, rfl⟩ : ∃ m : Nat, y = (m : Int) := ⟨y.toNat, by omega⟩
    have HN_w6 := Lib.hid (gparams_any m (by omega) p (u + 1 + 1 + 1) sl w5 D5.out.hs (by have := HU.out; have := gD_eq; omega))
    go_wp2_with (fail)
    refine HN_w6.out.mono ?_
    intro e w6 hp2
    unfold ParsPost at hp2
    obtain ⟨l, lv, u9, rfl, hf, hsz, hln, ho2, hs, hu2, hg⟩ := hp2
    have D6 := Lib.hid (D5.out.call hg hs)
    have HOW := Lib.hid (own2_down ho2 D5.out.size)
    have HFL := Lib.hid hf
    have HSL := Lib.hid hsz
    have HUL := Lib.hid hu2
    have HLN := Lib.hid hln
    clear hs hg hf hsz hln ho2 hu2
    obtain ⟨A9, c9, rfl⟩ := HOW.out.form
    obtain ⟨n9, hn9⟩ : ∃ n9, n9 = l.length := ⟨_, rfl⟩
    rw [← hn9] at HOW HLN ⊢
    have HNN := Lib.hid hn9
    clear hn9
    have hn9 : n9 ≤ 2 := by have := HNN.out; have := HLN.out; omega
    obtain ⟨w7, hw7⟩ : ∃ W, W = w6.setCell ⟨O, 4, none⟩ (.slice A9 n9 c9) := ⟨_, rfl⟩
    have Hw7 := Lib.hid hw7
    have D7 := Lib.hid (D6.out.kids HOW.out)
    rw [← hw7] at D7
    clear hw7
    have bx := D6.out.ho
    have x0 := bx.cell 0
    have x1 := bx.cell 1
    have x2 := bx.cell 2
    have x3 := bx.cell 3
    have x4 := bx.cell 4
    simp only [List.getElem?_toArray, List.getElem?_cons_zero, List.getElem?_cons_succ] at x0 x1 x2 x3 x4
    have xf0 := bx.frozen 0
    have xf1 := bx.frozen 1
    have xf2 := bx.frozen 2
    have xf3 := bx.frozen 3
    have xf4 := bx.frozen 4
    clear bx
    have bx := D7.out.ho
    have z0 := bx.cell 0
    have z1 := bx.cell 1
    have z2 := bx.cell 2
    have z3 := bx.cell 3
    have z4 := bx.cell 4
    simp only [List.getElem?_toArray, List.getElem?_cons_zero, List.getElem?_cons_succ] at z0 z1 z2 z3 z4
    have zf0 := bx.frozen 0
    have zf1 := bx.frozen 1
    have zf2 := bx.frozen 2
    have zf3 := bx.frozen 3
    have zf4 := bx.frozen 4
    clear bx
    go_wp2_with (first | (at_builtin; (refine wpList_node (p := p) (w0 := w) (wr := w7) rfl _ _ rfl (O + 1) n9 l (.mk 0 0 0 [] []) (.slice A9 n9 c9) (.slice none 0 0) w7.heap.size rfl rfl D7.out.hl (hd_of _ _ _ _ _ (by unfold I64; omega) (by unfold I64; omega) (by unfold I64; omega) (by simp)) (Kids.nil_ _ _) D7.out.hg (by have := D7.out.hO; omega) D7.out.size HNN.out (by omega) rfl ?_); intro A4 c4 w9 ho4 hg4 hk4; have HAP := Lib.hid (D7.out.app ho4 hg4 hk4); have hbz := HAP.out.1; have zz4 := hbz.cell 4; simp only [List.getElem?_toArray, List.getElem?_cons_zero, List.getElem?_cons_succ] at zz4; have zzf := hbz.frozen 4; clear hbz; (obtain ⟨w10, hw10⟩ : ∃ W, W = w9.setCell ⟨O, 4, none⟩ (.slice A4 (n9 + 1) c4) := ⟨_, rfl⟩); have Hw10 := Lib.hid hw10; have D10 := Lib.hid HAP.out.2; (rw [← hw10] at D10); clear ho4 hg4 hk4 hw10; (have bx := D10.out.ho); (have v4 := bx.cell 4); simp only [List.getElem?_toArray, List.getElem?_cons_zero, List.getElem?_cons_succ] at v4; (have vf4 := bx.frozen 4); clear bx) | (rw [← Hw10.out]) | (rw [← Hw7.out]))
    clear x0 xf0 x1 xf1 x2 xf2 x3 xf3 x4 xf4
    clear z0 zf0 z1 zf1 z2 zf2 z3 zf3 z4 zf4
    have HN10 : Hid (n9 + 1 = (l ++ [NT.mk 0 0 0 [] []]).length) := Lib.hid (by rw [List.length_append, ← HNN.out]; rfl)
    have HI : Hid (∀ w', Below w10.heap.size w10 w' → Calls Tryd.prog 39 #[.pointer (some ⟨p, 0, none⟩), .int .i64 2] w' (GrowPost NT.blk (3 * gS 2 + 1) p u9 sl w')) := Lib.hid (fun w' hb' => gblock_any 2 (by decide) p u9 sl w' (D10.out.hs.below hb') (by have := HU.out; have := HUL.out; have := gS_two; have := gD_eq; omega))
    have bx := D10.out.ho
    have xx4 := bx.cell 4
    simp only [List.getElem?_toArray, List.getElem?_cons_zero, List.getElem?_cons_succ] at xx4
    have xxf := bx.frozen 4
    clear bx
    go_wp2_with (fail)
    go_region_law (first
      | (refine step_node (p := p) (w0 := w) (wr := w11) (by rfl) _ _ (by rfl) (O + 1) (n9 + 1) (l ++ [NT.mk 0 0 0 [] []]) tb (.slice A4 (n9 + 1) c4) stb w11.heap.size (by rfl) (by rfl) D11.out.hl HDtb.out HKtb.out D11.out.hg (by have := D11.out.hO; omega) D11.out.size HN10.out (by omega) (by rfl) ?_; intro A5 c5 w12 ho4 hg4 hk4; have HAP := Lib.hid (D11.out.app ho4 hg4 hk4); have hbz := HAP.out.1; have zz4 := hbz.cell 4; simp only [List.getElem?_toArray, List.getElem?_cons_zero, List.getElem?_cons_succ] at zz4; have zzf := hbz.frozen 4; clear hbz; (obtain ⟨w13, hw13⟩ : ∃ W, W = w12.setCell ⟨O, 4, none⟩ (.slice A5 ((n9 + 1) + 1) c5) := ⟨_, rfl⟩); have Hw13 := Lib.hid hw13; have D13 := Lib.hid HAP.out.2; (rw [← hw13] at D13); clear ho4 hg4 hk4 hw13)
      | (go_simp; go_at_call 39; (with_reducible refine (HI.out _ ((Below.refl _ _).drew)).mono ?_); intro e w11 hp2; unfold GrowPost at hp2; obtain ⟨tb, stb, utb, rfl, hft, hdt, hst, hkk, hs, hu2, hg⟩ := hp2; have D11 := Lib.hid (D10.out.call (grow_trans (grow_below (grow_refl w10 p) ((Below.refl _ _).drew)) hg) hs); have HFtb := Lib.hid hft; have HDtb := Lib.hid hdt; have HZtb := Lib.hid hst; have HUtb := Lib.hid hu2; have HKtb := Lib.hid (kids_apart D10.out hkk); clear hft hdt hst hkk hu2; have hby := D11.out.ho; have yy4 := hby.cell 4; simp only [List.getElem?_toArray, List.getElem?_cons_zero, List.getElem?_cons_succ] at yy4; have yyf := hby.frozen 4; have hbq := hby.on ((Below.refl _ _).alloc (Nat.le_refl _) (.cells #[.int .i64 tb.kind, .int .i64 tb.at_, .int .i64 tb.num, .string ⟨tb.name.toArray⟩, stb] NodeT)); have qq4 := hbq.cell 4; simp only [List.getElem?_toArray, List.getElem?_cons_zero, List.getElem?_cons_succ] at qq4; clear hbq hby hs hg))
    all_goals
      have bx := D13.out.ho
      have x0 := bx.cell 0
      have x1 := bx.cell 1
      have x2 := bx.cell 2
      have x3 := bx.cell 3
      have x4 := bx.cell 4
      simp only [List.getElem?_toArray, List.getElem?_cons_zero, List.getElem?_cons_succ] at x0 x1 x2 x3 x4
      have xf0 := bx.frozen 0
      have xf1 := bx.frozen 1
      have xf2 := bx.frozen 2
      have xf3 := bx.frozen 3
      have xf4 := bx.frozen 4
      clear bx
      have bx := D13.out.hb
      have r0 := bx.cell 0
      have r1 := bx.cell 1
      have r2 := bx.cell 2
      have r3 := bx.cell 3
      have r4 := bx.cell 4
      simp only [List.getElem?_toArray, List.getElem?_cons_zero, List.getElem?_cons_succ] at r0 r1 r2 r3 r4
      have rf0 := bx.frozen 0
      have rf1 := bx.frozen 1
      have rf2 := bx.frozen 2
      have rf3 := bx.frozen 3
      have rf4 := bx.frozen 4
      clear bx
      have HE := Lib.hid (D13.out.tell HRR.out (f := declN) (K := gD) HS0.out (decl_fun HNM.out.1 HFL.out answer_none HFtb.out) (by unfold I64; omega) (by unfold I64; omega) HNM.out.2 (by have := HSL.out; have := HZtb.out; simp only [sizeL_append, sizeL, size_mk]; have := gS_two; have := gD_eq; omega) (by have := HUL.out; have := HUtb.out; have := gS_two; have := gD_eq; omega))
      go_wp2_with (first | (rw [← Hw13.out]))
      exact bodyPost_ret (node_ret2 rfl rfl HE.out.1) rfl HE.out.2
end Go.Proofs.YtkmkeaeaalnbjaaDoor.nt

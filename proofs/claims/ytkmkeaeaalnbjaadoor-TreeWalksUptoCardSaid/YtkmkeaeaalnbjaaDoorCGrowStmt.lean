/- What grows of seeds: statements. -/
import Derived.Test.YtkmkeaeaalnbjaaDoorCGApart
namespace Go.Proofs.YtkmkeaeaalnbjaaDoor.nt
open Go.RowKit mem wd lx
open vt (I64 own_base own_form own_below wpList_append_mine)

theorem stmt_var {s : List UInt8} {t : NT} (h : named s = true) (h2 : t.expr = true) : (NT.mk 31 0 0 s [t]).stmt = true := by
  rw [stmt_mk, if_pos (Or.inl rfl)]; simp [h, expr1, h2]
theorem stmt_join {s : List UInt8} (h : named s = true) : (NT.mk 36 0 0 s []).stmt = true := by
  rw [stmt_mk, if_pos (Or.inr rfl)]; simp [h]
theorem stmt_set {t u : NT} (h : t.place = true) (h2 : u.expr = true) : (NT.mk 32 0 0 [] [t, u]).stmt = true := by
  rw [stmt_mk]; simp [aloneN, set2, h, h2]
theorem stmt_ret0 : (NT.mk 35 0 0 [] []).stmt = true := by rw [stmt_mk]; simp [aloneN]
theorem stmt_ret1 {t : NT} (h : t.expr = true) : (NT.mk 35 0 0 [] [t]).stmt = true := by rw [stmt_mk]; simp [aloneN, expr1, h]
theorem stmt_print {t : NT} (h : t.expr = true) : (NT.mk 37 0 0 [] [t]).stmt = true := by rw [stmt_mk]; simp [aloneN, expr1, h]
theorem stmt_do {s : List UInt8} {l : List NT} (h : named s = true) (h2 : ∀ t ∈ l, t.expr = true) : (NT.mk 38 0 0 [] [NT.mk 17 0 0 s l]).stmt = true := by
  rw [stmt_mk]; simp [aloneN, do1, expr_call (Or.inl rfl) h2 h, NT.kind]
theorem blk_parts {t : NT} (h : t.blk = true) : t.kind = 30 ∧ t.stmt = true := by
  unfold NT.blk at h; simpa using h
theorem stmt_while {t u : NT} (h : t.expr = true) (h2 : u.blk = true) : (NT.mk 34 0 0 [] [t, u]).stmt = true := by
  obtain ⟨h3, h4⟩ := blk_parts h2
  rw [stmt_mk]; simp [aloneN, ifH, ifL, h, h3, h4]
theorem stmt_if {t u : NT} (h : t.expr = true) (h2 : u.blk = true) : (NT.mk 33 0 0 [] [t, u]).stmt = true := by
  obtain ⟨h3, h4⟩ := blk_parts h2
  rw [stmt_mk]; simp [aloneN, ifH, ifL, h, h3, h4]
theorem stmt_ife {t u v : NT} (h : t.expr = true) (h2 : u.blk = true) (h3 : (v.kind = 30 ∨ v.kind = 33) ∧ v.stmt = true) : (NT.mk 33 0 0 [] [t, u, v]).stmt = true := by
  obtain ⟨h4, h5⟩ := blk_parts h2
  obtain ⟨h6 | h6, h7⟩ := h3 <;> (rw [stmt_mk]; simp [aloneN, ifH, ifL, h, h4, h5, h6, h7])
theorem box_far5 {w : World} {R Q : Nat} {X : Array Value} (h : Box w R NodeT X) (hn : R ≠ Q) (a b c d e : Value) : Box (five w Q a b c d e) R NodeT X := ((((h.far hn a).far hn b).far hn c).far hn d).far hn e
theorem size_five (w : World) (R : Nat) (a b c d e : Value) : (five w R a b c d e).heap.size = w.heap.size := by unfold five; simp only [World.size_setCell]
/-- a row of two, as a row of the call's own -/
theorem own_two {w : World} {B N : Nat} {t t2 : NT} {s s2 : Value} (hN : N = w.heap.size) (hB : B ≤ w.heap.size) (hd : Hd t) (hd2 : Hd t2) (hk : Kids (fun b => B ≤ b) w t.kids s) (hk2 : Kids (fun b => B ≤ b) w t2.kids s2) :
    Own2 B (w.alloc (.cells #[.int .i64 t.kind, .int .i64 t.at_, .int .i64 t.num, .string ⟨t.name.toArray⟩, s, .int .i64 t2.kind, .int .i64 t2.at_, .int .i64 t2.num, .string ⟨t2.name.toArray⟩, s2] NodeT)) [t, t2] (.slice (some ⟨N, 0, none⟩) 2 2) := by
  subst hN
  have key : ∀ (l : List NT) (v : Value) (o : Obj), Kids (fun b => B ≤ b) w l v → Kids (fun b => B ≤ b ∧ some b ≠ (Value.slice (some ⟨w.heap.size, 0, none⟩) 2 2).ownBlock) (w.alloc o) l v := fun l v o h =>
    (h.lt.below ((Below.refl _ _).alloc (Nat.le_refl _) _)).mono fun b hb => ⟨hb.1, fun e => by
      injection e with e
      have e3 : b = w.heap.size := e
      have h2 : b < w.heap.size := hb.2
      omega⟩
  refine ⟨[.int .i64 t.kind, .int .i64 t.at_, .int .i64 t.num, .string ⟨t.name.toArray⟩, s, .int .i64 t2.kind, .int .i64 t2.at_, .int .i64 t2.num, .string ⟨t2.name.toArray⟩, s2], ?_, ?_⟩
  · rw [Nods]
    refine ⟨s, _, rfl, hd, key _ _ _ hk, ?_⟩
    rw [Nods]
    exact ⟨s2, [], rfl, hd2, key _ _ _ hk2, by rw [Nods]⟩
  · exact World.ownsRow_lit (size := 5) (e := NodeT) w #[.int .i64 t.kind, .int .i64 t.at_, .int .i64 t.num, .string ⟨t.name.toArray⟩, s, .int .i64 t2.kind, .int .i64 t2.at_, .int .i64 t2.num, .string ⟨t2.name.toArray⟩, s2] 2 (base := B) hB (by decide) (by simp)
def gS : Nat → Nat
  | 0 => 200
  | d + 1 => 203 + 9 * gS d
theorem gS_succ (d : Nat) : gS (d + 1) = 203 + 9 * gS d := rfl
theorem gconst : gE 1 = 16 ∧ gE 2 = 44 ∧ gE 3 = 100 ∧ gP 2 = 42 := ⟨rfl, rfl, rfl, rfl⟩

set_option maxHeartbeats 8000000 in
set_option maxRecDepth 100000 in
theorem gstmt_any : ∀ (d p u : Nat) (sl : Value) (w : World), d ≤ 20 → Sd w p sl u → u + gS d ≤ 1099511627776 →
    Calls Tryd.prog 61 #[.pointer (some ⟨p, 0, none⟩), .int .i64 d] w (GrowPost NT.stmt (gS d) p u sl w) := by
  intro d
  induction d with
  | zero =>
    intro p u sl w hd hs hu
    obtain ⟨KK, hKK⟩ : ∃ KK, KK = gS 0 := ⟨_, rfl⟩
    have HKK : Hid (KK = 200) := Lib.hid (by rw [hKK]; rfl)
    change u + 200 ≤ _ at hu
    rw [← hKK]
    clear hKK
    have HS0 := Lib.hid hs
    obtain ⟨R, hR⟩ : ∃ R, R = w.heap.size := ⟨_, rfl⟩
    obtain ⟨W, hW⟩ : ∃ W, W = w.alloc (.cells #[.int .i64 0, .int .i64 0, .int .i64 0, .string ⟨#[]⟩, .slice none 0 0] NodeT) := ⟨_, rfl⟩
    have hbW : Below w.heap.size w W := by rw [hW]; exact (Below.refl _ _).alloc (Nat.le_refl _) _
    have HBX : Hid (Box W R NodeT #[.int .i64 0, .int .i64 0, .int .i64 0, .string ⟨#[]⟩, .slice none 0 0]) := Lib.hid (by rw [hW]; exact Box.new _ _ _ _ hR)
    have HN := Lib.hid (next_any 10 p u sl W (by decide) (hs.below hbW) (by omega))
    have HGW : Hid (w.grownBy W (some p)) := Lib.hid (grow_below (grow_refl w p) hbW)
    have HpW : Hid (p < w.heap.size) := Lib.hid hs.1.lt
    have HpR : Hid (p ≠ R) := Lib.hid (by have := hs.1.lt; omega)
    have HU := Lib.hid hu
    have HW := Lib.hid hW
    have HRR := Lib.hid hR
    clear hW hR hbW hs hu
    go_enter Tryd.func61, Tryd.ntmps61
    go_wp2_with (first | (rw [← HW.out, ← HRR.out]))
    refine HN.out.mono ?_
    intro e w1 hp1
    unfold NextPost at hp1
    obtain ⟨x, rfl, hx, hs, hg⟩ := hp1
    have HS1 := Lib.hid hs
    have HB1 := Lib.hid (box_grow HBX.out hg HpR.out)
    have HG1 := Lib.hid (grow_trans HGW.out hg)
    have HX1 : Hid (w.heap.size < w1.heap.size) := Lib.hid (by have := HB1.out.lt; have := HRR.out; omega)
    obtain ⟨k, rfl⟩ : ∃ k : Nat, x = (k : Int) := ⟨x.toNat, by omega⟩
    have hk : k < 10 := by omega
    clear hs hg hx
    rcases (show k = 0 ∨ k = 1 ∨ k = 2 ∨ k = 3 ∨ k = 4 ∨ k = 5 ∨ k = 6 ∨ k = 7 ∨ k = 8 ∨ k = 9 by omega) with rfl | rfl | rfl | rfl | rfl | rfl | rfl | rfl | rfl | rfl
    · clear hk
      have HN2 := Lib.hid (word_any p (u + 1) sl w1 HS1.out (by have := HU.out; omega))
      go_wp2_with (fail)
      refine HN2.out.mono ?_
      intro e w2 hp2
      unfold WordPost at hp2
      obtain ⟨nm, rfl, hnm, hs, hg⟩ := hp2
      have HNM := Lib.hid hnm
      clear hnm
      have HS2 := Lib.hid hs
      have HB2 := Lib.hid (box_grow HB1.out hg HpR.out)
      have HG2 := Lib.hid (grow_trans HG1.out hg)
      have HX2 : Hid (w.heap.size < w2.heap.size) := Lib.hid (by have := hg.size; have := HX1.out; omega)
      clear hs hg
      have HN3 := Lib.hid (gexpr_any 3 p (u + 1 + 1) sl w2 (by omega) HS2.out (by have := HU.out; have c1 := gconst.1; have c2 := gconst.2.1; have c3 := gconst.2.2.1; have c4 := gconst.2.2.2; omega))
      go_wp2_with (fail)
      refine HN3.out.mono ?_
      intro e w3 hp2
      unfold GrowPost at hp2
      obtain ⟨t1, st1, v1, rfl, hf, hdt, hst, hkk, hs, hu2, hg⟩ := hp2
      have HS3 := Lib.hid hs
      have HB3 := Lib.hid (box_grow HB2.out hg HpR.out)
      have HG3 := Lib.hid (grow_trans HG2.out hg)
      have HX3 : Hid (w.heap.size < w3.heap.size) := Lib.hid (by have := hg.size; have := HX2.out; omega)
      have HFt1 := Lib.hid hf
      have HDt1 := Lib.hid hdt
      have HZt1 := Lib.hid hst
      have HUt1 := Lib.hid hu2
      have HKt1 : Hid (Kids (fun b => w.heap.size < b) w3 t1.kids st1) := Lib.hid (hkk.mono fun b hb => by have := HX2.out; omega)
      clear hf hdt hst hkk hs hu2 hg
      obtain ⟨V, hV⟩ : ∃ V, V = w3.alloc (.cells #[.int .i64 t1.kind, .int .i64 t1.at_, .int .i64 t1.num, .string ⟨t1.name.toArray⟩, st1] NodeT) := ⟨_, rfl⟩
      obtain ⟨H2, hH2⟩ : ∃ H2, H2 = w3.heap.size := ⟨_, rfl⟩
      have hbV : Below w3.heap.size w3 V := by rw [hV]; exact (Below.refl _ _).alloc (Nat.le_refl _) _
      have hrow : Kids (fun b => w.heap.size < b) V [t1] (.slice (some ⟨H2, 0, none⟩) 1 1) := by rw [hV]; exact row_one hH2 HDt1.out HKt1.out (by have := HX3.out; omega)
      have HBV := Lib.hid (HB3.out.on hbV)
      have HE := Lib.hid (grow_end (f := NT.stmt) (K := KK) (u := u) (t := .mk 31 0 0 nm [t1]) HS0.out HRR.out HBV.out (stmt_var HNM.out.1 HFt1.out) (hd_of _ _ _ _ _ (by unfold I64; omega) (by unfold I64; omega) (by unfold I64; omega) (HNM.out.2)) (by simp only [size_mk, sizeL]; have := HKK.out; have c1 := gconst.1; have c2 := gconst.2.1; have c3 := gconst.2.2.1; have c4 := gconst.2.2.2; have := HZt1.out; omega) hrow (HS3.out.below hbV) (by have := HKK.out; have c1 := gconst.1; have c2 := gconst.2.1; have c3 := gconst.2.2.1; have c4 := gconst.2.2.2; have := HUt1.out; omega) (grow_below HG3.out hbV))
      have HV := Lib.hid hV
      have HH2 := Lib.hid hH2
      have bx := HBV.out
      have r0 := bx.cell 0
      have r1 := bx.cell 1
      have r2 := bx.cell 2
      have r3 := bx.cell 3
      have r4 := bx.cell 4
      simp only [List.getElem?_toArray, List.getElem?_cons_zero, List.getElem?_cons_succ] at r0 r1 r2 r3 r4
      have rf0 := bx.frozen 0
      have rf1 := bx.frozen 1
      have rf2 := bx.frozen 2
      have rf3 := bx.frozen 3
      have rf4 := bx.frozen 4
      clear bx hV hH2 hbV hrow
      go_wp2_with (first | (rw [← HV.out, ← HH2.out]))
      exact bodyPost_ret (node_ret rfl rfl HE.out.1) rfl HE.out.2
    · clear hk
      have HN2 := Lib.hid (gplace_any 2 p (u + 1) sl w1 (by omega) HS1.out (by have := HU.out; have c1 := gconst.1; have c2 := gconst.2.1; have c3 := gconst.2.2.1; have c4 := gconst.2.2.2; omega))
      go_wp2_with (fail)
      refine HN2.out.mono ?_
      intro e w2 hp2
      unfold GrowPost at hp2
      obtain ⟨t1, st1, v1, rfl, hf, hdt, hst, hkk, hs, hu2, hg⟩ := hp2
      have HS2 := Lib.hid hs
      have HB2 := Lib.hid (box_grow HB1.out hg HpR.out)
      have HG2 := Lib.hid (grow_trans HG1.out hg)
      have HX2 : Hid (w.heap.size < w2.heap.size) := Lib.hid (by have := hg.size; have := HX1.out; omega)
      have HFt1 := Lib.hid hf
      have HDt1 := Lib.hid hdt
      have HZt1 := Lib.hid hst
      have HUt1 := Lib.hid hu2
      have HKt1 : Hid (Kids (fun b => w.heap.size < b) w2 t1.kids st1) := Lib.hid (hkk.mono fun b hb => by have := HX1.out; omega)
      clear hf hdt hst hkk hs hu2 hg
      have hv1 := HUt1.out
      have HN3 := Lib.hid (gexpr_any 3 p v1 sl w2 (by omega) HS2.out (by have := HU.out; have c1 := gconst.1; have c2 := gconst.2.1; have c3 := gconst.2.2.1; have c4 := gconst.2.2.2; omega))
      go_wp2_with (fail)
      refine HN3.out.mono ?_
      intro e w3 hp2
      unfold GrowPost at hp2
      obtain ⟨t2, st2, v2, rfl, hf, hdt, hst, hkk, hs, hu2, hg⟩ := hp2
      have HS3 := Lib.hid hs
      have HB3 := Lib.hid (box_grow HB2.out hg HpR.out)
      have HG3 := Lib.hid (grow_trans HG2.out hg)
      have HX3 : Hid (w.heap.size < w3.heap.size) := Lib.hid (by have := hg.size; have := HX2.out; omega)
      replace HKt1 : Hid (Kids (fun b => w.heap.size < b) w3 t1.kids st1) := Lib.hid (kids_grow HKt1.out hg fun b hb => by have := HpW.out; omega)
      have HFt2 := Lib.hid hf
      have HDt2 := Lib.hid hdt
      have HZt2 := Lib.hid hst
      have HUt2 := Lib.hid hu2
      have HKt2 : Hid (Kids (fun b => w.heap.size < b) w3 t2.kids st2) := Lib.hid (hkk.mono fun b hb => by have := HX2.out; omega)
      clear hf hdt hst hkk hs hu2 hg
      clear hv1
      obtain ⟨V, hV⟩ : ∃ V, V = w3.alloc (.cells #[.int .i64 t1.kind, .int .i64 t1.at_, .int .i64 t1.num, .string ⟨t1.name.toArray⟩, st1, .int .i64 t2.kind, .int .i64 t2.at_, .int .i64 t2.num, .string ⟨t2.name.toArray⟩, st2] NodeT) := ⟨_, rfl⟩
      obtain ⟨H2, hH2⟩ : ∃ H2, H2 = w3.heap.size := ⟨_, rfl⟩
      have hbV : Below w3.heap.size w3 V := by rw [hV]; exact (Below.refl _ _).alloc (Nat.le_refl _) _
      have hrow : Kids (fun b => w.heap.size < b) V [t1, t2] (.slice (some ⟨H2, 0, none⟩) 2 2) := by rw [hV]; exact row_two hH2 HDt1.out HDt2.out HKt1.out HKt2.out (by have := HX3.out; omega)
      have HBV := Lib.hid (HB3.out.on hbV)
      have HE := Lib.hid (grow_end (f := NT.stmt) (K := KK) (u := u) (t := .mk 32 0 0 [] [t1, t2]) HS0.out HRR.out HBV.out (stmt_set HFt1.out HFt2.out) (hd_of _ _ _ _ _ (by unfold I64; omega) (by unfold I64; omega) (by unfold I64; omega) (by simp)) (by simp only [size_mk, sizeL]; have := HKK.out; have c1 := gconst.1; have c2 := gconst.2.1; have c3 := gconst.2.2.1; have c4 := gconst.2.2.2; have := HZt1.out; have := HZt2.out; omega) hrow (HS3.out.below hbV) (by have := HKK.out; have c1 := gconst.1; have c2 := gconst.2.1; have c3 := gconst.2.2.1; have c4 := gconst.2.2.2; have := HUt1.out; have := HUt2.out; omega) (grow_below HG3.out hbV))
      have HV := Lib.hid hV
      have HH2 := Lib.hid hH2
      have bx := HBV.out
      have r0 := bx.cell 0
      have r1 := bx.cell 1
      have r2 := bx.cell 2
      have r3 := bx.cell 3
      have r4 := bx.cell 4
      simp only [List.getElem?_toArray, List.getElem?_cons_zero, List.getElem?_cons_succ] at r0 r1 r2 r3 r4
      have rf0 := bx.frozen 0
      have rf1 := bx.frozen 1
      have rf2 := bx.frozen 2
      have rf3 := bx.frozen 3
      have rf4 := bx.frozen 4
      clear bx hV hH2 hbV hrow
      go_wp2_with (first | (rw [← HV.out, ← HH2.out]))
      exact bodyPost_ret (node_ret rfl rfl HE.out.1) rfl HE.out.2
    · clear hk
      have HN2 := Lib.hid (next_any 2 p (u + 1) sl w1 (by decide) HS1.out (by have := HU.out; omega))
      go_wp2_with (fail)
      refine HN2.out.mono ?_
      intro e w2 hp2
      unfold NextPost at hp2
      obtain ⟨y, rfl, hy, hs, hg⟩ := hp2
      have HS2 := Lib.hid hs
      have HB2 := Lib.hid (box_grow HB1.out hg HpR.out)
      have HG2 := Lib.hid (grow_trans HG1.out hg)
      have HX2 : Hid (w.heap.size < w2.heap.size) := Lib.hid (by have := hg.size; have := HX1.out; omega)
      clear hs hg
      by_cases y0 : y = 0
      · subst y0
        clear hy
        have HE := Lib.hid (grow_end (f := NT.stmt) (K := KK) (u := u) (t := .mk 35 0 0 [] []) HS0.out HRR.out HB2.out (stmt_ret0) (hd_of _ _ _ _ _ (by unfold I64; omega) (by unfold I64; omega) (by unfold I64; omega) (by simp)) (by simp only [size_mk, sizeL]; have := HKK.out; have c1 := gconst.1; have c2 := gconst.2.1; have c3 := gconst.2.2.1; have c4 := gconst.2.2.2; omega) (nil_kids _ _) HS2.out (by have := HKK.out; have c1 := gconst.1; have c2 := gconst.2.1; have c3 := gconst.2.2.1; have c4 := gconst.2.2.2; omega) HG2.out)
        have bx := HB2.out
        have r0 := bx.cell 0
        have r1 := bx.cell 1
        have r2 := bx.cell 2
        have r3 := bx.cell 3
        have r4 := bx.cell 4
        simp only [List.getElem?_toArray, List.getElem?_cons_zero, List.getElem?_cons_succ] at r0 r1 r2 r3 r4
        have rf0 := bx.frozen 0
        have rf1 := bx.frozen 1
        have rf2 := bx.frozen 2
        have rf3 := bx.frozen 3
        have rf4 := bx.frozen 4
        clear bx
        go_wp2_with (fail)
        exact bodyPost_ret (node_ret rfl rfl HE.out.1) rfl HE.out.2
      · have y1 : (y == 0) = false := beq_eq_false_iff_ne.2 y0
        clear y0
        have HN3 := Lib.hid (gexpr_any 2 p (u + 1 + 1) sl w2 (by omega) HS2.out (by have := HU.out; have c1 := gconst.1; have c2 := gconst.2.1; have c3 := gconst.2.2.1; have c4 := gconst.2.2.2; omega))
        go_wp2_with (fail)
        refine HN3.out.mono ?_
        intro e w3 hp2
        unfold GrowPost at hp2
        obtain ⟨t1, st1, v1, rfl, hf, hdt, hst, hkk, hs, hu2, hg⟩ := hp2
        have HS3 := Lib.hid hs
        have HB3 := Lib.hid (box_grow HB2.out hg HpR.out)
        have HG3 := Lib.hid (grow_trans HG2.out hg)
        have HX3 : Hid (w.heap.size < w3.heap.size) := Lib.hid (by have := hg.size; have := HX2.out; omega)
        have HFt1 := Lib.hid hf
        have HDt1 := Lib.hid hdt
        have HZt1 := Lib.hid hst
        have HUt1 := Lib.hid hu2
        have HKt1 : Hid (Kids (fun b => w.heap.size < b) w3 t1.kids st1) := Lib.hid (hkk.mono fun b hb => by have := HX2.out; omega)
        clear hf hdt hst hkk hs hu2 hg
        obtain ⟨V, hV⟩ : ∃ V, V = w3.alloc (.cells #[.int .i64 t1.kind, .int .i64 t1.at_, .int .i64 t1.num, .string ⟨t1.name.toArray⟩, st1] NodeT) := ⟨_, rfl⟩
        obtain ⟨H2, hH2⟩ : ∃ H2, H2 = w3.heap.size := ⟨_, rfl⟩
        have hbV : Below w3.heap.size w3 V := by rw [hV]; exact (Below.refl _ _).alloc (Nat.le_refl _) _
        have hrow : Kids (fun b => w.heap.size < b) V [t1] (.slice (some ⟨H2, 0, none⟩) 1 1) := by rw [hV]; exact row_one hH2 HDt1.out HKt1.out (by have := HX3.out; omega)
        have HBV := Lib.hid (HB3.out.on hbV)
        have HE := Lib.hid (grow_end (f := NT.stmt) (K := KK) (u := u) (t := .mk 35 0 0 [] [t1]) HS0.out HRR.out HBV.out (stmt_ret1 HFt1.out) (hd_of _ _ _ _ _ (by unfold I64; omega) (by unfold I64; omega) (by unfold I64; omega) (by simp)) (by simp only [size_mk, sizeL]; have := HKK.out; have c1 := gconst.1; have c2 := gconst.2.1; have c3 := gconst.2.2.1; have c4 := gconst.2.2.2; have := HZt1.out; omega) hrow (HS3.out.below hbV) (by have := HKK.out; have c1 := gconst.1; have c2 := gconst.2.1; have c3 := gconst.2.2.1; have c4 := gconst.2.2.2; have := HUt1.out; omega) (grow_below HG3.out hbV))
        have HV := Lib.hid hV
        have HH2 := Lib.hid hH2
        have bx := HBV.out
        have r0 := bx.cell 0
        have r1 := bx.cell 1
        have r2 := bx.cell 2
        have r3 := bx.cell 3
        have r4 := bx.cell 4
        simp only [List.getElem?_toArray, List.getElem?_cons_zero, List.getElem?_cons_succ] at r0 r1 r2 r3 r4
        have rf0 := bx.frozen 0
        have rf1 := bx.frozen 1
        have rf2 := bx.frozen 2
        have rf3 := bx.frozen 3
        have rf4 := bx.frozen 4
        clear bx hV hH2 hbV hrow
        go_wp2_with (first | (rw [← HV.out, ← HH2.out]))
        exact bodyPost_ret (node_ret rfl rfl HE.out.1) rfl HE.out.2
    · clear hk
      have HN2 := Lib.hid (word_any p (u + 1) sl w1 HS1.out (by have := HU.out; omega))
      go_wp2_with (fail)
      refine HN2.out.mono ?_
      intro e w2 hp2
      unfold WordPost at hp2
      obtain ⟨nm, rfl, hnm, hs, hg⟩ := hp2
      have HNM := Lib.hid hnm
      clear hnm
      have HS2 := Lib.hid hs
      have HB2 := Lib.hid (box_grow HB1.out hg HpR.out)
      have HG2 := Lib.hid (grow_trans HG1.out hg)
      have HX2 : Hid (w.heap.size < w2.heap.size) := Lib.hid (by have := hg.size; have := HX1.out; omega)
      clear hs hg
      have HE := Lib.hid (grow_end (f := NT.stmt) (K := KK) (u := u) (t := .mk 36 0 0 nm []) HS0.out HRR.out HB2.out (stmt_join HNM.out.1) (hd_of _ _ _ _ _ (by unfold I64; omega) (by unfold I64; omega) (by unfold I64; omega) (HNM.out.2)) (by simp only [size_mk, sizeL]; have := HKK.out; have c1 := gconst.1; have c2 := gconst.2.1; have c3 := gconst.2.2.1; have c4 := gconst.2.2.2; omega) (nil_kids _ _) HS2.out (by have := HKK.out; have c1 := gconst.1; have c2 := gconst.2.1; have c3 := gconst.2.2.1; have c4 := gconst.2.2.2; omega) HG2.out)
      have bx := HB2.out
      have r0 := bx.cell 0
      have r1 := bx.cell 1
      have r2 := bx.cell 2
      have r3 := bx.cell 3
      have r4 := bx.cell 4
      simp only [List.getElem?_toArray, List.getElem?_cons_zero, List.getElem?_cons_succ] at r0 r1 r2 r3 r4
      have rf0 := bx.frozen 0
      have rf1 := bx.frozen 1
      have rf2 := bx.frozen 2
      have rf3 := bx.frozen 3
      have rf4 := bx.frozen 4
      clear bx
      go_wp2_with (fail)
      exact bodyPost_ret (node_ret rfl rfl HE.out.1) rfl HE.out.2
    · clear hk
      have HN2 := Lib.hid (word_any p (u + 1) sl w1 HS1.out (by have := HU.out; omega))
      go_wp2_with (fail)
      refine HN2.out.mono ?_
      intro e w2 hp2
      unfold WordPost at hp2
      obtain ⟨nm, rfl, hnm, hs, hg⟩ := hp2
      have HNM := Lib.hid hnm
      clear hnm
      have HS2 := Lib.hid hs
      have HB2 := Lib.hid (box_grow HB1.out hg HpR.out)
      have HG2 := Lib.hid (grow_trans HG1.out hg)
      have HX2 : Hid (w.heap.size < w2.heap.size) := Lib.hid (by have := hg.size; have := HX1.out; omega)
      clear hs hg
      have HN3 := Lib.hid (gexpr_any 3 p (u + 1 + 1) sl w2 (by omega) HS2.out (by have := HU.out; have c1 := gconst.1; have c2 := gconst.2.1; have c3 := gconst.2.2.1; have c4 := gconst.2.2.2; omega))
      go_wp2_with (fail)
      refine HN3.out.mono ?_
      intro e w3 hp2
      unfold GrowPost at hp2
      obtain ⟨t1, st1, v1, rfl, hf, hdt, hst, hkk, hs, hu2, hg⟩ := hp2
      have HS3 := Lib.hid hs
      have HB3 := Lib.hid (box_grow HB2.out hg HpR.out)
      have HG3 := Lib.hid (grow_trans HG2.out hg)
      have HX3 : Hid (w.heap.size < w3.heap.size) := Lib.hid (by have := hg.size; have := HX2.out; omega)
      have HFt1 := Lib.hid hf
      have HDt1 := Lib.hid hdt
      have HZt1 := Lib.hid hst
      have HUt1 := Lib.hid hu2
      have HKt1 : Hid (Kids (fun b => w.heap.size < b) w3 t1.kids st1) := Lib.hid (hkk.mono fun b hb => by have := HX2.out; omega)
      clear hf hdt hst hkk hs hu2 hg
      obtain ⟨V, hV⟩ : ∃ V, V = w3.alloc (.cells #[.int .i64 t1.kind, .int .i64 t1.at_, .int .i64 t1.num, .string ⟨t1.name.toArray⟩, st1] NodeT) := ⟨_, rfl⟩
      obtain ⟨H2, hH2⟩ : ∃ H2, H2 = w3.heap.size := ⟨_, rfl⟩
      have hbV : Below w3.heap.size w3 V := by rw [hV]; exact (Below.refl _ _).alloc (Nat.le_refl _) _
      have hrow : Kids (fun b => w.heap.size < b) V [t1] (.slice (some ⟨H2, 0, none⟩) 1 1) := by rw [hV]; exact row_one hH2 HDt1.out HKt1.out (by have := HX3.out; omega)
      have HBV := Lib.hid (HB3.out.on hbV)
      have HE := Lib.hid (grow_end (f := NT.stmt) (K := KK) (u := u) (t := .mk 31 0 0 nm [t1]) HS0.out HRR.out HBV.out (stmt_var HNM.out.1 HFt1.out) (hd_of _ _ _ _ _ (by unfold I64; omega) (by unfold I64; omega) (by unfold I64; omega) (HNM.out.2)) (by simp only [size_mk, sizeL]; have := HKK.out; have c1 := gconst.1; have c2 := gconst.2.1; have c3 := gconst.2.2.1; have c4 := gconst.2.2.2; have := HZt1.out; omega) hrow (HS3.out.below hbV) (by have := HKK.out; have c1 := gconst.1; have c2 := gconst.2.1; have c3 := gconst.2.2.1; have c4 := gconst.2.2.2; have := HUt1.out; omega) (grow_below HG3.out hbV))
      have HV := Lib.hid hV
      have HH2 := Lib.hid hH2
      have bx := HBV.out
      have r0 := bx.cell 0
      have r1 := bx.cell 1
      have r2 := bx.cell 2
      have r3 := bx.cell 3
      have r4 := bx.cell 4
      simp only [List.getElem?_toArray, List.getElem?_cons_zero, List.getElem?_cons_succ] at r0 r1 r2 r3 r4
      have rf0 := bx.frozen 0
      have rf1 := bx.frozen 1
      have rf2 := bx.frozen 2
      have rf3 := bx.frozen 3
      have rf4 := bx.frozen 4
      clear bx hV hH2 hbV hrow
      go_wp2_with (first | (rw [← HV.out, ← HH2.out]))
      exact bodyPost_ret (node_ret rfl rfl HE.out.1) rfl HE.out.2
    · clear hk
      have HN2 := Lib.hid (gplace_any 2 p (u + 1) sl w1 (by omega) HS1.out (by have := HU.out; have c1 := gconst.1; have c2 := gconst.2.1; have c3 := gconst.2.2.1; have c4 := gconst.2.2.2; omega))
      go_wp2_with (fail)
      refine HN2.out.mono ?_
      intro e w2 hp2
      unfold GrowPost at hp2
      obtain ⟨t1, st1, v1, rfl, hf, hdt, hst, hkk, hs, hu2, hg⟩ := hp2
      have HS2 := Lib.hid hs
      have HB2 := Lib.hid (box_grow HB1.out hg HpR.out)
      have HG2 := Lib.hid (grow_trans HG1.out hg)
      have HX2 : Hid (w.heap.size < w2.heap.size) := Lib.hid (by have := hg.size; have := HX1.out; omega)
      have HFt1 := Lib.hid hf
      have HDt1 := Lib.hid hdt
      have HZt1 := Lib.hid hst
      have HUt1 := Lib.hid hu2
      have HKt1 : Hid (Kids (fun b => w.heap.size < b) w2 t1.kids st1) := Lib.hid (hkk.mono fun b hb => by have := HX1.out; omega)
      clear hf hdt hst hkk hs hu2 hg
      have hv1 := HUt1.out
      have HN3 := Lib.hid (gexpr_any 3 p v1 sl w2 (by omega) HS2.out (by have := HU.out; have c1 := gconst.1; have c2 := gconst.2.1; have c3 := gconst.2.2.1; have c4 := gconst.2.2.2; omega))
      go_wp2_with (fail)
      refine HN3.out.mono ?_
      intro e w3 hp2
      unfold GrowPost at hp2
      obtain ⟨t2, st2, v2, rfl, hf, hdt, hst, hkk, hs, hu2, hg⟩ := hp2
      have HS3 := Lib.hid hs
      have HB3 := Lib.hid (box_grow HB2.out hg HpR.out)
      have HG3 := Lib.hid (grow_trans HG2.out hg)
      have HX3 : Hid (w.heap.size < w3.heap.size) := Lib.hid (by have := hg.size; have := HX2.out; omega)
      replace HKt1 : Hid (Kids (fun b => w.heap.size < b) w3 t1.kids st1) := Lib.hid (kids_grow HKt1.out hg fun b hb => by have := HpW.out; omega)
      have HFt2 := Lib.hid hf
      have HDt2 := Lib.hid hdt
      have HZt2 := Lib.hid hst
      have HUt2 := Lib.hid hu2
      have HKt2 : Hid (Kids (fun b => w.heap.size < b) w3 t2.kids st2) := Lib.hid (hkk.mono fun b hb => by have := HX2.out; omega)
      clear hf hdt hst hkk hs hu2 hg
      clear hv1
      obtain ⟨V, hV⟩ : ∃ V, V = w3.alloc (.cells #[.int .i64 t1.kind, .int .i64 t1.at_, .int .i64 t1.num, .string ⟨t1.name.toArray⟩, st1, .int .i64 t2.kind, .int .i64 t2.at_, .int .i64 t2.num, .string ⟨t2.name.toArray⟩, st2] NodeT) := ⟨_, rfl⟩
      obtain ⟨H2, hH2⟩ : ∃ H2, H2 = w3.heap.size := ⟨_, rfl⟩
      have hbV : Below w3.heap.size w3 V := by rw [hV]; exact (Below.refl _ _).alloc (Nat.le_refl _) _
      have hrow : Kids (fun b => w.heap.size < b) V [t1, t2] (.slice (some ⟨H2, 0, none⟩) 2 2) := by rw [hV]; exact row_two hH2 HDt1.out HDt2.out HKt1.out HKt2.out (by have := HX3.out; omega)
      have HBV := Lib.hid (HB3.out.on hbV)
      have HE := Lib.hid (grow_end (f := NT.stmt) (K := KK) (u := u) (t := .mk 32 0 0 [] [t1, t2]) HS0.out HRR.out HBV.out (stmt_set HFt1.out HFt2.out) (hd_of _ _ _ _ _ (by unfold I64; omega) (by unfold I64; omega) (by unfold I64; omega) (by simp)) (by simp only [size_mk, sizeL]; have := HKK.out; have c1 := gconst.1; have c2 := gconst.2.1; have c3 := gconst.2.2.1; have c4 := gconst.2.2.2; have := HZt1.out; have := HZt2.out; omega) hrow (HS3.out.below hbV) (by have := HKK.out; have c1 := gconst.1; have c2 := gconst.2.1; have c3 := gconst.2.2.1; have c4 := gconst.2.2.2; have := HUt1.out; have := HUt2.out; omega) (grow_below HG3.out hbV))
      have HV := Lib.hid hV
      have HH2 := Lib.hid hH2
      have bx := HBV.out
      have r0 := bx.cell 0
      have r1 := bx.cell 1
      have r2 := bx.cell 2
      have r3 := bx.cell 3
      have r4 := bx.cell 4
      simp only [List.getElem?_toArray, List.getElem?_cons_zero, List.getElem?_cons_succ] at r0 r1 r2 r3 r4
      have rf0 := bx.frozen 0
      have rf1 := bx.frozen 1
      have rf2 := bx.frozen 2
      have rf3 := bx.frozen 3
      have rf4 := bx.frozen 4
      clear bx hV hH2 hbV hrow
      go_wp2_with (first | (rw [← HV.out, ← HH2.out]))
      exact bodyPost_ret (node_ret rfl rfl HE.out.1) rfl HE.out.2
    · clear hk
      have HN2 := Lib.hid (next_any 2 p (u + 1) sl w1 (by decide) HS1.out (by have := HU.out; omega))
      go_wp2_with (fail)
      refine HN2.out.mono ?_
      intro e w2 hp2
      unfold NextPost at hp2
      obtain ⟨y, rfl, hy, hs, hg⟩ := hp2
      have HS2 := Lib.hid hs
      have HB2 := Lib.hid (box_grow HB1.out hg HpR.out)
      have HG2 := Lib.hid (grow_trans HG1.out hg)
      have HX2 : Hid (w.heap.size < w2.heap.size) := Lib.hid (by have := hg.size; have := HX1.out; omega)
      clear hs hg
      by_cases y0 : y = 0
      · subst y0
        clear hy
        have HE := Lib.hid (grow_end (f := NT.stmt) (K := KK) (u := u) (t := .mk 35 0 0 [] []) HS0.out HRR.out HB2.out (stmt_ret0) (hd_of _ _ _ _ _ (by unfold I64; omega) (by unfold I64; omega) (by unfold I64; omega) (by simp)) (by simp only [size_mk, sizeL]; have := HKK.out; have c1 := gconst.1; have c2 := gconst.2.1; have c3 := gconst.2.2.1; have c4 := gconst.2.2.2; omega) (nil_kids _ _) HS2.out (by have := HKK.out; have c1 := gconst.1; have c2 := gconst.2.1; have c3 := gconst.2.2.1; have c4 := gconst.2.2.2; omega) HG2.out)
        have bx := HB2.out
        have r0 := bx.cell 0
        have r1 := bx.cell 1
        have r2 := bx.cell 2
        have r3 := bx.cell 3
        have r4 := bx.cell 4
        simp only [List.getElem?_toArray, List.getElem?_cons_zero, List.getElem?_cons_succ] at r0 r1 r2 r3 r4
        have rf0 := bx.frozen 0
        have rf1 := bx.frozen 1
        have rf2 := bx.frozen 2
        have rf3 := bx.frozen 3
        have rf4 := bx.frozen 4
        clear bx
        go_wp2_with (fail)
        exact bodyPost_ret (node_ret rfl rfl HE.out.1) rfl HE.out.2
      · have y1 : (y == 0) = false := beq_eq_false_iff_ne.2 y0
        clear y0
        have HN3 := Lib.hid (gexpr_any 2 p (u + 1 + 1) sl w2 (by omega) HS2.out (by have := HU.out; have c1 := gconst.1; have c2 := gconst.2.1; have c3 := gconst.2.2.1; have c4 := gconst.2.2.2; omega))
        go_wp2_with (fail)
        refine HN3.out.mono ?_
        intro e w3 hp2
        unfold GrowPost at hp2
        obtain ⟨t1, st1, v1, rfl, hf, hdt, hst, hkk, hs, hu2, hg⟩ := hp2
        have HS3 := Lib.hid hs
        have HB3 := Lib.hid (box_grow HB2.out hg HpR.out)
        have HG3 := Lib.hid (grow_trans HG2.out hg)
        have HX3 : Hid (w.heap.size < w3.heap.size) := Lib.hid (by have := hg.size; have := HX2.out; omega)
        have HFt1 := Lib.hid hf
        have HDt1 := Lib.hid hdt
        have HZt1 := Lib.hid hst
        have HUt1 := Lib.hid hu2
        have HKt1 : Hid (Kids (fun b => w.heap.size < b) w3 t1.kids st1) := Lib.hid (hkk.mono fun b hb => by have := HX2.out; omega)
        clear hf hdt hst hkk hs hu2 hg
        obtain ⟨V, hV⟩ : ∃ V, V = w3.alloc (.cells #[.int .i64 t1.kind, .int .i64 t1.at_, .int .i64 t1.num, .string ⟨t1.name.toArray⟩, st1] NodeT) := ⟨_, rfl⟩
        obtain ⟨H2, hH2⟩ : ∃ H2, H2 = w3.heap.size := ⟨_, rfl⟩
        have hbV : Below w3.heap.size w3 V := by rw [hV]; exact (Below.refl _ _).alloc (Nat.le_refl _) _
        have hrow : Kids (fun b => w.heap.size < b) V [t1] (.slice (some ⟨H2, 0, none⟩) 1 1) := by rw [hV]; exact row_one hH2 HDt1.out HKt1.out (by have := HX3.out; omega)
        have HBV := Lib.hid (HB3.out.on hbV)
        have HE := Lib.hid (grow_end (f := NT.stmt) (K := KK) (u := u) (t := .mk 35 0 0 [] [t1]) HS0.out HRR.out HBV.out (stmt_ret1 HFt1.out) (hd_of _ _ _ _ _ (by unfold I64; omega) (by unfold I64; omega) (by unfold I64; omega) (by simp)) (by simp only [size_mk, sizeL]; have := HKK.out; have c1 := gconst.1; have c2 := gconst.2.1; have c3 := gconst.2.2.1; have c4 := gconst.2.2.2; have := HZt1.out; omega) hrow (HS3.out.below hbV) (by have := HKK.out; have c1 := gconst.1; have c2 := gconst.2.1; have c3 := gconst.2.2.1; have c4 := gconst.2.2.2; have := HUt1.out; omega) (grow_below HG3.out hbV))
        have HV := Lib.hid hV
        have HH2 := Lib.hid hH2
        have bx := HBV.out
        have r0 := bx.cell 0
        have r1 := bx.cell 1
        have r2 := bx.cell 2
        have r3 := bx.cell 3
        have r4 := bx.cell 4
        simp only [List.getElem?_toArray, List.getElem?_cons_zero, List.getElem?_cons_succ] at r0 r1 r2 r3 r4
        have rf0 := bx.frozen 0
        have rf1 := bx.frozen 1
        have rf2 := bx.frozen 2
        have rf3 := bx.frozen 3
        have rf4 := bx.frozen 4
        clear bx hV hH2 hbV hrow
        go_wp2_with (first | (rw [← HV.out, ← HH2.out]))
        exact bodyPost_ret (node_ret rfl rfl HE.out.1) rfl HE.out.2
    · clear hk
      have HN2 := Lib.hid (word_any p (u + 1) sl w1 HS1.out (by have := HU.out; omega))
      go_wp2_with (fail)
      refine HN2.out.mono ?_
      intro e w2 hp2
      unfold WordPost at hp2
      obtain ⟨nm, rfl, hnm, hs, hg⟩ := hp2
      have HNM := Lib.hid hnm
      clear hnm
      have HS2 := Lib.hid hs
      have HB2 := Lib.hid (box_grow HB1.out hg HpR.out)
      have HG2 := Lib.hid (grow_trans HG1.out hg)
      have HX2 : Hid (w.heap.size < w2.heap.size) := Lib.hid (by have := hg.size; have := HX1.out; omega)
      clear hs hg
      have HE := Lib.hid (grow_end (f := NT.stmt) (K := KK) (u := u) (t := .mk 36 0 0 nm []) HS0.out HRR.out HB2.out (stmt_join HNM.out.1) (hd_of _ _ _ _ _ (by unfold I64; omega) (by unfold I64; omega) (by unfold I64; omega) (HNM.out.2)) (by simp only [size_mk, sizeL]; have := HKK.out; have c1 := gconst.1; have c2 := gconst.2.1; have c3 := gconst.2.2.1; have c4 := gconst.2.2.2; omega) (nil_kids _ _) HS2.out (by have := HKK.out; have c1 := gconst.1; have c2 := gconst.2.1; have c3 := gconst.2.2.1; have c4 := gconst.2.2.2; omega) HG2.out)
      have bx := HB2.out
      have r0 := bx.cell 0
      have r1 := bx.cell 1
      have r2 := bx.cell 2
      have r3 := bx.cell 3
      have r4 := bx.cell 4
      simp only [List.getElem?_toArray, List.getElem?_cons_zero, List.getElem?_cons_succ] at r0 r1 r2 r3 r4
      have rf0 := bx.frozen 0
      have rf1 := bx.frozen 1
      have rf2 := bx.frozen 2
      have rf3 := bx.frozen 3
      have rf4 := bx.frozen 4
      clear bx
      go_wp2_with (fail)
      exact bodyPost_ret (node_ret rfl rfl HE.out.1) rfl HE.out.2
    · clear hk
      have HN2 := Lib.hid (gexpr_any 2 p (u + 1) sl w1 (by omega) HS1.out (by have := HU.out; have c1 := gconst.1; have c2 := gconst.2.1; have c3 := gconst.2.2.1; have c4 := gconst.2.2.2; omega))
      go_wp2_with (fail)
      refine HN2.out.mono ?_
      intro e w2 hp2
      unfold GrowPost at hp2
      obtain ⟨t1, st1, v1, rfl, hf, hdt, hst, hkk, hs, hu2, hg⟩ := hp2
      have HS2 := Lib.hid hs
      have HB2 := Lib.hid (box_grow HB1.out hg HpR.out)
      have HG2 := Lib.hid (grow_trans HG1.out hg)
      have HX2 : Hid (w.heap.size < w2.heap.size) := Lib.hid (by have := hg.size; have := HX1.out; omega)
      have HFt1 := Lib.hid hf
      have HDt1 := Lib.hid hdt
      have HZt1 := Lib.hid hst
      have HUt1 := Lib.hid hu2
      have HKt1 : Hid (Kids (fun b => w.heap.size < b) w2 t1.kids st1) := Lib.hid (hkk.mono fun b hb => by have := HX1.out; omega)
      clear hf hdt hst hkk hs hu2 hg
      obtain ⟨V, hV⟩ : ∃ V, V = w2.alloc (.cells #[.int .i64 t1.kind, .int .i64 t1.at_, .int .i64 t1.num, .string ⟨t1.name.toArray⟩, st1] NodeT) := ⟨_, rfl⟩
      obtain ⟨H2, hH2⟩ : ∃ H2, H2 = w2.heap.size := ⟨_, rfl⟩
      have hbV : Below w2.heap.size w2 V := by rw [hV]; exact (Below.refl _ _).alloc (Nat.le_refl _) _
      have hrow : Kids (fun b => w.heap.size < b) V [t1] (.slice (some ⟨H2, 0, none⟩) 1 1) := by rw [hV]; exact row_one hH2 HDt1.out HKt1.out (by have := HX2.out; omega)
      have HBV := Lib.hid (HB2.out.on hbV)
      have HE := Lib.hid (grow_end (f := NT.stmt) (K := KK) (u := u) (t := .mk 37 0 0 [] [t1]) HS0.out HRR.out HBV.out (stmt_print HFt1.out) (hd_of _ _ _ _ _ (by unfold I64; omega) (by unfold I64; omega) (by unfold I64; omega) (by simp)) (by simp only [size_mk, sizeL]; have := HKK.out; have c1 := gconst.1; have c2 := gconst.2.1; have c3 := gconst.2.2.1; have c4 := gconst.2.2.2; have := HZt1.out; omega) hrow (HS2.out.below hbV) (by have := HKK.out; have c1 := gconst.1; have c2 := gconst.2.1; have c3 := gconst.2.2.1; have c4 := gconst.2.2.2; have := HUt1.out; omega) (grow_below HG2.out hbV))
      have HV := Lib.hid hV
      have HH2 := Lib.hid hH2
      have bx := HBV.out
      have r0 := bx.cell 0
      have r1 := bx.cell 1
      have r2 := bx.cell 2
      have r3 := bx.cell 3
      have r4 := bx.cell 4
      simp only [List.getElem?_toArray, List.getElem?_cons_zero, List.getElem?_cons_succ] at r0 r1 r2 r3 r4
      have rf0 := bx.frozen 0
      have rf1 := bx.frozen 1
      have rf2 := bx.frozen 2
      have rf3 := bx.frozen 3
      have rf4 := bx.frozen 4
      clear bx hV hH2 hbV hrow
      go_wp2_with (first | (rw [← HV.out, ← HH2.out]))
      exact bodyPost_ret (node_ret rfl rfl HE.out.1) rfl HE.out.2
    · clear hk
      have HN2 := Lib.hid (word_any p (u + 1) sl w1 HS1.out (by have := HU.out; omega))
      go_wp2_with (fail)
      refine HN2.out.mono ?_
      intro e w2 hp2
      unfold WordPost at hp2
      obtain ⟨nm, rfl, hnm, hs, hg⟩ := hp2
      have HNM := Lib.hid hnm
      clear hnm
      have HS2 := Lib.hid hs
      have HB2 := Lib.hid (box_grow HB1.out hg HpR.out)
      have HG2 := Lib.hid (grow_trans HG1.out hg)
      have HX2 : Hid (w.heap.size < w2.heap.size) := Lib.hid (by have := hg.size; have := HX1.out; omega)
      clear hs hg
      have HN3 := Lib.hid (gexprs_any 2 (fun p u sl w h1 h2 => gexpr_any 2 p u sl w (by omega) h1 h2) p (u + 1 + 1) sl w2 HS2.out (by have := HU.out; have c1 := gconst.1; have c2 := gconst.2.1; have c3 := gconst.2.2.1; have c4 := gconst.2.2.2; omega))
      go_wp2_with (fail)
      refine HN3.out.mono ?_
      intro e w3 hp2
      unfold GrowsPost at hp2
      obtain ⟨l, lv, v3, rfl, hf, hst, hln, ho2, hnil, hs, hu2, hg⟩ := hp2
      have HS3 := Lib.hid hs
      have HB3 := Lib.hid (box_grow HB2.out hg HpR.out)
      have HG3 := Lib.hid (grow_trans HG2.out hg)
      have HX3 : Hid (w.heap.size < w3.heap.size) := Lib.hid (by have := hg.size; have := HX2.out; omega)
      have hkl := ho2.kids
      obtain ⟨A9, c9, rfl⟩ := ho2.form
      obtain ⟨n9, hn9⟩ : ∃ n9, n9 = l.length := ⟨_, rfl⟩
      rw [← hn9] at hkl ⊢
      have HKL : Hid (Kids (fun b => w.heap.size < b) w3 (NT.mk 17 0 0 nm l).kids (.slice A9 n9 c9)) := Lib.hid (hkl.mono fun b hb => by have := HX2.out; omega)
      have HFl := Lib.hid hf
      have HZl := Lib.hid hst
      have HUl := Lib.hid hu2
      clear hn9 hkl ho2 hnil hs hg hf hln hst hu2
      obtain ⟨V, hV⟩ : ∃ V, V = w3.alloc (.cells #[.int .i64 17, .int .i64 0, .int .i64 0, .string ⟨nm.toArray⟩, .slice A9 n9 c9] NodeT) := ⟨_, rfl⟩
      obtain ⟨H2, hH2⟩ : ∃ H2, H2 = w3.heap.size := ⟨_, rfl⟩
      have hbV : Below w3.heap.size w3 V := by rw [hV]; exact (Below.refl _ _).alloc (Nat.le_refl _) _
      have hrow : Kids (fun b => w.heap.size < b) V [NT.mk 17 0 0 nm l] (.slice (some ⟨H2, 0, none⟩) 1 1) := by rw [hV]; exact row_one (t := .mk 17 0 0 nm l) hH2 (hd_of _ _ _ _ _ (by unfold I64; omega) (by unfold I64; omega) (by unfold I64; omega) (HNM.out.2)) HKL.out (by have := HX3.out; omega)
      have HBV := Lib.hid (HB3.out.on hbV)
      have HE := Lib.hid (grow_end (f := NT.stmt) (K := KK) (u := u) (t := .mk 38 0 0 [] [NT.mk 17 0 0 nm l]) HS0.out HRR.out HBV.out (stmt_do HNM.out.1 HFl.out) (hd_of _ _ _ _ _ (by unfold I64; omega) (by unfold I64; omega) (by unfold I64; omega) (by simp)) (by simp only [size_mk, sizeL]; have := HKK.out; have c1 := gconst.1; have c2 := gconst.2.1; have c3 := gconst.2.2.1; have c4 := gconst.2.2.2; have := HZl.out; omega) hrow (HS3.out.below hbV) (by have := HKK.out; have c1 := gconst.1; have c2 := gconst.2.1; have c3 := gconst.2.2.1; have c4 := gconst.2.2.2; have := HUl.out; omega) (grow_below HG3.out hbV))
      have HV := Lib.hid hV
      have HH2 := Lib.hid hH2
      have bx := HBV.out
      have r0 := bx.cell 0
      have r1 := bx.cell 1
      have r2 := bx.cell 2
      have r3 := bx.cell 3
      have r4 := bx.cell 4
      simp only [List.getElem?_toArray, List.getElem?_cons_zero, List.getElem?_cons_succ] at r0 r1 r2 r3 r4
      have rf0 := bx.frozen 0
      have rf1 := bx.frozen 1
      have rf2 := bx.frozen 2
      have rf3 := bx.frozen 3
      have rf4 := bx.frozen 4
      clear bx hV hH2 hbV hrow
      go_wp2_with (first | (rw [← HV.out, ← HH2.out]))
      exact bodyPost_ret (node_ret rfl rfl HE.out.1) rfl HE.out.2
  | succ d1 ih =>
    intro p u sl w hd hs hu
    have IH := Lib.hid (fun (p u : Nat) (sl : Value) (w : World) h1 h2 => ih p u sl w (by omega) h1 h2)
    clear ih
    rw [gS_succ] at hu ⊢
    obtain ⟨g, hgq⟩ : ∃ g, g = gS d1 := ⟨_, rfl⟩
    rw [← hgq] at hu IH ⊢
    obtain ⟨KK, hKK⟩ : ∃ KK, KK = 203 + 9 * g := ⟨_, rfl⟩
    have HKK := Lib.hid hKK
    rw [← hKK]
    clear hKK hgq
    have HS0 := Lib.hid hs
    obtain ⟨R, hR⟩ : ∃ R, R = w.heap.size := ⟨_, rfl⟩
    obtain ⟨W, hW⟩ : ∃ W, W = w.alloc (.cells #[.int .i64 0, .int .i64 0, .int .i64 0, .string ⟨#[]⟩, .slice none 0 0] NodeT) := ⟨_, rfl⟩
    have hbW : Below w.heap.size w W := by rw [hW]; exact (Below.refl _ _).alloc (Nat.le_refl _) _
    have HBX : Hid (Box W R NodeT #[.int .i64 0, .int .i64 0, .int .i64 0, .string ⟨#[]⟩, .slice none 0 0]) := Lib.hid (by rw [hW]; exact Box.new _ _ _ _ hR)
    have HN := Lib.hid (next_any 10 p u sl W (by decide) (hs.below hbW) (by omega))
    have HGW : Hid (w.grownBy W (some p)) := Lib.hid (grow_below (grow_refl w p) hbW)
    have HpW : Hid (p < w.heap.size) := Lib.hid hs.1.lt
    have HpR : Hid (p ≠ R) := Lib.hid (by have := hs.1.lt; omega)
    have HU := Lib.hid hu
    have HW := Lib.hid hW
    have HRR := Lib.hid hR
    clear hW hR hbW hs hu
    go_enter Tryd.func61, Tryd.ntmps61
    go_wp2_with (first | (rw [← HW.out, ← HRR.out]))
    refine HN.out.mono ?_
    intro e w1 hp1
    unfold NextPost at hp1
    obtain ⟨x, rfl, hx, hs, hg⟩ := hp1
    have HS1 := Lib.hid hs
    have HB1 := Lib.hid (box_grow HBX.out hg HpR.out)
    have HG1 := Lib.hid (grow_trans HGW.out hg)
    have HX1 : Hid (w.heap.size < w1.heap.size) := Lib.hid (by have := HB1.out.lt; have := HRR.out; omega)
    obtain ⟨k, rfl⟩ : ∃ k : Nat, x = (k : Int) := ⟨x.toNat, by omega⟩
    have hk : k < 10 := by omega
    clear hs hg hx
    have hdd := IntWalk.i64_in (d1 : Int) (by omega)
    have hd1 : ¬ (d1 : Int) + 1 < 1 := by omega
    rcases (show k = 0 ∨ k = 1 ∨ k = 2 ∨ k = 3 ∨ k = 4 ∨ k = 5 ∨ k = 6 ∨ k = 7 ∨ k = 8 ∨ k = 9 by omega) with rfl | rfl | rfl | rfl | rfl | rfl | rfl | rfl | rfl | rfl
    · clear hk
      have HN2 := Lib.hid (gblock_of d1 g IH.out p (u + 1) sl w1 HS1.out (by have := HU.out; have c1 := gconst.1; have c2 := gconst.2.1; have c3 := gconst.2.2.1; have c4 := gconst.2.2.2; omega))
      go_wp2_with (fail)
      refine HN2.out.mono ?_
      intro e w2 hp2
      unfold GrowPost at hp2
      obtain ⟨t1, st1, v1, rfl, hf, hdt, hst, hkk, hs, hu2, hg⟩ := hp2
      have HS2 := Lib.hid hs
      have HB2 := Lib.hid (box_grow HB1.out hg HpR.out)
      have HG2 := Lib.hid (grow_trans HG1.out hg)
      have HX2 : Hid (w.heap.size < w2.heap.size) := Lib.hid (by have := hg.size; have := HX1.out; omega)
      have HFt1 := Lib.hid hf
      have HDt1 := Lib.hid hdt
      have HZt1 := Lib.hid hst
      have HUt1 := Lib.hid hu2
      have HKt1 : Hid (Kids (fun b => w.heap.size < b) w2 t1.kids st1) := Lib.hid (hkk.mono fun b hb => by have := HX1.out; omega)
      clear hf hdt hst hkk hs hu2 hg
      obtain ⟨A9, n9, c9, h9⟩ : ∃ A n c, st1 = .slice A n c := by obtain ⟨A, c, h, _⟩ := HKt1.out.form; exact ⟨_, _, _, h⟩
      subst h9
      have HE := Lib.hid (grow_end (f := NT.stmt) (K := KK) (u := u) (t := t1) HS0.out HRR.out HB2.out ((blk_parts HFt1.out).2) (HDt1.out) (by have := HZt1.out; have := HKK.out; omega) (HKt1.out) HS2.out (by have := HKK.out; have c1 := gconst.1; have c2 := gconst.2.1; have c3 := gconst.2.2.1; have c4 := gconst.2.2.2; have := HUt1.out; omega) HG2.out)
      have bx := HB2.out
      have r0 := bx.cell 0
      have r1 := bx.cell 1
      have r2 := bx.cell 2
      have r3 := bx.cell 3
      have r4 := bx.cell 4
      simp only [List.getElem?_toArray, List.getElem?_cons_zero, List.getElem?_cons_succ] at r0 r1 r2 r3 r4
      have rf0 := bx.frozen 0
      have rf1 := bx.frozen 1
      have rf2 := bx.frozen 2
      have rf3 := bx.frozen 3
      have rf4 := bx.frozen 4
      clear bx
      go_wp2_with (fail)
      exact bodyPost_ret (node_ret rfl rfl HE.out.1) rfl HE.out.2
    · clear hk
      have HN2 := Lib.hid (gexpr_any 2 p (u + 1) sl w1 (by omega) HS1.out (by have := HU.out; have c1 := gconst.1; have c2 := gconst.2.1; have c3 := gconst.2.2.1; have c4 := gconst.2.2.2; omega))
      go_wp2_with (fail)
      refine HN2.out.mono ?_
      intro e w2 hp2
      unfold GrowPost at hp2
      obtain ⟨t1, st1, v1, rfl, hf, hdt, hst, hkk, hs, hu2, hg⟩ := hp2
      have HS2 := Lib.hid hs
      have HB2 := Lib.hid (box_grow HB1.out hg HpR.out)
      have HG2 := Lib.hid (grow_trans HG1.out hg)
      have HX2 : Hid (w.heap.size < w2.heap.size) := Lib.hid (by have := hg.size; have := HX1.out; omega)
      have HFt1 := Lib.hid hf
      have HDt1 := Lib.hid hdt
      have HZt1 := Lib.hid hst
      have HUt1 := Lib.hid hu2
      have HKt1 : Hid (Kids (fun b => w.heap.size < b) w2 t1.kids st1) := Lib.hid (hkk.mono fun b hb => by have := HX1.out; omega)
      clear hf hdt hst hkk hs hu2 hg
      have hv1 := HUt1.out
      have HN3 := Lib.hid (gblock_of d1 g IH.out p v1 sl w2 HS2.out (by have := HU.out; have c1 := gconst.1; have c2 := gconst.2.1; have c3 := gconst.2.2.1; have c4 := gconst.2.2.2; omega))
      go_wp2_with (fail)
      refine HN3.out.mono ?_
      intro e w3 hp2
      unfold GrowPost at hp2
      obtain ⟨t2, st2, v2, rfl, hf, hdt, hst, hkk, hs, hu2, hg⟩ := hp2
      have HS3 := Lib.hid hs
      have HB3 := Lib.hid (box_grow HB2.out hg HpR.out)
      have HG3 := Lib.hid (grow_trans HG2.out hg)
      have HX3 : Hid (w.heap.size < w3.heap.size) := Lib.hid (by have := hg.size; have := HX2.out; omega)
      replace HKt1 : Hid (Kids (fun b => w.heap.size < b) w3 t1.kids st1) := Lib.hid (kids_grow HKt1.out hg fun b hb => by have := HpW.out; omega)
      have HFt2 := Lib.hid hf
      have HDt2 := Lib.hid hdt
      have HZt2 := Lib.hid hst
      have HUt2 := Lib.hid hu2
      have HKt2 : Hid (Kids (fun b => w.heap.size < b) w3 t2.kids st2) := Lib.hid (hkk.mono fun b hb => by have := HX2.out; omega)
      clear hf hdt hst hkk hs hu2 hg
      clear hv1
      obtain ⟨V, hV⟩ : ∃ V, V = w3.alloc (.cells #[.int .i64 t1.kind, .int .i64 t1.at_, .int .i64 t1.num, .string ⟨t1.name.toArray⟩, st1, .int .i64 t2.kind, .int .i64 t2.at_, .int .i64 t2.num, .string ⟨t2.name.toArray⟩, st2] NodeT) := ⟨_, rfl⟩
      obtain ⟨H2, hH2⟩ : ∃ H2, H2 = w3.heap.size := ⟨_, rfl⟩
      have hbV : Below w3.heap.size w3 V := by rw [hV]; exact (Below.refl _ _).alloc (Nat.le_refl _) _
      have hrow : Kids (fun b => w.heap.size < b) V [t1, t2] (.slice (some ⟨H2, 0, none⟩) 2 2) := by rw [hV]; exact row_two hH2 HDt1.out HDt2.out HKt1.out HKt2.out (by have := HX3.out; omega)
      have HBV := Lib.hid (HB3.out.on hbV)
      have HE := Lib.hid (grow_end (f := NT.stmt) (K := KK) (u := u) (t := .mk 34 0 0 [] [t1, t2]) HS0.out HRR.out HBV.out (stmt_while HFt1.out HFt2.out) (hd_of _ _ _ _ _ (by unfold I64; omega) (by unfold I64; omega) (by unfold I64; omega) (by simp)) (by simp only [size_mk, sizeL]; have := HKK.out; have c1 := gconst.1; have c2 := gconst.2.1; have c3 := gconst.2.2.1; have c4 := gconst.2.2.2; have := HZt1.out; have := HZt2.out; omega) hrow (HS3.out.below hbV) (by have := HKK.out; have c1 := gconst.1; have c2 := gconst.2.1; have c3 := gconst.2.2.1; have c4 := gconst.2.2.2; have := HUt1.out; have := HUt2.out; omega) (grow_below HG3.out hbV))
      have HV := Lib.hid hV
      have HH2 := Lib.hid hH2
      have bx := HBV.out
      have r0 := bx.cell 0
      have r1 := bx.cell 1
      have r2 := bx.cell 2
      have r3 := bx.cell 3
      have r4 := bx.cell 4
      simp only [List.getElem?_toArray, List.getElem?_cons_zero, List.getElem?_cons_succ] at r0 r1 r2 r3 r4
      have rf0 := bx.frozen 0
      have rf1 := bx.frozen 1
      have rf2 := bx.frozen 2
      have rf3 := bx.frozen 3
      have rf4 := bx.frozen 4
      clear bx hV hH2 hbV hrow
      go_wp2_with (first | (rw [← HV.out, ← HH2.out]))
      exact bodyPost_ret (node_ret rfl rfl HE.out.1) rfl HE.out.2
    · clear hk
      have HN2 := Lib.hid (gexpr_any 2 p (u + 1) sl w1 (by omega) HS1.out (by have := HU.out; have c1 := gconst.1; have c2 := gconst.2.1; have c3 := gconst.2.2.1; have c4 := gconst.2.2.2; omega))
      go_wp2_with (fail)
      refine HN2.out.mono ?_
      intro e w2 hp2
      unfold GrowPost at hp2
      obtain ⟨t1, st1, v1, rfl, hf, hdt, hst, hkk, hs, hu2, hg⟩ := hp2
      have HS2 := Lib.hid hs
      have HB2 := Lib.hid (box_grow HB1.out hg HpR.out)
      have HG2 := Lib.hid (grow_trans HG1.out hg)
      have HX2 : Hid (w.heap.size < w2.heap.size) := Lib.hid (by have := hg.size; have := HX1.out; omega)
      have HFt1 := Lib.hid hf
      have HDt1 := Lib.hid hdt
      have HZt1 := Lib.hid hst
      have HUt1 := Lib.hid hu2
      have HKt1 : Hid (Kids (fun b => w.heap.size < b) w2 t1.kids st1) := Lib.hid (hkk.mono fun b hb => by have := HX1.out; omega)
      clear hf hdt hst hkk hs hu2 hg
      have hv1 := HUt1.out
      have HN3 := Lib.hid (gblock_of d1 g IH.out p v1 sl w2 HS2.out (by have := HU.out; have c1 := gconst.1; have c2 := gconst.2.1; have c3 := gconst.2.2.1; have c4 := gconst.2.2.2; omega))
      go_wp2_with (fail)
      refine HN3.out.mono ?_
      intro e w3 hp2
      unfold GrowPost at hp2
      obtain ⟨t2, st2, v2, rfl, hf, hdt, hst, hkk, hs, hu2, hg⟩ := hp2
      have HS3 := Lib.hid hs
      have HB3 := Lib.hid (box_grow HB2.out hg HpR.out)
      have HG3 := Lib.hid (grow_trans HG2.out hg)
      have HX3 : Hid (w.heap.size < w3.heap.size) := Lib.hid (by have := hg.size; have := HX2.out; omega)
      replace HKt1 : Hid (Kids (fun b => w.heap.size < b) w3 t1.kids st1) := Lib.hid (kids_grow HKt1.out hg fun b hb => by have := HpW.out; omega)
      have HFt2 := Lib.hid hf
      have HDt2 := Lib.hid hdt
      have HZt2 := Lib.hid hst
      have HUt2 := Lib.hid hu2
      have HKt2 : Hid (Kids (fun b => w.heap.size < b) w3 t2.kids st2) := Lib.hid (hkk.mono fun b hb => by have := HX2.out; omega)
      clear hf hdt hst hkk hs hu2 hg
      clear hv1
      obtain ⟨W6, hW6⟩ : ∃ W, W = (w3.alloc (.cells #[.int .i64 t1.kind, .int .i64 t1.at_, .int .i64 t1.num, .string ⟨t1.name.toArray⟩, st1, .int .i64 t2.kind, .int .i64 t2.at_, .int .i64 t2.num, .string ⟨t2.name.toArray⟩, st2] NodeT)).alloc (.cells #[.int .i64 33, .int .i64 0, .int .i64 0, .string ⟨#[]⟩, .slice (some ⟨w3.heap.size, 0, none⟩) 2 2] NodeT) := ⟨_, rfl⟩
      obtain ⟨H2, hH2⟩ : ∃ H2, H2 = w3.heap.size := ⟨_, rfl⟩
      obtain ⟨H6, hH6⟩ : ∃ H6, H6 = H2 + 1 := ⟨_, rfl⟩
      have hz6 : H6 = (w3.alloc (.cells #[.int .i64 t1.kind, .int .i64 t1.at_, .int .i64 t1.num, .string ⟨t1.name.toArray⟩, st1, .int .i64 t2.kind, .int .i64 t2.at_, .int .i64 t2.num, .string ⟨t2.name.toArray⟩, st2] NodeT)).heap.size := by rw [hH6, hH2]; exact (Array.size_push _).symm
      have hbV : Below w3.heap.size w3 W6 := by rw [hW6]; exact ((Below.refl _ _).alloc (Nat.le_refl _) _).alloc (by simp) _
      have hrow : Own2 (w.heap.size + 1) W6 [t1, t2] (.slice (some ⟨H2, 0, none⟩) 2 2) := by rw [hW6]; exact (own_two hH2 (by have := HX3.out; omega) HDt1.out HDt2.out (HKt1.out.mono fun b hb => hb) (HKt2.out.mono fun b hb => hb)).below ((Below.refl _ _).alloc (Nat.le_refl _) _)
      have hbox6 : Box W6 H6 NodeT #[.int .i64 33, .int .i64 0, .int .i64 0, .string ⟨#[]⟩, .slice (some ⟨H2, 0, none⟩) 2 2] := by rw [hW6, hH2]; exact Box.new _ _ _ _ hz6
      have HRW := Lib.hid hrow
      have HB6 := Lib.hid hbox6
      have HBV := Lib.hid (HB3.out.on hbV)
      have HSV := Lib.hid (HS3.out.below hbV)
      have HGV := Lib.hid (grow_below HG3.out hbV)
      have HW6 := Lib.hid hW6
      have HH2 := Lib.hid hH2
      have HH6 := Lib.hid hH6
      have HRH : Hid (R < H2) := Lib.hid (by have := HB3.out.lt; omega)
      clear hW6 hH2 hH6 hz6 hbV hrow hbox6
      have bx := HBV.out
      have r0 := bx.cell 0
      have r1 := bx.cell 1
      have r2 := bx.cell 2
      have r3 := bx.cell 3
      have r4 := bx.cell 4
      simp only [List.getElem?_toArray, List.getElem?_cons_zero, List.getElem?_cons_succ] at r0 r1 r2 r3 r4
      have rf0 := bx.frozen 0
      have rf1 := bx.frozen 1
      have rf2 := bx.frozen 2
      have rf3 := bx.frozen 3
      have rf4 := bx.frozen 4
      clear bx
      have bx := HB6.out
      have q0 := bx.cell 0
      have q1 := bx.cell 1
      have q2 := bx.cell 2
      have q3 := bx.cell 3
      have q4 := bx.cell 4
      simp only [List.getElem?_toArray, List.getElem?_cons_zero, List.getElem?_cons_succ] at q0 q1 q2 q3 q4
      have qf0 := bx.frozen 0
      have qf1 := bx.frozen 1
      have qf2 := bx.frozen 2
      have qf3 := bx.frozen 3
      have qf4 := bx.frozen 4
      clear bx
      have HE := Lib.hid (grow_end (f := NT.stmt) (K := KK) (u := u) (t := .mk 33 0 0 [] [t1, t2]) HS0.out HRR.out HBV.out (stmt_if HFt1.out HFt2.out) (hd_of _ _ _ _ _ (by unfold I64; omega) (by unfold I64; omega) (by unfold I64; omega) (by simp)) (by simp only [size_mk, sizeL]; have := HKK.out; have c1 := gconst.1; have c2 := gconst.2.1; have c3 := gconst.2.2.1; have c4 := gconst.2.2.2; have := HZt1.out; have := HZt2.out; omega) (HRW.out.kids.mono fun b hb => hb) HSV.out (by have := HKK.out; have c1 := gconst.1; have c2 := gconst.2.1; have c3 := gconst.2.2.1; have c4 := gconst.2.2.2; have := HUt1.out; have := HUt2.out; omega) HGV.out)
      go_wp2_with (first | (rw [← HW6.out, ← HH2.out, ← HH6.out]))
      exact bodyPost_ret (node_ret rfl rfl HE.out.1) rfl HE.out.2
    · clear hk
      have HN2 := Lib.hid (gexpr_any 2 p (u + 1) sl w1 (by omega) HS1.out (by have := HU.out; have c1 := gconst.1; have c2 := gconst.2.1; have c3 := gconst.2.2.1; have c4 := gconst.2.2.2; omega))
      go_wp2_with (fail)
      refine HN2.out.mono ?_
      intro e w2 hp2
      unfold GrowPost at hp2
      obtain ⟨t1, st1, v1, rfl, hf, hdt, hst, hkk, hs, hu2, hg⟩ := hp2
      have HS2 := Lib.hid hs
      have HB2 := Lib.hid (box_grow HB1.out hg HpR.out)
      have HG2 := Lib.hid (grow_trans HG1.out hg)
      have HX2 : Hid (w.heap.size < w2.heap.size) := Lib.hid (by have := hg.size; have := HX1.out; omega)
      have HFt1 := Lib.hid hf
      have HDt1 := Lib.hid hdt
      have HZt1 := Lib.hid hst
      have HUt1 := Lib.hid hu2
      have HKt1 : Hid (Kids (fun b => w.heap.size < b) w2 t1.kids st1) := Lib.hid (hkk.mono fun b hb => by have := HX1.out; omega)
      clear hf hdt hst hkk hs hu2 hg
      have hv1 := HUt1.out
      have HN3 := Lib.hid (gblock_of d1 g IH.out p v1 sl w2 HS2.out (by have := HU.out; have c1 := gconst.1; have c2 := gconst.2.1; have c3 := gconst.2.2.1; have c4 := gconst.2.2.2; omega))
      go_wp2_with (fail)
      refine HN3.out.mono ?_
      intro e w3 hp2
      unfold GrowPost at hp2
      obtain ⟨t2, st2, v2, rfl, hf, hdt, hst, hkk, hs, hu2, hg⟩ := hp2
      have HS3 := Lib.hid hs
      have HB3 := Lib.hid (box_grow HB2.out hg HpR.out)
      have HG3 := Lib.hid (grow_trans HG2.out hg)
      have HX3 : Hid (w.heap.size < w3.heap.size) := Lib.hid (by have := hg.size; have := HX2.out; omega)
      replace HKt1 : Hid (Kids (fun b => w.heap.size < b) w3 t1.kids st1) := Lib.hid (kids_grow HKt1.out hg fun b hb => by have := HpW.out; omega)
      have HFt2 := Lib.hid hf
      have HDt2 := Lib.hid hdt
      have HZt2 := Lib.hid hst
      have HUt2 := Lib.hid hu2
      have HKt2 : Hid (Kids (fun b => w.heap.size < b) w3 t2.kids st2) := Lib.hid (hkk.mono fun b hb => by have := HX2.out; omega)
      clear hf hdt hst hkk hs hu2 hg
      have hv2 := HUt2.out
      obtain ⟨W6, hW6⟩ : ∃ W, W = (w3.alloc (.cells #[.int .i64 t1.kind, .int .i64 t1.at_, .int .i64 t1.num, .string ⟨t1.name.toArray⟩, st1, .int .i64 t2.kind, .int .i64 t2.at_, .int .i64 t2.num, .string ⟨t2.name.toArray⟩, st2] NodeT)).alloc (.cells #[.int .i64 33, .int .i64 0, .int .i64 0, .string ⟨#[]⟩, .slice (some ⟨w3.heap.size, 0, none⟩) 2 2] NodeT) := ⟨_, rfl⟩
      obtain ⟨H2, hH2⟩ : ∃ H2, H2 = w3.heap.size := ⟨_, rfl⟩
      obtain ⟨H6, hH6⟩ : ∃ H6, H6 = H2 + 1 := ⟨_, rfl⟩
      have hz6 : H6 = (w3.alloc (.cells #[.int .i64 t1.kind, .int .i64 t1.at_, .int .i64 t1.num, .string ⟨t1.name.toArray⟩, st1, .int .i64 t2.kind, .int .i64 t2.at_, .int .i64 t2.num, .string ⟨t2.name.toArray⟩, st2] NodeT)).heap.size := by rw [hH6, hH2]; exact (Array.size_push _).symm
      have hbV : Below w3.heap.size w3 W6 := by rw [hW6]; exact ((Below.refl _ _).alloc (Nat.le_refl _) _).alloc (by simp) _
      have hrow : Own2 (w.heap.size + 1) W6 [t1, t2] (.slice (some ⟨H2, 0, none⟩) 2 2) := by rw [hW6]; exact (own_two hH2 (by have := HX3.out; omega) HDt1.out HDt2.out (HKt1.out.mono fun b hb => hb) (HKt2.out.mono fun b hb => hb)).below ((Below.refl _ _).alloc (Nat.le_refl _) _)
      have hbox6 : Box W6 H6 NodeT #[.int .i64 33, .int .i64 0, .int .i64 0, .string ⟨#[]⟩, .slice (some ⟨H2, 0, none⟩) 2 2] := by rw [hW6, hH2]; exact Box.new _ _ _ _ hz6
      have HOA : Hid (∀ Z, H6 ≤ Z → OwnA (w.heap.size + 1) (fun b => b = H6 ∨ b = Z) W6 [t1, t2] (.slice (some ⟨H2, 0, none⟩) 2 2)) := Lib.hid (fun Z hZ => by rw [hW6]; exact (OwnA.of (own_two hH2 (by have := HX3.out; omega) HDt1.out HDt2.out (HKt1.out.mono fun b hb => hb) (HKt2.out.mono fun b hb => hb)) (fun b hb => by rcases hb with rfl | rfl <;> omega)).below ((Below.refl _ _).alloc (Nat.le_refl _) _))
      have HZ6 : Hid (W6.heap.size = H6 + 1) := Lib.hid (by rw [hW6, hz6]; exact Array.size_push _)
      have HRW := Lib.hid hrow
      have HB6 := Lib.hid hbox6
      have HBV := Lib.hid (HB3.out.on hbV)
      have HSV := Lib.hid (HS3.out.below hbV)
      have HGV := Lib.hid (grow_below HG3.out hbV)
      have HW6 := Lib.hid hW6
      have HH2 := Lib.hid hH2
      have HH6 := Lib.hid hH6
      have HRH : Hid (R < H2) := Lib.hid (by have := HB3.out.lt; omega)
      clear hW6 hH2 hH6 hz6 hbV hrow hbox6
      have HN4 := Lib.hid (gblock_of d1 g IH.out p v2 sl W6 HSV.out (by have := HU.out; have c1 := gconst.1; have c2 := gconst.2.1; have c3 := gconst.2.2.1; have c4 := gconst.2.2.2; omega))
      go_wp2_with (first | (rw [← HW6.out, ← HH2.out, ← HH6.out]))
      refine HN4.out.mono ?_
      intro e w4 hp2
      unfold GrowPost at hp2
      obtain ⟨t3, st3, v3, rfl, hf, hdt, hst, hkk, hs, hu2, hg⟩ := hp2
      obtain ⟨H7, hH7⟩ : ∃ H7, H7 = w4.heap.size := ⟨_, rfl⟩
      have h67 : H6 < H7 := by have := hg.size; have := HZ6.out; omega
      have HB4 := Lib.hid (box_grow HBV.out hg HpR.out)
      have HpH : Hid (p ≠ H6 ∧ p ≠ H7) := Lib.hid (by have := HpW.out; have := HRH.out; have := HRR.out; have := HH6.out; omega)
      have HB64 := Lib.hid (box_grow HB6.out hg HpH.out.1)
      have HG4 := Lib.hid (grow_trans HGV.out hg)
      have HO4 : Hid (OwnA (w.heap.size + 1) (fun b => b = H6 ∨ b = H7) w4 [t1, t2] (.slice (some ⟨H2, 0, none⟩) 2 2)) := Lib.hid ((HOA.out H7 (by omega)).grow hg (by have := HpW.out; omega))
      have HK4 : Hid (Kids (fun b => H6 < b ∧ b < H7) w4 t3.kids st3) := Lib.hid (hkk.lt.mono fun b hb => by have h1 : W6.heap.size ≤ b := hb.1; have h2 : b < w4.heap.size := hb.2; have := HZ6.out; omega)
      have HS4 := Lib.hid hs
      have HF3 := Lib.hid hf
      have HD3 := Lib.hid hdt
      have HZ3 := Lib.hid hst
      have hv3 := hu2
      have H67 := Lib.hid h67
      clear hf hdt hst hkk hs hu2 hg h67
      obtain ⟨A9, n9, c9, h9⟩ : ∃ A n c, st3 = .slice A n c := by obtain ⟨A, c, h, _⟩ := HK4.out.form; exact ⟨_, _, _, h⟩
      subst h9
      obtain ⟨W7, hW7⟩ : ∃ W, W = w4.alloc (.cells #[.int .i64 t3.kind, .int .i64 t3.at_, .int .i64 t3.num, .string ⟨t3.name.toArray⟩, (.slice A9 n9 c9)] NodeT) := ⟨_, rfl⟩
      have hbV : Below w4.heap.size w4 W7 := by rw [hW7]; exact (Below.refl _ _).alloc (Nat.le_refl _) _
      have HB7 : Hid (Box W7 H7 NodeT #[.int .i64 t3.kind, .int .i64 t3.at_, .int .i64 t3.num, .string ⟨t3.name.toArray⟩, (.slice A9 n9 c9)]) := Lib.hid (by rw [hW7]; exact Box.new _ _ _ _ hH7)
      have HBW := Lib.hid (HB4.out.on hbV)
      have HB6W := Lib.hid (HB64.out.on hbV)
      have HOW := Lib.hid (HO4.out.below hbV)
      have HKW := Lib.hid (HK4.out.below hbV)
      have HSW := Lib.hid (HS4.out.below hbV)
      have HGW7 := Lib.hid (grow_below HG4.out hbV)
      have HW7 := Lib.hid hW7
      have HH7 := Lib.hid hH7
      clear hW7 hH7 hbV
      have HN5 := Lib.hid (next_any 2 p v3 sl W7 (by decide) HSW.out (by have := HU.out; have c1 := gconst.1; have c2 := gconst.2.1; have c3 := gconst.2.2.1; have c4 := gconst.2.2.2; omega))
      go_wp2_with (first | (rw [← HW7.out, ← HH7.out]))
      refine HN5.out.mono ?_
      intro e w5 hp2
      unfold NextPost at hp2
      obtain ⟨y, rfl, hy, hs, hg⟩ := hp2
      have HB5 := Lib.hid (box_grow HBW.out hg HpR.out)
      have HB65 := Lib.hid (box_grow HB6W.out hg HpH.out.1)
      have HB75 := Lib.hid (box_grow HB7.out hg HpH.out.2)
      have HO5 := Lib.hid (HOW.out.grow hg (by have := HpW.out; omega))
      have HS5 := Lib.hid hs
      have HG5 := Lib.hid (grow_trans HGW7.out hg)
      have HK5 := Lib.hid (kids_grow HKW.out hg fun b hb => by have := HpW.out; have := HRH.out; have := HRR.out; have := HH6.out; omega)
      clear hs hg
      by_cases y1 : y = 1
      · subst y1
        clear hy
        have HN6 := Lib.hid (gexpr_any 1 p (v3 + 1) sl w5 (by omega) HS5.out (by have := HU.out; have c1 := gconst.1; have c2 := gconst.2.1; have c3 := gconst.2.2.1; have c4 := gconst.2.2.2; omega))
        go_wp2_with (fail)
        refine HN6.out.mono ?_
        intro e w6 hp2
        unfold GrowPost at hp2
        obtain ⟨t4, st4, v4, rfl, hf, hdt, hst, hkk, hs, hu2, hg⟩ := hp2
        have HB6 := Lib.hid (box_grow HB5.out hg HpR.out)
        have HB66 := Lib.hid (box_grow HB65.out hg HpH.out.1)
        have HB76 := Lib.hid (box_grow HB75.out hg HpH.out.2)
        have HO6 := Lib.hid (HO5.out.grow hg (by have := HpW.out; omega))
        have HS6 := Lib.hid hs
        have HG6 := Lib.hid (grow_trans HG5.out hg)
        have HF4 := Lib.hid hf
        have HD4 := Lib.hid hdt
        have HZ4 := Lib.hid hst
        have hv4 := hu2
        have HK46 : Hid (Kids (fun b => H7 < b) w6 t4.kids st4) := Lib.hid (hkk.mono fun b hb => by have h1 : w5.heap.size ≤ b := hb; have := HB75.out.lt; omega)
        clear hf hdt hst hkk hs hu2 hg
        have HN7 := Lib.hid (gblock_of d1 g IH.out p v4 sl w6 HS6.out (by have := HU.out; have c1 := gconst.1; have c2 := gconst.2.1; have c3 := gconst.2.2.1; have c4 := gconst.2.2.2; omega))
        go_wp2_with (fail)
        refine HN7.out.mono ?_
        intro e w7 hp2
        unfold GrowPost at hp2
        obtain ⟨t5, st5, v5, rfl, hf, hdt, hst, hkk, hs, hu2, hg⟩ := hp2
        have HB7 := Lib.hid (box_grow HB6.out hg HpR.out)
        have HB67 := Lib.hid (box_grow HB66.out hg HpH.out.1)
        have HB77 := Lib.hid (box_grow HB76.out hg HpH.out.2)
        have HO7 := Lib.hid (HO6.out.grow hg (by have := HpW.out; omega))
        have HS7 := Lib.hid hs
        have HG7 := Lib.hid (grow_trans HG6.out hg)
        have HF5 := Lib.hid hf
        have HD5 := Lib.hid hdt
        have HZ5 := Lib.hid hst
        have hv5 := hu2
        have HK57 : Hid (Kids (fun b => H7 < b) w7 t5.kids st5) := Lib.hid (hkk.mono fun b hb => by have h1 : w6.heap.size ≤ b := hb; have := HB76.out.lt; omega)
        have HK47 := Lib.hid (kids_grow HK46.out hg fun b hb => by have := HpW.out; have := HRH.out; have := HRR.out; have := HH6.out; have := H67.out; omega)
        clear hf hdt hst hkk hs hu2 hg
        obtain ⟨V, hV⟩ : ∃ V, V = w7.alloc (.cells #[.int .i64 t4.kind, .int .i64 t4.at_, .int .i64 t4.num, .string ⟨t4.name.toArray⟩, st4, .int .i64 t5.kind, .int .i64 t5.at_, .int .i64 t5.num, .string ⟨t5.name.toArray⟩, st5] NodeT) := ⟨_, rfl⟩
        obtain ⟨H8, hH8⟩ : ∃ H8, H8 = w7.heap.size := ⟨_, rfl⟩
        have hbV : Below w7.heap.size w7 V := by rw [hV]; exact (Below.refl _ _).alloc (Nat.le_refl _) _
        have h78 : H7 < H8 := by have := HB77.out.lt; omega
        have HROW : Hid (Kids (fun b => H7 < b) V [t4, t5] (.slice (some ⟨H8, 0, none⟩) 2 2)) := Lib.hid (by rw [hV]; exact row_two hH8 HD4.out HD5.out HK47.out HK57.out h78)
        have HBRV : Hid (Box V R NodeT #[.int .i64 0, .int .i64 0, .int .i64 0, .string ⟨#[]⟩, .slice none 0 0]) := Lib.hid (HB7.out.on hbV)
        have HB6V := Lib.hid (HB67.out.on hbV)
        have HB7V := Lib.hid (HB77.out.on hbV)
        have HOV := Lib.hid (HO7.out.below hbV)
        have HSV8 := Lib.hid (HS7.out.below hbV)
        have HGV8 := Lib.hid (grow_below HG7.out hbV)
        have HV := Lib.hid hV
        have HH8 := Lib.hid hH8
        clear hV hH8 hbV h78
        have hne1 : ¬ R = H6 := by have := HRH.out; have := HH6.out; omega
        have hne2 : ¬ H6 = R := by have := HRH.out; have := HH6.out; omega
        have hne3 : ¬ R = H7 := by have := HRH.out; have := HH6.out; have := H67.out; omega
        have hne4 : ¬ H7 = R := by have := HRH.out; have := HH6.out; have := H67.out; omega
        have hne5 : ¬ H6 = H7 := by have := H67.out; omega
        have hne6 : ¬ H7 = H6 := by have := H67.out; omega
        have HGF : Hid (w.grownBy (five V H7 (.int .i64 33) (.int .i64 0) (.int .i64 0) (.string ⟨#[]⟩) (.slice (some ⟨H8, 0, none⟩) 2 2)) (some p)) := Lib.hid (grow_five HGV8.out (by have := HRR.out; have := HRH.out; have := HH6.out; have := H67.out; omega) _ _ _ _ _)
        have HSF : Hid (Sd (five V H7 (.int .i64 33) (.int .i64 0) (.int .i64 0) (.string ⟨#[]⟩) (.slice (some ⟨H8, 0, none⟩) 2 2)) p sl v5) := Lib.hid (sd_five HS0.out HSV8.out HpH.out.2 _ _ _ _ _ HGF.out)
        have HBF : Hid (Box (five V H7 (.int .i64 33) (.int .i64 0) (.int .i64 0) (.string ⟨#[]⟩) (.slice (some ⟨H8, 0, none⟩) 2 2)) R NodeT #[.int .i64 0, .int .i64 0, .int .i64 0, .string ⟨#[]⟩, .slice none 0 0]) := Lib.hid (box_far5 HBRV.out hne3 _ _ _ _ _)
        have HB6F : Hid (Box (five V H7 (.int .i64 33) (.int .i64 0) (.int .i64 0) (.string ⟨#[]⟩) (.slice (some ⟨H8, 0, none⟩) 2 2)) H6 NodeT #[.int .i64 33, .int .i64 0, .int .i64 0, .string ⟨#[]⟩, .slice (some ⟨H2, 0, none⟩) 2 2]) := Lib.hid (box_far5 HB6V.out hne5 _ _ _ _ _)
        have HOF : Hid (OwnA (w.heap.size + 1) (fun b => b = H6 ∨ b = H7) (five V H7 (.int .i64 33) (.int .i64 0) (.int .i64 0) (.string ⟨#[]⟩) (.slice (some ⟨H8, 0, none⟩) 2 2)) [t1, t2] (.slice (some ⟨H2, 0, none⟩) 2 2)) := Lib.hid (((((HOV.out.set (Or.inr rfl) _).set (Or.inr rfl) _).set (Or.inr rfl) _).set (Or.inr rfl) _).set (Or.inr rfl) _)
        have HKF : Hid (Kids (fun b => H7 < b) (five V H7 (.int .i64 33) (.int .i64 0) (.int .i64 0) (.string ⟨#[]⟩) (.slice (some ⟨H8, 0, none⟩) 2 2)) [t4, t5] (.slice (some ⟨H8, 0, none⟩) 2 2)) := Lib.hid (kids_five HROW.out (fun b hb => by omega) _ _ _ _ _)
        have HSZF : Hid (V.heap.size = (five V H7 (.int .i64 33) (.int .i64 0) (.int .i64 0) (.string ⟨#[]⟩) (.slice (some ⟨H8, 0, none⟩) 2 2)).heap.size) := Lib.hid (size_five _ _ _ _ _ _ _).symm
        have hBr : w.heap.size + 1 ≤ (five V H7 (.int .i64 33) (.int .i64 0) (.int .i64 0) (.string ⟨#[]⟩) (.slice (some ⟨H8, 0, none⟩) 2 2)).heap.size := by have := HBF.out.lt; have := HRR.out; omega
        have bx := HB6V.out
        have q0 := bx.cell 0
        have q1 := bx.cell 1
        have q2 := bx.cell 2
        have q3 := bx.cell 3
        have q4 := bx.cell 4
        simp only [List.getElem?_toArray, List.getElem?_cons_zero, List.getElem?_cons_succ] at q0 q1 q2 q3 q4
        have qf0 := bx.frozen 0
        have qf1 := bx.frozen 1
        have qf2 := bx.frozen 2
        have qf3 := bx.frozen 3
        have qf4 := bx.frozen 4
        clear bx
        have bx := HB7V.out
        have x0 := bx.cell 0
        have x1 := bx.cell 1
        have x2 := bx.cell 2
        have x3 := bx.cell 3
        have x4 := bx.cell 4
        simp only [List.getElem?_toArray, List.getElem?_cons_zero, List.getElem?_cons_succ] at x0 x1 x2 x3 x4
        have xf0 := bx.frozen 0
        have xf1 := bx.frozen 1
        have xf2 := bx.frozen 2
        have xf3 := bx.frozen 3
        have xf4 := bx.frozen 4
        clear bx
        go_wp2_with (first | (rw [← HV.out, ← HH8.out]) | (at_builtin; (refine wpList_nodeA (p := p) (A := (fun b => b = H6 ∨ b = H7)) (w0 := w) (wr := (five V H7 (.int .i64 33) (.int .i64 0) (.int .i64 0) (.string ⟨#[]⟩) (.slice (some ⟨H8, 0, none⟩) 2 2))) rfl _ _ rfl (w.heap.size + 1) 2 [t1, t2] (.mk 33 0 0 [] [t4, t5]) (.slice (some ⟨H2, 0, none⟩) 2 2) (.slice (some ⟨H8, 0, none⟩) 2 2) _ rfl rfl HOF.out (hd_of _ _ _ _ _ (by unfold I64; omega) (by unfold I64; omega) (by unfold I64; omega) (by simp)) ((show Kids (fun b => H7 < b) _ (NT.mk 33 0 0 [] [t4, t5]).kids _ from HKF.out).mono fun b hb => ⟨by have := HRH.out; have := HRR.out; have := HH6.out; have := H67.out; omega, fun e => by injection e with e; have e3 : b = H2 := e; have := HH6.out; have := H67.out; omega, fun h => by have := H67.out; rcases h with h | h <;> omega⟩) (fun b hb => by have := HB6F.out.lt; have h7 : H7 < V.heap.size := HB7V.out.lt; have := HSZF.out; rcases hb with rfl | rfl <;> omega) HGF.out (Nat.le_succ _) hBr rfl (by omega) HSZF.out ?_); intro A4 c4 w9 ho4 hg4 hk4; have HO9 := Lib.hid ho4; have HG9 := Lib.hid hg4; have HAP := Lib.hid (apart_app HpW.out HRR.out HRH.out HH6.out HS0.out HBF.out HB6F.out HSF.out hg4 hk4); have bx := HAP.out.1; have r0 := bx.cell 0; have r1 := bx.cell 1; have r2 := bx.cell 2; have r3 := bx.cell 3; have r4 := bx.cell 4; have by6 := HAP.out.2.1; have z0 := by6.cell 0; have z1 := by6.cell 1; have z2 := by6.cell 2; have z3 := by6.cell 3; have z4 := by6.cell 4; simp only [List.getElem?_toArray, List.getElem?_cons_zero, List.getElem?_cons_succ] at r0 r1 r2 r3 r4 z0 z1 z2 z3 z4; have rf0 := bx.frozen 0; have rf1 := bx.frozen 1; have rf2 := bx.frozen 2; have rf3 := bx.frozen 3; have rf4 := bx.frozen 4; have zf4 := by6.frozen 4; clear bx by6 ho4 hg4 hk4))
        have hset := apart_set HpW.out HRR.out (by have := HRH.out; have := HH6.out; omega) HS0.out HO9.out (Or.inl rfl) HAP.out.1 HAP.out.2.2 HG9.out
        have HE := Lib.hid (grow_end (f := NT.stmt) (K := KK) (u := u) (t := .mk 33 0 0 [] [t1, t2, .mk 33 0 0 [] [t4, t5]]) HS0.out HRR.out hset.2.1 (stmt_ife HFt1.out HFt2.out ⟨Or.inr rfl, stmt_if HF4.out HF5.out⟩) (hd_of _ _ _ _ _ (by unfold I64; omega) (by unfold I64; omega) (by unfold I64; omega) (by simp)) (by simp only [size_mk, sizeL]; have := HKK.out; have c1 := gconst.1; have c2 := gconst.2.1; have c3 := gconst.2.2.1; have c4 := gconst.2.2.2; have := HZt1.out; have := HZt2.out; have := HZ4.out; have := HZ5.out; omega) hset.1 hset.2.2.1 (by have := HKK.out; have c1 := gconst.1; have c2 := gconst.2.1; have c3 := gconst.2.2.1; have c4 := gconst.2.2.2; omega) hset.2.2.2)
        exact bodyPost_ret (node_ret rfl rfl HE.out.1) rfl HE.out.2
      · have y2 : (y == 1) = false := beq_eq_false_iff_ne.2 y1
        clear y1
        have hne1 : ¬ R = H6 := by have := HRH.out; have := HH6.out; omega
        have hne2 : ¬ H6 = R := by have := HRH.out; have := HH6.out; omega
        have bx := HB65.out
        have q0 := bx.cell 0
        have q1 := bx.cell 1
        have q2 := bx.cell 2
        have q3 := bx.cell 3
        have q4 := bx.cell 4
        simp only [List.getElem?_toArray, List.getElem?_cons_zero, List.getElem?_cons_succ] at q0 q1 q2 q3 q4
        have qf0 := bx.frozen 0
        have qf1 := bx.frozen 1
        have qf2 := bx.frozen 2
        have qf3 := bx.frozen 3
        have qf4 := bx.frozen 4
        clear bx
        have bx := HB75.out
        have x0 := bx.cell 0
        have x1 := bx.cell 1
        have x2 := bx.cell 2
        have x3 := bx.cell 3
        have x4 := bx.cell 4
        simp only [List.getElem?_toArray, List.getElem?_cons_zero, List.getElem?_cons_succ] at x0 x1 x2 x3 x4
        have xf0 := bx.frozen 0
        have xf1 := bx.frozen 1
        have xf2 := bx.frozen 2
        have xf3 := bx.frozen 3
        have xf4 := bx.frozen 4
        clear bx
        have hBr : w.heap.size + 1 ≤ w5.heap.size := by have := HB5.out.lt; have := HRR.out; omega
        go_wp2_with (at_builtin; (refine wpList_nodeA (p := p) (A := (fun b => b = H6 ∨ b = H7)) (w0 := w) (wr := w5) rfl _ _ rfl (w.heap.size + 1) 2 [t1, t2] t3 (.slice (some ⟨H2, 0, none⟩) 2 2) (.slice A9 n9 c9) _ rfl rfl HO5.out HD3.out (HK5.out.mono fun b hb => ⟨by have := HRH.out; have := HRR.out; have := HH6.out; omega, fun e => by injection e with e; have e3 : b = H2 := e; have := HH6.out; omega, fun h => by rcases h with h | h <;> omega⟩) (fun b hb => by have := HB75.out.lt; have := H67.out; rcases hb with rfl | rfl <;> omega) HG5.out (Nat.le_succ _) hBr rfl (by omega) rfl ?_); intro A4 c4 w9 ho4 hg4 hk4; have HO9 := Lib.hid ho4; have HG9 := Lib.hid hg4; have HAP := Lib.hid (apart_app HpW.out HRR.out HRH.out HH6.out HS0.out HB5.out HB65.out HS5.out hg4 hk4); have bx := HAP.out.1; have r0 := bx.cell 0; have r1 := bx.cell 1; have r2 := bx.cell 2; have r3 := bx.cell 3; have r4 := bx.cell 4; have by6 := HAP.out.2.1; have z0 := by6.cell 0; have z1 := by6.cell 1; have z2 := by6.cell 2; have z3 := by6.cell 3; have z4 := by6.cell 4; simp only [List.getElem?_toArray, List.getElem?_cons_zero, List.getElem?_cons_succ] at r0 r1 r2 r3 r4 z0 z1 z2 z3 z4; have rf0 := bx.frozen 0; have rf1 := bx.frozen 1; have rf2 := bx.frozen 2; have rf3 := bx.frozen 3; have rf4 := bx.frozen 4; have zf4 := by6.frozen 4; clear bx by6 ho4 hg4 hk4)
        have hset := apart_set HpW.out HRR.out (by have := HRH.out; have := HH6.out; omega) HS0.out HO9.out (Or.inl rfl) HAP.out.1 HAP.out.2.2 HG9.out
        have HE := Lib.hid (grow_end (f := NT.stmt) (K := KK) (u := u) (t := .mk 33 0 0 [] [t1, t2, t3]) HS0.out HRR.out hset.2.1 (stmt_ife HFt1.out HFt2.out ⟨Or.inl (blk_parts HF3.out).1, (blk_parts HF3.out).2⟩) (hd_of _ _ _ _ _ (by unfold I64; omega) (by unfold I64; omega) (by unfold I64; omega) (by simp)) (by simp only [size_mk, sizeL]; have := HKK.out; have c1 := gconst.1; have c2 := gconst.2.1; have c3 := gconst.2.2.1; have c4 := gconst.2.2.2; have := HZt1.out; have := HZt2.out; have := HZ3.out; omega) hset.1 hset.2.2.1 (by have := HKK.out; have c1 := gconst.1; have c2 := gconst.2.1; have c3 := gconst.2.2.1; have c4 := gconst.2.2.2; omega) hset.2.2.2)
        exact bodyPost_ret (node_ret rfl rfl HE.out.1) rfl HE.out.2
    · clear hk
      have HN2 := Lib.hid (word_any p (u + 1) sl w1 HS1.out (by have := HU.out; omega))
      go_wp2_with (fail)
      refine HN2.out.mono ?_
      intro e w2 hp2
      unfold WordPost at hp2
      obtain ⟨nm, rfl, hnm, hs, hg⟩ := hp2
      have HNM := Lib.hid hnm
      clear hnm
      have HS2 := Lib.hid hs
      have HB2 := Lib.hid (box_grow HB1.out hg HpR.out)
      have HG2 := Lib.hid (grow_trans HG1.out hg)
      have HX2 : Hid (w.heap.size < w2.heap.size) := Lib.hid (by have := hg.size; have := HX1.out; omega)
      clear hs hg
      have HN3 := Lib.hid (gexpr_any 3 p (u + 1 + 1) sl w2 (by omega) HS2.out (by have := HU.out; have c1 := gconst.1; have c2 := gconst.2.1; have c3 := gconst.2.2.1; have c4 := gconst.2.2.2; omega))
      go_wp2_with (fail)
      refine HN3.out.mono ?_
      intro e w3 hp2
      unfold GrowPost at hp2
      obtain ⟨t1, st1, v1, rfl, hf, hdt, hst, hkk, hs, hu2, hg⟩ := hp2
      have HS3 := Lib.hid hs
      have HB3 := Lib.hid (box_grow HB2.out hg HpR.out)
      have HG3 := Lib.hid (grow_trans HG2.out hg)
      have HX3 : Hid (w.heap.size < w3.heap.size) := Lib.hid (by have := hg.size; have := HX2.out; omega)
      have HFt1 := Lib.hid hf
      have HDt1 := Lib.hid hdt
      have HZt1 := Lib.hid hst
      have HUt1 := Lib.hid hu2
      have HKt1 : Hid (Kids (fun b => w.heap.size < b) w3 t1.kids st1) := Lib.hid (hkk.mono fun b hb => by have := HX2.out; omega)
      clear hf hdt hst hkk hs hu2 hg
      obtain ⟨V, hV⟩ : ∃ V, V = w3.alloc (.cells #[.int .i64 t1.kind, .int .i64 t1.at_, .int .i64 t1.num, .string ⟨t1.name.toArray⟩, st1] NodeT) := ⟨_, rfl⟩
      obtain ⟨H2, hH2⟩ : ∃ H2, H2 = w3.heap.size := ⟨_, rfl⟩
      have hbV : Below w3.heap.size w3 V := by rw [hV]; exact (Below.refl _ _).alloc (Nat.le_refl _) _
      have hrow : Kids (fun b => w.heap.size < b) V [t1] (.slice (some ⟨H2, 0, none⟩) 1 1) := by rw [hV]; exact row_one hH2 HDt1.out HKt1.out (by have := HX3.out; omega)
      have HBV := Lib.hid (HB3.out.on hbV)
      have HE := Lib.hid (grow_end (f := NT.stmt) (K := KK) (u := u) (t := .mk 31 0 0 nm [t1]) HS0.out HRR.out HBV.out (stmt_var HNM.out.1 HFt1.out) (hd_of _ _ _ _ _ (by unfold I64; omega) (by unfold I64; omega) (by unfold I64; omega) (HNM.out.2)) (by simp only [size_mk, sizeL]; have := HKK.out; have c1 := gconst.1; have c2 := gconst.2.1; have c3 := gconst.2.2.1; have c4 := gconst.2.2.2; have := HZt1.out; omega) hrow (HS3.out.below hbV) (by have := HKK.out; have c1 := gconst.1; have c2 := gconst.2.1; have c3 := gconst.2.2.1; have c4 := gconst.2.2.2; have := HUt1.out; omega) (grow_below HG3.out hbV))
      have HV := Lib.hid hV
      have HH2 := Lib.hid hH2
      have bx := HBV.out
      have r0 := bx.cell 0
      have r1 := bx.cell 1
      have r2 := bx.cell 2
      have r3 := bx.cell 3
      have r4 := bx.cell 4
      simp only [List.getElem?_toArray, List.getElem?_cons_zero, List.getElem?_cons_succ] at r0 r1 r2 r3 r4
      have rf0 := bx.frozen 0
      have rf1 := bx.frozen 1
      have rf2 := bx.frozen 2
      have rf3 := bx.frozen 3
      have rf4 := bx.frozen 4
      clear bx hV hH2 hbV hrow
      go_wp2_with (first | (rw [← HV.out, ← HH2.out]))
      exact bodyPost_ret (node_ret rfl rfl HE.out.1) rfl HE.out.2
    · clear hk
      have HN2 := Lib.hid (gplace_any 2 p (u + 1) sl w1 (by omega) HS1.out (by have := HU.out; have c1 := gconst.1; have c2 := gconst.2.1; have c3 := gconst.2.2.1; have c4 := gconst.2.2.2; omega))
      go_wp2_with (fail)
      refine HN2.out.mono ?_
      intro e w2 hp2
      unfold GrowPost at hp2
      obtain ⟨t1, st1, v1, rfl, hf, hdt, hst, hkk, hs, hu2, hg⟩ := hp2
      have HS2 := Lib.hid hs
      have HB2 := Lib.hid (box_grow HB1.out hg HpR.out)
      have HG2 := Lib.hid (grow_trans HG1.out hg)
      have HX2 : Hid (w.heap.size < w2.heap.size) := Lib.hid (by have := hg.size; have := HX1.out; omega)
      have HFt1 := Lib.hid hf
      have HDt1 := Lib.hid hdt
      have HZt1 := Lib.hid hst
      have HUt1 := Lib.hid hu2
      have HKt1 : Hid (Kids (fun b => w.heap.size < b) w2 t1.kids st1) := Lib.hid (hkk.mono fun b hb => by have := HX1.out; omega)
      clear hf hdt hst hkk hs hu2 hg
      have hv1 := HUt1.out
      have HN3 := Lib.hid (gexpr_any 3 p v1 sl w2 (by omega) HS2.out (by have := HU.out; have c1 := gconst.1; have c2 := gconst.2.1; have c3 := gconst.2.2.1; have c4 := gconst.2.2.2; omega))
      go_wp2_with (fail)
      refine HN3.out.mono ?_
      intro e w3 hp2
      unfold GrowPost at hp2
      obtain ⟨t2, st2, v2, rfl, hf, hdt, hst, hkk, hs, hu2, hg⟩ := hp2
      have HS3 := Lib.hid hs
      have HB3 := Lib.hid (box_grow HB2.out hg HpR.out)
      have HG3 := Lib.hid (grow_trans HG2.out hg)
      have HX3 : Hid (w.heap.size < w3.heap.size) := Lib.hid (by have := hg.size; have := HX2.out; omega)
      replace HKt1 : Hid (Kids (fun b => w.heap.size < b) w3 t1.kids st1) := Lib.hid (kids_grow HKt1.out hg fun b hb => by have := HpW.out; omega)
      have HFt2 := Lib.hid hf
      have HDt2 := Lib.hid hdt
      have HZt2 := Lib.hid hst
      have HUt2 := Lib.hid hu2
      have HKt2 : Hid (Kids (fun b => w.heap.size < b) w3 t2.kids st2) := Lib.hid (hkk.mono fun b hb => by have := HX2.out; omega)
      clear hf hdt hst hkk hs hu2 hg
      clear hv1
      obtain ⟨V, hV⟩ : ∃ V, V = w3.alloc (.cells #[.int .i64 t1.kind, .int .i64 t1.at_, .int .i64 t1.num, .string ⟨t1.name.toArray⟩, st1, .int .i64 t2.kind, .int .i64 t2.at_, .int .i64 t2.num, .string ⟨t2.name.toArray⟩, st2] NodeT) := ⟨_, rfl⟩
      obtain ⟨H2, hH2⟩ : ∃ H2, H2 = w3.heap.size := ⟨_, rfl⟩
      have hbV : Below w3.heap.size w3 V := by rw [hV]; exact (Below.refl _ _).alloc (Nat.le_refl _) _
      have hrow : Kids (fun b => w.heap.size < b) V [t1, t2] (.slice (some ⟨H2, 0, none⟩) 2 2) := by rw [hV]; exact row_two hH2 HDt1.out HDt2.out HKt1.out HKt2.out (by have := HX3.out; omega)
      have HBV := Lib.hid (HB3.out.on hbV)
      have HE := Lib.hid (grow_end (f := NT.stmt) (K := KK) (u := u) (t := .mk 32 0 0 [] [t1, t2]) HS0.out HRR.out HBV.out (stmt_set HFt1.out HFt2.out) (hd_of _ _ _ _ _ (by unfold I64; omega) (by unfold I64; omega) (by unfold I64; omega) (by simp)) (by simp only [size_mk, sizeL]; have := HKK.out; have c1 := gconst.1; have c2 := gconst.2.1; have c3 := gconst.2.2.1; have c4 := gconst.2.2.2; have := HZt1.out; have := HZt2.out; omega) hrow (HS3.out.below hbV) (by have := HKK.out; have c1 := gconst.1; have c2 := gconst.2.1; have c3 := gconst.2.2.1; have c4 := gconst.2.2.2; have := HUt1.out; have := HUt2.out; omega) (grow_below HG3.out hbV))
      have HV := Lib.hid hV
      have HH2 := Lib.hid hH2
      have bx := HBV.out
      have r0 := bx.cell 0
      have r1 := bx.cell 1
      have r2 := bx.cell 2
      have r3 := bx.cell 3
      have r4 := bx.cell 4
      simp only [List.getElem?_toArray, List.getElem?_cons_zero, List.getElem?_cons_succ] at r0 r1 r2 r3 r4
      have rf0 := bx.frozen 0
      have rf1 := bx.frozen 1
      have rf2 := bx.frozen 2
      have rf3 := bx.frozen 3
      have rf4 := bx.frozen 4
      clear bx hV hH2 hbV hrow
      go_wp2_with (first | (rw [← HV.out, ← HH2.out]))
      exact bodyPost_ret (node_ret rfl rfl HE.out.1) rfl HE.out.2
    · clear hk
      have HN2 := Lib.hid (next_any 2 p (u + 1) sl w1 (by decide) HS1.out (by have := HU.out; omega))
      go_wp2_with (fail)
      refine HN2.out.mono ?_
      intro e w2 hp2
      unfold NextPost at hp2
      obtain ⟨y, rfl, hy, hs, hg⟩ := hp2
      have HS2 := Lib.hid hs
      have HB2 := Lib.hid (box_grow HB1.out hg HpR.out)
      have HG2 := Lib.hid (grow_trans HG1.out hg)
      have HX2 : Hid (w.heap.size < w2.heap.size) := Lib.hid (by have := hg.size; have := HX1.out; omega)
      clear hs hg
      by_cases y0 : y = 0
      · subst y0
        clear hy
        have HE := Lib.hid (grow_end (f := NT.stmt) (K := KK) (u := u) (t := .mk 35 0 0 [] []) HS0.out HRR.out HB2.out (stmt_ret0) (hd_of _ _ _ _ _ (by unfold I64; omega) (by unfold I64; omega) (by unfold I64; omega) (by simp)) (by simp only [size_mk, sizeL]; have := HKK.out; have c1 := gconst.1; have c2 := gconst.2.1; have c3 := gconst.2.2.1; have c4 := gconst.2.2.2; omega) (nil_kids _ _) HS2.out (by have := HKK.out; have c1 := gconst.1; have c2 := gconst.2.1; have c3 := gconst.2.2.1; have c4 := gconst.2.2.2; omega) HG2.out)
        have bx := HB2.out
        have r0 := bx.cell 0
        have r1 := bx.cell 1
        have r2 := bx.cell 2
        have r3 := bx.cell 3
        have r4 := bx.cell 4
        simp only [List.getElem?_toArray, List.getElem?_cons_zero, List.getElem?_cons_succ] at r0 r1 r2 r3 r4
        have rf0 := bx.frozen 0
        have rf1 := bx.frozen 1
        have rf2 := bx.frozen 2
        have rf3 := bx.frozen 3
        have rf4 := bx.frozen 4
        clear bx
        go_wp2_with (fail)
        exact bodyPost_ret (node_ret rfl rfl HE.out.1) rfl HE.out.2
      · have y1 : (y == 0) = false := beq_eq_false_iff_ne.2 y0
        clear y0
        have HN3 := Lib.hid (gexpr_any 2 p (u + 1 + 1) sl w2 (by omega) HS2.out (by have := HU.out; have c1 := gconst.1; have c2 := gconst.2.1; have c3 := gconst.2.2.1; have c4 := gconst.2.2.2; omega))
        go_wp2_with (fail)
        refine HN3.out.mono ?_
        intro e w3 hp2
        unfold GrowPost at hp2
        obtain ⟨t1, st1, v1, rfl, hf, hdt, hst, hkk, hs, hu2, hg⟩ := hp2
        have HS3 := Lib.hid hs
        have HB3 := Lib.hid (box_grow HB2.out hg HpR.out)
        have HG3 := Lib.hid (grow_trans HG2.out hg)
        have HX3 : Hid (w.heap.size < w3.heap.size) := Lib.hid (by have := hg.size; have := HX2.out; omega)
        have HFt1 := Lib.hid hf
        have HDt1 := Lib.hid hdt
        have HZt1 := Lib.hid hst
        have HUt1 := Lib.hid hu2
        have HKt1 : Hid (Kids (fun b => w.heap.size < b) w3 t1.kids st1) := Lib.hid (hkk.mono fun b hb => by have := HX2.out; omega)
        clear hf hdt hst hkk hs hu2 hg
        obtain ⟨V, hV⟩ : ∃ V, V = w3.alloc (.cells #[.int .i64 t1.kind, .int .i64 t1.at_, .int .i64 t1.num, .string ⟨t1.name.toArray⟩, st1] NodeT) := ⟨_, rfl⟩
        obtain ⟨H2, hH2⟩ : ∃ H2, H2 = w3.heap.size := ⟨_, rfl⟩
        have hbV : Below w3.heap.size w3 V := by rw [hV]; exact (Below.refl _ _).alloc (Nat.le_refl _) _
        have hrow : Kids (fun b => w.heap.size < b) V [t1] (.slice (some ⟨H2, 0, none⟩) 1 1) := by rw [hV]; exact row_one hH2 HDt1.out HKt1.out (by have := HX3.out; omega)
        have HBV := Lib.hid (HB3.out.on hbV)
        have HE := Lib.hid (grow_end (f := NT.stmt) (K := KK) (u := u) (t := .mk 35 0 0 [] [t1]) HS0.out HRR.out HBV.out (stmt_ret1 HFt1.out) (hd_of _ _ _ _ _ (by unfold I64; omega) (by unfold I64; omega) (by unfold I64; omega) (by simp)) (by simp only [size_mk, sizeL]; have := HKK.out; have c1 := gconst.1; have c2 := gconst.2.1; have c3 := gconst.2.2.1; have c4 := gconst.2.2.2; have := HZt1.out; omega) hrow (HS3.out.below hbV) (by have := HKK.out; have c1 := gconst.1; have c2 := gconst.2.1; have c3 := gconst.2.2.1; have c4 := gconst.2.2.2; have := HUt1.out; omega) (grow_below HG3.out hbV))
        have HV := Lib.hid hV
        have HH2 := Lib.hid hH2
        have bx := HBV.out
        have r0 := bx.cell 0
        have r1 := bx.cell 1
        have r2 := bx.cell 2
        have r3 := bx.cell 3
        have r4 := bx.cell 4
        simp only [List.getElem?_toArray, List.getElem?_cons_zero, List.getElem?_cons_succ] at r0 r1 r2 r3 r4
        have rf0 := bx.frozen 0
        have rf1 := bx.frozen 1
        have rf2 := bx.frozen 2
        have rf3 := bx.frozen 3
        have rf4 := bx.frozen 4
        clear bx hV hH2 hbV hrow
        go_wp2_with (first | (rw [← HV.out, ← HH2.out]))
        exact bodyPost_ret (node_ret rfl rfl HE.out.1) rfl HE.out.2
    · clear hk
      have HN2 := Lib.hid (word_any p (u + 1) sl w1 HS1.out (by have := HU.out; omega))
      go_wp2_with (fail)
      refine HN2.out.mono ?_
      intro e w2 hp2
      unfold WordPost at hp2
      obtain ⟨nm, rfl, hnm, hs, hg⟩ := hp2
      have HNM := Lib.hid hnm
      clear hnm
      have HS2 := Lib.hid hs
      have HB2 := Lib.hid (box_grow HB1.out hg HpR.out)
      have HG2 := Lib.hid (grow_trans HG1.out hg)
      have HX2 : Hid (w.heap.size < w2.heap.size) := Lib.hid (by have := hg.size; have := HX1.out; omega)
      clear hs hg
      have HE := Lib.hid (grow_end (f := NT.stmt) (K := KK) (u := u) (t := .mk 36 0 0 nm []) HS0.out HRR.out HB2.out (stmt_join HNM.out.1) (hd_of _ _ _ _ _ (by unfold I64; omega) (by unfold I64; omega) (by unfold I64; omega) (HNM.out.2)) (by simp only [size_mk, sizeL]; have := HKK.out; have c1 := gconst.1; have c2 := gconst.2.1; have c3 := gconst.2.2.1; have c4 := gconst.2.2.2; omega) (nil_kids _ _) HS2.out (by have := HKK.out; have c1 := gconst.1; have c2 := gconst.2.1; have c3 := gconst.2.2.1; have c4 := gconst.2.2.2; omega) HG2.out)
      have bx := HB2.out
      have r0 := bx.cell 0
      have r1 := bx.cell 1
      have r2 := bx.cell 2
      have r3 := bx.cell 3
      have r4 := bx.cell 4
      simp only [List.getElem?_toArray, List.getElem?_cons_zero, List.getElem?_cons_succ] at r0 r1 r2 r3 r4
      have rf0 := bx.frozen 0
      have rf1 := bx.frozen 1
      have rf2 := bx.frozen 2
      have rf3 := bx.frozen 3
      have rf4 := bx.frozen 4
      clear bx
      go_wp2_with (fail)
      exact bodyPost_ret (node_ret rfl rfl HE.out.1) rfl HE.out.2
    · clear hk
      have HN2 := Lib.hid (gexpr_any 2 p (u + 1) sl w1 (by omega) HS1.out (by have := HU.out; have c1 := gconst.1; have c2 := gconst.2.1; have c3 := gconst.2.2.1; have c4 := gconst.2.2.2; omega))
      go_wp2_with (fail)
      refine HN2.out.mono ?_
      intro e w2 hp2
      unfold GrowPost at hp2
      obtain ⟨t1, st1, v1, rfl, hf, hdt, hst, hkk, hs, hu2, hg⟩ := hp2
      have HS2 := Lib.hid hs
      have HB2 := Lib.hid (box_grow HB1.out hg HpR.out)
      have HG2 := Lib.hid (grow_trans HG1.out hg)
      have HX2 : Hid (w.heap.size < w2.heap.size) := Lib.hid (by have := hg.size; have := HX1.out; omega)
      have HFt1 := Lib.hid hf
      have HDt1 := Lib.hid hdt
      have HZt1 := Lib.hid hst
      have HUt1 := Lib.hid hu2
      have HKt1 : Hid (Kids (fun b => w.heap.size < b) w2 t1.kids st1) := Lib.hid (hkk.mono fun b hb => by have := HX1.out; omega)
      clear hf hdt hst hkk hs hu2 hg
      obtain ⟨V, hV⟩ : ∃ V, V = w2.alloc (.cells #[.int .i64 t1.kind, .int .i64 t1.at_, .int .i64 t1.num, .string ⟨t1.name.toArray⟩, st1] NodeT) := ⟨_, rfl⟩
      obtain ⟨H2, hH2⟩ : ∃ H2, H2 = w2.heap.size := ⟨_, rfl⟩
      have hbV : Below w2.heap.size w2 V := by rw [hV]; exact (Below.refl _ _).alloc (Nat.le_refl _) _
      have hrow : Kids (fun b => w.heap.size < b) V [t1] (.slice (some ⟨H2, 0, none⟩) 1 1) := by rw [hV]; exact row_one hH2 HDt1.out HKt1.out (by have := HX2.out; omega)
      have HBV := Lib.hid (HB2.out.on hbV)
      have HE := Lib.hid (grow_end (f := NT.stmt) (K := KK) (u := u) (t := .mk 37 0 0 [] [t1]) HS0.out HRR.out HBV.out (stmt_print HFt1.out) (hd_of _ _ _ _ _ (by unfold I64; omega) (by unfold I64; omega) (by unfold I64; omega) (by simp)) (by simp only [size_mk, sizeL]; have := HKK.out; have c1 := gconst.1; have c2 := gconst.2.1; have c3 := gconst.2.2.1; have c4 := gconst.2.2.2; have := HZt1.out; omega) hrow (HS2.out.below hbV) (by have := HKK.out; have c1 := gconst.1; have c2 := gconst.2.1; have c3 := gconst.2.2.1; have c4 := gconst.2.2.2; have := HUt1.out; omega) (grow_below HG2.out hbV))
      have HV := Lib.hid hV
      have HH2 := Lib.hid hH2
      have bx := HBV.out
      have r0 := bx.cell 0
      have r1 := bx.cell 1
      have r2 := bx.cell 2
      have r3 := bx.cell 3
      have r4 := bx.cell 4
      simp only [List.getElem?_toArray, List.getElem?_cons_zero, List.getElem?_cons_succ] at r0 r1 r2 r3 r4
      have rf0 := bx.frozen 0
      have rf1 := bx.frozen 1
      have rf2 := bx.frozen 2
      have rf3 := bx.frozen 3
      have rf4 := bx.frozen 4
      clear bx hV hH2 hbV hrow
      go_wp2_with (first | (rw [← HV.out, ← HH2.out]))
      exact bodyPost_ret (node_ret rfl rfl HE.out.1) rfl HE.out.2
    · clear hk
      have HN2 := Lib.hid (word_any p (u + 1) sl w1 HS1.out (by have := HU.out; omega))
      go_wp2_with (fail)
      refine HN2.out.mono ?_
      intro e w2 hp2
      unfold WordPost at hp2
      obtain ⟨nm, rfl, hnm, hs, hg⟩ := hp2
      have HNM := Lib.hid hnm
      clear hnm
      have HS2 := Lib.hid hs
      have HB2 := Lib.hid (box_grow HB1.out hg HpR.out)
      have HG2 := Lib.hid (grow_trans HG1.out hg)
      have HX2 : Hid (w.heap.size < w2.heap.size) := Lib.hid (by have := hg.size; have := HX1.out; omega)
      clear hs hg
      have HN3 := Lib.hid (gexprs_any 2 (fun p u sl w h1 h2 => gexpr_any 2 p u sl w (by omega) h1 h2) p (u + 1 + 1) sl w2 HS2.out (by have := HU.out; have c1 := gconst.1; have c2 := gconst.2.1; have c3 := gconst.2.2.1; have c4 := gconst.2.2.2; omega))
      go_wp2_with (fail)
      refine HN3.out.mono ?_
      intro e w3 hp2
      unfold GrowsPost at hp2
      obtain ⟨l, lv, v3, rfl, hf, hst, hln, ho2, hnil, hs, hu2, hg⟩ := hp2
      have HS3 := Lib.hid hs
      have HB3 := Lib.hid (box_grow HB2.out hg HpR.out)
      have HG3 := Lib.hid (grow_trans HG2.out hg)
      have HX3 : Hid (w.heap.size < w3.heap.size) := Lib.hid (by have := hg.size; have := HX2.out; omega)
      have hkl := ho2.kids
      obtain ⟨A9, c9, rfl⟩ := ho2.form
      obtain ⟨n9, hn9⟩ : ∃ n9, n9 = l.length := ⟨_, rfl⟩
      rw [← hn9] at hkl ⊢
      have HKL : Hid (Kids (fun b => w.heap.size < b) w3 (NT.mk 17 0 0 nm l).kids (.slice A9 n9 c9)) := Lib.hid (hkl.mono fun b hb => by have := HX2.out; omega)
      have HFl := Lib.hid hf
      have HZl := Lib.hid hst
      have HUl := Lib.hid hu2
      clear hn9 hkl ho2 hnil hs hg hf hln hst hu2
      obtain ⟨V, hV⟩ : ∃ V, V = w3.alloc (.cells #[.int .i64 17, .int .i64 0, .int .i64 0, .string ⟨nm.toArray⟩, .slice A9 n9 c9] NodeT) := ⟨_, rfl⟩
      obtain ⟨H2, hH2⟩ : ∃ H2, H2 = w3.heap.size := ⟨_, rfl⟩
      have hbV : Below w3.heap.size w3 V := by rw [hV]; exact (Below.refl _ _).alloc (Nat.le_refl _) _
      have hrow : Kids (fun b => w.heap.size < b) V [NT.mk 17 0 0 nm l] (.slice (some ⟨H2, 0, none⟩) 1 1) := by rw [hV]; exact row_one (t := .mk 17 0 0 nm l) hH2 (hd_of _ _ _ _ _ (by unfold I64; omega) (by unfold I64; omega) (by unfold I64; omega) (HNM.out.2)) HKL.out (by have := HX3.out; omega)
      have HBV := Lib.hid (HB3.out.on hbV)
      have HE := Lib.hid (grow_end (f := NT.stmt) (K := KK) (u := u) (t := .mk 38 0 0 [] [NT.mk 17 0 0 nm l]) HS0.out HRR.out HBV.out (stmt_do HNM.out.1 HFl.out) (hd_of _ _ _ _ _ (by unfold I64; omega) (by unfold I64; omega) (by unfold I64; omega) (by simp)) (by simp only [size_mk, sizeL]; have := HKK.out; have c1 := gconst.1; have c2 := gconst.2.1; have c3 := gconst.2.2.1; have c4 := gconst.2.2.2; have := HZl.out; omega) hrow (HS3.out.below hbV) (by have := HKK.out; have c1 := gconst.1; have c2 := gconst.2.1; have c3 := gconst.2.2.1; have c4 := gconst.2.2.2; have := HUl.out; omega) (grow_below HG3.out hbV))
      have HV := Lib.hid hV
      have HH2 := Lib.hid hH2
      have bx := HBV.out
      have r0 := bx.cell 0
      have r1 := bx.cell 1
      have r2 := bx.cell 2
      have r3 := bx.cell 3
      have r4 := bx.cell 4
      simp only [List.getElem?_toArray, List.getElem?_cons_zero, List.getElem?_cons_succ] at r0 r1 r2 r3 r4
      have rf0 := bx.frozen 0
      have rf1 := bx.frozen 1
      have rf2 := bx.frozen 2
      have rf3 := bx.frozen 3
      have rf4 := bx.frozen 4
      clear bx hV hH2 hbV hrow
      go_wp2_with (first | (rw [← HV.out, ← HH2.out]))
      exact bodyPost_ret (node_ret rfl rfl HE.out.1) rfl HE.out.2
end Go.Proofs.YtkmkeaeaalnbjaaDoor.nt

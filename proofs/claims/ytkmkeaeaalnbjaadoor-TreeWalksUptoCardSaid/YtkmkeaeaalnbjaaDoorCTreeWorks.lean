/- The layer's works() answers true; Small. -/
import Derived.Test.YtkmkeaeaalnbjaaDoorCTreeIs
import Derived.Test.YtkmkeaeaalnbjaaDoorCGrowType
namespace Go.Proofs.YtkmkeaeaalnbjaaDoor.nt
open Go.RowKit mem wd lx

theorem psmall_any (G : Nat → Prop) (t : NT) (hd : Hd t) (hz : t.size ≤ 1073741824) (s : Value) (w : World) (h : Kids G w t.kids s) :
    Calls Tryd.prog 8 #[.agg #[.int .i64 t.kind, .int .i64 t.at_, .int .i64 t.num, .string ⟨t.name.toArray⟩, s]] w fun e w' => e = .returned (.int .i64 (if 400 < t.size then 0 else 1)) ∧ Below w.heap.size w w' := by
  obtain ⟨W, hW⟩ : ∃ W, W = w.alloc (.cells #[.int .i64 t.kind, .int .i64 t.at_, .int .i64 t.num, .string ⟨t.name.toArray⟩, s] NodeT) := ⟨_, rfl⟩
  obtain ⟨K, hK⟩ : ∃ K, K = w.heap.size := ⟨_, rfl⟩
  have hbW : Below w.heap.size w W := by rw [hW]; exact (Below.refl _ _).alloc (Nat.le_refl _) _
  have hn : NodeAt W K t s := by rw [hW, hK]; exact NodeAt.new w t s
  have HWK := Lib.hid (rwalk_any (G := G) t hd s W (h.below hbW) hz)
  obtain ⟨a0, a1, a2, a3, a4⟩ := hn
  have HB := Lib.hid hbW
  have HW := Lib.hid hW
  have HKK := Lib.hid hK
  have hwl := walk_len t
  obtain ⟨R, hR⟩ : ∃ R : Int, R = if 400 < t.size then 0 else 1 := ⟨_, rfl⟩
  rw [← hR]
  have HR := Lib.hid hR
  clear hbW hK hW h hR
  go_enter Tryd.func8, Tryd.ntmps8
  go_wp2_with (first | (rw [← HW.out, ← HKK.out]))
  refine HWK.out.mono ?_
  intro e w1 hp
  unfold WalkPost at hp
  obtain ⟨v, rfl, ho, hb⟩ := hp
  obtain ⟨A, c, rfl⟩ := ho.form
  rw [hwl]
  have HE := Lib.hid (HB.out.trans (hb.mono HB.out.size))
  obtain ⟨N, hN⟩ : ∃ N, N = t.size := ⟨_, rfl⟩
  rw [← hN] at hz HR ⊢
  clear hb ho hwl hN
  by_cases h4 : 400 < N
  · have h4' : (400 : Int) < (N : Int) := by omega
    rw [if_pos h4] at HR
    go_wp2_with (fail)
    go_ret
    exact ⟨by rw [HR.out]; rfl, HE.out⟩
  · have h4' : decide ((400 : Int) < (N : Int)) = false := by rw [decide_eq_false_iff_not]; omega
    rw [if_neg h4] at HR
    go_wp2_with (fail)
    go_ret
    exact ⟨by rw [HR.out]; rfl, HE.out⟩
/-! ### works -/
def nB : NT := .mk 30 0 0 [] []
def nP : NT := .mk 55 0 0 [] [nB]
theorem nB_stmt : nB.stmt = true := by unfold nB; rw [stmt_mk]; simp [aloneN, stmtL]
theorem nP_prog : progN nP = true := by
  have h : nB.blk = true := by unfold NT.blk; rw [nB_stmt]; rfl
  unfold nP; rw [prog_mk]; simp [aloneN, lastB, h]
theorem nB_prog : progN nB = false := by unfold nB; rw [prog_mk]; rfl
theorem nP_size : nP.size = 2 := by unfold nP nB; simp [size_mk, sizeL]
theorem nP_deep : nP.deepW = 2 := by unfold nP nB; simp [deepW_mk, deepL, wrap64]; rfl
theorem nP_find : findN nP [30] = [nB] := by unfold findN nP nB; simp [walk_mk, walkL, NT.kind]
theorem hd_nB : Hd nB := hd_of _ _ _ _ _ (by unfold vt.I64; omega) (by unfold vt.I64; omega) (by unfold vt.I64; omega) (by simp)
theorem hd_nP : Hd nP := hd_of _ _ _ _ _ (by unfold vt.I64; omega) (by unfold vt.I64; omega) (by unfold vt.I64; omega) (by simp)
set_option maxHeartbeats 4000000 in
set_option maxRecDepth 100000 in
theorem pworks_any (w : World) (hL : LD w) : Calls Tryd.prog 7 #[] w fun e w' => e = .returned (.bool true) ∧ Below w.heap.size w w' := by
  obtain ⟨K, hK⟩ : ∃ K, K = w.heap.size := ⟨_, rfl⟩
  obtain ⟨W, hW⟩ : ∃ W, W = ((w.alloc (.cells #[.int .i64 30, .int .i64 0, .int .i64 0, .string ⟨#[]⟩, .slice none 0 0] NodeT)).alloc (.cells #[.int .i64 30, .int .i64 0, .int .i64 0, .string ⟨#[]⟩, .slice none 0 0] NodeT)).alloc (.cells #[.int .i64 55, .int .i64 0, .int .i64 0, .string ⟨#[]⟩, .slice (some ⟨K + 1, 0, none⟩) 1 1] NodeT) := ⟨_, rfl⟩
  have b1 : ∀ (w1 : World) o, Below w1.heap.size w1 (w1.alloc o) := fun w1 o => (Below.refl _ _).alloc (Nat.le_refl _) o
  have hbW : Below w.heap.size w W := by rw [hW]; exact (((b1 w _).trans ((b1 _ _).mono (by simp))).trans ((b1 _ _).mono (by simp; omega)))
  have hnB : NodeAt W K nB (.slice none 0 0) := by rw [hW, hK]; exact ((NodeAt.new w nB _).below (b1 _ _)).below (b1 _ _)
  have hz2 : ((w.alloc (.cells #[.int .i64 30, .int .i64 0, .int .i64 0, .string ⟨#[]⟩, .slice none 0 0] NodeT)).alloc (.cells #[.int .i64 30, .int .i64 0, .int .i64 0, .string ⟨#[]⟩, .slice none 0 0] NodeT)).heap.size = K + 2 := by rw [hK]; simp
  have hnP : NodeAt W (K + 2) nP (.slice (some ⟨K + 1, 0, none⟩) 1 1) := by rw [hW, ← hz2]; exact NodeAt.new _ nP _
  have hkP : Kids (fun _ => True) W nP.kids (.slice (some ⟨K + 1, 0, none⟩) 1 1) := by
    rw [hW]
    exact (row_one (G := fun _ => True) (t := nB) (s := .slice none 0 0) (N := K + 1) (by rw [hK]; simp) hd_nB (Kids.nil_ _ _) trivial).below (b1 _ _)
  have hLW := hL.on hbW
  have kP : ∀ w', Below W.heap.size W w' → Kids (fun _ => True) w' nP.kids (.slice (some ⟨K + 1, 0, none⟩) 1 1) := fun w' hb => hkP.below hb
  have H1 : Hid (∀ (w' : World), Below W.heap.size W w' → Calls Tryd.prog 12 #[.agg #[.int .i64 30, .int .i64 0, .int .i64 0, .string ⟨#[]⟩, .slice none 0 0]] w' fun e w'' => Told W nB.stmt e w'') := Lib.hid (fun w' (hb : Below W.heap.size W w') => (pstmt_any (fun _ => True) nB hd_nB (by unfold nB; simp [size_mk, sizeL]) (.slice none 0 0) w' (hLW.on hb) (Kids.nil_ _ _)).mono fun e w'' ⟨h1, h2⟩ => show Told W nB.stmt e w'' from ⟨h1, hb.trans (h2.mono hb.size)⟩)
  have H2 : Hid (∀ (w' : World), Below W.heap.size W w' → Calls Tryd.prog 16 #[.agg #[.int .i64 55, .int .i64 0, .int .i64 0, .string ⟨#[]⟩, .slice (some ⟨K + 1, 0, none⟩) 1 1]] w' fun e w'' => Told W (progN nP) e w'') := Lib.hid (fun w' (hb : Below W.heap.size W w') => (pprog_any (fun _ => True) nP hd_nP (by rw [nP_size]; omega) _ w' (hLW.on hb) (kP w' hb)).mono fun e w'' ⟨h1, h2⟩ => show Told W (progN nP) e w'' from ⟨h1, hb.trans (h2.mono hb.size)⟩)
  have H3 : Hid (∀ (w' : World), Below W.heap.size W w' → Calls Tryd.prog 16 #[.agg #[.int .i64 30, .int .i64 0, .int .i64 0, .string ⟨#[]⟩, .slice none 0 0]] w' fun e w'' => Told W (progN nB) e w'') := Lib.hid (fun w' (hb : Below W.heap.size W w') => (pprog_any (fun _ => True) nB hd_nB (by unfold nB; simp [size_mk, sizeL]) (.slice none 0 0) w' (hLW.on hb) (Kids.nil_ _ _)).mono fun e w'' ⟨h1, h2⟩ => show Told W (progN nB) e w'' from ⟨h1, hb.trans (h2.mono hb.size)⟩)
  have H4 : Hid (∀ (w' : World), Below W.heap.size W w' → Calls Tryd.prog 22 #[.agg #[.int .i64 55, .int .i64 0, .int .i64 0, .string ⟨#[]⟩, .slice (some ⟨K + 1, 0, none⟩) 1 1]] w' fun e w'' => e = .returned (.int .i64 (nP.size : Nat)) ∧ Below W.heap.size W w'') := Lib.hid (fun w' (hb : Below W.heap.size W w') => (pcount_any (fun _ => True) nP hd_nP (by rw [nP_size]; omega) _ w' (hLW.on hb) (kP w' hb)).mono fun e w'' ⟨h1, h2⟩ => show e = Ending.returned (.int .i64 (nP.size : Nat)) ∧ Below W.heap.size W w'' from ⟨h1, hb.trans (h2.mono hb.size)⟩)
  have H5 : Hid (∀ (w' : World), Below W.heap.size W w' → Calls Tryd.prog 23 #[.agg #[.int .i64 55, .int .i64 0, .int .i64 0, .string ⟨#[]⟩, .slice (some ⟨K + 1, 0, none⟩) 1 1]] w' fun e w'' => e = .returned (.int .i64 nP.deepW) ∧ Below W.heap.size W w'') := Lib.hid (fun w' (hb : Below W.heap.size W w') => (pdeep_any (fun _ => True) nP hd_nP (by rw [nP_size]; omega) _ w' (hLW.on hb) (kP w' hb)).mono fun e w'' ⟨h1, h2⟩ => show e = Ending.returned (.int .i64 nP.deepW) ∧ Below W.heap.size W w'' from ⟨h1, hb.trans (h2.mono hb.size)⟩)
  have H6 : Hid (∀ (w' : World), Below W.heap.size W w' → Calls Tryd.prog 20 #[.agg #[.int .i64 55, .int .i64 0, .int .i64 0, .string ⟨#[]⟩, .slice (some ⟨K + 1, 0, none⟩) 1 1]] w' fun e w'' => ∃ s', e = .returned (.agg #[.int .i64 55, .int .i64 0, .int .i64 0, .string ⟨#[]⟩, s']) ∧ Kids (fun _ => True) w'' nP.clean.kids s' ∧ Below W.heap.size W w'') := Lib.hid (fun w' (hb : Below W.heap.size W w') => (pclean_any (fun _ => True) nP hd_nP (by rw [nP_size]; omega) _ w' (hLW.on hb) (kP w' hb)).mono fun e w'' ⟨s', h1, hk, h2⟩ => show ∃ s', e = Ending.returned (.agg #[.int .i64 55, .int .i64 0, .int .i64 0, .string ⟨#[]⟩, s']) ∧ Kids (fun _ => True) w'' nP.clean.kids s' ∧ Below W.heap.size W w'' from ⟨s', h1, hk.mono fun _ _ => trivial, hb.trans (h2.mono hb.size)⟩)
  have H7 : Hid (∀ (w' : World), Below W.heap.size W w' → ∀ s', Kids (fun _ => True) w' nP.clean.kids s' → Calls Tryd.prog 21 #[.agg #[.int .i64 55, .int .i64 0, .int .i64 0, .string ⟨#[]⟩, .slice (some ⟨K + 1, 0, none⟩) 1 1], .agg #[.int .i64 55, .int .i64 0, .int .i64 0, .string ⟨#[]⟩, s']] w' fun e w'' => Told W (sameN nP nP.clean) e w'') := Lib.hid (fun w' (hb : Below W.heap.size W w') s' (hk : Kids (fun _ => True) w' nP.clean.kids s') => (psame_any (fun _ => True) nP nP.clean hd_nP hd_nP _ s' w' (hLW.on hb) (kP w' hb) hk).mono fun e w'' ⟨h1, h2⟩ => show Told W (sameN nP nP.clean) e w'' from ⟨h1, hb.trans (h2.mono hb.size)⟩)
  have H8 : Hid (∀ (w' : World), Below W.heap.size W w' → ∀ kv, IntsIn w' [30] kv → Calls Tryd.prog 19 #[.agg #[.int .i64 55, .int .i64 0, .int .i64 0, .string ⟨#[]⟩, .slice (some ⟨K + 1, 0, none⟩) 1 1], kv] w' fun e w'' => ∃ A c, e = .returned (.slice A 1 c) ∧ Below W.heap.size W w'') := Lib.hid (fun w' (hb : Below W.heap.size W w') kv (hk : IntsIn w' [30] kv) => (pfind_any (fun _ => True) nP hd_nP (by rw [nP_size]; omega) [30] _ kv w' (hLW.on hb) (kP w' hb) hk (by simp)).mono fun e w'' ⟨v, h1, hk, h2⟩ => show ∃ A c, e = Ending.returned (.slice A 1 c) ∧ Below W.heap.size W w'' from by
    rw [nP_find] at hk
    obtain ⟨A, c, rfl, _⟩ := hk.form
    exact ⟨A, c, h1, hb.trans (h2.mono hb.size)⟩)
  rw [nB_stmt] at H1
  rw [nP_prog] at H2
  rw [nB_prog] at H3
  rw [nP_size] at H4
  rw [nP_deep] at H5
  rw [same_clean] at H7
  have HC : Hid (∀ w', Below W.heap.size W w' → w'.cell? ⟨K, 0, none⟩ = some (.int .i64 30) ∧ w'.cell? ⟨K, 1, none⟩ = some (.int .i64 0) ∧ w'.cell? ⟨K, 2, none⟩ = some (.int .i64 0) ∧ w'.cell? ⟨K, 3, none⟩ = some (.string ⟨#[]⟩) ∧ w'.cell? ⟨K, 4, none⟩ = some (.slice none 0 0) ∧ w'.cell? ⟨K + 2, 0, none⟩ = some (.int .i64 55) ∧ w'.cell? ⟨K + 2, 1, none⟩ = some (.int .i64 0) ∧ w'.cell? ⟨K + 2, 2, none⟩ = some (.int .i64 0) ∧ w'.cell? ⟨K + 2, 3, none⟩ = some (.string ⟨#[]⟩) ∧ w'.cell? ⟨K + 2, 4, none⟩ = some (.slice (some ⟨K + 1, 0, none⟩) 1 1)) := Lib.hid fun w' hb => by
    obtain ⟨x0, x1, x2, x3, x4⟩ := hnB.below hb
    obtain ⟨y0, y1, y2, y3, y4⟩ := hnP.below hb
    exact ⟨x0, x1, x2, x3, x4, y0, y1, y2, y3, y4⟩
  have HB := Lib.hid hbW
  have HW : Hid (W = ((w.alloc (.cells #[.int .i64 30, .int .i64 0, .int .i64 0, .string ⟨#[]⟩, .slice none 0 0] NodeT)).alloc (.cells #[.int .i64 30, .int .i64 0, .int .i64 0, .string ⟨#[]⟩, .slice none 0 0] NodeT)).alloc (.cells #[.int .i64 55, .int .i64 0, .int .i64 0, .string ⟨#[]⟩, .slice (some ⟨w.heap.size + 1, 0, none⟩) 1 1] NodeT)) := Lib.hid (by rw [hW, hK])
  have HKK := Lib.hid hK
  have hB0 : Below W.heap.size W W := Below.refl _ _
  clear b1 hbW hnB hz2 hnP hkP hLW kP hK hW hL
  have HB0 := Lib.hid hB0
  obtain ⟨a0, a1, a2, a3, a4, c0, c1, c2, c3, c4⟩ := HC.out W hB0
  clear hB0
  have HAF : Hid (∀ w', Below W.heap.size W w' → Below W.heap.size W (w'.alloc (.cells #[.int .i64 30] 3))) := Lib.hid fun w' hb => hb.alloc hb.size _
  have HIF : Hid (∀ w' : World, IntsIn (w'.alloc (.cells #[.int .i64 30] 3)) [30] (.slice (some ⟨w'.heap.size, 0, none⟩) 1 1)) := Lib.hid fun w' => ⟨_, _, rfl, fun _ => ⟨_, _, rfl, fun i hi => by
    obtain rfl : i = 0 := by simpa using hi
    exact (Box.new w' 3 #[.int .i64 30] _ rfl).cell 0⟩⟩
  go_enter Tryd.func7, Tryd.ntmps7
  go_wp2_with (first | (rw [← HW.out, ← HKK.out]))
  go_region_held3 (fun w' => w'.cell? ⟨K, 0, none⟩ = some (.int .i64 30) ∧ w'.cell? ⟨K, 1, none⟩ = some (.int .i64 0) ∧ w'.cell? ⟨K, 2, none⟩ = some (.int .i64 0) ∧ w'.cell? ⟨K, 3, none⟩ = some (.string ⟨#[]⟩) ∧ w'.cell? ⟨K, 4, none⟩ = some (.slice none 0 0) ∧ w'.cell? ⟨K + 2, 0, none⟩ = some (.int .i64 55) ∧ w'.cell? ⟨K + 2, 1, none⟩ = some (.int .i64 0) ∧ w'.cell? ⟨K + 2, 2, none⟩ = some (.int .i64 0) ∧ w'.cell? ⟨K + 2, 3, none⟩ = some (.string ⟨#[]⟩) ∧ w'.cell? ⟨K + 2, 4, none⟩ = some (.slice (some ⟨K + 1, 0, none⟩) 1 1)) (first | go_keep)
    (first
      | (go_at_call 12; (with_reducible refine (H1.out _ (Below.refl _ W).drew).mono ?_); rintro e w1 ⟨rfl, hb1⟩; obtain ⟨p1_0, p1_1, p1_2, p1_3, p1_4, p1_5, p1_6, p1_7, p1_8, p1_9⟩ := HC.out w1 hb1)
      | (go_at_call 16; (with_reducible refine (H2.out w1 hb1).mono ?_); rintro e w2 ⟨rfl, hb2⟩; obtain ⟨p2_0, p2_1, p2_2, p2_3, p2_4, p2_5, p2_6, p2_7, p2_8, p2_9⟩ := HC.out w2 hb2)
      | (go_at_call 16; (with_reducible refine (H3.out w2 hb2).mono ?_); rintro e w3 ⟨rfl, hb3⟩; obtain ⟨p3_0, p3_1, p3_2, p3_3, p3_4, p3_5, p3_6, p3_7, p3_8, p3_9⟩ := HC.out w3 hb3)
      | (go_at_call 22; (with_reducible refine (H4.out w3 hb3).mono ?_); rintro e w4 ⟨rfl, hb4⟩; obtain ⟨p4_0, p4_1, p4_2, p4_3, p4_4, p4_5, p4_6, p4_7, p4_8, p4_9⟩ := HC.out w4 hb4)
      | (go_at_call 23; (with_reducible refine (H5.out w4 hb4).mono ?_); rintro e w5 ⟨rfl, hb5⟩; obtain ⟨p5_0, p5_1, p5_2, p5_3, p5_4, p5_5, p5_6, p5_7, p5_8, p5_9⟩ := HC.out w5 hb5)
      | (go_at_call 20; (with_reducible refine (H6.out w5 hb5).mono ?_); rintro e w6 ⟨s6, rfl, hk6, hb6⟩; obtain ⟨p6_0, p6_1, p6_2, p6_3, p6_4, p6_5, p6_6, p6_7, p6_8, p6_9⟩ := HC.out w6 hb6)
      | (go_at_call 21; (with_reducible refine (H7.out w6 hb6 s6 hk6).mono ?_); rintro e w7 ⟨rfl, hb7⟩; obtain ⟨p7_0, p7_1, p7_2, p7_3, p7_4, p7_5, p7_6, p7_7, p7_8, p7_9⟩ := HC.out w7 hb7)
      | (go_at_call 19; (with_reducible refine (H8.out _ (HAF.out w7 hb7) _ (HIF.out w7)).mono ?_); rintro e w8 ⟨A8, c8, rfl, hb8⟩; obtain ⟨p8_0, p8_1, p8_2, p8_3, p8_4, p8_5, p8_6, p8_7, p8_8, p8_9⟩ := HC.out w8 hb8))
  have HE := Lib.hid (HB.out.trans (hb8.mono HB.out.size))
  clear hb1 hb2 hb3 hb4 hb5 hb6 hb7 hb8
  go_wp2_with (fail)
  go_ret
  exact ⟨rfl, HE.out⟩
end Go.Proofs.YtkmkeaeaalnbjaaDoor.nt

/- The law on what grows of any numbers. -/
import Derived.Test.YtkmkeaeaalnbjaaDoorCTreeTurned
import Derived.Test.YtkmkeaeaalnbjaaDoorCGrow
namespace Go.Proofs.YtkmkeaeaalnbjaaDoor.nt
open Go.RowKit mem wd lx
open vt (I64 own_base own_form own_below)

/-- a slice of numbers that came in -/
def IntsArg (w : World) (A : Option Addr) (n c : Nat) : Prop := n ≤ 9223372036854775807 ∧ ∀ i, i < n → ∃ b off x, A = some ⟨b, off, none⟩ ∧ w.cell? ⟨b, off + i, none⟩ = some (.int .i64 x) ∧ I64 x
theorem IntsArg.below {w w' : World} {A : Option Addr} {n c : Nat} (h : IntsArg w A n c) (hb : Below w.heap.size w w') : IntsArg w' A n c :=
  ⟨h.1, fun i hi => by
    obtain ⟨b, off, x, hA, hc, hx⟩ := h.2 i hi
    exact ⟨b, off, x, hA, (hb.cell (p := ⟨b, off + i, none⟩) (World.block_lt_of_cell? _ _ hc)).trans hc, hx⟩⟩
theorem IntsArg.small {w : World} {A : Option Addr} {n c : Nat} (h : IntsArg w A n c) (hn : n ≤ 4611686018427387904) : Ints0 w (.slice A n c) := ⟨A, n, c, rfl, hn, h.2⟩
theorem tmod_in (x N : Int) (h1 : 1 ≤ N) (h2 : N ≤ 2000) : -2000 ≤ x.tmod N ∧ x.tmod N ≤ 2000 := by
  have h := Int.natAbs_tmod x N
  have h3 : x.natAbs % N.natAbs < N.natAbs := Nat.mod_lt _ (by omega)
  omega
set_option maxHeartbeats 4000000 in
set_option maxRecDepth 100000 in
theorem grows_law (G : Nat → Prop) (A : Option Addr) (n c : Nat) (at_ : Int) (to : NT) (hd : Hd to) (hz : to.size ≤ 1048576) (st : Value) (w : World) (hL : LD w) (hat : I64 at_) (hI : IntsArg w A n c) (h : Kids G w to.kids st) :
    Calls Tryd.prog 4 #[.slice A n c, .int .i64 at_, .agg #[.int .i64 to.kind, .int .i64 to.at_, .int .i64 to.num, .string ⟨to.name.toArray⟩, st]] w fun e w' => e = .returned (.bool true) ∧ Below w.heap.size w w' := by
  obtain ⟨At, ct, rfl, _⟩ := h.form
  obtain ⟨W, hW⟩ : ∃ W, W = w.alloc (.cells #[.int .i64 to.kind, .int .i64 to.at_, .int .i64 to.num, .string ⟨to.name.toArray⟩, .slice At to.kids.length ct] NodeT) := ⟨_, rfl⟩
  obtain ⟨K, hK⟩ : ∃ K, K = w.heap.size := ⟨_, rfl⟩
  have hbW : Below w.heap.size w W := by rw [hW]; exact (Below.refl _ _).alloc (Nat.le_refl _) _
  have hn : NodeAt W K to (.slice At to.kids.length ct) := by rw [hW, hK]; exact NodeAt.new w to _
  have hk0 : Kids G W to.kids (.slice At to.kids.length ct) := h.below hbW
  have HLW := Lib.hid (fun w' (hb : Below W.heap.size W w') => (hL.on hbW).on hb)
  have HWK := Lib.hid (pworks_any W (hL.on hbW))
  have HC : Hid (∀ w', Below W.heap.size W w' → NodeAt w' K to (.slice At to.kids.length ct)) := Lib.hid fun w' hb => hn.below hb
  have HSM := Lib.hid (fun w' (hb : Below W.heap.size W w') => psmall_any G to hd (by omega) _ w' (hk0.below hb))
  have HII := Lib.hid (fun w' (hb : Below W.heap.size W w') => (hI.below hbW).below hb)
  have HB := Lib.hid hbW
  have HW := Lib.hid hW
  have HKK := Lib.hid hK
  have HD := Lib.hid hd
  have hn1 := hI.1
  obtain ⟨nt_, hnt⟩ : ∃ k, k = to.kids.length := ⟨_, rfl⟩
  rw [← hnt] at HC HSM HW ⊢
  obtain ⟨Z, hZ⟩ : ∃ Z, Z = to.size := ⟨_, rfl⟩
  rw [← hZ] at hz HSM
  clear hbW hK hW hn h hL hk0 hI hnt hZ hd
  unfold I64 at hat
  go_enter Tryd.func4, Tryd.ntmps4
  go_wp2_with (first | (rw [← HW.out, ← HKK.out]))
  refine HWK.out.mono ?_
  rintro e w1 ⟨rfl, hb1⟩
  have HB1 := Lib.hid hb1
  have HWK1 := Lib.hid (pworks_any w1 (HLW.out w1 hb1))
  have HS1 := Lib.hid (HSM.out w1 hb1)
  obtain ⟨a0, a1, a2, a3, a4⟩ := HC.out w1 hb1
  clear hb1 HWK HSM
  by_cases hlen : 400 < n
  · have hlen' : (400 : Int) < (n : Int) := by omega
    go_wp2_with (fail)
    refine HWK1.out.mono ?_
    rintro e w2 ⟨rfl, hb2⟩
    go_wp2_with (fail)
    go_ret
    exact ⟨rfl, HB.out.trans ((HB1.out.trans (hb2.mono HB1.out.size)).mono HB.out.size)⟩
  have hlen' : decide ((400 : Int) < (n : Int)) = false := by rw [decide_eq_false_iff_not]; omega
  clear HWK1
  go_wp2_with (fail)
  refine HS1.out.mono ?_
  rintro e w2 ⟨rfl, hb2⟩
  have HB2 := Lib.hid (HB1.out.trans (hb2.mono HB1.out.size))
  clear hb2 HB1 HS1 a0 a1 a2 a3 a4
  by_cases h4 : 400 < Z
  · rw [if_pos h4]
    have HWK := Lib.hid (pworks_any w2 (HLW.out w2 HB2.out))
    go_wp2_with (fail)
    refine HWK.out.mono ?_
    rintro e w3 ⟨rfl, hb3⟩
    go_wp2_with (fail)
    go_ret
    exact ⟨rfl, HB.out.trans ((HB2.out.trans (hb3.mono HB2.out.size)).mono HB.out.size)⟩
  rw [if_neg h4]
  have HG := Lib.hid (grow_any (.slice A n c) w2 ((HII.out w2 HB2.out).small (by omega)))
  clear HII
  go_wp2_with (fail)
  refine HG.out.mono ?_
  intro e w3 hp
  unfold GrowAll at hp
  obtain ⟨p, sp, rfl, hpr, hpd, hpz, hpk, hb3⟩ := hp
  obtain ⟨Ap, cp, rfl, _⟩ := hpk.form
  have HB3 := Lib.hid (HB2.out.trans (hb3.mono HB2.out.size))
  obtain ⟨w4, hw4⟩ : ∃ W, W = w3.alloc (.cells #[.int .i64 p.kind, .int .i64 p.at_, .int .i64 p.num, .string ⟨p.name.toArray⟩, .slice Ap p.kids.length cp] NodeT) := ⟨_, rfl⟩
  obtain ⟨P, hP⟩ : ∃ P, P = w3.heap.size := ⟨_, rfl⟩
  have hb4 : Below w3.heap.size w3 w4 := by rw [hw4]; exact (Below.refl _ _).alloc (Nat.le_refl _) _
  have hnp : NodeAt w4 P p (.slice Ap p.kids.length cp) := by rw [hw4, hP]; exact NodeAt.new w3 p _
  have HB4 := Lib.hid (HB3.out.trans (hb4.mono HB3.out.size))
  have HPK := Lib.hid (fun w' (hb : Below w4.heap.size w4 w') => (hpk.below hb4).below hb)
  have HPN := Lib.hid (fun w' (hb : Below w4.heap.size w4 w') => hnp.below hb)
  have HWA := Lib.hid (rwalk_any p hpd _ w4 (hpk.below hb4) (by have := gG_eq; omega))
  have HPR := Lib.hid hpr
  have HPD := Lib.hid hpd
  have HPZ := Lib.hid hpz
  have HW4 := Lib.hid hw4
  have HPP := Lib.hid hP
  obtain ⟨c0, c1, c2, c3, c4⟩ := hnp
  have hwl := walk_len p
  have hsz0 := size_pos p
  obtain ⟨np, hnp2⟩ : ∃ k, k = p.kids.length := ⟨_, rfl⟩
  rw [← hnp2] at HPK HPN HWA HW4 c4 ⊢
  clear hpr hpd hpz hpk hb3 hw4 hP hb4 hnp2 HG HB2
  go_wp2_with (first | (rw [← HW4.out, ← HPP.out]))
  refine HWA.out.mono ?_
  intro e w5 hp
  unfold WalkPost at hp
  obtain ⟨v, rfl, ho, hb5⟩ := hp
  obtain ⟨Aw, cw, rfl⟩ := ho.form
  rw [hwl]
  have HX5 := Lib.hid hb5
  have HB5 := Lib.hid (HB4.out.trans (hb5.mono HB4.out.size))
  obtain ⟨N, hN⟩ : ∃ N, N = p.size := ⟨_, rfl⟩
  have HN := Lib.hid hN
  rw [← hN] at hsz0 ⊢
  have hNb : N ≤ 700000 := by have := HPZ.out; have := gG_eq; omega
  clear ho hb5 hwl hN HWA c0 c1 c2 c3 c4
  by_cases h20 : 2000 < N
  · have h20' : (2000 : Int) < (N : Int) := by omega
    go_wp2_with (fail)
    go_ret
    exact ⟨rfl, HB.out.trans (HB5.out.mono HB.out.size)⟩
  have h20' : decide ((2000 : Int) < (N : Int)) = false := by rw [decide_eq_false_iff_not]; omega
  go_wp2_with (fail)
  obtain ⟨q, hq⟩ : ∃ q, q = (bits .and .i64 at_ 65535).tmod (N : Int) := ⟨_, rfl⟩
  have hqb := tmod_in (bits .and .i64 at_ 65535) (N : Int) (by omega) (by omega)
  rw [← hq] at hqb
  have hn5 := HPN.out w5 HX5.out
  have hnk := HC.out w5 HB5.out
  have HCE : Hid (∀ w', Below w5.heap.size w5 w' → w'.cell? ⟨P, 0, none⟩ = some (.int .i64 p.kind) ∧ w'.cell? ⟨P, 1, none⟩ = some (.int .i64 p.at_) ∧ w'.cell? ⟨P, 2, none⟩ = some (.int .i64 p.num) ∧ w'.cell? ⟨P, 3, none⟩ = some (.string ⟨p.name.toArray⟩) ∧ w'.cell? ⟨P, 4, none⟩ = some (.slice Ap np cp) ∧ w'.cell? ⟨K, 0, none⟩ = some (.int .i64 to.kind) ∧ w'.cell? ⟨K, 1, none⟩ = some (.int .i64 to.at_) ∧ w'.cell? ⟨K, 2, none⟩ = some (.int .i64 to.num) ∧ w'.cell? ⟨K, 3, none⟩ = some (.string ⟨to.name.toArray⟩) ∧ w'.cell? ⟨K, 4, none⟩ = some (.slice At nt_ ct)) := Lib.hid (fun w' hb' => by
    obtain ⟨g0, g1, g2, g3, g4⟩ := hn5.below hb'
    obtain ⟨g5, g6, g7, g8, g9⟩ := hnk.below hb'
    exact ⟨g0, g1, g2, g3, g4, g5, g6, g7, g8, g9⟩)
  have hltP : P < w5.heap.size := World.block_lt_of_cell? _ _ hn5.1
  have hltK : K < w5.heap.size := World.block_lt_of_cell? _ _ hnk.1
  have HI : Hid (∀ w', Below w5.heap.size w5 w' → Calls Tryd.prog 15 #[.agg #[.int .i64 p.kind, .int .i64 p.at_, .int .i64 p.num, .string ⟨p.name.toArray⟩, .slice Ap np cp], .int .i64 q, .agg #[.int .i64 to.kind, .int .i64 to.at_, .int .i64 to.num, .string ⟨to.name.toArray⟩, .slice At nt_ ct]] w' fun e w'' => ∃ t2 A7 n7 c7, t2 = turnT p q to ∧ n7 = t2.kids.length ∧ e = .returned (.tuple #[.agg #[.int .i64 t2.kind, .int .i64 t2.at_, .int .i64 t2.num, .string ⟨t2.name.toArray⟩, .slice A7 n7 c7], .int .i64 (N : Nat)]) ∧ Kids (fun b => w'.heap.size ≤ b) w'' t2.kids (.slice A7 n7 c7) ∧ Below w'.heap.size w' w'') := Lib.hid (fun w' hb' => (turn_any to HD.out (.slice At nt_ ct) ⟨_, _, _, rfl⟩ p HPD.out (by rw [← HN.out]; omega) _ q _ w' (by rw [← HN.out]; omega) (by omega) (HPK.out w' (HX5.out.trans (hb'.mono HX5.out.size)))).mono fun e w'' ⟨s2, h1, h2, h3⟩ => by
    obtain ⟨A7, c7, hs7, _⟩ := h2.form
    subst hs7
    rw [HN.out]
    exact ⟨_, A7, _, c7, rfl, rfl, h1, h2, h3⟩)
  have HBZ : Hid (Box (w5.alloc (.cells ZN NodeT)).drew w5.heap.size NodeT ZN) := Lib.hid (show Box (w5.alloc (.cells ZN NodeT)) w5.heap.size NodeT ZN from Box.new _ _ _ _ rfl)
  have HAL : Hid (Below w5.heap.size w5 (w5.alloc (.cells ZN NodeT)).drew) := Lib.hid (((Below.refl _ _).alloc (Nat.le_refl _) _).drew)
  obtain ⟨b0, b1, b2, b3, b4, b5, b6, b7, b8, b9⟩ := HCE.out w5 (Below.refl _ _)
  rw [hq] at HI
  clear hn5 hnk hq hqb
  have hNi : ((N : Int) == 0) = false := by rw [beq_eq_false_iff_ne]; omega
  have hNi2 : ¬ ((N : Int) = 0) := by omega
  have hNi3 : ¬ (N = 0) := by omega
  have hNi4 : (N == 0) = false := by rw [beq_eq_false_iff_ne]; omega
  go_region_held3 (fun w' => w'.cell? ⟨P, 0, none⟩ = some (.int .i64 p.kind) ∧ w'.cell? ⟨P, 1, none⟩ = some (.int .i64 p.at_) ∧ w'.cell? ⟨P, 2, none⟩ = some (.int .i64 p.num) ∧ w'.cell? ⟨P, 3, none⟩ = some (.string ⟨p.name.toArray⟩) ∧ w'.cell? ⟨P, 4, none⟩ = some (.slice Ap np cp) ∧ w'.cell? ⟨K, 0, none⟩ = some (.int .i64 to.kind) ∧ w'.cell? ⟨K, 1, none⟩ = some (.int .i64 to.at_) ∧ w'.cell? ⟨K, 2, none⟩ = some (.int .i64 to.num) ∧ w'.cell? ⟨K, 3, none⟩ = some (.string ⟨to.name.toArray⟩) ∧ w'.cell? ⟨K, 4, none⟩ = some (.slice At nt_ ct)) (first | go_keep)
    (first
      | (go_at_call 15; (with_reducible refine (HI.out _ ((Below.refl _ _).drew)).mono ?_); intro e w6 hp2; obtain ⟨t2, A7, n7, c7, ht2, hn7, rfl, hk2', hb2⟩ := hp2; have hb2' : Below w5.heap.size w5 w6 := (Below.refl _ w5).drew.trans (hb2.mono (by simp)); obtain ⟨p0, p1, p2, p3, p4, p5, p6, p7, p8, p9⟩ := HCE.out w6 hb2'; (obtain ⟨w7, hw3⟩ : ∃ W, W = w6.alloc (.cells #[.int .i64 t2.kind, .int .i64 t2.at_, .int .i64 t2.num, .string ⟨t2.name.toArray⟩, .slice A7 n7 c7] NodeT) := ⟨_, rfl⟩); have hb3 : Below w5.heap.size w5 w7 := (by rw [hw3]; exact hb2'.alloc hb2'.size _); have hx3 : Box w7 w6.heap.size NodeT (nodeC t2 (.slice A7 n7 c7)) := (by rw [hw3]; exact Box.new _ _ _ _ rfl); have hk3 : Kids (fun _ => True) w7 t2.kids (.slice A7 n7 c7) := (by rw [hw3]; exact (hk2'.below ((Below.refl _ _).alloc (Nat.le_refl _) _)).mono (fun _ _ => trivial)); have hz2 := hb2'.size; have m2 : ¬ P = w6.heap.size := (by omega); have m3 : ¬ K = w6.heap.size := (by omega); have m5 : ¬ w6.heap.size = P := (by omega); have m6 : ¬ w6.heap.size = K := (by omega); (obtain ⟨H, hH⟩ : ∃ H, H = w6.heap.size := ⟨_, rfl⟩); have HX7 := Lib.hid hx3; have HK7 := Lib.hid hk3; have HW7 := Lib.hid hw3; have HH7 := Lib.hid hH; have HT2 := Lib.hid ht2; have HN7 := Lib.hid hn7; have HB7 := Lib.hid hb3; rw [← hH] at HX7; clear hk2' hb2 hb2' hb3 hx3 hk3 hw3 hH ht2 hn7 hz2)
      | (go_at_call 15; (with_reducible refine (HI.out _ HAL.out).mono ?_); intro e w6 hp2; obtain ⟨t2, A7, n7, c7, ht2, hn7, rfl, hk2', hb2⟩ := hp2; have hb2' : Below w5.heap.size w5 w6 := HAL.out.trans (hb2.mono HAL.out.size); obtain ⟨p0, p1, p2, p3, p4, p5, p6, p7, p8, p9⟩ := HCE.out w6 hb2'; have bz := HBZ.out.on hb2; (have z50 := bz.cell 0); (have z51 := bz.cell 1); (have z52 := bz.cell 2); (have z53 := bz.cell 3); (have z54 := bz.cell 4); simp only [List.getElem?_toArray, List.getElem?_cons_zero, List.getElem?_cons_succ] at z50 z51 z52 z53 z54; (have zf50 := bz.frozen 0); (have zf51 := bz.frozen 1); (have zf52 := bz.frozen 2); (have zf53 := bz.frozen 3); (have zf54 := bz.frozen 4); (obtain ⟨w7, hw3⟩ : ∃ W, W = ((((w6.setCell ⟨w5.heap.size, 0, none⟩ (.int .i64 t2.kind)).setCell ⟨w5.heap.size, 1, none⟩ (.int .i64 t2.at_)).setCell ⟨w5.heap.size, 2, none⟩ (.int .i64 t2.num)).setCell ⟨w5.heap.size, 3, none⟩ (.string ⟨t2.name.toArray⟩)).setCell ⟨w5.heap.size, 4, none⟩ (.slice A7 n7 c7) := ⟨_, rfl⟩); have hb3 : Below w5.heap.size w5 w7 := (by rw [hw3]; exact ((((hb2'.setCell (Nat.le_refl _) _).setCell (Nat.le_refl _) _).setCell (Nat.le_refl _) _).setCell (Nat.le_refl _) _).setCell (Nat.le_refl _) _); have hx3 : Box w7 w5.heap.size NodeT (nodeC t2 (.slice A7 n7 c7)) := (by rw [hw3]; exact box_five bz _ _ _ _ _); have hk3 : Kids (fun _ => True) w7 t2.kids (.slice A7 n7 c7) := (by rw [hw3]; exact ((kids_five hk2' (fun b hb => by have hb9 : (w5.alloc (.cells ZN NodeT)).heap.size ≤ b := hb; have h8 : w5.heap.size < (w5.alloc (.cells ZN NodeT)).heap.size := HBZ.out.lt; omega) _ _ _ _ _).mono fun _ _ => trivial)); have m2 : ¬ P = w5.heap.size := (by omega); have m3 : ¬ K = w5.heap.size := (by omega); have m5 : ¬ w5.heap.size = P := (by omega); have m6 : ¬ w5.heap.size = K := (by omega); (obtain ⟨H, hH⟩ : ∃ H, H = w5.heap.size := ⟨_, rfl⟩); have HX7 := Lib.hid hx3; have HK7 := Lib.hid hk3; have HW7 := Lib.hid hw3; have HH7 := Lib.hid hH; have HT2 := Lib.hid ht2; have HN7 := Lib.hid hn7; have HB7 := Lib.hid hb3; rw [← hH] at HX7; clear hk2' hb2 hb2' hb3 hx3 hk3 hw3 hH ht2 hn7 bz))
  all_goals
    obtain ⟨g0, g1, g2, g3, g4, _, _, _, _, _⟩ := HCE.out w7 HB7.out
    have bx := HX7.out
    have x0 := bx.cell 0
    have x1 := bx.cell 1
    have x2 := bx.cell 2
    have x3 := bx.cell 3
    have x4 := bx.cell 4
    simp only [nodeC, List.getElem?_toArray, List.getElem?_cons_zero, List.getElem?_cons_succ] at x0 x1 x2 x3 x4
    have HBW7 := Lib.hid (HB5.out.trans (HB7.out.mono HB5.out.size))
    have HB47 := Lib.hid (HX5.out.trans (HB7.out.mono HX5.out.size))
    have HPG := Lib.hid (pprog_any _ p HPD.out (by rw [← HN.out]; omega) _ w7 (HLW.out w7 HBW7.out) (HPK.out w7 HB47.out))
    rw [HPR.out] at HPG
    have HDT2 : Hid (Hd t2) := Lib.hid (by rw [HT2.out]; exact turn_hd HPD.out HD.out _)
    have HZT2 : Hid (t2.size ≤ 1073741824) := Lib.hid (by rw [HT2.out, turn_size, ← HN.out]; omega)
    have bl : ∀ w', Below w7.heap.size w7 w' → Box w' H NodeT (nodeC t2 (.slice A7 n7 c7)) := fun w' hb => bx.on hb
    have HBL := Lib.hid bl
    clear bx bl
    go_wp2_with (first | (rw [← HW7.out, ← HH7.out]))
    refine HPG.out.mono ?_
    rintro e w8 ⟨rfl, hb8⟩
    have by_ := HBL.out w8 hb8
    have y0 := by_.cell 0
    have y1 := by_.cell 1
    have y2 := by_.cell 2
    have y3 := by_.cell 3
    have y4 := by_.cell 4
    simp only [nodeC, List.getElem?_toArray, List.getElem?_cons_zero, List.getElem?_cons_succ] at y0 y1 y2 y3 y4
    have HB8 := Lib.hid (HBW7.out.trans (hb8.mono HBW7.out.size))
    have HIS := Lib.hid (is_any _ t2 HDT2.out HZT2.out _ w8 (HLW.out w8 HB8.out) (HK7.out.below hb8))
    clear by_ hb8
    go_wp2_with (fail)
    refine HIS.out.mono ?_
    rintro e w9 ⟨rfl, hb9⟩
    have HE := Lib.hid (HB.out.trans ((HB8.out.trans (hb9.mono HB8.out.size)).mono HB.out.size))
    clear hb9
    go_wp2_with (fail)
    go_ret
    exact ⟨rfl, HE.out⟩
end Go.Proofs.YtkmkeaeaalnbjaaDoor.nt

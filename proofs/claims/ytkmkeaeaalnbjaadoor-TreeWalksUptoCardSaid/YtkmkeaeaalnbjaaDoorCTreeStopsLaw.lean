/- The law on a walk that is broken off. -/
import Derived.Test.YtkmkeaeaalnbjaaDoorCTreeGrowsLaw
namespace Go.Proofs.YtkmkeaeaalnbjaaDoor.nt
open Go.RowKit Go.Shelf mem wd lx
open vt (I64 own_form)

attribute [local go_sem] Oper.semAt_some

theorem seq_nil (H : Nat) (w : World) : Sem.run Tryd.prog (binOp BinOp.eql 35 (.func (.func 41) #[] #[.pointer (some ⟨H, 0, none⟩)]) .nilFunc) w = .ok (.bool false) w := by kernel_rfl
set_option maxRecDepth 100000 in
set_option maxHeartbeats 4000000 in
theorem stops_law (A : Option Addr) (n c : Nat) (stop : Int) (hst : 0 ≤ stop ∧ stop ≤ 255) (w : World) (hL : LD w) (hI : IntsArg w A n c) :
    Calls Tryd.prog 6 #[.slice A n c, .int .u8 stop] w fun e w' => e = .returned (.bool true) ∧ Below w.heap.size w w' := by
  have h1 : 1 ≤ 9 := by decide
  have hf : Fence.wide.fn 6 := trivial
  have hf2 : Fence.wide.fn 17 := trivial
  have hf3 : Fence.wide.fn 41 := trivial
  have hf4 : Fence.wide.fn 7 := trivial
  have hf5 : Fence.wide.fn 14 := trivial
  have hf6 : Fence.wide.fn 22 := trivial
  obtain ⟨W, hW⟩ : ∃ W, W = w.alloc (.cells #[.int .u8 stop] 5) := ⟨_, rfl⟩
  obtain ⟨K, hK⟩ : ∃ K, K = w.heap.size := ⟨_, rfl⟩
  have hbW : Below w.heap.size w W := by rw [hW]; exact (Below.refl _ _).alloc (Nat.le_refl _) _
  have hbs : Boxed W K 5 (.int .u8 stop) := by rw [hW, hK]; exact Boxed.new _ _ _
  have HWK := Lib.hid (pworks_any W (hL.on hbW))
  have HLW := Lib.hid (fun w' (hb : Below W.heap.size W w') => (hL.on hbW).on hb)
  have HII := Lib.hid (fun w' (hb : Below W.heap.size W w') => (hI.below hbW).below hb)
  have HBS := Lib.hid hbs
  have HB := Lib.hid hbW
  have HW := Lib.hid hW
  have HKK := Lib.hid hK
  have hn1 := hI.1
  clear hbW hK hW hL hI hbs
  refine (callsIn_wide (n := 9)).1 ?_
  refine callsIn_of_wp_marks Tryd.func6 rfl hf ?_ rfl
  simp only [Tryd.ntmps6, List.size_toArray, List.length_cons, List.length_nil, Nat.reduceAdd, Nat.reduceSub, Array.replicate_succ, Array.replicate_zero, List.push_toArray, List.append_toArray, List.nil_append, List.cons_append]
  gi_wp2_with (first | (rw [← HW.out, ← HKK.out]))
  refine (callsIn_wide.2 HWK.out).mono ?_
  rintro e w1 ⟨rfl, hb1⟩
  have HB1 := Lib.hid hb1
  by_cases hlen : 200 < n
  · have hlen' : (200 : Int) < (n : Int) := by omega
    have HWK1 := Lib.hid (pworks_any w1 (HLW.out w1 hb1))
    gi_wp2_with (fail)
    refine (callsIn_wide.2 HWK1.out).mono ?_
    rintro e w2 ⟨rfl, hb2⟩
    gi_wp2_with (fail)
    exact ⟨_, results_tmp rfl _ _ _, rfl, HB.out.trans ((HB1.out.trans (hb2.mono HB1.out.size)).mono HB.out.size)⟩
  have hlen' : decide ((200 : Int) < (n : Int)) = false := by rw [decide_eq_false_iff_not]; omega
  have HG := Lib.hid (grow_any (.slice A n c) w1 ((HII.out w1 hb1).small (by omega)))
  clear HII HWK hb1
  gi_wp2_with (fail)
  refine (callsIn_wide.2 HG.out).mono ?_
  intro e w3 hp
  unfold GrowAll at hp
  obtain ⟨p, sp, rfl, hpr, hpd, hpz, hpk, hb3⟩ := hp
  obtain ⟨Ap, cp, rfl, _⟩ := hpk.form
  have HB3 := Lib.hid (HB1.out.trans (hb3.mono HB1.out.size))
  obtain ⟨w4, hw4⟩ : ∃ W, W = w3.alloc (.cells #[.int .i64 p.kind, .int .i64 p.at_, .int .i64 p.num, .string ⟨p.name.toArray⟩, .slice Ap p.kids.length cp] NodeT) := ⟨_, rfl⟩
  obtain ⟨P, hP⟩ : ∃ P, P = w3.heap.size := ⟨_, rfl⟩
  have hb4 : Below w3.heap.size w3 w4 := by rw [hw4]; exact (Below.refl _ _).alloc (Nat.le_refl _) _
  have hnp : NodeAt w4 P p (.slice Ap p.kids.length cp) := by rw [hw4, hP]; exact NodeAt.new w3 p _
  have HB4 := Lib.hid (HB3.out.trans (hb4.mono HB3.out.size))
  have HPK := Lib.hid (hpk.below hb4)
  have HPN := Lib.hid hnp
  have hpx : Box w4 P NodeT #[.int .i64 p.kind, .int .i64 p.at_, .int .i64 p.num, .string ⟨p.name.toArray⟩, .slice Ap p.kids.length cp] := by rw [hw4, hP]; exact Box.new _ _ _ _ rfl
  have HPX := Lib.hid hpx
  have HWA := Lib.hid (pwalk_any p (.slice Ap p.kids.length cp) w4)
  have HPD := Lib.hid hpd
  have HPZ := Lib.hid hpz
  have HW4 := Lib.hid hw4
  have HPP := Lib.hid hP
  obtain ⟨c0, c1, c2, c3, c4⟩ := hnp
  have hwl := walk_len p
  obtain ⟨np, hnp2⟩ : ∃ k, k = p.kids.length := ⟨_, rfl⟩
  rw [← hnp2] at HPN HWA HW4 HPX c4 ⊢
  have HNP := Lib.hid hnp2
  clear hpr hpd hpz hpk hpx hb3 hw4 hP hb4 hnp2 HG HB3
  gi_wp2_with (first | (rw [← HW4.out, ← HPP.out]))
  refine (callsIn_wide.2 HWA.out).mono ?_
  rintro e w5 ⟨rfl, hw5⟩
  have hsn := fun w => seq_nil w4.heap.size w
  gi_wp2_with (fail)
  obtain ⟨m, hm⟩ : ∃ m : Nat, stop = (m : Int) := ⟨stop.toNat, by omega⟩
  subst hm
  obtain ⟨w6, hw6⟩ : ∃ w6, w6 = ((w4.alloc (.cells #[.int .i64 p.kind, .int .i64 p.at_, .int .i64 p.num, .string ⟨p.name.toArray⟩, .slice Ap np cp] NodeT)).alloc (.cells #[.int .i64 0] 3)) := ⟨_, rfl⟩
  have hb6 : Below w4.heap.size w4 w6 := by rw [hw6]; exact ((Below.refl _ _).alloc (Nat.le_refl _) _).alloc (by rw [World.size_alloc]; omega) _
  have hbx6 : Box w6 w4.heap.size NodeT #[.int .i64 p.kind, .int .i64 p.at_, .int .i64 p.num, .string ⟨p.name.toArray⟩, .slice Ap p.kids.length cp] := by
    rw [hw6, ← HNP.out]; exact Box.alloc (Box.new _ _ _ _ rfl) _
  have hbN : Boxed w6 (w4.heap.size + 1) 3 (.int .i64 (([] : List (NE (fun b => w1.heap.size ≤ b) w4)).length : Nat)) := by
    rw [hw6]
    have h := Boxed.new (w4.alloc (.cells #[.int .i64 p.kind, .int .i64 p.at_, .int .i64 p.num, .string ⟨p.name.toArray⟩, .slice Ap np cp] NodeT)) 3 (.int .i64 0)
    rw [World.size_alloc] at h
    exact h
  have hz6 : w6.heap.size = w4.heap.size + 2 := by rw [hw6]; simp
  have hK4 : K < w4.heap.size := by have := HBS.out.lt; have := HB4.out.size; omega
  have hP4 : P < w4.heap.size := World.block_lt_of_cell? _ _ c0
  have hk4 : w4.cell? ⟨K, 0, none⟩ = some (.int .u8 m) := (HB4.out.cell (p := ⟨K, 0, none⟩) HBS.out.lt).trans HBS.out.cell
  have HK4 := Lib.hid hk4
  rw [← hw6]
  clear hw6 hw5 hk4 c0 c1 c2 c3 c4 hsn HWA
  refine wpIn_rangeFunc_ownH rfl h1 (gf := 41) (lb := #[.pointer (some ⟨w4.heap.size, 0, none⟩)]) rfl hf3 (enters_of Tryd.func41 (by kernel_rfl) rfl)
    (walk_stops (G := fun b => w1.heap.size ≤ b) 8 w4.heap.size (fun _ b => b = w4.heap.size + 1) p _ w4 w6 hb6 HPD.out HPK.out hbx6 (fun _ _ _ _ h => h) (fun W hb b h => by have := hb.size; omega))
    (fun h1 h2 => KpS.trans h1 h2) (kps_put hb6.size (fun _ _ _ _ _ _ _ _ h => h)) (Below.refl _ _) (fun _ => rfl)
    (fun (pre : List (NE (fun b => w1.heap.size ≤ b) w4)) (W : World) => Boxed W (w4.heap.size + 1) 3 (.int .i64 pre.length) ∧ pre.length ≤ m ∧ Below w4.heap.size w4 W ∧ w6.heap.size ≤ W.heap.size)
    (fun c pre W => c = Code.exit 0 ∧ Boxed W (w4.heap.size + 1) 3 (.int .i64 pre.length) ∧ pre.length ≤ m + 1 ∧ Below w4.heap.size w4 W) ?own
    ?ownx
    ⟨hbN, Nat.zero_le _, hb6, Nat.le_refl _⟩
    (fun x a' W => ∃ Bx, Box W Bx NodeT #[.int .i64 x.1.1.kind, .int .i64 x.1.1.at_, .int .i64 x.1.1.num, .string ⟨x.1.1.name.toArray⟩, x.1.2] ∧ w6.heap.size ≤ Bx ∧ a' = { tmps := #[.slice A n c, .int .u8 m, undef, .pointer (some ⟨K, 0, none⟩), .bool false, .pointer (some ⟨P, 0, none⟩), .func (.func 41) #[] #[.pointer (some ⟨w4.heap.size, 0, none⟩)], .pointer (some ⟨w4.heap.size + 1, 0, none⟩), .pointer (some ⟨Bx, 0, none⟩), .bool true, .bool false, .bool false, .slice A n c, .int .i64 n, .bool false, .bool false, undef, .slice A n c, .agg #[.int .i64 p.kind, .int .i64 p.at_, .int .i64 p.num, .string ⟨p.name.toArray⟩, .slice Ap np cp], .agg #[.int .i64 p.kind, .int .i64 p.at_, .int .i64 p.num, .string ⟨p.name.toArray⟩, .slice Ap np cp], .func (.func 41) #[] #[.pointer (some ⟨w4.heap.size, 0, none⟩)], .func (.func 41) #[] #[.pointer (some ⟨w4.heap.size, 0, none⟩)], .bool false, .func (.func 41) #[] #[.pointer (some ⟨w4.heap.size, 0, none⟩)], .agg #[.int .i64 x.1.1.kind, .int .i64 x.1.1.at_, .int .i64 x.1.1.num, .string ⟨x.1.1.name.toArray⟩, x.1.2], undef, undef, undef, undef, undef, undef, undef, undef, undef, undef, undef, undef, undef, undef, undef, undef, undef, undef, undef, undef, undef, undef], defers := [] }) ?ax ?assign ?body ?done ?stop
  case own =>
    rintro pre W W' row ⟨hv, hl, hB, hsz⟩ hg hr
    exact ⟨(boxed_own (w4.heap.size + 1) 3 (fun _ : Unit => .int .i64 pre.length)) () W W' row hv hg (fun r e => (hr r e).2), hl, hB.grown hg hB.size (fun k e => by have := (hr k e).1; omega), Nat.le_trans hsz hg.size⟩
  case ownx =>
    rintro c pre W W' row ⟨hc, hv, hl, hB⟩ hg hr
    exact ⟨hc, (boxed_own (w4.heap.size + 1) 3 (fun _ : Unit => .int .i64 pre.length)) () W W' row hv hg (fun r e => (hr r e).2), hl, hB.grown hg hB.size (fun k e => by have := (hr k e).1; omega)⟩
  case ax =>
    rintro x a' _ W W' row ⟨Bx, hbx, hlt, rfl⟩ hg hr
    exact ⟨Bx, (grownBy_keeps_cells hg (fun r e => (hr r e).2) hbx rfl).trans hbx, hlt, rfl⟩
  case assign =>
    rintro l pre x W K' ⟨hv, hl, hB, hsz⟩ hK'
    have HV := Lib.hid hv
    have HBW := Lib.hid hB
    obtain ⟨⟨u, q⟩, hdx, hkx⟩ := x
    change Kids _ w4 u.kids q at hkx
    obtain ⟨Aq, cq, rfl, _⟩ := hkx.form
    clear hv hB
    unfold encN
    dsimp only at hK' ⊢
    gi_wp2
    exact hK' _ _ ((KeepsOthers.alloc _ _).from _) ⟨fun b cs t fr hc hs => ⟨Below.heap_alloc W _ b (Array.getElem?_eq_some_iff.1 hc).1, hs⟩, fun hw b h => by have := hw b h; rw [World.size_alloc]; omega, (Below.refl _ W).alloc HBW.out.size _⟩ ⟨HV.out.alloc _, hl, HBW.out.alloc HBW.out.size _, by rw [World.size_alloc]; omega⟩ ⟨W.heap.size, Box.new _ _ _ _ rfl, hsz, rfl⟩
  case body =>
    rintro l pre x a' W hll _ ⟨hv, hl, hB, hsz⟩ ⟨Bx, hbx, hBx, rfl⟩ hlt
    obtain ⟨⟨u, q⟩, hdx, hkx⟩ := x
    change Kids _ w4 u.kids q at hkx
    obtain ⟨Aq, cq, rfl, _⟩ := hkx.form
    dsimp only at hbx ⊢
    have hc := hv.cell
    have hfz := hv.frozen
    have hsm : pre.length < 1073741824 := by have := HPZ.out; have := gG_eq; omega
    have HV := Lib.hid hv
    have HBW := Lib.hid hB
    obtain ⟨j, hj⟩ : ∃ j, j = pre.length := ⟨_, rfl⟩
    have HJ := Lib.hid hj
    rw [← hj] at hc hl hsm HV
    have ex : ∀ v : Value, (W.setCell ⟨w4.heap.size + 1, 0, none⟩ v).cell? ⟨K, 0, none⟩ = some (.int .u8 m) := fun v => (World.cell?_of_block (Below.heap_setCell _ _ _ _ (by show K ≠ w4.heap.size + 1; omega))).trans ((HBW.out.cell (p := ⟨K, 0, none⟩) hK4).trans HK4.out)
    have ey : ∀ v : Value, (W.setCell ⟨w4.heap.size + 1, 0, none⟩ v).cell? ⟨Bx, 0, none⟩ = some (.int .i64 u.kind) := fun v => (World.cell?_of_block (Below.heap_setCell _ _ _ _ (by show Bx ≠ w4.heap.size + 1; omega))).trans (hbx.cell 0)
    have ez : ∀ v : Value, (W.setCell ⟨w4.heap.size + 1, 0, none⟩ v).cell? ⟨w4.heap.size + 1, 0, none⟩ = some v := fun v => (HV.out.set v).cell
    have ex0 : w4.heap.size + 1 ≠ K := by omega
    clear hv hB hbx hj
    gi_wp2_with (fail)
    all_goals
      refine ⟨(KeepsOthers.setCell _ _ _).from _, ?_⟩
    · refine ⟨rfl, ?_, by rw [List.length_append, ← HJ.out]; simp; omega, HBW.out.setCell (p := ⟨w4.heap.size + 1, 0, none⟩) (show w4.heap.size ≤ w4.heap.size + 1 by omega) _⟩
      rw [List.length_append, ← HJ.out]
      exact HV.out.set _
    · refine ⟨kps_cell (by omega) _, ?_, by rw [List.length_append, ← HJ.out]; simp; omega, HBW.out.setCell (p := ⟨w4.heap.size + 1, 0, none⟩) (show w4.heap.size ≤ w4.heap.size + 1 by omega) _, by rw [World.size_setCell]; exact hsz⟩
      rw [List.length_append, ← HJ.out]
      exact HV.out.set _
    · refine ⟨rfl, ?_, by rw [List.length_append, ← HJ.out]; simp; omega, HBW.out.setCell (p := ⟨w4.heap.size + 1, 0, none⟩) (show w4.heap.size ≤ w4.heap.size + 1 by omega) _⟩
      rw [List.length_append, ← HJ.out]
      exact HV.out.set _
  case done =>
    rintro D ys W hD hys ⟨hv, hl, hB, hsz⟩ hK
    have hjN : ys.length ≤ p.size := by have := congrArg List.length hys; rw [List.length_map, hwl] at this; omega
    have hl : ys.length ≤ m + 1 := by omega
    obtain ⟨j, hj⟩ : ∃ j, j = ys.length := ⟨_, rfl⟩
    rw [← hj] at hv hl hjN
    have hPB : Box w4 P NodeT #[.int .i64 p.kind, .int .i64 p.at_, .int .i64 p.num, .string ⟨p.name.toArray⟩, .slice Ap np cp] := HPX.out
    have hPW : Box W P NodeT _ := hPB.on hB
    have hKW : W.cell? ⟨K, 0, none⟩ = some (.int .u8 m) := (hB.cell (p := ⟨K, 0, none⟩) hK4).trans HK4.out
    have HCN := Lib.hid (pcount_any (fun b => w1.heap.size ≤ b) p HPD.out (by have := HPZ.out; have := gG_eq; omega) (.slice Ap p.kids.length cp) W.drew (HLW.out W.drew (HB4.out.trans ((hB.mono HB4.out.size).drew))) ((HPK.out.below hB).keep (fun _ _ _ _ => rfl)))
    rw [← HNP.out] at HCN
    have hDW : D < W.heap.size := (Array.getElem?_eq_some_iff.1 hK).1
    have HBW := Lib.hid hB
    have hle : (j : Int) ≤ (m : Int) + 1 := by omega
    have hle2 : (j : Int) ≤ (p.size : Int) := by omega
    have hwm : IntKind.i64.wrap ((m : Int) + 1) = (m : Int) + 1 := by
      rw [IntKind.wrap_i64]; omega
    have hwn : IntKind.i64.wrap (m : Int) = (m : Int) := by
      rw [IntKind.wrap_i64]; omega
    have HS : Hid (∀ w', Below W.heap.size W w' → w'.cell? ⟨w4.heap.size + 1, 0, none⟩ = some (.int .i64 j) ∧ w'.cell? ⟨K, 0, none⟩ = some (.int .u8 m) ∧ w'.cell? ⟨P, 0, none⟩ = some (.int .i64 p.kind) ∧ w'.cell? ⟨P, 1, none⟩ = some (.int .i64 p.at_) ∧ w'.cell? ⟨P, 2, none⟩ = some (.int .i64 p.num) ∧ w'.cell? ⟨P, 3, none⟩ = some (.string ⟨p.name.toArray⟩) ∧ w'.cell? ⟨P, 4, none⟩ = some (.slice Ap np cp)) := Lib.hid fun w' hb => by
      have hv2 : Boxed w' _ _ _ := (hb.block _ hv.lt).trans hv
      have hp2 := hPW.on hb
      exact ⟨hv2.cell, (hb.cell (p := ⟨K, 0, none⟩) (World.block_lt_of_cell? _ _ hKW)).trans hKW, hp2.cell 0, hp2.cell 1, hp2.cell 2, hp2.cell 3, hp2.cell 4⟩
    clear hPB hPW hKW hv hB hj
    gi_wp2_with (fail)
    refine region_wide (S := fun w' => w'.cell? ⟨w4.heap.size + 1, 0, none⟩ = some (.int .i64 j) ∧ w'.cell? ⟨K, 0, none⟩ = some (.int .u8 m) ∧ w'.cell? ⟨P, 0, none⟩ = some (.int .i64 p.kind) ∧ w'.cell? ⟨P, 1, none⟩ = some (.int .i64 p.at_) ∧ w'.cell? ⟨P, 2, none⟩ = some (.int .i64 p.num) ∧ w'.cell? ⟨P, 3, none⟩ = some (.string ⟨p.name.toArray⟩) ∧ w'.cell? ⟨P, 4, none⟩ = some (.slice Ap np cp)) (by kernel_rfl) (no_defer (by kernel_rfl)) (HS.out _ (Below.refl _ _).drew) (fun hHeld => ?_)
    refine wpAnyH_take (i := 0) (v := .int .i64 j) rfl (by kernel_rfl) (by kernel_rfl) (by kernel_rfl) (fun _ _ _ h => h) (Or.inl ⟨by rfl, fun w hSw => ?_⟩) hHeld ?_
    · obtain ⟨s0, s1, s2, s3, s4, s5, s6⟩ := hSw
      go_simp
    (try simp only [Act.put, List.getElem_toArray, List.getElem_cons_zero, List.getElem_cons_succ, List.setIfInBounds_toArray, List.set_cons_zero, List.set_cons_succ])
    refine wpAnyH_take (i := 1) (v := .int .u8 m) rfl (by kernel_rfl) (by kernel_rfl) (by kernel_rfl) (fun _ _ _ h => h) (Or.inl ⟨by rfl, fun w hSw => ?_⟩) hHeld ?_
    · obtain ⟨s0, s1, s2, s3, s4, s5, s6⟩ := hSw
      go_simp
    (try simp only [Act.put, List.getElem_toArray, List.getElem_cons_zero, List.getElem_cons_succ, List.setIfInBounds_toArray, List.set_cons_zero, List.set_cons_succ])
    refine wpAnyH_take (i := 2) (v := .int .i64 m) rfl (by kernel_rfl) (by kernel_rfl) (by kernel_rfl) (fun _ _ _ h => h) (Or.inl ⟨by rfl, fun w hSw => ?_⟩) hHeld ?_
    · obtain ⟨s0, s1, s2, s3, s4, s5, s6⟩ := hSw
      go_simp
    (try simp only [Act.put, List.getElem_toArray, List.getElem_cons_zero, List.getElem_cons_succ, List.setIfInBounds_toArray, List.set_cons_zero, List.set_cons_succ])
    refine wpAnyH_take (i := 3) (v := .int .i64 ((m : Int) + 1)) rfl (by kernel_rfl) (by kernel_rfl) (by kernel_rfl) (fun _ _ _ h => h) (Or.inl ⟨by rfl, fun w hSw => ?_⟩) hHeld ?_
    · obtain ⟨s0, s1, s2, s3, s4, s5, s6⟩ := hSw
      go_simp
    (try simp only [Act.put, List.getElem_toArray, List.getElem_cons_zero, List.getElem_cons_succ, List.setIfInBounds_toArray, List.set_cons_zero, List.set_cons_succ])
    refine wpAnyH_take (i := 4) (v := .bool true) rfl (by kernel_rfl) (by kernel_rfl) (by kernel_rfl) (fun _ _ _ h => h) (Or.inl ⟨by rfl, fun w hSw => ?_⟩) hHeld ?_
    · obtain ⟨s0, s1, s2, s3, s4, s5, s6⟩ := hSw
      go_simp
    (try simp only [Act.put, List.getElem_toArray, List.getElem_cons_zero, List.getElem_cons_succ, List.setIfInBounds_toArray, List.set_cons_zero, List.set_cons_succ])
    refine wpAnyH_take (i := 5) (v := .bool true) rfl (by kernel_rfl) (by kernel_rfl) (by kernel_rfl) (fun _ _ _ h => h) (Or.inl ⟨by rfl, fun w hSw => ?_⟩) hHeld ?_
    · obtain ⟨s0, s1, s2, s3, s4, s5, s6⟩ := hSw
      go_simp
    (try simp only [Act.put, List.getElem_toArray, List.getElem_cons_zero, List.getElem_cons_succ, List.setIfInBounds_toArray, List.set_cons_zero, List.set_cons_succ])
    refine wpAnyH_take (i := 6) (v := .int .i64 j) rfl (by kernel_rfl) (by kernel_rfl) (by kernel_rfl) (fun _ _ _ h => h) (Or.inl ⟨by rfl, fun w hSw => ?_⟩) hHeld ?_
    · obtain ⟨s0, s1, s2, s3, s4, s5, s6⟩ := hSw
      go_simp
    (try simp only [Act.put, List.getElem_toArray, List.getElem_cons_zero, List.getElem_cons_succ, List.setIfInBounds_toArray, List.set_cons_zero, List.set_cons_succ])
    refine wpAnyH_take (i := 7) (v := .agg #[.int .i64 p.kind, .int .i64 p.at_, .int .i64 p.num, .string ⟨p.name.toArray⟩, .slice Ap np cp]) rfl (by kernel_rfl) (by kernel_rfl) (by kernel_rfl) (fun _ _ _ h => h) (Or.inl ⟨by rfl, fun w hSw => ?_⟩) hHeld ?_
    · obtain ⟨s0, s1, s2, s3, s4, s5, s6⟩ := hSw
      go_simp
    (try simp only [Act.put, List.getElem_toArray, List.getElem_cons_zero, List.getElem_cons_succ, List.setIfInBounds_toArray, List.set_cons_zero, List.set_cons_succ])
    refine wpAnyH_ready (rs := [8]) (by kernel_rfl) (by simp) ?_
    refine AllReadyH.cons rfl (fun K' hK' => ?_) AllReadyH.nil
    go_simp
    refine HCN.out.mono ?_
    rintro e wc ⟨rfl, hbc⟩
    refine hK'.out _ _ (HS.out _ ((Below.refl _ W).drew.trans hbc)) (fun hHeld => ?_)
    clear hK' K'
    (try simp only [Act.put, List.getElem_toArray, List.getElem_cons_zero, List.getElem_cons_succ, List.setIfInBounds_toArray, List.set_cons_zero, List.set_cons_succ])
    refine wpAnyH_take (i := 9) (v := .bool true) rfl (by kernel_rfl) (by kernel_rfl) (by kernel_rfl) (fun _ _ _ h => h) (Or.inl ⟨by rfl, fun w hSw => ?_⟩) hHeld ?_
    · obtain ⟨s0, s1, s2, s3, s4, s5, s6⟩ := hSw
      go_simp
    (try simp only [Act.put, List.getElem_toArray, List.getElem_cons_zero, List.getElem_cons_succ, List.setIfInBounds_toArray, List.set_cons_zero, List.set_cons_succ])
    refine wpAnyH_take (i := 10) (v := .bool true) rfl (by kernel_rfl) (by kernel_rfl) (by kernel_rfl) (fun _ _ _ h => h) (Or.inl ⟨by rfl, fun w hSw => ?_⟩) hHeld ?_
    · obtain ⟨s0, s1, s2, s3, s4, s5, s6⟩ := hSw
      go_simp
    (try simp only [Act.put, List.getElem_toArray, List.getElem_cons_zero, List.getElem_cons_succ, List.setIfInBounds_toArray, List.set_cons_zero, List.set_cons_succ])
    refine wpAnyH_take (i := 11) (v := .bool true) rfl (by kernel_rfl) (by kernel_rfl) (by kernel_rfl) (fun _ _ _ h => h) (Or.inl ⟨by rfl, fun w hSw => ?_⟩) hHeld ?_
    · obtain ⟨s0, s1, s2, s3, s4, s5, s6⟩ := hSw
      go_simp
    (try simp only [Act.put, List.getElem_toArray, List.getElem_cons_zero, List.getElem_cons_succ, List.setIfInBounds_toArray, List.set_cons_zero, List.set_cons_succ])
    refine wpAnyH_done (by kernel_rfl) ?_ _
    simp only [OnlyN]
    have hKc : wc.heap[D]? = some (.deferred (some [])) := (hbc.block D hDW).trans hK
    have HWC := Lib.hid (HBW.out.trans (((Below.refl _ W).drew.trans hbc).mono HBW.out.size))
    clear hHeld HCN HS hbc
    gi_wp2
    refine ⟨by simp, .inl ⟨_, _, rfl, run_takeDeferred hKc, ?_⟩⟩
    exact ⟨_, results_tmp rfl _ _ _, rfl, (HB.out.trans ((HB4.out.trans (HWC.out.mono HB4.out.size)).mono HB.out.size)).trans (belowK_b (w := w) (Nat.le_refl _) wc D _ _ (by have := HB4.out.size; have := HB.out.size; omega) hKc rfl rfl)⟩
  case stop =>
    rintro D c pre W hD hq ⟨rfl, hv, hl, hB⟩ hK
    have hjN : pre.length ≤ p.size := by have := hq.length_le; rw [List.length_map, hwl] at this; omega
    obtain ⟨j, hj⟩ : ∃ j, j = pre.length := ⟨_, rfl⟩
    rw [← hj] at hv hl hjN
    have hPB : Box w4 P NodeT #[.int .i64 p.kind, .int .i64 p.at_, .int .i64 p.num, .string ⟨p.name.toArray⟩, .slice Ap np cp] := HPX.out
    have hPW : Box W P NodeT _ := hPB.on hB
    have hKW : W.cell? ⟨K, 0, none⟩ = some (.int .u8 m) := (hB.cell (p := ⟨K, 0, none⟩) hK4).trans HK4.out
    have HCN := Lib.hid (pcount_any (fun b => w1.heap.size ≤ b) p HPD.out (by have := HPZ.out; have := gG_eq; omega) (.slice Ap p.kids.length cp) W.drew (HLW.out W.drew (HB4.out.trans ((hB.mono HB4.out.size).drew))) ((HPK.out.below hB).keep (fun _ _ _ _ => rfl)))
    rw [← HNP.out] at HCN
    have hDW : D < W.heap.size := (Array.getElem?_eq_some_iff.1 hK).1
    have HBW := Lib.hid hB
    have hle : (j : Int) ≤ (m : Int) + 1 := by omega
    have hle2 : (j : Int) ≤ (p.size : Int) := by omega
    have hwm : IntKind.i64.wrap ((m : Int) + 1) = (m : Int) + 1 := by
      rw [IntKind.wrap_i64]; omega
    have hwn : IntKind.i64.wrap (m : Int) = (m : Int) := by
      rw [IntKind.wrap_i64]; omega
    have HS : Hid (∀ w', Below W.heap.size W w' → w'.cell? ⟨w4.heap.size + 1, 0, none⟩ = some (.int .i64 j) ∧ w'.cell? ⟨K, 0, none⟩ = some (.int .u8 m) ∧ w'.cell? ⟨P, 0, none⟩ = some (.int .i64 p.kind) ∧ w'.cell? ⟨P, 1, none⟩ = some (.int .i64 p.at_) ∧ w'.cell? ⟨P, 2, none⟩ = some (.int .i64 p.num) ∧ w'.cell? ⟨P, 3, none⟩ = some (.string ⟨p.name.toArray⟩) ∧ w'.cell? ⟨P, 4, none⟩ = some (.slice Ap np cp)) := Lib.hid fun w' hb => by
      have hv2 : Boxed w' _ _ _ := (hb.block _ hv.lt).trans hv
      have hp2 := hPW.on hb
      exact ⟨hv2.cell, (hb.cell (p := ⟨K, 0, none⟩) (World.block_lt_of_cell? _ _ hKW)).trans hKW, hp2.cell 0, hp2.cell 1, hp2.cell 2, hp2.cell 3, hp2.cell 4⟩
    clear hPB hPW hKW hv hB hj
    gi_wp2_with (fail)
    refine region_wide (S := fun w' => w'.cell? ⟨w4.heap.size + 1, 0, none⟩ = some (.int .i64 j) ∧ w'.cell? ⟨K, 0, none⟩ = some (.int .u8 m) ∧ w'.cell? ⟨P, 0, none⟩ = some (.int .i64 p.kind) ∧ w'.cell? ⟨P, 1, none⟩ = some (.int .i64 p.at_) ∧ w'.cell? ⟨P, 2, none⟩ = some (.int .i64 p.num) ∧ w'.cell? ⟨P, 3, none⟩ = some (.string ⟨p.name.toArray⟩) ∧ w'.cell? ⟨P, 4, none⟩ = some (.slice Ap np cp)) (by kernel_rfl) (no_defer (by kernel_rfl)) (HS.out _ (Below.refl _ _).drew) (fun hHeld => ?_)
    refine wpAnyH_take (i := 0) (v := .int .i64 j) rfl (by kernel_rfl) (by kernel_rfl) (by kernel_rfl) (fun _ _ _ h => h) (Or.inl ⟨by rfl, fun w hSw => ?_⟩) hHeld ?_
    · obtain ⟨s0, s1, s2, s3, s4, s5, s6⟩ := hSw
      go_simp
    (try simp only [Act.put, List.getElem_toArray, List.getElem_cons_zero, List.getElem_cons_succ, List.setIfInBounds_toArray, List.set_cons_zero, List.set_cons_succ])
    refine wpAnyH_take (i := 1) (v := .int .u8 m) rfl (by kernel_rfl) (by kernel_rfl) (by kernel_rfl) (fun _ _ _ h => h) (Or.inl ⟨by rfl, fun w hSw => ?_⟩) hHeld ?_
    · obtain ⟨s0, s1, s2, s3, s4, s5, s6⟩ := hSw
      go_simp
    (try simp only [Act.put, List.getElem_toArray, List.getElem_cons_zero, List.getElem_cons_succ, List.setIfInBounds_toArray, List.set_cons_zero, List.set_cons_succ])
    refine wpAnyH_take (i := 2) (v := .int .i64 m) rfl (by kernel_rfl) (by kernel_rfl) (by kernel_rfl) (fun _ _ _ h => h) (Or.inl ⟨by rfl, fun w hSw => ?_⟩) hHeld ?_
    · obtain ⟨s0, s1, s2, s3, s4, s5, s6⟩ := hSw
      go_simp
    (try simp only [Act.put, List.getElem_toArray, List.getElem_cons_zero, List.getElem_cons_succ, List.setIfInBounds_toArray, List.set_cons_zero, List.set_cons_succ])
    refine wpAnyH_take (i := 3) (v := .int .i64 ((m : Int) + 1)) rfl (by kernel_rfl) (by kernel_rfl) (by kernel_rfl) (fun _ _ _ h => h) (Or.inl ⟨by rfl, fun w hSw => ?_⟩) hHeld ?_
    · obtain ⟨s0, s1, s2, s3, s4, s5, s6⟩ := hSw
      go_simp
    (try simp only [Act.put, List.getElem_toArray, List.getElem_cons_zero, List.getElem_cons_succ, List.setIfInBounds_toArray, List.set_cons_zero, List.set_cons_succ])
    refine wpAnyH_take (i := 4) (v := .bool true) rfl (by kernel_rfl) (by kernel_rfl) (by kernel_rfl) (fun _ _ _ h => h) (Or.inl ⟨by rfl, fun w hSw => ?_⟩) hHeld ?_
    · obtain ⟨s0, s1, s2, s3, s4, s5, s6⟩ := hSw
      go_simp
    (try simp only [Act.put, List.getElem_toArray, List.getElem_cons_zero, List.getElem_cons_succ, List.setIfInBounds_toArray, List.set_cons_zero, List.set_cons_succ])
    refine wpAnyH_take (i := 5) (v := .bool true) rfl (by kernel_rfl) (by kernel_rfl) (by kernel_rfl) (fun _ _ _ h => h) (Or.inl ⟨by rfl, fun w hSw => ?_⟩) hHeld ?_
    · obtain ⟨s0, s1, s2, s3, s4, s5, s6⟩ := hSw
      go_simp
    (try simp only [Act.put, List.getElem_toArray, List.getElem_cons_zero, List.getElem_cons_succ, List.setIfInBounds_toArray, List.set_cons_zero, List.set_cons_succ])
    refine wpAnyH_take (i := 6) (v := .int .i64 j) rfl (by kernel_rfl) (by kernel_rfl) (by kernel_rfl) (fun _ _ _ h => h) (Or.inl ⟨by rfl, fun w hSw => ?_⟩) hHeld ?_
    · obtain ⟨s0, s1, s2, s3, s4, s5, s6⟩ := hSw
      go_simp
    (try simp only [Act.put, List.getElem_toArray, List.getElem_cons_zero, List.getElem_cons_succ, List.setIfInBounds_toArray, List.set_cons_zero, List.set_cons_succ])
    refine wpAnyH_take (i := 7) (v := .agg #[.int .i64 p.kind, .int .i64 p.at_, .int .i64 p.num, .string ⟨p.name.toArray⟩, .slice Ap np cp]) rfl (by kernel_rfl) (by kernel_rfl) (by kernel_rfl) (fun _ _ _ h => h) (Or.inl ⟨by rfl, fun w hSw => ?_⟩) hHeld ?_
    · obtain ⟨s0, s1, s2, s3, s4, s5, s6⟩ := hSw
      go_simp
    (try simp only [Act.put, List.getElem_toArray, List.getElem_cons_zero, List.getElem_cons_succ, List.setIfInBounds_toArray, List.set_cons_zero, List.set_cons_succ])
    refine wpAnyH_ready (rs := [8]) (by kernel_rfl) (by simp) ?_
    refine AllReadyH.cons rfl (fun K' hK' => ?_) AllReadyH.nil
    go_simp
    refine HCN.out.mono ?_
    rintro e wc ⟨rfl, hbc⟩
    refine hK'.out _ _ (HS.out _ ((Below.refl _ W).drew.trans hbc)) (fun hHeld => ?_)
    clear hK' K'
    (try simp only [Act.put, List.getElem_toArray, List.getElem_cons_zero, List.getElem_cons_succ, List.setIfInBounds_toArray, List.set_cons_zero, List.set_cons_succ])
    refine wpAnyH_take (i := 9) (v := .bool true) rfl (by kernel_rfl) (by kernel_rfl) (by kernel_rfl) (fun _ _ _ h => h) (Or.inl ⟨by rfl, fun w hSw => ?_⟩) hHeld ?_
    · obtain ⟨s0, s1, s2, s3, s4, s5, s6⟩ := hSw
      go_simp
    (try simp only [Act.put, List.getElem_toArray, List.getElem_cons_zero, List.getElem_cons_succ, List.setIfInBounds_toArray, List.set_cons_zero, List.set_cons_succ])
    refine wpAnyH_take (i := 10) (v := .bool true) rfl (by kernel_rfl) (by kernel_rfl) (by kernel_rfl) (fun _ _ _ h => h) (Or.inl ⟨by rfl, fun w hSw => ?_⟩) hHeld ?_
    · obtain ⟨s0, s1, s2, s3, s4, s5, s6⟩ := hSw
      go_simp
    (try simp only [Act.put, List.getElem_toArray, List.getElem_cons_zero, List.getElem_cons_succ, List.setIfInBounds_toArray, List.set_cons_zero, List.set_cons_succ])
    refine wpAnyH_take (i := 11) (v := .bool true) rfl (by kernel_rfl) (by kernel_rfl) (by kernel_rfl) (fun _ _ _ h => h) (Or.inl ⟨by rfl, fun w hSw => ?_⟩) hHeld ?_
    · obtain ⟨s0, s1, s2, s3, s4, s5, s6⟩ := hSw
      go_simp
    (try simp only [Act.put, List.getElem_toArray, List.getElem_cons_zero, List.getElem_cons_succ, List.setIfInBounds_toArray, List.set_cons_zero, List.set_cons_succ])
    refine wpAnyH_done (by kernel_rfl) ?_ _
    simp only [OnlyN]
    have hKc : wc.heap[D]? = some (.deferred (some [])) := (hbc.block D hDW).trans hK
    have HWC := Lib.hid (HBW.out.trans (((Below.refl _ W).drew.trans hbc).mono HBW.out.size))
    clear hHeld HCN HS hbc
    gi_wp2
    refine ⟨by simp, .inl ⟨_, _, rfl, run_takeDeferred hKc, ?_⟩⟩
    exact ⟨_, results_tmp rfl _ _ _, rfl, (HB.out.trans ((HB4.out.trans (HWC.out.mono HB4.out.size)).mono HB.out.size)).trans (belowK_b (w := w) (Nat.le_refl _) wc D _ _ (by have := HB4.out.size; have := HB.out.size; omega) hKc rfl rfl)⟩
end Go.Proofs.YtkmkeaeaalnbjaaDoor.nt

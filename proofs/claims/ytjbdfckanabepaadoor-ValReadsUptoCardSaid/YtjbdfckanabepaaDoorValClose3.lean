/- The reader closes a record. -/
import Derived.Test.YtjbdfckanabepaaDoorValClose
namespace Go.Proofs.YtjbdfckanabepaaDoor.vt
open Go.RowKit mem

set_option maxHeartbeats 4000000 in
set_option maxRecDepth 100000 in
theorem closes_yes3 (B rb : Nat) (r : List UInt8) (o : List (Int × Nat)) (d0 d1 : List VT) (w : World) (h : Rdr B rb (clB 3 :: r) (o ++ [(3, d0.length)]) (d0 ++ d1) w) (ho : o.length ≤ 1048576) (hd : (d0 ++ d1).length ≤ 1048576) :
    Calls Tryd.prog 40 #[.pointer (some ⟨rb, 0, none⟩)] w fun e w' => e = .returned (.bool true) ∧ Rdr B rb r o (d0 ++ [.mk 3 0 d1]) w' ∧ Below B w w' := by
  obtain ⟨g, c, c1, e1, e2, hBg, hgl, hgr, hrl⟩ := last_cells h
  have HR := Lib.hid h
  have hBr := h.1
  obtain ⟨M, hM⟩ : ∃ M, M = o.length := ⟨_, rfl⟩
  have HM := Lib.hid hM
  rw [← hM] at c1 e1 e2 ho
  obtain ⟨n, hn⟩ : ∃ n, n = d0.length := ⟨_, rfl⟩
  have HN := Lib.hid hn
  rw [← hn] at e2
  have hn2 : n ≤ 1048576 := by rw [List.length_append] at hd; omega
  have e3 : IntKind.i64.wrap ((M : Int) + 1 - 1) = M := by rw [IntWalk.i64_in _ (by omega)]; omega
  have e4 : IntKind.i64.wrap (M : Int) = M := IntWalk.i64_in _ (by omega)
  have e5 : (0 : Int) ≤ M := by omega
  have e6 : (M : Int) < M + 1 := by omega
  dsimp only at e1 e2
  clear h hM hn
  have hd1 : d1.length ≤ 1048576 := by rw [List.length_append] at hd; omega
  go_enter Tryd.func40, Tryd.ntmps40
  go_wp2
  go_region_held3 (fun w' => w'.cell? ⟨rb, 1, none⟩ = some (.slice (some ⟨g, 0, none⟩) (M + 1) c) ∧ w'.cell? ⟨g, M * 2, none⟩ = some (.int .i64 3) ∧ w'.cell? ⟨g, M * 2 + 1, none⟩ = some (.int .i64 n)) (first | go_keep) (first | fail)
  clear e3 e4 e5 e6 e1 e2 c1
  go_wp2_with (fail)
  obtain ⟨W1, hW1⟩ : ∃ W1, W1 = (w.alloc (.cells #[.int .i64 3, .int .i64 n] 69)).drew := ⟨_, rfl⟩
  have hbW : Below w.heap.size w W1 := by rw [hW1]; exact ((Below.refl _ _).alloc (Nat.le_refl _) _).drew
  have hr1 := HR.out.below hbW
  have hl1 : W1.cell? ⟨w.heap.size, 1, none⟩ = some (.int .i64 n) := by rw [hW1]; simp
  have hl0 : W1.cell? ⟨w.heap.size, 0, none⟩ = some (.int .i64 3) := by rw [hW1]; simp
  have hlz : w.heap.size < W1.heap.size := by rw [hW1]; simp
  rw [← hW1]
  refine (take_yes rb (clB 3 :: r) [clB 3] W1 hr1.cell0.1 (hr1.cell0.2 0) (by rw [prefix_one]; rfl)).mono ?_
  rintro e w2 ⟨rfl, hw⟩
  have hr2 : Rdr B rb r (o ++ [(3, d0.length)]) (d0 ++ d1) w2 := by rw [← hw]; exact hr1.rest
  have hb2 : Below B w w2 := by rw [← hw]; exact (hbW.mono (by omega)).setCell (p := ⟨rb, 0, none⟩) hBr _
  have l1 : w2.cell? ⟨w.heap.size, 1, none⟩ = some (.int .i64 n) := by rw [← hw, cell_set_other _ _ _ _ _ _ (by omega)]; exact hl1
  have l0 : w2.cell? ⟨w.heap.size, 0, none⟩ = some (.int .i64 3) := by rw [← hw, cell_set_other _ _ _ _ _ _ (by omega)]; exact hl0
  have lz : w.heap.size < w2.heap.size := by rw [← hw, World.size_setCell]; exact hlz
  clear hw hr1 hl1 hl0 hlz hbW hW1 hgl hgr hBg
  obtain ⟨_, vo, vd, vs, hh, hoo, hdd, hv⟩ := hr2
  obtain ⟨A2, q2, rfl⟩ := own_form hdd
  obtain ⟨A', q', hsl, hs1, hs2, hs3⟩ := done_sl hdd hv
  have c2 : w2.cell? ⟨rb, 2, none⟩ = some (.slice A2 (d0 ++ d1).length q2) := cell_of_row w2 rb 2 _ _ _ hh
  obtain ⟨D, hD⟩ : ∃ D, D = (d0 ++ d1).length := ⟨_, rfl⟩
  have hnD : (n : Int) ≤ D := by rw [HN.out, hD, List.length_append]; omega
  have h0n : (0 : Int) ≤ n := by omega
  obtain ⟨E, hE⟩ : ∃ E, E = d1.length := ⟨_, rfl⟩
  have hcase : Hid ((A2 = none ∧ D = 0 ∧ q2 = 0 ∧ n = 0) ∨ (∃ gd, A2 = some ⟨gd, 0, none⟩ ∧ q2 = n ∧ D = n) ∨ (∃ gd, A2 = some ⟨gd, 0, none⟩ ∧ ¬ q2 = n)) := Lib.hid (by
    rcases hdd.2 with ⟨hs, hn⟩ | ⟨gd, cap, cur, hs, _, _, hnc, _⟩
    · injection hs with e1 e2 e3
      exact Or.inl ⟨e1, by omega, e3, by omega⟩
    · injection hs with e1 e2 e3
      by_cases hq : q2 = n
      · exact Or.inr (Or.inl ⟨gd, e1, hq, by omega⟩)
      · exact Or.inr (Or.inr ⟨gd, e1, hq⟩))
  have hgrow0 : ∀ g, (Value.slice A2 D q2).ownBlock = some g → g < w2.heap.size := fun g hg => (hdd.lt g (by rw [← hD]; exact hg)).2
  have HP := Lib.hid (And.intro hh (And.intro hoo (And.intro hdd hv)))
  have MK := Lib.hid (fun w' (hb : Below w2.heap.size w2 w') => made_sl (G := KG B w2 (.slice A2 (d0 ++ d1).length q2)) 3 d1 A' q' w' hs1 hs2 (fun ad h => by
    obtain ⟨vs, h1, h2⟩ := hs3 ad h
    exact ⟨vs, h1.below hb, fun j u hu => (hb.cell (p := ad.add j) (World.block_lt_of_cell? _ _ (h2 j u hu))).trans (h2 j u hu)⟩) hd1)
  rw [← hD] at c2
  rw [← hsl, ← HN.out, ← hD] at MK
  have HB2 := Lib.hid hb2
  have hBz2 : B ≤ w2.heap.size := by have := hb2.size; have := HR.out.1; omega
  have hrbz : rb < w2.heap.size := (Array.getElem?_eq_some_iff.1 hh).1
  have HE := Lib.hid hE
  have HD := Lib.hid hD
  have N1 : rb ≠ w2.heap.size := by omega
  clear hh hoo hdd hv hs1 hs2 hs3 hsl hb2 hE hD
  go_wp2_with (fail)
  obtain ⟨L, hL⟩ : ∃ L, L = w.heap.size := ⟨_, rfl⟩
  rw [← hL] at l0 l1 lz ⊢
  have HLw := Lib.hid hL
  have N0 : L ≠ w2.heap.size := by omega
  clear hL
  go_cut [5] (fun s5 wx => Cut9 B rb L r o 3 d0 d1 w s5 wx)
  case first =>
    rcases hcase.out with ⟨e1, e2, e3, e4⟩ | ⟨gd, e1, e2, e3⟩ | ⟨gd, e1, hq⟩
    · subst e1
      subst e2
      subst e3
      subst e4
      have l1 : w2.cell? ⟨L, 1, none⟩ = some (.int .i64 0) := l1
      have esl : sliced none 0 0 0 3 = .slice none 0 0 := rfl
      rw [esl] at MK
      clear esl hcase
      go_region_held3 (fun w' => w'.cell? ⟨L, 0, none⟩ = some (.int .i64 3) ∧ w'.cell? ⟨L, 1, none⟩ = some (.int .i64 0) ∧ w'.cell? ⟨rb, 2, none⟩ = some (.slice none 0 0)) (first | go_keep | (refine ⟨?_, ?_, ?_⟩ <;> (rw [cell_set_other _ _ _ _ _ _ (by assumption), cell_set_other _ _ _ _ _ _ (by assumption), cell_set_other _ _ _ _ _ _ (by assumption)]; assumption)))
        (first
          | (go_at_call 33; refine (MK.out _ ((Below.refl _ _).drew)).mono ?_; rintro e w3 ⟨s3, rfl, hb3, ho3⟩; have hbZ : Below w2.heap.size w2 w3 := ((Below.refl w2.heap.size w2).drew).trans hb3; have k0 := (hbZ.cell (p := ⟨L, 0, none⟩) lz).trans l0; have k1 := (hbZ.cell (p := ⟨L, 1, none⟩) lz).trans l1; have k2 := (hbZ.cell (p := ⟨rb, 2, none⟩) hrbz).trans c2; have hz3 : w2.heap.size ≤ w3.heap.size := hbZ.size; have n0 : L ≠ w3.heap.size := (by omega); have n1 : rb ≠ w3.heap.size := (by omega); have HZA := Lib.hid hbZ; have HO3 := Lib.hid ho3; obtain ⟨A3, q3, rfl⟩ := (show ∃ A3 q3, s3 = .slice A3 E q3 from by obtain ⟨_, _, h⟩ := ho3; rw [HE.out]; exact own_form h); clear hb3 ho3 hbZ)
          | (go_at_call 33; refine (MK.out _ (by repeat (first | exact Below.refl _ _ | refine Below.drew ?_ | refine Below.alloc ?_ (by simp) _))).mono ?_; rintro e w3 ⟨s3, rfl, hb3, ho3⟩; have hbZ : Below w2.heap.size w2 w3 := (((Below.refl w2.heap.size w2).alloc (Nat.le_refl _) _).drew.trans (hb3.mono (by simp))); have hbN : Below (w2.heap.size + 1) (w2.alloc (.cells #[.int .i64 0, .int .i64 0, .slice none 0 0] 24)) w3 := (((Below.refl _ _).drew).trans (hb3.mono (by simp))); have k0 := (hbZ.cell (p := ⟨L, 0, none⟩) lz).trans l0; have k1 := (hbZ.cell (p := ⟨L, 1, none⟩) lz).trans l1; have k2 := (hbZ.cell (p := ⟨rb, 2, none⟩) hrbz).trans c2; have m0 : w3.cell? ⟨w2.heap.size, 0, none⟩ = some (.int .i64 0) := (cell_since (N := w2.heap.size) rfl hbN 0).1; have m1 : w3.cell? ⟨w2.heap.size, 1, none⟩ = some (.int .i64 0) := (cell_since (N := w2.heap.size) rfl hbN 1).1; have m2 : w3.cell? ⟨w2.heap.size, 2, none⟩ = some (.slice none 0 0) := (cell_since (N := w2.heap.size) rfl hbN 2).1; have z0 := (cell_since (N := w2.heap.size) rfl hbN 0).2; have z1 := (cell_since (N := w2.heap.size) rfl hbN 1).2; have z2 := (cell_since (N := w2.heap.size) rfl hbN 2).2; have hz3 : w2.heap.size < w3.heap.size := (by have h := hbN.size; simp at h; omega); have H5 := Lib.hid ((hbN.block w2.heap.size (Nat.lt_succ_self _)).trans (heap_new w2 _ rfl _)); have HZB := Lib.hid hbZ; have HO3 := Lib.hid ho3; obtain ⟨A3, q3, rfl⟩ := (show ∃ A3 q3, s3 = .slice A3 E q3 from by obtain ⟨_, _, h⟩ := ho3; rw [HE.out]; exact own_form h); clear hb3 ho3 hbZ hbN))
      all_goals
        go_wp2_with (fail)
        go_meet
        first
          | (have X := HZA; exact cut9_mk2 hBr HN.out HP.out HZA.out HO3.out (fun b h => ⟨h.1, h.2.1, h.2.2⟩) (by simp) hBz2 l1 lz HB2.out)
          | (have X := HZB; exact cut9_mk hBr HN.out HP.out HZB.out H5.out HO3.out (fun b h => ⟨h.1, h.2.1, h.2.2⟩) (by simp) hBz2 l1 lz HB2.out)
    · subst e1
      obtain rfl : n = q2 := e2.symm
      obtain rfl : n = D := e3.symm
      have esl : sliced (some ⟨gd, 0, none⟩) n n n 3 = .slice (some ⟨gd, 0, none⟩) 0 0 := by unfold sliced; rw [if_pos rfl, Nat.sub_self]
      rw [esl] at MK
      clear esl hcase
      go_region_held3 (fun w' => w'.cell? ⟨L, 0, none⟩ = some (.int .i64 3) ∧ w'.cell? ⟨L, 1, none⟩ = some (.int .i64 n) ∧ w'.cell? ⟨rb, 2, none⟩ = some (.slice (some ⟨gd, 0, none⟩) n n)) (first | go_keep | (refine ⟨?_, ?_, ?_⟩ <;> (rw [cell_set_other _ _ _ _ _ _ (by assumption), cell_set_other _ _ _ _ _ _ (by assumption), cell_set_other _ _ _ _ _ _ (by assumption)]; assumption)))
        (first
          | (go_at_call 33; refine (MK.out _ ((Below.refl _ _).drew)).mono ?_; rintro e w3 ⟨s3, rfl, hb3, ho3⟩; have hbZ : Below w2.heap.size w2 w3 := ((Below.refl w2.heap.size w2).drew).trans hb3; have k0 := (hbZ.cell (p := ⟨L, 0, none⟩) lz).trans l0; have k1 := (hbZ.cell (p := ⟨L, 1, none⟩) lz).trans l1; have k2 := (hbZ.cell (p := ⟨rb, 2, none⟩) hrbz).trans c2; have hz3 : w2.heap.size ≤ w3.heap.size := hbZ.size; have n0 : L ≠ w3.heap.size := (by omega); have n1 : rb ≠ w3.heap.size := (by omega); have HZA := Lib.hid hbZ; have HO3 := Lib.hid ho3; obtain ⟨A3, q3, rfl⟩ := (show ∃ A3 q3, s3 = .slice A3 E q3 from by obtain ⟨_, _, h⟩ := ho3; rw [HE.out]; exact own_form h); clear hb3 ho3 hbZ)
          | (go_at_call 33; refine (MK.out _ (by repeat (first | exact Below.refl _ _ | refine Below.drew ?_ | refine Below.alloc ?_ (by simp) _))).mono ?_; rintro e w3 ⟨s3, rfl, hb3, ho3⟩; have hbZ : Below w2.heap.size w2 w3 := (((Below.refl w2.heap.size w2).alloc (Nat.le_refl _) _).drew.trans (hb3.mono (by simp))); have hbN : Below (w2.heap.size + 1) (w2.alloc (.cells #[.int .i64 0, .int .i64 0, .slice none 0 0] 24)) w3 := (((Below.refl _ _).drew).trans (hb3.mono (by simp))); have k0 := (hbZ.cell (p := ⟨L, 0, none⟩) lz).trans l0; have k1 := (hbZ.cell (p := ⟨L, 1, none⟩) lz).trans l1; have k2 := (hbZ.cell (p := ⟨rb, 2, none⟩) hrbz).trans c2; have m0 : w3.cell? ⟨w2.heap.size, 0, none⟩ = some (.int .i64 0) := (cell_since (N := w2.heap.size) rfl hbN 0).1; have m1 : w3.cell? ⟨w2.heap.size, 1, none⟩ = some (.int .i64 0) := (cell_since (N := w2.heap.size) rfl hbN 1).1; have m2 : w3.cell? ⟨w2.heap.size, 2, none⟩ = some (.slice none 0 0) := (cell_since (N := w2.heap.size) rfl hbN 2).1; have z0 := (cell_since (N := w2.heap.size) rfl hbN 0).2; have z1 := (cell_since (N := w2.heap.size) rfl hbN 1).2; have z2 := (cell_since (N := w2.heap.size) rfl hbN 2).2; have hz3 : w2.heap.size < w3.heap.size := (by have h := hbN.size; simp at h; omega); have H5 := Lib.hid ((hbN.block w2.heap.size (Nat.lt_succ_self _)).trans (heap_new w2 _ rfl _)); have HZB := Lib.hid hbZ; have HO3 := Lib.hid ho3; obtain ⟨A3, q3, rfl⟩ := (show ∃ A3 q3, s3 = .slice A3 E q3 from by obtain ⟨_, _, h⟩ := ho3; rw [HE.out]; exact own_form h); clear hb3 ho3 hbZ hbN))
      all_goals
        go_wp2_with (fail)
        go_meet
        first
          | (have X := HZA; exact cut9_mk2 hBr HN.out HP.out HZA.out HO3.out (fun b h => ⟨h.1, h.2.1, h.2.2⟩) (by simp) hBz2 l1 lz HB2.out)
          | (have X := HZB; exact cut9_mk hBr HN.out HP.out HZB.out H5.out HO3.out (fun b h => ⟨h.1, h.2.1, h.2.2⟩) (by simp) hBz2 l1 lz HB2.out)
    · subst e1
      have esl : sliced (some ⟨gd, 0, none⟩) n D q2 3 = .slice (some ⟨gd, n * 3, none⟩) (D - n) (q2 - n) := by unfold sliced; rw [if_neg hq]; show Value.slice (some (Addr.add ⟨gd, 0, none⟩ (n * 3))) _ _ = _; rw [cells_add, Nat.zero_add]
      rw [esl] at MK
      clear esl hcase
      go_region_held3 (fun w' => w'.cell? ⟨L, 0, none⟩ = some (.int .i64 3) ∧ w'.cell? ⟨L, 1, none⟩ = some (.int .i64 n) ∧ w'.cell? ⟨rb, 2, none⟩ = some (.slice (some ⟨gd, 0, none⟩) D q2)) (first | go_keep | (refine ⟨?_, ?_, ?_⟩ <;> (rw [cell_set_other _ _ _ _ _ _ (by assumption), cell_set_other _ _ _ _ _ _ (by assumption), cell_set_other _ _ _ _ _ _ (by assumption)]; assumption)))
        (first
          | (go_at_call 33; refine (MK.out _ ((Below.refl _ _).drew)).mono ?_; rintro e w3 ⟨s3, rfl, hb3, ho3⟩; have hbZ : Below w2.heap.size w2 w3 := ((Below.refl w2.heap.size w2).drew).trans hb3; have k0 := (hbZ.cell (p := ⟨L, 0, none⟩) lz).trans l0; have k1 := (hbZ.cell (p := ⟨L, 1, none⟩) lz).trans l1; have k2 := (hbZ.cell (p := ⟨rb, 2, none⟩) hrbz).trans c2; have hz3 : w2.heap.size ≤ w3.heap.size := hbZ.size; have n0 : L ≠ w3.heap.size := (by omega); have n1 : rb ≠ w3.heap.size := (by omega); have HZA := Lib.hid hbZ; have HO3 := Lib.hid ho3; obtain ⟨A3, q3, rfl⟩ := (show ∃ A3 q3, s3 = .slice A3 E q3 from by obtain ⟨_, _, h⟩ := ho3; rw [HE.out]; exact own_form h); clear hb3 ho3 hbZ)
          | (go_at_call 33; refine (MK.out _ (by repeat (first | exact Below.refl _ _ | refine Below.drew ?_ | refine Below.alloc ?_ (by simp) _))).mono ?_; rintro e w3 ⟨s3, rfl, hb3, ho3⟩; have hbZ : Below w2.heap.size w2 w3 := (((Below.refl w2.heap.size w2).alloc (Nat.le_refl _) _).drew.trans (hb3.mono (by simp))); have hbN : Below (w2.heap.size + 1) (w2.alloc (.cells #[.int .i64 0, .int .i64 0, .slice none 0 0] 24)) w3 := (((Below.refl _ _).drew).trans (hb3.mono (by simp))); have k0 := (hbZ.cell (p := ⟨L, 0, none⟩) lz).trans l0; have k1 := (hbZ.cell (p := ⟨L, 1, none⟩) lz).trans l1; have k2 := (hbZ.cell (p := ⟨rb, 2, none⟩) hrbz).trans c2; have m0 : w3.cell? ⟨w2.heap.size, 0, none⟩ = some (.int .i64 0) := (cell_since (N := w2.heap.size) rfl hbN 0).1; have m1 : w3.cell? ⟨w2.heap.size, 1, none⟩ = some (.int .i64 0) := (cell_since (N := w2.heap.size) rfl hbN 1).1; have m2 : w3.cell? ⟨w2.heap.size, 2, none⟩ = some (.slice none 0 0) := (cell_since (N := w2.heap.size) rfl hbN 2).1; have z0 := (cell_since (N := w2.heap.size) rfl hbN 0).2; have z1 := (cell_since (N := w2.heap.size) rfl hbN 1).2; have z2 := (cell_since (N := w2.heap.size) rfl hbN 2).2; have hz3 : w2.heap.size < w3.heap.size := (by have h := hbN.size; simp at h; omega); have H5 := Lib.hid ((hbN.block w2.heap.size (Nat.lt_succ_self _)).trans (heap_new w2 _ rfl _)); have HZB := Lib.hid hbZ; have HO3 := Lib.hid ho3; obtain ⟨A3, q3, rfl⟩ := (show ∃ A3 q3, s3 = .slice A3 E q3 from by obtain ⟨_, _, h⟩ := ho3; rw [HE.out]; exact own_form h); clear hb3 ho3 hbZ hbN))
      all_goals
        go_wp2_with (fail)
        go_meet
        first
          | (have X := HZA; exact cut9_mk2 hBr HN.out HP.out HZA.out HO3.out (fun b h => ⟨h.1, h.2.1, h.2.2⟩) (by simp) hBz2 l1 lz HB2.out)
          | (have X := HZB; exact cut9_mk hBr HN.out HP.out HZB.out H5.out HO3.out (fun b h => ⟨h.1, h.2.1, h.2.2⟩) (by simp) hBz2 l1 lz HB2.out)
  case rest =>
    obtain ⟨b5, s3, rfl, hz5, b0, b1, b2, ⟨_, vo, vd, vs, hh, hoo, hdd, hv, hk3⟩, hl, lz', hbB⟩ := hcut
    obtain ⟨A2, q2, rfl⟩ := own_form hdd
    obtain ⟨A3, q3, rfl, _⟩ := hk3.form
    obtain ⟨hnc, xs, h0, hown0⟩ := done_head hdd hv
    have c2 : wc.cell? ⟨rb, 2, none⟩ = some (.slice A2 (d0 ++ d1).length q2) := cell_of_row wc rb 2 _ _ _ hh
    have hrz : rb < wc.heap.size := (Array.getElem?_eq_some_iff.1 hh).1
    have hBz : B ≤ wc.heap.size := by omega
    have HPS := Lib.hid (fun (g cap : Nat) (w3 : World) (o3 : Obj) => put_step (n := n) (k := 3) (g := g) (cap := cap) (w3 := w3) (o3 := o3) hBr HN.out (by unfold I64; omega) hh hoo hdd h0 hk3 hbB)
    rw [← HN.out] at hl hnc hown0
    obtain ⟨D, hD⟩ : ∃ D, D = (d0 ++ d1).length := ⟨_, rfl⟩
    obtain ⟨E, hE⟩ : ∃ E, E = d1.length := ⟨_, rfl⟩
    rw [← hD] at c2 HPS
    rw [← hE] at b2 HPS
    have HO0 := Lib.hid hown0
    have h1c : Hid (∀ u ∈ [Value.int .i64 3, .int .i64 0, .slice A3 E q3], u.oneCell' = true) := Lib.hid (by intro u hu; simp at hu; rcases hu with rfl | rfl | rfl <;> rfl)
    have i1 : (n : Int) ≤ q2 := by omega
    have i2 : (0 : Int) ≤ n := by omega
    obtain ⟨i0, hi, hz0, hz1, hz2⟩ := info_parts infoV
    clear hh hoo hdd hv hk3 h0 hown0 hD hE
    go_wp2_with (fail)
    go_cut [] (fun wx => Cut10 B rb r o 3 d0 d1 w wx)
    case first =>
      cases A2 with
      | none =>
        obtain ⟨rfl, rfl⟩ : n = 0 ∧ q2 = 0 := by
          rcases HO0.out.2 with ⟨h, h'⟩ | ⟨g, cap, cur, h, _⟩
          · injection h with _ _ h; exact ⟨h', h⟩
          · cases h
        have hl : wc.cell? ⟨L, 1, none⟩ = some (.int .i64 0) := hl
        go_region_law (first | (refine step_append_lies _ (by rfl) (.tmp 48) (.tmp 50) 22 (by rfl) B 24 i0 (.agg #[.int .i64 0, .int .i64 0, .slice none 0 0]) 3 40 Tryd.underlying22 hi hz0 hz1 hz2 (by rfl) (by decide) (.slice none 0 0) 0 xs (by rfl) ((HO0.out.alloc _).drew) ⟨wc.heap.size, 0, none⟩ 1 1 [.int .i64 3, .int .i64 0, .slice A3 E q3] (by rfl) (by rfl) (World.news_of_block (heap_alloc_new wc _)) h1c.out (by decide) (by unfold maxLen; omega) (by omega) (by simp; omega) (wc.heap.size + 1) (by simp) ?_; intro g cap w3 hown hgrow hat hlt; obtain ⟨p1, p2, p3, p4⟩ := HPS.out g cap w3 _ hown hgrow hat; have HP1 := Lib.hid p1; have HP2 := Lib.hid p2; clear p1 p2 hown hgrow hat))
        all_goals
          go_wp2_with (fail)
          go_meet
          exact ⟨HP1.out, HP2.out⟩
      | some ad =>
        go_region_law (first | (refine step_append_lies _ (by rfl) (.tmp 48) (.tmp 50) 22 (by rfl) B 24 i0 (.agg #[.int .i64 0, .int .i64 0, .slice none 0 0]) 3 40 Tryd.underlying22 hi hz0 hz1 hz2 (by rfl) (by decide) (.slice (some ad) n q2) n xs (by rfl) ((HO0.out.alloc _).drew) ⟨wc.heap.size, 0, none⟩ 1 1 [.int .i64 3, .int .i64 0, .slice A3 E q3] (by rfl) (by rfl) (World.news_of_block (heap_alloc_new wc _)) h1c.out (by decide) (by unfold maxLen; omega) (by omega) (by simp; omega) (wc.heap.size + 1) (by simp) ?_; intro g cap w3 hown hgrow hat hlt; obtain ⟨p1, p2, p3, p4⟩ := HPS.out g cap w3 _ hown hgrow hat; have HP1 := Lib.hid p1; have HP2 := Lib.hid p2; clear p1 p2 hown hgrow hat))
        all_goals
          go_wp2_with (fail)
          go_meet
          exact ⟨HP1.out, HP2.out⟩
    case rest =>
      obtain ⟨hr10, hb10⟩ := hcut
      obtain ⟨g2, cc, c1, f1, hcc, HPOP⟩ := hr10.pop
      have hBr2 := hr10.1
      have hz10 : rb < wc.heap.size := by obtain ⟨_, _, _, _, hh, _⟩ := hr10; exact (Array.getElem?_eq_some_iff.1 hh).1
      rw [← HM.out] at c1 hcc HPOP
      have HB10 := Lib.hid hb10
      have j1 : IntKind.i64.wrap ((M : Int) + 1 - 1) = M := by rw [IntWalk.i64_in _ (by omega)]; omega
      have j2 : IntKind.i64.wrap (M : Int) = M := IntWalk.i64_in _ (by omega)
      have j3 : (0 : Int) ≤ M := by omega
      have j4 : (M : Int) ≤ cc := by omega
      have j5 : ¬ cc = 0 := by omega
      clear hr10 hb10
      go_wp2_with (fail)
      go_still_tail 12, (by kernel_rfl)
      change wpList _ _ _ _ _ wc.drew
      go_wp2
      go_ret
      exact ⟨rfl, HPOP.out, HB10.out.drew.setCell (p := ⟨rb, 1, none⟩) hBr2 _⟩
end Go.Proofs.YtjbdfckanabepaaDoor.vt

/- The package's functions. -/
import Derived.Test.YthohfepolidgkaaNestWith
import Derived.BigQuiet
namespace Go.Proofs.Ythohfepolidgkaa.ne
open Go.RowKit mem

/-- the world behind a token's own block, filled -/
def fill4 (w : World) (P : Nat) (t : Tk) : World := (((w.setCell ⟨P, 0, none⟩ (.int .i64 t.kind)).setCell ⟨P, 1, none⟩ (.int .i64 t.at_)).setCell ⟨P, 2, none⟩ (.int .i64 t.n)).setCell ⟨P, 3, none⟩ (.string ⟨t.text.toArray⟩)
def CRel (l : List Tk) (W0 : World) (i : Value) (wr : World) : Prop := ∃ k : Nat, k ≤ l.length ∧ i = .int .i64 k ∧ Hid (fineN l k) ∧ Hid (Box wr W0.heap.size DepthT #[.int .i64 (stN l k).1, .int .i64 (stN l k).2]) ∧ Hid (Below W0.heap.size W0 wr)
set_option maxHeartbeats 2000000 in
theorem ncheck_any (l : List Tk) (v : Value) (w : World) (B : Nat) (h : TksS B w l v) (hB : B ≤ w.heap.size) (hl : l.length ≤ 1048576) :
    Calls Try.prog 8 #[v] w (CheckPost l w) := by
  obtain ⟨A, c, rfl⟩ := h.form
  have HS := Lib.hid h
  obtain ⟨N, hN⟩ : ∃ N, N = l.length := ⟨_, rfl⟩
  rw [← hN] at hl ⊢
  have HN := Lib.hid hN
  clear hN h
  obtain ⟨D, hD⟩ : ∃ D, D = w.heap.size := ⟨_, rfl⟩
  obtain ⟨W1, hW1⟩ : ∃ W, W = w.alloc (.cells #[.int .i64 0, .int .i64 0] DepthT) := ⟨_, rfl⟩
  have b1 : Box W1 D DepthT #[.int .i64 0, .int .i64 0] := by rw [hW1]; exact Box.new _ _ _ _ hD
  have hb1 : Below w.heap.size w W1 := by rw [hW1]; exact (Below.refl _ _).alloc (Nat.le_refl _) _
  have HB0 := Lib.hid b1
  have HB1 := Lib.hid hb1
  have HW1 := Lib.hid hW1
  have HD := Lib.hid hD
  have HDB : Hid (B ≤ D) := Lib.hid (by omega)
  clear b1 hb1 hW1 hD
  go_enter Try.func8, Try.ntmps8
  go_wp2_with (first | (rw [← HW1.out, ← HD.out]))
  go_loopw [9] (fun i wr => CRel l w i wr) (fun i _ => N - (intOf i).toNat)
  case atStart => unfold CRel; exact ⟨0, Nat.zero_le _, rfl, Lib.hid (fine_zero l), Lib.hid (by rw [← HD.out, st_zero]; exact HB0.out), HB1⟩
  case round =>
    unfold CRel at hrel
    clear HB0 HB1 HW1
    obtain ⟨k, hk, rfl, HF, HX, HW⟩ := hrel
    rw [← HN.out] at hk
    rw [← HD.out] at HX
    by_cases hlt : k < N
    · have hlt' : (k : Int) < (N : Int) := by omega
      have hk0 : (0 : Int) ≤ (k : Int) := by omega
      have hkl : k < l.length := by rw [← HN.out]; exact hlt
      obtain ⟨b, off, rfl, hbB, x⟩ := TksS.cells (HS.out.below (HW.out.mono hB)) (by omega)
      obtain ⟨x0, x1, x2, x3⟩ := x k hkl
      have hle := st_le l k (by omega)
      have HST := Lib.hid (st_succ l k hkl)
      have HDP := Lib.hid (fun h1 h2 => check_deep hkl (l := l) h1 h2)
      have HFS := Lib.hid (fun h1 h2 => fine_succ HF.out h1 h2)
      obtain ⟨⟨p, q⟩, hpq⟩ : ∃ s, s = stN l k := ⟨_, rfl⟩
      obtain ⟨t, ht⟩ : ∃ t, t = l[k] := ⟨_, rfl⟩
      rw [← hpq] at hle HX HST
      rw [← ht] at x0 x1 x2 x3 HST HDP
      simp only at hle HX
      clear x hpq ht
      obtain ⟨P, hP⟩ : ∃ P, P = wr.heap.size := ⟨_, rfl⟩
      obtain ⟨W2, hW2⟩ : ∃ W, W = wr.alloc (.cells #[.int .i64 0, .int .i64 0, .int .i64 0, .string ⟨#[]⟩] TkT) := ⟨_, rfl⟩
      have bP : Box W2 P TkT #[.int .i64 0, .int .i64 0, .int .i64 0, .string ⟨#[]⟩] := by rw [hW2]; exact Box.new _ _ _ _ hP
      have bD : Box W2 D DepthT #[.int .i64 p, .int .i64 q] := by rw [hW2]; exact HX.out.alloc _
      have hDP : D ≠ P := by have := HX.out.lt; omega
      have hbW2 : Below w.heap.size w W2 := by rw [hW2]; exact HW.out.alloc HW.out.size _
      obtain ⟨W3, hW3⟩ : ∃ W, W = fill4 W2 P t := ⟨_, rfl⟩
      have bP3 : Box W3 P TkT #[.int .i64 t.kind, .int .i64 t.at_, .int .i64 t.n, .string ⟨t.text.toArray⟩] := by rw [hW3]; exact (((bP.set 0 _).set 1 _).set 2 _).set 3 _
      have bD3 : Box W3 D DepthT #[.int .i64 p, .int .i64 q] := by rw [hW3]; exact (((bD.far hDP _).far hDP _).far hDP _).far hDP _
      have hb3 : Below w.heap.size w W3 := by
        have hh : w.heap.size ≤ P := by rw [hP]; exact HW.out.size
        rw [hW3]; exact (((hbW2.setCell hh _).setCell hh _).setCell hh _).setCell hh _
      have z0 := bP.cell 0
      have z1 := bP.cell 1
      have z2 := bP.cell 2
      have z3 := bP.cell 3
      have f0 := bP.frozen 0
      have f1 := bP.frozen 1
      have f2 := bP.frozen 2
      have f3 := bP.frozen 3
      have d0 := bD3.cell 0
      have d1 := bD3.cell 1
      have y0 := bP3.cell 0
      have y1 := bP3.cell 1
      have y2 := bP3.cell 2
      have y3 := bP3.cell 3
      simp only [List.getElem?_toArray, List.getElem?_cons_zero, List.getElem?_cons_succ] at z0 z1 z2 z3 d0 d1 y0 y1 y2 y3
      have HW2 := Lib.hid hW2
      have HP := Lib.hid hP
      unfold fill4 at hW3
      have HW3 := Lib.hid hW3
      have HC := Lib.hid (with_any p q t W3 (by omega) (by omega))
      have HD3 := Lib.hid bD3
      have HP3 := Lib.hid bP3
      have HL3 := Lib.hid hb3
      unfold tkA at HC
      have HDP' : Hid (P ≠ D) := Lib.hid hDP.symm
      clear bP bD hbW2 bP3 bD3 hb3 hW2 hP hW3
      go_wp2_with (first | (rw [← HW2.out, ← HP.out]) | (rw [← HW3.out]))
      refine HC.out.mono ?_
      rintro e w1 ⟨rfl, hb⟩
      obtain ⟨⟨p', q'⟩, hpq'⟩ : ∃ s, s = stN l (k + 1) := ⟨_, rfl⟩
      rw [← hpq'] at HST HDP HFS
      rw [← HST.out]
      simp only at HDP HFS ⊢
      have bD := HD3.out.on hb
      have bP := HP3.out.on hb
      have hwD : w.heap.size ≤ D := by rw [HD.out]; exact Nat.le_refl _
      have hb2 : Below w.heap.size w ((w1.setCell ⟨D, 0, none⟩ (.int .i64 p')).setCell ⟨D, 1, none⟩ (.int .i64 q')) := ((HL3.out.trans (hb.mono HL3.out.size)).setCell hwD _).setCell hwD _
      obtain ⟨W4, hW4⟩ : ∃ W, W = (w1.setCell ⟨D, 0, none⟩ (.int .i64 p')).setCell ⟨D, 1, none⟩ (.int .i64 q') := ⟨_, rfl⟩
      rw [← hW4] at hb2
      have bD4 : Box W4 D DepthT #[.int .i64 p', .int .i64 q'] := by rw [hW4]; exact (bD.set 0 _).set 1 _
      have bP4 : Box W4 P TkT #[.int .i64 t.kind, .int .i64 t.at_, .int .i64 t.n, .string ⟨t.text.toArray⟩] := by rw [hW4]; exact (bP.far HDP'.out _).far HDP'.out _
      have c0 := bD.cell 0
      have c1 := bD.cell 1
      have g0 := bD.frozen 0
      have g1 := bD.frozen 1
      have e0 := bD4.cell 0
      have e1 := bD4.cell 1
      have y1 := bP4.cell 1
      simp only [List.getElem?_toArray, List.getElem?_cons_zero, List.getElem?_cons_succ] at c0 c1 e0 e1 y1
      have HW4 := Lib.hid hW4
      have HX4 := Lib.hid bD4
      have HL4 := Lib.hid hb2
      have HPQ := Lib.hid hpq'
      clear bD bP bD4 bP4 hb hb2 hW4 hpq' hwD HC HD3 HP3 HL3 HW2 HW3 HP HX HW HST
      by_cases hp : 60 < p'
      · have hp' : (60 : Int) < (p' : Int) := by omega
        have HR := Lib.hid (HDP.out HF.out (Or.inl hp))
        clear HDP HFS
        go_wp2_with (first | (rw [← HW4.out]))
        go_ret2
        unfold CheckPost
        exact ⟨by rw [HR.out]; rfl, HL4.out⟩
      · have hp' : decide ((60 : Int) < (p' : Int)) = false := by rw [decide_eq_false_iff_not]; omega
        by_cases hq : 60 < q'
        · have hq' : (60 : Int) < (q' : Int) := by omega
          have HR := Lib.hid (HDP.out HF.out (Or.inr hq))
          clear HDP HFS
          go_wp2_with (first | (rw [← HW4.out]))
          go_ret2
          unfold CheckPost
          exact ⟨by rw [HR.out]; rfl, HL4.out⟩
        · have hq' : decide ((60 : Int) < (q' : Int)) = false := by rw [decide_eq_false_iff_not]; omega
          have HR := Lib.hid (HFS.out (by omega) (by omega))
          clear HDP HFS
          go_wp2_with (first | (rw [← HW4.out]))
          go_roundw
          case rel => unfold CRel; exact ⟨k + 1, by rw [← HN.out]; omega, by go_num, HR, Lib.hid (by rw [← HD.out, ← HPQ.out]; exact HX4.out), HL4⟩
          case measure => simp [intOf]; omega
    · obtain rfl : k = N := by omega
      have HR : Hid (checkN l = (0, 0)) := Lib.hid (check_fine (by have h := HF.out; rw [HN.out] at h; exact h))
      have hlt' : ¬ (k : Int) < (k : Int) := by omega
      clear hlt hk
      go_wp2_with (fail)
      go_ret2
      unfold CheckPost
      exact ⟨by rw [HR.out]; rfl, HW.out⟩
def MRel (l : List Tk) (W0 : World) (i : Value) (wr : World) : Prop := ∃ k : Nat, k ≤ l.length ∧ i = .int .i64 k ∧ Hid (Box wr W0.heap.size DepthT #[.int .i64 (mostN l k).1, .int .i64 (mostN l k).2]) ∧ Hid (Box wr (W0.heap.size + 1) DepthT #[.int .i64 (stN l k).1, .int .i64 (stN l k).2]) ∧ Hid (Below W0.heap.size W0 wr)
set_option maxHeartbeats 2000000 in
theorem nmost_any (l : List Tk) (v : Value) (w : World) (B : Nat) (h : TksS B w l v) (hB : B ≤ w.heap.size) (hl : l.length ≤ 1048576) :
    Calls Try.prog 7 #[v] w fun e w' => e = .returned (.tuple #[.int .i64 (mostN l l.length).1, .int .i64 (mostN l l.length).2]) ∧ Below w.heap.size w w' := by
  obtain ⟨A, c, rfl⟩ := h.form
  have HS := Lib.hid h
  obtain ⟨N, hN⟩ : ∃ N, N = l.length := ⟨_, rfl⟩
  rw [← hN] at hl ⊢
  have HN := Lib.hid hN
  clear hN h
  obtain ⟨M, hM⟩ : ∃ M, M = w.heap.size := ⟨_, rfl⟩
  obtain ⟨W0, hW0⟩ : ∃ W, W = w.alloc (.cells #[.int .i64 0, .int .i64 0] DepthT) := ⟨_, rfl⟩
  obtain ⟨D, hD⟩ : ∃ D, D = w.heap.size + 1 := ⟨_, rfl⟩
  have hs0 : W0.heap.size = D := by rw [hW0, hD]; exact Array.size_push ..
  obtain ⟨W1, hW1⟩ : ∃ W, W = W0.alloc (.cells #[.int .i64 0, .int .i64 0] DepthT) := ⟨_, rfl⟩
  have b0 : Box W1 M DepthT #[.int .i64 0, .int .i64 0] := by rw [hW1]; refine Box.alloc ?_ _; rw [hW0]; exact Box.new _ _ _ _ hM
  have b1 : Box W1 D DepthT #[.int .i64 0, .int .i64 0] := by rw [hW1]; exact Box.new _ _ _ _ hs0.symm
  have hb1 : Below w.heap.size w W1 := by
    have h1 := (Below.refl w.heap.size w).alloc (Nat.le_refl _) (.cells #[.int .i64 0, .int .i64 0] DepthT)
    rw [hW1, hW0]; exact h1.alloc h1.size _
  have HA0 := Lib.hid b0
  have HB0 := Lib.hid b1
  have HB1 := Lib.hid hb1
  have HW0 := Lib.hid hW0
  have HW1 := Lib.hid hW1
  have HMM := Lib.hid hM
  have HD := Lib.hid hD
  have HS0 := Lib.hid hs0
  clear b0 b1 hb1 hW0 hW1 hD hM hs0
  go_enter Try.func7, Try.ntmps7
  go_wp2_with (first | (rw [← HW0.out, ← HMM.out]) | (rw [← HW1.out, HS0.out]))
  go_loopw [10] (fun i wr => MRel l w i wr) (fun i _ => N - (intOf i).toNat)
  case atStart => unfold MRel; exact ⟨0, Nat.zero_le _, rfl, Lib.hid (by rw [← HMM.out]; exact HA0.out), Lib.hid (by rw [← HD.out, st_zero]; exact HB0.out), HB1⟩
  case round =>
    unfold MRel at hrel
    clear HA0 HB0 HB1 HW0 HW1 HS0
    obtain ⟨k, hk, rfl, HX, HY, HW⟩ := hrel
    rw [← HN.out] at hk
    rw [← HMM.out] at HX
    rw [← HD.out] at HY
    by_cases hlt : k < N
    · have hlt' : (k : Int) < (N : Int) := by omega
      have hk0 : (0 : Int) ≤ (k : Int) := by omega
      have hkl : k < l.length := by rw [← HN.out]; exact hlt
      obtain ⟨b, off, rfl, hbB, x⟩ := TksS.cells (HS.out.below (HW.out.mono hB)) (by omega)
      obtain ⟨x0, x1, x2, x3⟩ := x k hkl
      have hle := st_le l k (by omega)
      have hm := most_le l k (by omega)
      have HST := Lib.hid (st_succ l k hkl)
      have HMS := Lib.hid (most_succ l k)
      obtain ⟨⟨p, q⟩, hpq⟩ : ∃ s, s = stN l k := ⟨_, rfl⟩
      obtain ⟨⟨m, u⟩, hmu⟩ : ∃ s, s = mostN l k := ⟨_, rfl⟩
      obtain ⟨t, ht⟩ : ∃ t, t = l[k] := ⟨_, rfl⟩
      rw [← hpq] at hle HY HST
      rw [← hmu] at hm HX HMS
      rw [← ht] at x0 x1 x2 x3 HST
      simp only at hle hm HX HY
      clear x hpq hmu ht
      obtain ⟨P, hP⟩ : ∃ P, P = wr.heap.size := ⟨_, rfl⟩
      obtain ⟨W2, hW2⟩ : ∃ W, W = wr.alloc (.cells #[.int .i64 0, .int .i64 0, .int .i64 0, .string ⟨#[]⟩] TkT) := ⟨_, rfl⟩
      have bP : Box W2 P TkT #[.int .i64 0, .int .i64 0, .int .i64 0, .string ⟨#[]⟩] := by rw [hW2]; exact Box.new _ _ _ _ hP
      have bD : Box W2 D DepthT #[.int .i64 p, .int .i64 q] := by rw [hW2]; exact HY.out.alloc _
      have hDP : D ≠ P := by have := HY.out.lt; omega
      have bM : Box W2 M DepthT #[.int .i64 m, .int .i64 u] := by rw [hW2]; exact HX.out.alloc _
      have hMP : M ≠ P := by have := HX.out.lt; omega
      have hbW2 : Below w.heap.size w W2 := by rw [hW2]; exact HW.out.alloc HW.out.size _
      obtain ⟨W3, hW3⟩ : ∃ W, W = fill4 W2 P t := ⟨_, rfl⟩
      have bP3 : Box W3 P TkT #[.int .i64 t.kind, .int .i64 t.at_, .int .i64 t.n, .string ⟨t.text.toArray⟩] := by rw [hW3]; exact (((bP.set 0 _).set 1 _).set 2 _).set 3 _
      have bD3 : Box W3 D DepthT #[.int .i64 p, .int .i64 q] := by rw [hW3]; exact (((bD.far hDP _).far hDP _).far hDP _).far hDP _
      have bM3 : Box W3 M DepthT #[.int .i64 m, .int .i64 u] := by rw [hW3]; exact (((bM.far hMP _).far hMP _).far hMP _).far hMP _
      have hb3 : Below w.heap.size w W3 := by
        have hh : w.heap.size ≤ P := by rw [hP]; exact HW.out.size
        rw [hW3]; exact (((hbW2.setCell hh _).setCell hh _).setCell hh _).setCell hh _
      have z0 := bP.cell 0
      have z1 := bP.cell 1
      have z2 := bP.cell 2
      have z3 := bP.cell 3
      have f0 := bP.frozen 0
      have f1 := bP.frozen 1
      have f2 := bP.frozen 2
      have f3 := bP.frozen 3
      have d0 := bD3.cell 0
      have d1 := bD3.cell 1
      have y0 := bP3.cell 0
      have y1 := bP3.cell 1
      have y2 := bP3.cell 2
      have y3 := bP3.cell 3
      simp only [List.getElem?_toArray, List.getElem?_cons_zero, List.getElem?_cons_succ] at z0 z1 z2 z3 d0 d1 y0 y1 y2 y3
      have HW2 := Lib.hid hW2
      have HP := Lib.hid hP
      unfold fill4 at hW3
      have HW3 := Lib.hid hW3
      have HC := Lib.hid (with_any p q t W3 (by omega) (by omega))
      have HD3 := Lib.hid bD3
      have HP3 := Lib.hid bP3
      have HL3 := Lib.hid hb3
      unfold tkA at HC
      have HM3 := Lib.hid bM3
      clear hDP hMP bM bM3 bP bD hbW2 bP3 bD3 hb3 hW2 hP hW3
      go_wp2_with (first | (rw [← HW2.out, ← HP.out]) | (rw [← HW3.out]))
      refine HC.out.mono ?_
      rintro e w1 ⟨rfl, hb⟩
      obtain ⟨⟨p', q'⟩, hpq'⟩ : ∃ s, s = stN l (k + 1) := ⟨_, rfl⟩
      rw [← hpq'] at HST HMS
      rw [← HST.out]
      simp only at HMS ⊢
      have bD := HD3.out.on hb
      have bM := HM3.out.on hb
      have hwD : w.heap.size ≤ D := by rw [HD.out]; omega
      have hwM : w.heap.size ≤ M := by rw [HMM.out]; exact Nat.le_refl _
      have hMD : M ≠ D := by rw [HD.out, HMM.out]; omega
      have hb2 : Below w.heap.size w ((w1.setCell ⟨D, 0, none⟩ (.int .i64 p')).setCell ⟨D, 1, none⟩ (.int .i64 q')) := ((HL3.out.trans (hb.mono HL3.out.size)).setCell hwD _).setCell hwD _
      obtain ⟨W4, hW4⟩ : ∃ W, W = (w1.setCell ⟨D, 0, none⟩ (.int .i64 p')).setCell ⟨D, 1, none⟩ (.int .i64 q') := ⟨_, rfl⟩
      rw [← hW4] at hb2
      have bD4 : Box W4 D DepthT #[.int .i64 p', .int .i64 q'] := by rw [hW4]; exact (bD.set 0 _).set 1 _
      have bM4 : Box W4 M DepthT #[.int .i64 m, .int .i64 u] := by rw [hW4]; exact (bM.far hMD _).far hMD _
      obtain ⟨m', hm'⟩ : ∃ x, x = max m p' := ⟨_, rfl⟩
      obtain ⟨u', hu'⟩ : ∃ x, x = max u q' := ⟨_, rfl⟩
      obtain ⟨W5, hW5⟩ : ∃ W, W = W4.setCell ⟨M, 0, none⟩ (.int .i64 m') := ⟨_, rfl⟩
      have bM5 : Box W5 M DepthT #[.int .i64 m', .int .i64 u] := by rw [hW5]; exact bM4.set 0 _
      have bD5 : Box W5 D DepthT #[.int .i64 p', .int .i64 q'] := by rw [hW5]; exact bD4.far hMD.symm _
      obtain ⟨W6, hW6⟩ : ∃ W, W = W5.setCell ⟨M, 1, none⟩ (.int .i64 u') := ⟨_, rfl⟩
      have bM6 : Box W6 M DepthT #[.int .i64 m', .int .i64 u'] := by rw [hW6]; exact bM5.set 1 _
      have bD6 : Box W6 D DepthT #[.int .i64 p', .int .i64 q'] := by rw [hW6]; exact bD5.far hMD.symm _
      have hb6 : Below w.heap.size w W6 := by rw [hW6, hW5]; exact (hb2.setCell hwM _).setCell hwM _
      have c0 := bD.cell 0
      have c1 := bD.cell 1
      have g0 := bD.frozen 0
      have g1 := bD.frozen 1
      have e0 := bD4.cell 0
      have e1 := bM4.cell 0
      have g2 := bM4.frozen 0
      have e2 := bD5.cell 1
      have e3 := bM5.cell 1
      have g3 := bM5.frozen 1
      simp only [List.getElem?_toArray, List.getElem?_cons_zero, List.getElem?_cons_succ] at c0 c1 e0 e1 e2 e3
      have HW4 := Lib.hid hW4
      have HW5 := Lib.hid hW5
      have HW6 := Lib.hid hW6
      have HX6 := Lib.hid bM6
      have HY6 := Lib.hid bD6
      have HL6 := Lib.hid hb6
      have HPQ := Lib.hid hpq'
      rw [← hm', ← hu'] at HMS
      clear bD bM bD4 bM4 bM5 bD5 bM6 bD6 hb hb2 hb6 hW4 hW5 hW6 hpq' hwD hwM hMD HC HD3 HP3 HM3 HL3 HW2 HW3 HP HX HY HW HST hle hm
      by_cases c1' : m < p'
      · by_cases c2' : u < q'
        · obtain rfl : m' = p' := by rw [hm']; exact Nat.max_eq_right (by omega)
          obtain rfl : u' = q' := by rw [hu']; exact Nat.max_eq_right (by omega)
          clear hm' hu'
          go_wp2_with (first | (rw [← HW4.out]) | (rw [← HW5.out]) | (rw [← HW6.out]))
          go_roundw
          case rel => unfold MRel; exact ⟨k + 1, by rw [← HN.out]; omega, by go_num, Lib.hid (by rw [← HMM.out, HMS.out]; exact HX6.out), Lib.hid (by rw [← HD.out, ← HPQ.out]; exact HY6.out), HL6⟩
          case measure => simp [intOf]; omega
        · obtain rfl : m' = p' := by rw [hm']; exact Nat.max_eq_right (by omega)
          obtain rfl : u' = u := by rw [hu']; exact Nat.max_eq_left (by omega)
          clear hm' hu'
          go_wp2_with (first | (rw [← HW4.out]) | (rw [← HW5.out]) | (rw [← HW6.out]))
          go_roundw
          case rel => unfold MRel; exact ⟨k + 1, by rw [← HN.out]; omega, by go_num, Lib.hid (by rw [← HMM.out, HMS.out]; exact HX6.out), Lib.hid (by rw [← HD.out, ← HPQ.out]; exact HY6.out), HL6⟩
          case measure => simp [intOf]; omega
      · by_cases c2' : u < q'
        · obtain rfl : m' = m := by rw [hm']; exact Nat.max_eq_left (by omega)
          obtain rfl : u' = q' := by rw [hu']; exact Nat.max_eq_right (by omega)
          clear hm' hu'
          go_wp2_with (first | (rw [← HW4.out]) | (rw [← HW5.out]) | (rw [← HW6.out]))
          go_roundw
          case rel => unfold MRel; exact ⟨k + 1, by rw [← HN.out]; omega, by go_num, Lib.hid (by rw [← HMM.out, HMS.out]; exact HX6.out), Lib.hid (by rw [← HD.out, ← HPQ.out]; exact HY6.out), HL6⟩
          case measure => simp [intOf]; omega
        · obtain rfl : m' = m := by rw [hm']; exact Nat.max_eq_left (by omega)
          obtain rfl : u' = u := by rw [hu']; exact Nat.max_eq_left (by omega)
          clear hm' hu'
          go_wp2_with (first | (rw [← HW4.out]) | (rw [← HW5.out]) | (rw [← HW6.out]))
          go_roundw
          case rel => unfold MRel; exact ⟨k + 1, by rw [← HN.out]; omega, by go_num, Lib.hid (by rw [← HMM.out, HMS.out]; exact HX6.out), Lib.hid (by rw [← HD.out, ← HPQ.out]; exact HY6.out), HL6⟩
          case measure => simp [intOf]; omega
    · obtain rfl : k = N := by omega
      obtain ⟨⟨m, u⟩, hmu⟩ : ∃ s, s = mostN l k := ⟨_, rfl⟩
      rw [← hmu] at HX
      simp only at HX
      have e0 := HX.out.cell 0
      have e1 := HX.out.cell 1
      simp only [List.getElem?_toArray, List.getElem?_cons_zero, List.getElem?_cons_succ] at e0 e1
      have hlt' : ¬ (k : Int) < (k : Int) := by omega
      have HMU := Lib.hid hmu
      clear hlt hk hmu HX HY
      go_wp2_with (fail)
      go_quiet (fail)
      go_wp2_with (fail)
      go_ret2
      exact ⟨by rw [← HMU.out]; rfl, below_drewN HW.out _⟩
end Go.Proofs.Ythohfepolidgkaa.ne

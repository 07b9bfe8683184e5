/- The package's step: how deep a token is, told of the depth at the one ahead of it. -/
import Derived.Test.YthohfepolidgkaaNestCheck
namespace Go.Proofs.Ythohfepolidgkaa.ne
open Go.RowKit mem

abbrev DepthT : TypeId := 39
theorem depth_ret {fn : Func} (hr : fn.results = #[ResultVar.cell 4 DepthT]) {tm : Array Value} {w2 : World} {R : Nat} {a b : Value} (h4 : tm.getD 4 undef = .pointer (some ⟨R, 0, none⟩)) (hb : Box w2 R DepthT #[a, b]) :
    (results fn tm).run Try.prog w2 = .ok (.agg #[a, b]) w2 := by
  have x0 := hb.cell 0
  have x1 := hb.cell 1
  simp only [List.getElem?_toArray, List.getElem?_cons_zero, List.getElem?_cons_succ] at x0 x1
  have h4' : tm[4]?.getD undef = .pointer (some ⟨R, 0, none⟩) := by simpa using h4
  simp [results, hr, go_sem, h4', x0, x1]
theorem below_three (w : World) (a b c : Obj) : Below w.heap.size w (((w.alloc a).alloc b).alloc c) := by
  have h1 := (Below.refl w.heap.size w).alloc (Nat.le_refl _) a
  have h2 := h1.alloc h1.size b
  exact h2.alloc h2.size c
set_option maxHeartbeats 1000000 in
theorem with_any (p q : Nat) (t : Tk) (w : World) (hp : p ≤ 1048576) (hq : q ≤ 1048576) : Calls Try.prog 11 #[.agg #[.int .i64 p, .int .i64 q], tkA t] w fun e w' => e = .returned (.agg #[.int .i64 (stepN (p, q) t).1, .int .i64 (stepN (p, q) t).2]) ∧ Below w.heap.size w w' := by
  obtain ⟨k, a, n, s⟩ := t
  unfold tkA
  simp only
  obtain ⟨K, hK⟩ : ∃ K, K = w.heap.size := ⟨_, rfl⟩
  obtain ⟨W1, hW1⟩ : ∃ W, W = w.alloc (.cells #[.int .i64 p, .int .i64 q] DepthT) := ⟨_, rfl⟩
  have hs1 : W1.heap.size = K + 1 := by rw [hW1, hK]; exact Array.size_push ..
  obtain ⟨W2, hW2⟩ : ∃ W, W = W1.alloc (.cells #[.int .i64 k, .int .i64 a, .int .i64 n, .string ⟨s.toArray⟩] TkT) := ⟨_, rfl⟩
  have hs2 : W2.heap.size = K + 2 := by rw [hW2]; exact (Array.size_push ..).trans (by rw [hs1])
  obtain ⟨W3, hW3⟩ : ∃ W, W = W2.alloc (.cells #[.int .i64 0, .int .i64 0] DepthT) := ⟨_, rfl⟩
  have b1 : Box W1 K DepthT #[.int .i64 p, .int .i64 q] := by rw [hW1]; exact Box.new _ _ _ _ hK
  have b2 : Box W2 (K + 1) TkT #[.int .i64 k, .int .i64 a, .int .i64 n, .string ⟨s.toArray⟩] := by rw [hW2]; exact Box.new _ _ _ _ hs1.symm
  have b3 : Box W3 (K + 2) DepthT #[.int .i64 0, .int .i64 0] := by rw [hW3]; exact Box.new _ _ _ _ hs2.symm
  have b1' : Box W3 K DepthT #[.int .i64 p, .int .i64 q] := by rw [hW3]; refine Box.alloc ?_ _; rw [hW2]; exact b1.alloc _
  have b2' : Box W3 (K + 1) TkT #[.int .i64 k, .int .i64 a, .int .i64 n, .string ⟨s.toArray⟩] := by rw [hW3]; exact b2.alloc _
  have hb : Below w.heap.size w W3 := by rw [hW3, hW2, hW1]; exact below_three _ _ _ _
  have x0 := b1'.cell 0
  have x1 := b1'.cell 1
  have y0 := b2'.cell 0
  have y3 := b2'.cell 3
  have r0 := b3.cell 0
  have r1 := b3.cell 1
  simp only [List.getElem?_toArray, List.getElem?_cons_zero, List.getElem?_cons_succ] at x0 x1 y0 y3 r0 r1
  have f0 := b3.frozen 0
  have f1 := b3.frozen 1
  have H1 := Lib.hid hW1
  have H2 := Lib.hid hW2
  have H3 := Lib.hid hW3
  have HK := Lib.hid hK
  have S1 := Lib.hid hs1
  have S2 := Lib.hid hs2
  obtain ⟨⟨P, Q⟩, hPQ⟩ : ∃ s', s' = stepN (p, q) ⟨k, a, n, s⟩ := ⟨_, rfl⟩
  have HE : Hid (∀ (x y : Nat), stepN (p, q) ⟨k, a, n, s⟩ = (x, y) → Box ((W3.setCell ⟨K + 2, 0, none⟩ (.int .i64 x)).setCell ⟨K + 2, 1, none⟩ (.int .i64 y)) (K + 2) DepthT #[.int .i64 P, .int .i64 Q] ∧ Below w.heap.size w ((W3.setCell ⟨K + 2, 0, none⟩ (.int .i64 x)).setCell ⟨K + 2, 1, none⟩ (.int .i64 y))) := Lib.hid (fun x y h => by
    rw [← hPQ] at h
    injection h with h1 h2
    subst h1
    subst h2
    exact ⟨(b3.set 0 _).set 1 _, (hb.setCell (by show w.heap.size ≤ K + 2; omega) _).setCell (by show w.heap.size ≤ K + 2; omega) _⟩)
  have HM : Hid (∀ m, markN ⟨k, a, n, s⟩ = m → stepN (p, q) ⟨k, a, n, s⟩ = (if m = 1 then p + 1 else if m = 2 then p - 1 else p, if m = 3 then q + 1 else 0)) := Lib.hid (fun m h => by unfold stepN; rw [h])
  rw [← hPQ]
  simp only
  clear b1 b2 b3 b1' b2' hb hW1 hW2 hW3 hK hs1 hs2 hPQ
  by_cases hk : k = 4
  · subst hk
    by_cases h1 : s = [40]
    · subst h1
      have HF := Lib.hid (HE.out (p + 1) 0 ((HM.out 1 rfl).trans rfl))
      clear HE HM
      go_enter Try.func11, Try.ntmps11
      go_wp2_with (first | (rw [← H1.out, ← HK.out]) | (rw [← H2.out, S1.out]) | (rw [← H3.out, S2.out]))
      exact bodyPost_ret (depth_ret rfl rfl HF.out.1) rfl ⟨rfl, HF.out.2⟩
    by_cases h2 : s = [91]
    · subst h2
      have HF := Lib.hid (HE.out (p + 1) 0 ((HM.out 1 rfl).trans rfl))
      clear HE HM
      go_enter Try.func11, Try.ntmps11
      go_wp2_with (first | (rw [← H1.out, ← HK.out]) | (rw [← H2.out, S1.out]) | (rw [← H3.out, S2.out]))
      exact bodyPost_ret (depth_ret rfl rfl HF.out.1) rfl ⟨rfl, HF.out.2⟩
    by_cases h3 : s = [123]
    · subst h3
      have HF := Lib.hid (HE.out (p + 1) 0 ((HM.out 1 rfl).trans rfl))
      clear HE HM
      go_enter Try.func11, Try.ntmps11
      go_wp2_with (first | (rw [← H1.out, ← HK.out]) | (rw [← H2.out, S1.out]) | (rw [← H3.out, S2.out]))
      exact bodyPost_ret (depth_ret rfl rfl HF.out.1) rfl ⟨rfl, HF.out.2⟩
    by_cases h4 : s = [41]
    · subst h4
      by_cases p0 : p ≤ 1
      · have p1 : ¬ (0 : Int) < (p : Int) - 1 := by omega
        have p2 : p - 1 = 0 := by omega
        have HF := Lib.hid (HE.out 0 0 ((HM.out 2 rfl).trans (by rw [p2]; rfl)))
        clear HE HM p0
        go_enter Try.func11, Try.ntmps11
        go_wp2_with (first | (rw [← H1.out, ← HK.out]) | (rw [← H2.out, S1.out]) | (rw [← H3.out, S2.out]))
        exact bodyPost_ret (depth_ret rfl rfl HF.out.1) rfl ⟨rfl, HF.out.2⟩
      · obtain ⟨r, hr⟩ : ∃ r, p - 1 = r := ⟨p - 1, rfl⟩
        have p1 : (p : Int) - 1 = (r : Int) := by omega
        have HF := Lib.hid (HE.out r 0 ((HM.out 2 rfl).trans (by rw [hr]; rfl)))
        have hr0 : (0 : Int) < (r : Int) := by omega
        clear HE HM p0
        go_enter Try.func11, Try.ntmps11
        go_wp2_with (first | (rw [← H1.out, ← HK.out]) | (rw [← H2.out, S1.out]) | (rw [← H3.out, S2.out]))
        exact bodyPost_ret (depth_ret rfl rfl HF.out.1) rfl ⟨rfl, HF.out.2⟩
    by_cases h5 : s = [93]
    · subst h5
      by_cases p0 : p ≤ 1
      · have p1 : ¬ (0 : Int) < (p : Int) - 1 := by omega
        have p2 : p - 1 = 0 := by omega
        have HF := Lib.hid (HE.out 0 0 ((HM.out 2 rfl).trans (by rw [p2]; rfl)))
        clear HE HM p0
        go_enter Try.func11, Try.ntmps11
        go_wp2_with (first | (rw [← H1.out, ← HK.out]) | (rw [← H2.out, S1.out]) | (rw [← H3.out, S2.out]))
        exact bodyPost_ret (depth_ret rfl rfl HF.out.1) rfl ⟨rfl, HF.out.2⟩
      · obtain ⟨r, hr⟩ : ∃ r, p - 1 = r := ⟨p - 1, rfl⟩
        have p1 : (p : Int) - 1 = (r : Int) := by omega
        have HF := Lib.hid (HE.out r 0 ((HM.out 2 rfl).trans (by rw [hr]; rfl)))
        have hr0 : (0 : Int) < (r : Int) := by omega
        clear HE HM p0
        go_enter Try.func11, Try.ntmps11
        go_wp2_with (first | (rw [← H1.out, ← HK.out]) | (rw [← H2.out, S1.out]) | (rw [← H3.out, S2.out]))
        exact bodyPost_ret (depth_ret rfl rfl HF.out.1) rfl ⟨rfl, HF.out.2⟩
    by_cases h6 : s = [125]
    · subst h6
      by_cases p0 : p ≤ 1
      · have p1 : ¬ (0 : Int) < (p : Int) - 1 := by omega
        have p2 : p - 1 = 0 := by omega
        have HF := Lib.hid (HE.out 0 0 ((HM.out 2 rfl).trans (by rw [p2]; rfl)))
        clear HE HM p0
        go_enter Try.func11, Try.ntmps11
        go_wp2_with (first | (rw [← H1.out, ← HK.out]) | (rw [← H2.out, S1.out]) | (rw [← H3.out, S2.out]))
        exact bodyPost_ret (depth_ret rfl rfl HF.out.1) rfl ⟨rfl, HF.out.2⟩
      · obtain ⟨r, hr⟩ : ∃ r, p - 1 = r := ⟨p - 1, rfl⟩
        have p1 : (p : Int) - 1 = (r : Int) := by omega
        have HF := Lib.hid (HE.out r 0 ((HM.out 2 rfl).trans (by rw [hr]; rfl)))
        have hr0 : (0 : Int) < (r : Int) := by omega
        clear HE HM p0
        go_enter Try.func11, Try.ntmps11
        go_wp2_with (first | (rw [← H1.out, ← HK.out]) | (rw [← H2.out, S1.out]) | (rw [← H3.out, S2.out]))
        exact bodyPost_ret (depth_ret rfl rfl HF.out.1) rfl ⟨rfl, HF.out.2⟩
    by_cases h7 : s = [45]
    · subst h7
      have HF := Lib.hid (HE.out p (q + 1) ((HM.out 3 rfl).trans rfl))
      clear HE HM
      go_enter Try.func11, Try.ntmps11
      go_wp2_with (first | (rw [← H1.out, ← HK.out]) | (rw [← H2.out, S1.out]) | (rw [← H3.out, S2.out]))
      exact bodyPost_ret (depth_ret rfl rfl HF.out.1) rfl ⟨rfl, HF.out.2⟩
    by_cases h8 : s = [33]
    · subst h8
      have HF := Lib.hid (HE.out p (q + 1) ((HM.out 3 rfl).trans rfl))
      clear HE HM
      go_enter Try.func11, Try.ntmps11
      go_wp2_with (first | (rw [← H1.out, ← HK.out]) | (rw [← H2.out, S1.out]) | (rw [← H3.out, S2.out]))
      exact bodyPost_ret (depth_ret rfl rfl HF.out.1) rfl ⟨rfl, HF.out.2⟩
    have HF := Lib.hid (HE.out p 0 ((HM.out 0 (mark_other rfl h1 h2 h3 h4 h5 h6 h7 h8)).trans rfl))
    have e1 : (s == [40]) = false := beq_eq_false_iff_ne.2 h1
    have e2 : (s == [91]) = false := beq_eq_false_iff_ne.2 h2
    have e3 : (s == [123]) = false := beq_eq_false_iff_ne.2 h3
    have e4 : (s == [41]) = false := beq_eq_false_iff_ne.2 h4
    have e5 : (s == [93]) = false := beq_eq_false_iff_ne.2 h5
    have e6 : (s == [125]) = false := beq_eq_false_iff_ne.2 h6
    have e7 : (s == [45]) = false := beq_eq_false_iff_ne.2 h7
    have e8 : (s == [33]) = false := beq_eq_false_iff_ne.2 h8
    clear h1 h2 h3 h4 h5 h6 h7 h8 HE HM
    go_enter Try.func11, Try.ntmps11
    go_wp2_with (first | (rw [← H1.out, ← HK.out]) | (rw [← H2.out, S1.out]) | (rw [← H3.out, S2.out]))
    exact bodyPost_ret (depth_ret rfl rfl HF.out.1) rfl ⟨rfl, HF.out.2⟩
  · have hk' : (k == 4) = false := beq_eq_false_iff_ne.2 hk
    have HF := Lib.hid (HE.out p 0 ((HM.out 0 (by unfold markN; rw [if_pos hk])).trans rfl))
    clear HE HM
    go_enter Try.func11, Try.ntmps11
    go_wp2_with (first | (rw [← H1.out, ← HK.out]) | (rw [← H2.out, S1.out]) | (rw [← H3.out, S2.out]))
    exact bodyPost_ret (depth_ret rfl rfl HF.out.1) rfl ⟨rfl, HF.out.2⟩
end Go.Proofs.Ythohfepolidgkaa.ne

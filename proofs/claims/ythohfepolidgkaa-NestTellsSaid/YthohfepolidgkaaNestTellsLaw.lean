/- The law on how deep any tokens are nested. -/
import Derived.Test.YthohfepolidgkaaNestWorks
namespace Go.Proofs.Ythohfepolidgkaa.ne
open Go.RowKit mem
open vt (own_form)

theorem check_most (l : List Tk) : (checkN l = (0, 0) ∧ (mostN l l.length).1 ≤ 60 ∧ (mostN l l.length).2 ≤ 60) ∨ ∃ a, checkN l = (a, 4) ∧ ¬ ((mostN l l.length).1 ≤ 60 ∧ (mostN l l.length).2 ≤ 60) := by
  have key : ∀ k, k ≤ l.length → fineN l k ∨ ∃ i, i < k ∧ fineN l i ∧ (60 < (stN l (i + 1)).1 ∨ 60 < (stN l (i + 1)).2) := by
    intro k
    induction k with
    | zero => intro _; exact Or.inl (fine_zero l)
    | succ k ih =>
      intro hk
      rcases ih (by omega) with h | ⟨i, h1, h2, h3⟩
      · by_cases h4 : 60 < (stN l (k + 1)).1 ∨ 60 < (stN l (k + 1)).2
        · exact Or.inr ⟨k, by omega, h, h4⟩
        · exact Or.inl (fine_succ h (by omega) (by omega))
      · exact Or.inr ⟨i, by omega, h2, h3⟩
  rcases key l.length (Nat.le_refl _) with h | ⟨i, h1, h2, h3⟩
  · exact Or.inl ⟨check_fine h, fine_most h⟩
  · refine Or.inr ⟨_, check_deep h1 h2 h3, ?_⟩
    have := most_up l (i + 1) l.length (by omega) (by omega)
    omega
def NtRel (l : List Tk) (W : World) (a b i : Value) (wr : World) : Prop := ∃ k : Nat, k ≤ l.length ∧ i = .int .i64 k ∧ a = .int .i64 (mostN l k).1 ∧ b = .int .i64 (mostN l k).2 ∧ ∃ q, wr = W.drewN q
set_option maxHeartbeats 4000000 in
theorem ntells_law (l : List Tk) (v : Value) (w : World) (h : TksS w.heap.size w l v) (hl : l.length ≤ 9223372036854775807) :
    Calls Try.prog 3 #[v] w fun e w' => e = .returned (.bool true) ∧ Below w.heap.size w w' := by
  obtain ⟨A, c, rfl⟩ := h.form
  have HS := Lib.hid h
  have HWK := Lib.hid (nworks_any w)
  obtain ⟨N, hN⟩ : ∃ N, N = l.length := ⟨_, rfl⟩
  rw [← hN] at hl ⊢
  have HN := Lib.hid hN
  clear hN h
  go_enter Try.func3, Try.ntmps3
  go_wp2_with (fail)
  refine HWK.out.mono ?_
  rintro e w1 ⟨rfl, hb1⟩
  have HB1 := Lib.hid hb1
  clear hb1 HWK
  by_cases h6 : 600 < N
  · have h6' : (600 : Int) < (N : Int) := by omega
    have HWK := Lib.hid (nworks_any w1)
    go_wp2_with (fail)
    refine HWK.out.mono ?_
    rintro e w2 ⟨rfl, hb2⟩
    have HE := Lib.hid (HB1.out.trans (hb2.mono HB1.out.size))
    clear hb2
    go_wp2_with (fail)
    go_ret
    exact ⟨rfl, HE.out⟩
  have h6' : decide ((600 : Int) < (N : Int)) = false := by rw [decide_eq_false_iff_not]; omega
  have HA := Lib.hid (rat_any l _ w1 w.heap.size (HS.out.below HB1.out) HB1.out.size (by rw [← HN.out]; omega))
  rw [← HN.out] at HA
  go_wp2_with (fail)
  refine HA.out.mono ?_
  rintro e w2 ⟨o, rfl, hg⟩
  obtain ⟨A2, c2, rfl⟩ := own_form hg.1
  have HG := Lib.hid hg
  have HB2 := Lib.hid (HB1.out.trans (hg.2.mono HB1.out.size))
  clear hg HA
  go_wp2_with (fail)
  go_loopw [4, 5, 6] (fun a b i wr => NtRel l w2 a b i wr) (fun _ _ i _ => N - (intOf i).toNat)
  case atStart => unfold NtRel; exact ⟨0, Nat.zero_le _, rfl, rfl, rfl, 0, rfl⟩
  case round =>
    unfold NtRel at hrel
    obtain ⟨k, hk, rfl, rfl, rfl, q, rfl⟩ := hrel
    rw [← HN.out] at hk
    by_cases hlt : k < N
    · have hlt' : (k : Int) < (N : Int) := by omega
      have hk0 : (0 : Int) ≤ (k : Int) := by omega
      obtain ⟨b, off, rfl, y0, y1⟩ := pr_cells HG.out (sts_len l N) k (by rw [sts_len]; exact hlt) rfl
      rw [sts_at] at y0 y1
      have HMS := Lib.hid (most_succ l k)
      obtain ⟨⟨p, r⟩, hpq⟩ : ∃ s, s = stN l (k + 1) := ⟨_, rfl⟩
      obtain ⟨⟨m1, m2⟩, hm⟩ : ∃ s, s = mostN l k := ⟨_, rfl⟩
      rw [← hpq] at y0 y1 HMS
      rw [← hm] at HMS ⊢
      simp only at y0 y1 HMS
      clear hpq hm
      go_wp2_with (fail)
      refine ⟨?_, by simp [intOf]; omega⟩
      unfold NtRel
      refine ⟨k + 1, by rw [← HN.out]; omega, by go_num, ?_, ?_, q, rfl⟩
      · rw [HMS.out]; congr 1; simp only; split <;> omega
      · rw [HMS.out]; congr 1; simp only; split <;> omega
    · obtain rfl : k = N := by omega
      have hlt' : ¬ (k : Int) < (k : Int) := by omega
      have HB3 := Lib.hid (below_drewN HB2.out q)
      have hsz : w.heap.size ≤ (w2.drewN q).heap.size := HB3.out.size
      have HS3 := Lib.hid (HS.out.below HB3.out)
      have HM := Lib.hid (nmost_any l _ (w2.drewN q) w.heap.size HS3.out hsz (by rw [← HN.out]; omega))
      have HC := Lib.hid (fun w' (hb : Below (w2.drewN q).heap.size (w2.drewN q) w') => ncheck_any l _ w' w.heap.size (HS3.out.below (hb.mono hsz)) (Nat.le_trans hsz hb.size) (by rw [← HN.out]; omega))
      have HD := Lib.hid (fun w' (hb : Below (w2.drewN q).heap.size (w2.drewN q) w') => rcheck_any l _ w' w.heap.size (HS3.out.below (hb.mono hsz)) (Nat.le_trans hsz hb.size) (by rw [← HN.out]; omega))
      have hor := check_most l
      rw [← HN.out] at hor HM HC HD
      obtain ⟨⟨a, b⟩, hab⟩ : ∃ s, s = mostN l k := ⟨_, rfl⟩
      obtain ⟨⟨ca, cb⟩, hcab⟩ : ∃ s, s = checkN l := ⟨_, rfl⟩
      unfold CheckPost at HC HD
      rw [← hab] at hor HM ⊢
      rw [← hcab] at hor HC HD
      simp only at hor HM HC HD
      clear hlt hk hab hcab hsz HG
      go_wp2_with (fail)
      refine HM.out.mono ?_
      rintro e w4 ⟨rfl, hb4⟩
      have HC4 := Lib.hid (HC.out w4 hb4)
      have HB4 := Lib.hid hb4
      clear hb4 HM HC
      go_wp2_with (fail)
      refine HC4.out.mono ?_
      rintro e w5 ⟨rfl, hb5⟩
      have HB5 := Lib.hid (HB4.out.trans (hb5.mono HB4.out.size))
      have HD5 := Lib.hid (HD.out w5 HB5.out)
      clear hb5 HC4 HD HB4
      go_wp2_with (fail)
      refine HD5.out.mono ?_
      rintro e w6 ⟨rfl, hb6⟩
      have HE := Lib.hid (HB3.out.trans ((HB5.out.trans (hb6.mono HB5.out.size)).mono HB3.out.size))
      clear hb6 HD5
      rcases hor with ⟨h0, h1, h2⟩ | ⟨a4, h0, h12⟩
      · injection h0 with e1 e2
        subst e1
        subst e2
        have h1' : (a : Int) ≤ 60 := by omega
        have h2' : (b : Int) ≤ 60 := by omega
        go_wp2_with (fail)
        go_ret
        exact ⟨rfl, HE.out⟩
      · injection h0 with e1 e2
        subst e1
        subst e2
        by_cases h1 : a ≤ 60
        · have h1' : (a : Int) ≤ 60 := by omega
          have h2' : decide ((b : Int) ≤ 60) = false := by rw [decide_eq_false_iff_not]; omega
          go_wp2_with (fail)
          go_ret
          exact ⟨rfl, HE.out⟩
        · have h1' : decide ((a : Int) ≤ 60) = false := by rw [decide_eq_false_iff_not]; omega
          go_wp2_with (fail)
          go_ret
          exact ⟨rfl, HE.out⟩
end Go.Proofs.Ythohfepolidgkaa.ne

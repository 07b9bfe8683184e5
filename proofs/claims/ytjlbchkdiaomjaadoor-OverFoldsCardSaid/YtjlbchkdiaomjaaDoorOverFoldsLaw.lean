/- The law on a map gone through. -/
import Derived.Test.YtjlbchkdiaomjaaDoorOverWorks
import Derived.Test.YtjlbchkdiaomjaaDoorOverFold
import Derived.Deep.QuietTactic
import Derived.BigQuiet
namespace Go.Proofs.YtjlbchkdiaomjaaDoor.trie
open Go.RowKit Go.Shelf mem tri mix

theorem folds_long (B n : Nat) (A : Option Addr) (cap : Nat) (w : World) (hB : B ≤ w.heap.size) (hT : Laid B w) (hn : 100 < n) :
    Calls Tryd.prog 8 #[.slice A n cap] w (LawHolds w) := by
  have HT := Lib.hid hT
  have hn' : (100 : Int) < (n : Int) := by omega
  clear hT
  go_enter Tryd.func8, Tryd.ntmps8
  go_wp2_with (fail)
  refine (works5_any B _ hB HT.out).mono ?_
  rintro e w1 ⟨rfl, hb1⟩
  have HB1 := Lib.hid hb1
  have hz1 := hb1.size
  clear hb1
  go_wp2_with (fail)
  refine (works5_any B w1 (by omega) (HT.out.on (HB1.out.mono hB))).mono ?_
  rintro e w2 ⟨rfl, hb2⟩
  go_wp2_with (fail)
  go_ret
  exact ⟨rfl, HB1.out.trans (hb2.mono hz1)⟩
set_option maxHeartbeats 4000000 in
set_option maxRecDepth 100000 in
theorem folds_law (B C n : Nat) (L : List (Int × Int)) (V : Value) (w : World) (hB : B ≤ w.heap.size) (hT : Laid B w) (hC : C ≤ w.heap.size) (hn : n = L.length) (hn2 : n ≤ 100) (hsee : Sees C 2 w V n (pairV L)) (hkeys : ∀ o ∈ L, I64 o.1) :
    Calls Tryd.prog 8 #[V] w (LawHolds w) := by
  obtain ⟨A, cap, rfl⟩ := hsee.form
  have HT := Lib.hid hT
  have HN := Lib.hid hn
  have HS := Lib.hid (hsee.more hC)
  have HK := Lib.hid hkeys
  have hn' : ¬ (100 : Int) < (n : Int) := by omega
  clear hT hn hsee hkeys
  go_enter Tryd.func8, Tryd.ntmps8
  go_wp2_with (fail)
  refine (works5_any B _ hB HT.out).mono ?_
  rintro e w1 ⟨rfl, hb1⟩
  have HB1 := Lib.hid hb1
  have hz1 := hb1.size
  have hLl : L.length ≤ 100 := by rw [← HN.out]; exact hn2
  clear hb1
  go_wp2_with (fail)
  refine (listed_any w1.heap.size L _ w1 (Nat.le_refl _) (by omega) (by rw [← HN.out]; exact (HS.out.below HB1.out).more hz1)).mono ?_
  rintro e w2 ⟨r1, rfl, hg1⟩
  have hz2 := hg1.2.size
  have HB2 := Lib.hid (HB1.out.trans (hg1.2.mono hz1))
  obtain ⟨A1, c1, rfl⟩ := (Sees.of_own hg1.1).form
  have HW := Lib.hid (Sees.of_own hg1.1)
  clear hg1
  go_wp2_with (fail)
  refine (made_at B w2.heap.size n L _ w2 (by omega) (HT.out.on (HB2.out.mono hB)) (Nat.le_refl _) HN.out ((HS.out.below HB2.out).more (by omega)) (by omega) HK.out).mono ?_
  rintro e w3 ⟨t, p, m, rfl, hu, hb3⟩
  have hz3 := hb3.size
  have HB3 := Lib.hid (HB2.out.trans (hb3.mono (by omega)))
  have HW3 := Lib.hid ((HW.out.below hb3).more hz3)
  obtain ⟨F, hF⟩ : ∃ F, F = ofS L := ⟨_, rfl⟩
  rw [← hF] at hu HW3 ⊢
  have hml : m ≤ 100 := by rw [hu.out.2.1, hF]; have := ofS_len L; omega
  have hmF := hu.out.2.1
  rw [← hmF] at HW3 ⊢
  have HMF := Lib.hid hmF
  clear hb3 hF hmF HW
  go_wp2_with (fail)
  have hbA : Below w3.heap.size w3 (w3.alloc (.cells #[] 40)) := (Below.refl _ w3).alloc (Nat.le_refl _) _
  have hoA : (w3.alloc (.cells #[] 40)).ownsRow w3.heap.size 40 2 (.slice (some ⟨w3.heap.size, 0, none⟩) 0 0) 0 [] :=
    ⟨rfl, .inr ⟨w3.heap.size, 0, #[], rfl, Nat.le_refl _, heap_alloc_new w3 _, by decide, by decide, rfl, rfl⟩⟩
  refine (fold_pairs m 0 t p _ hu.out.1 F HMF.out _ hu.out.2.2.1 ((hu.out.2.2.2.below hbA).more (by simp)) (by omega) w3.heap.size (by simp) hoA).mono ?_
  rintro e w4 ⟨r2, rfl, ho4, hb4⟩
  have h34 := hbA.trans hb4
  have hz4 := h34.size
  obtain ⟨A2, c2, rfl⟩ := (Sees.of_own ho4).form
  have HG := Lib.hid (Sees.of_own ho4)
  have HWW := Lib.hid ((HW3.out.below h34).more hz4)
  have HB4 := Lib.hid (HB3.out.trans (h34.mono (by have := HB3.out.size; omega)))
  have hmm : ((m : Int) != (m : Int)) = false := by simp
  clear hbA hoA ho4 hb4 h34 HW3
  go_wp2_with (fail)
  go_loopw [5] (fun i wr => ∃ k : Nat, k ≤ m ∧ i = .int .i64 k ∧ Below w4.heap.size w4 wr) (fun i _ => m - (intOf i).toNat)
  case atStart => exact ⟨0, Nat.zero_le _, rfl, Below.refl _ _⟩
  case round =>
    obtain ⟨k, hk, rfl, hBr⟩ := hrel
    by_cases hlt : k < m
    · have hkl : k < F.length := by rw [← HMF.out]; exact hlt
      have h1 := HG.out.below hBr
      rw [HMF.out] at h1
      obtain ⟨b, off, cap', hv, hbl, hc1, hc2⟩ := h1.pair k hkl
      rw [← HMF.out] at hv
      injection hv with e1 _ e3
      subst e1
      subst e3
      have h2 := HWW.out.below hBr
      rw [HMF.out] at h2
      obtain ⟨b2, off2, cap2, hv, hbl2, hd1, hd2⟩ := h2.pair k hkl
      rw [← HMF.out] at hv
      injection hv with e1 _ e3
      subst e1
      subst e3
      obtain ⟨q, hq⟩ : ∃ q, q = F[k] := ⟨_, rfl⟩
      rw [← hq] at hc1 hc2 hd1 hd2
      obtain ⟨x, y⟩ := q
      dsimp only at hc1 hc2 hd1 hd2
      have x1 : (k : Int) < (m : Int) := by omega
      have x2 : (0 : Int) ≤ (k : Int) := by omega
      have HBr := Lib.hid hBr
      clear h1 h2 hq hkl hBr
      go_wp2_with (fail)
      go_quiet (fail)
      go_wp2_with (fail)
      go_roundw
      case rel => exact ⟨k + 1, by omega, by go_num, below_drewN HBr.out _⟩
      case measure => simp [intOf]; omega
    · have hfin : Hid (Below w.heap.size w wr) := HB4.out.trans (hBr.mono (by have := HB4.out.size; omega))
      have x1 : ¬ (k : Int) < (m : Int) := by omega
      clear hBr
      go_wp2_with (fail)
      go_ret
      exact ⟨rfl, hfin.out⟩
end Go.Proofs.YtjlbchkdiaomjaaDoor.trie

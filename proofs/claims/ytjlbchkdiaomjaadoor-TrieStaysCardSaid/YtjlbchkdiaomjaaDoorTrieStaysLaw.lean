/- The law on what a map told: it tells it for ever. -/
import Derived.Test.YtjlbchkdiaomjaaDoorTrieStay
import Derived.Test.YtjlbchkdiaomjaaDoorTriePlaysLaw
namespace Go.Proofs.YtjlbchkdiaomjaaDoor.trie
open Go.RowKit Go.Shelf mem tri mix

theorem stays_long (B n : Nat) (A : Option Addr) (cap : Nat) (w : World) (hB : B ≤ w.heap.size) (hT : Laid B w) (hn : 60 < n) :
    Calls Tryd.prog 4 #[.slice A n cap] w (TrueBelow w) := by
  have HT := Lib.hid hT
  have hn' : (60 : Int) < (n : Int) := by omega
  clear hT
  go_enter Tryd.func4, Tryd.ntmps4
  go_wp2_with (fail)
  refine (works_any B _ hB HT.out).mono ?_
  rintro e w1 ⟨rfl, hb1⟩
  have HB1 := Lib.hid hb1
  have hz1 := hb1.size
  clear hb1
  go_wp2_with (fail)
  refine (works_any B w1 (by omega) (HT.out.on (HB1.out.mono hB))).mono ?_
  rintro e w2 ⟨rfl, hb2⟩
  go_wp2_with (fail)
  go_ret
  exact ⟨rfl, HB1.out.trans (hb2.mono hz1)⟩
set_option maxHeartbeats 4000000 in
set_option maxRecDepth 100000 in
theorem stays_law (B C n : Nat) (L : List (Bool × Int × Int)) (V : Value) (w : World) (hB : B ≤ w.heap.size) (hT : Laid B w) (hC : C ≤ w.heap.size) (hn : n = L.length) (hn2 : n ≤ 60) (hsee : Sees C 3 w V n (opsV L)) (hkeys : ∀ o ∈ L, I64 o.2.1) :
    Calls Tryd.prog 4 #[V] w (TrueBelow w) := by
  obtain ⟨A, cap, rfl⟩ := hsee.form
  obtain ⟨i0, hi, hz0, hz1, hz2⟩ := info_parts infoMap
  obtain ⟨j0, hj, hy0, hy1, hy2⟩ := info_parts infoList
  obtain ⟨H, hH⟩ : ∃ H, H = w.heap.size := ⟨_, rfl⟩
  have HT := Lib.hid hT
  have HN := Lib.hid hn
  have HH := Lib.hid hH
  have HS := Lib.hid (hsee.more hC)
  have HK := Lib.hid hkeys
  have hn' : ¬ (60 : Int) < (n : Int) := by omega
  clear hT hn hsee hkeys hH
  go_enter Tryd.func4, Tryd.ntmps4
  go_wp2_with (fail)
  refine (works_any B _ hB HT.out).mono ?_
  rintro e w1 ⟨rfl, hb1⟩
  have HB1 := Lib.hid hb1
  have hz1w := hb1.size
  clear hb1
  go_wp2_with (fail)
  refine (of_any B w1.heap.size [] _ w1 (by omega) (HT.out.on (HB1.out.mono hB)) (Nat.le_refl _) ⟨rfl, _, _, rfl, fun h => absurd h (by decide)⟩ (by decide) (fun _ h => by cases h)).mono ?_
  rintro e w2 ⟨t0, rfl, hmi0, hb2⟩
  obtain ⟨p0, hp0⟩ := ptr_is t0
  unfold mapV
  rw [hp0]
  have hof : (ofS []).length = 0 := rfl
  rw [hof]
  have hz2w := hb2.size
  have HM0 := Lib.hid hmi0
  have HP0 := Lib.hid hp0
  have HB2 := Lib.hid (HB1.out.trans (hb2.mono hz1w))
  clear hmi0 hp0 hb2 hof
  go_wp2_with (fail)
  obtain ⟨K, hK⟩ : ∃ K, K = w2.heap.size := ⟨_, rfl⟩
  have e0 : K + 1 + 1 = K + 2 := rfl
  rw [← hK, e0]
  obtain ⟨W, hW⟩ : ∃ W, W = (((w2.alloc (.cells #[.pointer p0, .int .i64 0] 26)).alloc (.cells #[.pointer p0, .int .i64 0] 26)).alloc (.cells #[.slice none 0 0] 28)) := ⟨_, rfl⟩
  rw [← hW]
  have HKK := Lib.hid hK
  have hHK : H ≤ K := by rw [HH.out]; omega
  have hBK0 : Box W K 26 #[.pointer p0, .int .i64 0] := by rw [hW]; exact ((Box.new _ _ _ _ hK).alloc _).alloc _
  have hm1 : W.ownsRow (K + 1) 26 2 (.slice (some ⟨K + 1, 0, none⟩) 1 1) 1 (mapsV [(p0, 0)]) := by
    refine ⟨rfl, .inr ⟨K + 1, 1, #[.pointer p0, .int .i64 0], rfl, Nat.le_refl _, ?_, by decide, by decide, rfl, rfl⟩⟩
    rw [hW]; exact (Box.new _ _ _ _ (by simp; omega)).alloc _
  have hv1 : W.ownsRow K 28 1 (.slice (some ⟨K + 2, 0, none⟩) 1 1) 1 [.slice none 0 0] := by
    refine ⟨rfl, .inr ⟨K + 2, 1, #[.slice none 0 0], rfl, by omega, ?_, by decide, by decide, rfl, rfl⟩⟩
    rw [hW]; exact Box.new _ _ _ _ (by simp; omega)
  have hb3 : Below K w2 W := by rw [hW]; exact (((Below.refl _ w2).alloc (by omega) _).alloc (by simp; omega) _).alloc (by simp; omega) _
  have HBK0 := Lib.hid hBK0
  have HB3 := Lib.hid hb3
  have HM1 := Lib.hid hm1
  have HV1 := Lib.hid hv1
  have hzW : w2.heap.size ≤ W.heap.size := hb3.size
  clear hK hBK0 hb3 hW hm1 hv1 e0
  go_loopw [4, 5, 6, 7, 8] (fun o a b i _ wr => StayRel K n L w2 o a b i wr) (fun _ _ _ i _ _ => n - (intOf i).toNat)
  case atStart =>
    unfold StayRel
    have hL0 : Lies W.heap.size W t0 := (HM0.out.2.below (HB3.out.mono (by rw [HKK.out]; exact Nat.le_refl _))).more hzW
    have hr0 : W.ownsRow K 40 2 (.slice none 0 0) 0 (pairV (runS (L.take 0))) := by simpa [pairV, runS] using World.ownsRow_nil _ _ _ _
    refine ⟨0, 0, t0, p0, [(p0, 0)], [.slice none 0 0], Nat.zero_le _, Nat.le_refl _, rfl, Lib.hid ⟨rfl, HP0.out, HM0.out.1, hL0⟩, hr0, HBK0.out, Lib.hid ⟨rfl, rfl, ?_, ?_⟩, HM1.out, HV1.out, HB3.out⟩
    · intro j q hq
      match j, hq with
      | 0, hq => simp at hq; subst hq; exact ⟨t0, HP0.out, rfl, HM0.out.1, hL0⟩
      | j + 1, hq => simp at hq
    · intro j v hv
      match j, hv with
      | 0, hv => simp at hv; subst hv; exact hr0
      | j + 1, hv => simp at hv
  case round =>
    obtain ⟨k, m, t, p, l, vs, hk, hm, rfl, HM, ho, hbk, HLV, hoa, hob, hB1⟩ := hrel
    have hsz := hB1.size
    rw [← HKK.out] at hsz
    have hklt := hbk.lt
    have HBR := Lib.hid (HB2.out.trans (hB1.mono (by rw [← HH.out]; exact hHK)))
    by_cases hlt : k < n
    · have hkl : k < L.length := by have := HN.out; omega
      have hse := HS.out.below HBR.out
      rw [HN.out] at hse
      obtain ⟨b, off, cap', hvv, hbl, hc0, hc1, hc2⟩ := sees_op hse k hkl
      injection hvv with hA hLn hCC
      subst hA
      subst hCC
      have hru := runS_take L k hkl
      have hI := HK.out L[k] (List.getElem_mem hkl)
      obtain ⟨q, hq⟩ : ∃ q, q = L[k] := ⟨_, rfl⟩
      rw [← hq] at hc0 hc1 hc2 hru hI
      obtain ⟨d, x, y⟩ := q
      obtain ⟨l', hl'⟩ : ∃ l', l' = runS (L.take (k + 1)) := ⟨_, rfl⟩
      obtain ⟨m', hm'⟩ : ∃ m', m' = l'.length := ⟨_, rfl⟩
      have hle : m' ≤ m + 1 := by rw [hm', hl', hru, HM.out.1]; exact opS_le _ _ HM.out.2.2.1.2.2.1
      have HStep := Lib.hid (fun w' (h1 : Below wr.heap.size wr w') => step_any B m m' t p HM.out.2.1 (runS (L.take k)) l' HM.out.1 d x y _ w' (by have := h1.size; have := HH.out; omega) (HT.out.on ((HBR.out.trans (h1.mono (by have := HH.out; omega))).mono hB)) hI HM.out.2.2.1 ((HM.out.2.2.2.below h1).more h1.size) (by rw [← HM.out.1]; omega) (((Sees.of_own ho).below h1).more h1.size) (by rw [hl']; exact hru.symm) hm')
      have i0' : (0 : Int) ≤ (k : Int) := by omega
      have i1' : (k : Int) < (n : Int) := by omega
      have hbK : b < K := by rw [← HH.out] at hbl; omega
      have HL' := Lib.hid hl'
      have HM' := Lib.hid hm'
      have c0 : wr.cell? ⟨K, 0, none⟩ = some (.pointer p) := hbk.cell 0
      have c1 : wr.cell? ⟨K, 1, none⟩ = some (.int .i64 m) := hbk.cell 1
      obtain ⟨G, hG⟩ : ∃ G, G = wr.heap.size := ⟨_, rfl⟩
      obtain ⟨Wk, hWk⟩ : ∃ Wk, Wk = wr.alloc (.cells #[.pointer p, .int .i64 m] 26) := ⟨_, rfl⟩
      have hHw : w.heap.size = H := HH.out.symm
      have hbne : ¬ b = K := by omega
      have hbne' : ¬ K = b := by omega
      have HBK := Lib.hid hbk
      have HO := Lib.hid ho
      have HOA := Lib.hid hoa
      have HOB := Lib.hid hob
      clear hse hLn hru hq hkl hI hl' hm' hbk ho hoa hob
      go_wp2_with (fail)
      rw [← hWk, ← hG]
      have hBk : Below wr.heap.size wr Wk := by rw [hWk]; exact (Below.refl _ wr).alloc (Nat.le_refl _) _
      have hGk : Box Wk G 26 #[.pointer p, .int .i64 m] := by rw [hWk]; exact Box.new _ _ _ G hG
      have hzk : Wk.heap.size = G + 1 := by rw [hWk, hG]; simp
      have k0 : Wk.cell? ⟨K, 0, none⟩ = some (.pointer p) := (hBk.cell (p := ⟨K, 0, none⟩) hklt).trans c0
      have k1 : Wk.cell? ⟨K, 1, none⟩ = some (.int .i64 m) := (hBk.cell (p := ⟨K, 1, none⟩) hklt).trans c1
      have n0 := (hBk.cell (p := ⟨b, off + k * 3, none⟩) (by dsimp only; omega)).trans hc0
      have n1 := (hBk.cell (p := ⟨b, off + k * 3 + 1, none⟩) (by dsimp only; omega)).trans hc1
      have n2 := (hBk.cell (p := ⟨b, off + k * 3 + 2, none⟩) (by dsimp only; omega)).trans hc2
      have hKG : K < G := by omega
      have HBk := Lib.hid hBk
      have HGk := Lib.hid hGk
      have HG := Lib.hid hG
      clear hBk hGk hWk hc0 hc1 hc2 c0 c1 hG
      go_region_with
        (first | (go_at_call 11; refine (HStep.out Wk.drew (HBk.out.drew)).mono ?_; rintro e w4 ⟨u, q, r, rfl, hu, hro, hb4⟩; have hk4 : Below Wk.heap.size Wk w4 := (Below.refl _ _).drew.trans (hb4.mono (by simp)); have hB4 : Below wr.heap.size wr w4 := HBk.out.trans (hk4.mono (by have := HG.out; omega)); have hbk4 := HBK.out.below hB4 hklt; have f0 := hbk4.frozen 0; have f1 := hbk4.frozen 1; have r0 := hbk4.cell 0; have r1 := hbk4.cell 1; have q0 := (hk4.cell (p := ⟨b, off + k * 3, none⟩) (by dsimp only; omega)).trans n0; have q1 := (hk4.cell (p := ⟨b, off + k * 3 + 1, none⟩) (by dsimp only; omega)).trans n1; have q2 := (hk4.cell (p := ⟨b, off + k * 3 + 2, none⟩) (by dsimp only; omega)).trans n2))
      all_goals
        have hbk5 := hbk4.two (.pointer q) (.int .i64 m')
        have hG4 := HGk.out.below hk4 (by omega)
        have hG5 : Box ((w4.setCell ⟨K, 0, none⟩ (.pointer q)).setCell ⟨K, 1, none⟩ (.int .i64 m')) G 26 #[.pointer p, .int .i64 m] := (hG4.far (by dsimp only; omega) _).far (by dsimp only; omega) _
        have hr2 := own_set_at (own_set_at (hro.out.mono (base' := K) (by simp; omega)) hbk4 (by decide) 0 (.pointer q)) (hbk4.set 0 _) (by decide) 1 (.int .i64 m')
        have hz4 := hB4.size
        have hB5 : Below K w2 ((w4.setCell ⟨K, 0, none⟩ (.pointer q)).setCell ⟨K, 1, none⟩ (.int .i64 m')) := ((hB1.trans (hB4.mono (by omega))).setCell (p := ⟨K, 0, none⟩) (Nat.le_refl _) _).setCell (p := ⟨K, 1, none⟩) (Nat.le_refl _) _
        have hkeep := keeps_set2 hbk4 (by decide) (by decide) 0 1 (.pointer q) (.int .i64 m')
        have hlies := hu.out.2.2.1.keep hkeep
        have hliet := ((HM.out.2.2.2.below hB4).more hz4).keep hkeep
        have hz5' : ((w4.setCell ⟨K, 0, none⟩ (.pointer q)).setCell ⟨K, 1, none⟩ (.int .i64 m')).heap.size = w4.heap.size := by rw [World.size_setCell, World.size_setCell]
        have hmaps := (HLV.out.2.2.1.below hB4).keep hkeep (by omega)
        have hlists := ((HLV.out.2.2.2.below hB4).set (i := 0) hbk4 (by decide) (.pointer q)).set (i := 1) (hbk4.set 0 _) (by decide) (.int .i64 m')
        have hoa5 := ((own_below HOA.out hB4).kept (grown_at w4 K 0 (.pointer q)) (.inr (own_above HOA.out).symm)).kept (grown_at _ K 1 (.int .i64 m')) (.inr (own_above HOA.out).symm)
        have hob5 := own_set_at (own_set_at (own_below HOB.out hB4) hbk4 (by decide) 0 (.pointer q)) (hbk4.set 0 _) (by decide) 1 (.int .i64 m')
        obtain ⟨W5, hW5⟩ : ∃ W5, W5 = ((w4.setCell ⟨K, 0, none⟩ (.pointer q)).setCell ⟨K, 1, none⟩ (.int .i64 m')) := ⟨_, rfl⟩
        rw [← hW5] at hbk5 hG5 hr2 hB5 hlies hliet hz5' hmaps hlists hoa5 hob5
        have HW5 := Lib.hid hW5
        have HBK5 := Lib.hid hbk5
        have HG5 := Lib.hid hG5
        have HR5 := Lib.hid hr2
        have HB5 := Lib.hid hB5
        have HLU := Lib.hid hlies
        have HLT := Lib.hid hliet
        have HMA := Lib.hid hmaps
        have HLI := Lib.hid hlists
        have HOA5 := Lib.hid hoa5
        have HOB5 := Lib.hid hob5
        clear hbk5 hG4 hG5 hr2 hB5 hkeep hlies hliet hmaps hlists hoa5 hob5 hW5 hk4 hb4 hro n0 n1 n2 k0 k1
        go_wp2_with (fail)
        rw [← HW5.out]
        obtain ⟨z, hz⟩ : ∃ z, z = sh u u := ⟨_, rfl⟩
        obtain ⟨y2, hy⟩ : ∃ y2, y2 = sh t u := ⟨_, rfl⟩
        have hzy : z ≤ y2 + 16 := by rw [hz, hy]; exact hu.out.2.2.2
        have hyb : y2 ≤ 1229782938247303441 := by rw [hy]; exact sh_i64 t u HM.out.2.2.1.2.1
        have hsub : IntKind.i64.wrap ((z : Int) - (y2 : Int)) = (z : Int) - (y2 : Int) := IntWalk.i64_in _ (by omega)
        have hgt : decide ((16 : Int) < (z : Int) - (y2 : Int)) = false := by simp; omega
        have HNod := Lib.hid (fun W' (h1 : Below W5.heap.size W5 W') => nodes_at m' u q hu.out.1 W' hu.out.2.1.2.1 ((HLU.out.below (h1.mono (by omega))).more (by have := h1.size; omega)))
        have HSh1 := Lib.hid (fun W' (h1 : Below W5.heap.size W5 W') => shared_at m m' t u p q HM.out.2.1 hu.out.1 W' HM.out.2.2.1.2.1 ((HLT.out.below (h1.mono (by omega))).more (by have := h1.size; omega)) ((HLU.out.below (h1.mono (by omega))).more (by have := h1.size; omega)) y2 hy)
        have HSh2 := Lib.hid (fun W' (h1 : Below W5.heap.size W5 W') => shared_at m' m' u u q q hu.out.1 hu.out.1 W' hu.out.2.1.2.1 ((HLU.out.below (h1.mono (by omega))).more (by have := h1.size; omega)) ((HLU.out.below (h1.mono (by omega))).more (by have := h1.size; omega)) z hz)
        have HSh3 := Lib.hid (fun W' (h1 : Below W5.heap.size W5 W') => shared_at m' m u t q p hu.out.1 HM.out.2.1 W' hu.out.2.1.2.1 ((HLU.out.below (h1.mono (by omega))).more (by have := h1.size; omega)) ((HLT.out.below (h1.mono (by omega))).more (by have := h1.size; omega)) y2 (by rw [hy]; exact sh_symm t u))
        rw [← hz] at HNod
        have g0 : W5.cell? ⟨K, 0, none⟩ = some (.pointer q) := HBK5.out.cell 0
        have g1 : W5.cell? ⟨K, 1, none⟩ = some (.int .i64 m') := HBK5.out.cell 1
        have g2 : W5.cell? ⟨G, 0, none⟩ = some (.pointer p) := HG5.out.cell 0
        have g3 : W5.cell? ⟨G, 1, none⟩ = some (.int .i64 m) := HG5.out.cell 1
        have hGW : G < W5.heap.size := HG5.out.lt
        have hKW : K < W5.heap.size := HBK5.out.lt
        clear hz hy
        go_region_held3 (fun w' => w'.cell? ⟨K, 0, none⟩ = some (.pointer q) ∧ w'.cell? ⟨K, 1, none⟩ = some (.int .i64 m') ∧ w'.cell? ⟨G, 0, none⟩ = some (.pointer p) ∧ w'.cell? ⟨G, 1, none⟩ = some (.int .i64 m)) (first | go_keep)
          (first
            | (go_at_call 17; (with_reducible refine (HNod.out W5.drew (Below.refl _ W5).drew).mono ?_); rintro e a1 ⟨rfl, hb⟩; have B1 : Below W5.heap.size W5 a1 := (Below.refl _ W5).drew.trans (hb.mono (by simp)); have q10 := (B1.cell (p := ⟨K, 0, none⟩) (by dsimp only; omega)).trans g0; have q11 := (B1.cell (p := ⟨K, 1, none⟩) (by dsimp only; omega)).trans g1; have q12 := (B1.cell (p := ⟨G, 0, none⟩) (by dsimp only; omega)).trans g2; have q13 := (B1.cell (p := ⟨G, 1, none⟩) (by dsimp only; omega)).trans g3; clear hb)
            | (go_at_call 19; (with_reducible refine (HSh1.out a1 B1).mono ?_); rintro e a2 ⟨rfl, hb⟩; have B2 : Below W5.heap.size W5 a2 := B1.trans (hb.mono B1.size); have q20 := (B2.cell (p := ⟨K, 0, none⟩) (by dsimp only; omega)).trans g0; have q21 := (B2.cell (p := ⟨K, 1, none⟩) (by dsimp only; omega)).trans g1; have q22 := (B2.cell (p := ⟨G, 0, none⟩) (by dsimp only; omega)).trans g2; have q23 := (B2.cell (p := ⟨G, 1, none⟩) (by dsimp only; omega)).trans g3; clear hb)
            | (go_at_call 19; (with_reducible refine (HSh2.out a2 B2).mono ?_); rintro e a3 ⟨rfl, hb⟩; have B3 : Below W5.heap.size W5 a3 := B2.trans (hb.mono B2.size); have q30 := (B3.cell (p := ⟨K, 0, none⟩) (by dsimp only; omega)).trans g0; have q31 := (B3.cell (p := ⟨K, 1, none⟩) (by dsimp only; omega)).trans g1; have q32 := (B3.cell (p := ⟨G, 0, none⟩) (by dsimp only; omega)).trans g2; have q33 := (B3.cell (p := ⟨G, 1, none⟩) (by dsimp only; omega)).trans g3; clear hb)
            | (go_at_call 17; (with_reducible refine (HNod.out a3 B3).mono ?_); rintro e a4 ⟨rfl, hb⟩; have B4 : Below W5.heap.size W5 a4 := B3.trans (hb.mono B3.size); have q40 := (B4.cell (p := ⟨K, 0, none⟩) (by dsimp only; omega)).trans g0; have q41 := (B4.cell (p := ⟨K, 1, none⟩) (by dsimp only; omega)).trans g1; have q42 := (B4.cell (p := ⟨G, 0, none⟩) (by dsimp only; omega)).trans g2; have q43 := (B4.cell (p := ⟨G, 1, none⟩) (by dsimp only; omega)).trans g3; clear hb)
            | (go_at_call 19; (with_reducible refine (HSh3.out a4 B4).mono ?_); rintro e a5 ⟨rfl, hb⟩; have B5 : Below W5.heap.size W5 a5 := B4.trans (hb.mono B4.size); have q50 := (B5.cell (p := ⟨K, 0, none⟩) (by dsimp only; omega)).trans g0; have q51 := (B5.cell (p := ⟨K, 1, none⟩) (by dsimp only; omega)).trans g1; have q52 := (B5.cell (p := ⟨G, 0, none⟩) (by dsimp only; omega)).trans g2; have q53 := (B5.cell (p := ⟨G, 1, none⟩) (by dsimp only; omega)).trans g3; clear hb)
            | (go_at_call 19; (with_reducible refine (HSh1.out a5 B5).mono ?_); rintro e a6 ⟨rfl, hb⟩; have B6 : Below W5.heap.size W5 a6 := B5.trans (hb.mono B5.size); have q60 := (B6.cell (p := ⟨K, 0, none⟩) (by dsimp only; omega)).trans g0; have q61 := (B6.cell (p := ⟨K, 1, none⟩) (by dsimp only; omega)).trans g1; have q62 := (B6.cell (p := ⟨G, 0, none⟩) (by dsimp only; omega)).trans g2; have q63 := (B6.cell (p := ⟨G, 1, none⟩) (by dsimp only; omega)).trans g3; clear hb))
        have HA6 := Lib.hid B6
        obtain ⟨Ar, cr, hrr⟩ := (Sees.of_own HR5.out).form
        subst hrr
        have hz6 := HA6.out.size
        have oa6 := own_below HOA5.out HA6.out
        have ob6 := own_below HOB5.out HA6.out
        clear q10 q11 q12 q13 q20 q21 q22 q23 q30 q31 q32 q33 q40 q41 q42 q43 q50 q51 q52 q53 q60 q61 q62 q63 g0 g1 g2 g3 B1 B2 B3 B4 B5 B6 hsub hgt HNod HSh1 HSh2 HSh3 HStep HBk HGk HBR HS HBK f0 f1 r0 r1 q0 q1 q2
        go_wp2_with (first
          | (at_builtin; refine wpList_append_own _ rfl (.tmp 65) (.tmp 67) 45 rfl (K + 1) 26 i0 (.agg #[.pointer none, .int .i64 0]) 2 16 Tryd.underlying45 hi hz0 hz1 hz2 rfl (by decide) _ _ _ rfl (oa6.alloc _) ⟨a6.heap.size, 0, none⟩ 1 1 [.pointer q, .int .i64 m'] rfl rfl (map_new _ _ _ _) (map_ones _ _) (by unfold maxLen; omega) (by omega) (by simp; omega) ?_; intro v1 w7 hown1 hgrow0 _; have hgrow1 : (a6.alloc (.cells #[.pointer q, .int .i64 m'] 26)).grownBy w7 u5.ownBlock := hgrow0; clear hgrow0; have ob7 := (ob6.alloc (.cells #[.pointer q, .int .i64 m'] 26)).kept hgrow1 (own_apart ob6 oa6 (by decide)); have hz7 := hgrow1.size; simp only [World.size_alloc] at hz7)
          | (at_builtin; refine wpList_append_own _ rfl (.tmp 69) (.tmp 71) 46 rfl K 28 j0 (.slice none 0 0) 1 24 Tryd.underlying46 hj hy0 hy1 hy2 rfl (by decide) _ _ _ rfl (ob7.alloc _) ⟨w7.heap.size, 0, none⟩ 1 1 [.slice Ar m' cr] rfl rfl (new_one _ _ _) (slice_ones _ _ _) (by unfold maxLen; omega) (by omega) (by simp; omega) ?_; intro v2 w8 hown2 hgrow0 _; have hgrow2 : (w7.alloc (.cells #[.slice Ar m' cr] 28)).grownBy w8 u6.ownBlock := hgrow0; clear hgrow0))
        go_roundw
        case rel =>
          have h := stay_next hlt (by omega) HL'.out HM'.out hu.out.1 hu.out.2.1 HA6.out hKW HBK5.out HR5.out HB5.out (by rw [hz5']; exact HLU.out) HMA.out HLI.out HLV.out.1 HLV.out.2.1 HOA5.out HOB5.out hown1 hgrow1 hown2 hgrow2
          rw [show ((k + 1 : Nat) : Int) = (k : Int) + 1 by omega] at h
          exact h
        case measure => simp [intOf]; omega
    · have hkn : k = n := by omega
      subst hkn
      obtain ⟨A5, c5, h5⟩ := (Sees.of_own hoa).form
      obtain ⟨A6, c6, h6⟩ := (Sees.of_own hob).form
      subst h5
      subst h6
      have HOA := Lib.hid hoa
      have HOB := Lib.hid hob
      have HBW := Lib.hid (HB2.out.trans (hB1.mono (by have := HH.out; omega)))
      have hzw := HBW.out.size
      clear hoa hob ho hbk hB1 hm
      obtain ⟨wo, rfl⟩ : ∃ wo : World, wo = wr := ⟨_, rfl⟩
      go_wp2_with (fail)
      go_loopw [9] (fun i wr => ∃ j : Nat, j ≤ k + 1 ∧ i = .int .i64 j ∧ Below wo.heap.size wo wr) (fun i _ => k + 1 - (intOf i).toNat)
      case atStart => exact ⟨0, Nat.zero_le _, rfl, Below.refl _ _⟩
      case round =>
        obtain ⟨j, hj, rfl, hBx⟩ := hrel
        have hzx := hBx.size
        by_cases hlt2 : j < k + 1
        · have hjl : j < l.length := by have := HLV.out.1; omega
          have hjv : j < vs.length := by have := HLV.out.2.1; omega
          obtain ⟨t2, hp2, hc2, hm2, hl2⟩ := HLV.out.2.2.1 j l[j] (List.getElem?_eq_getElem hjl)
          have hv2 := HLV.out.2.2.2 j vs[j] (List.getElem?_eq_getElem hjv)
          have hx := mapsV_at l j hjl
          obtain ⟨pc, hpc⟩ : ∃ pc, pc = l[j] := ⟨_, rfl⟩
          obtain ⟨vj, hvj⟩ : ∃ vj, vj = vs[j] := ⟨_, rfl⟩
          have hvx : vs[j]? = some vj := by rw [hvj]; exact List.getElem?_eq_getElem hjv
          rw [← hpc] at hp2 hc2 hx
          rw [← hvj] at hv2
          obtain ⟨p2, c2⟩ := pc
          dsimp only at hp2 hc2 hx
          obtain ⟨Av, cv, hvv⟩ := (Sees.of_own hv2).form
          rw [← hc2] at hvv
          subst hvv
          obtain ⟨_, A', cap', hva, hca⟩ := (Sees.of_own HOA.out).below hBx
          obtain ⟨ba, oa, rfl, hba, hca⟩ := hca (by omega)
          injection hva with e1 _ e3
          subst e1
          subst e3
          obtain ⟨_, A', cap', hvb, hcb⟩ := (Sees.of_own HOB.out).below hBx
          obtain ⟨bb, ob, rfl, hbb, hcb⟩ := hcb (by omega)
          injection hvb with e1 _ e3
          subst e1
          subst e3
          have x0 : wr.cell? ⟨ba, oa + j * 2, none⟩ = some (.pointer p2) := hca _ _ hx.1
          have x1 : wr.cell? ⟨ba, oa + j * 2 + 1, none⟩ = some (.int .i64 c2) := hca _ _ hx.2
          have y0 : wr.cell? ⟨bb, ob + j, none⟩ = some (.slice Av c2 cv) := hcb _ _ hvx
          have hlen := (runS_len L j (by have := HN.out; omega)).2
          rw [← hc2] at hlen
          have HLike := Lib.hid (like_at B wo.heap.size c2 t2 p2 hp2 (runS (L.take j)) hc2 (.slice Av c2 cv) wr.drew (by simp; omega) (HT.out.on ((HBW.out.trans ((hBx.drew).mono (by omega))).mono hB)) hm2 ((hl2.below hBx.drew).more (by simp; omega)) (by rw [← hc2]; omega) (by simp; omega) ((Sees.of_own (by rw [← hc2] at hv2; exact hv2)).below hBx.drew))
          have j0' : (0 : Int) ≤ (j : Int) := by omega
          have j1' : (j : Int) < ((k + 1 : Nat) : Int) := by omega
          have j2' : (j : Int) < (k : Int) + 1 := by omega
          have HBx := Lib.hid hBx
          clear hp2 hc2 hm2 hl2 hv2 hx hpc hvj hvx hca hcb hBx hjl hjv
          go_wp2_with (fail)
          go_still_tail 8, (by kernel_rfl)
          change wpList _ _ _ _ _ wr.drew
          go_wp2_with (fail)
          refine HLike.out.mono ?_
          rintro e w6 ⟨rfl, hb6⟩
          have HB6 := Lib.hid hb6
          clear hb6
          go_wp2_with (fail)
          go_roundw
          case rel => exact ⟨j + 1, by omega, by go_num, HBx.out.trans (((Below.refl _ wr).drew.trans (HB6.out.mono (by simp))).mono hzx)⟩
          case measure => simp [intOf]; omega
        · have hfin : Hid (Below w.heap.size w wr) := HBW.out.trans (hBx.mono (by omega))
          have j2' : ¬ (j : Int) < (k : Int) + 1 := by omega
          have j1' : ¬ (j : Int) < ((k + 1 : Nat) : Int) := by omega
          clear hBx
          go_wp2_with (fail)
          go_ret
          exact ⟨rfl, hfin.out⟩
end Go.Proofs.YtjlbchkdiaomjaaDoor.trie

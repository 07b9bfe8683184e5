/- The law on whatever is put and dropped. -/
import Derived.Test.YtjlbchkdiaomjaaDoorTrieOps
namespace Go.Proofs.YtjlbchkdiaomjaaDoor.trie
open Go.RowKit Go.Shelf mem tri mix

def TrueBelow (w : World) (e : Ending) (w' : World) : Prop := e = .returned (.bool true) ∧ Below w.heap.size w w'
theorem plays_long (B n : Nat) (key : Int) (A : Option Addr) (cap : Nat) (w : World) (hB : B ≤ w.heap.size) (hT : Laid B w) (hn : 150 < n) :
    Calls Tryd.prog 3 #[.slice A n cap, .int .i64 key] w (TrueBelow w) := by
  have HT := Lib.hid hT
  have hn' : (150 : Int) < (n : Int) := by omega
  clear hT
  go_enter Tryd.func3, Tryd.ntmps3
  go_wp2_with (fail)
  refine (works_any B _ hB HT.out).mono ?_
  rintro e w1 ⟨rfl, hb1⟩
  have HB1 := Lib.hid hb1
  have hz1 := hb1.size
  clear hb1
  go_wp2_with (fail)
  refine (works_any B w1 (by omega) (HT.out.on (HB1.out.mono hB))).mono ?_
  rintro e w2 ⟨rfl, hb2⟩
  go_wp2_with (fail)
  go_ret
  exact ⟨rfl, HB1.out.trans (hb2.mono hz1)⟩
/-- the second loop: k of the keys are dropped again -/
def DropAll (K m : Nat) (F : List (Int × Int)) (o : Value) (w0 : World) (i : Value) (wr : World) : Prop :=
  ∃ (k j : Nat) (t : Tr) (p : Option Addr), k + j = m ∧ i = .int .i64 k ∧ Hid (ptr t = .pointer p ∧ MapOf t (F.drop k) ∧ Lies wr.heap.size wr t) ∧
    Hid (wr.ownsRow K 40 2 o m (pairV F)) ∧ Box wr K 26 #[.pointer p, .int .i64 j] ∧ Below K w0 wr
theorem map_nil {t : Tr} (h : MapOf t []) : t = .none := by
  rcases h.1 with ⟨h, _⟩ | ⟨_, h⟩
  · exact h
  · exact absurd rfl h
/-- the first loop: the map and its list behind k calls -/
def PlayRel (K n : Nat) (L : List (Bool × Int × Int)) (w0 : World) (o i : Value) (wr : World) : Prop :=
  ∃ (k m : Nat) (t : Tr) (p : Option Addr), k ≤ n ∧ m ≤ k ∧ i = .int .i64 k ∧ Hid (m = (runS (L.take k)).length ∧ ptr t = .pointer p ∧ MapOf t (runS (L.take k)) ∧ Lies wr.heap.size wr t) ∧
    wr.ownsRow K 40 2 o m (pairV (runS (L.take k))) ∧ Box wr K 26 #[.pointer p, .int .i64 m] ∧ Below K w0 wr
set_option maxHeartbeats 4000000 in
set_option maxRecDepth 100000 in
theorem plays_law (B C n : Nat) (L : List (Bool × Int × Int)) (key : Int) (V : Value) (w : World) (hB : B ≤ w.heap.size) (hT : Laid B w) (hC : C ≤ w.heap.size) (hn : n = L.length) (hn2 : n ≤ 150) (hsee : Sees C 3 w V n (opsV L)) (hkeys : ∀ o ∈ L, I64 o.2.1) :
    Calls Tryd.prog 3 #[V, .int .i64 key] w (TrueBelow w) := by
  obtain ⟨A, cap, rfl⟩ := hsee.form
  obtain ⟨H, hH⟩ : ∃ H, H = w.heap.size := ⟨_, rfl⟩
  have HT := Lib.hid hT
  have HN := Lib.hid hn
  have HH := Lib.hid hH
  have HS := Lib.hid (hsee.more hC)
  have HK := Lib.hid hkeys
  have hn' : ¬ (150 : Int) < (n : Int) := by omega
  clear hT hn hsee hkeys hH
  go_enter Tryd.func3, Tryd.ntmps3
  go_wp2_with (fail)
  refine (works_any B _ hB HT.out).mono ?_
  rintro e w1 ⟨rfl, hb1⟩
  have HB1 := Lib.hid hb1
  have hz1 := hb1.size
  clear hb1
  go_wp2_with (fail)
  refine (of_any B w1.heap.size [] _ w1 (by omega) (HT.out.on (HB1.out.mono hB)) (Nat.le_refl _) ⟨rfl, _, _, rfl, fun h => absurd h (by decide)⟩ (by decide) (fun _ h => by cases h)).mono ?_
  rintro e w2 ⟨t0, rfl, hmi0, hb2⟩
  obtain ⟨p0, hp0⟩ := ptr_is t0
  unfold mapV
  rw [hp0]
  have hof : (ofS []).length = 0 := rfl
  rw [hof]
  have hz2 := hb2.size
  have HM0 := Lib.hid hmi0
  have HP0 := Lib.hid hp0
  have HB2 := Lib.hid (HB1.out.trans (hb2.mono hz1))
  clear hmi0 hp0 hb2 hof
  go_wp2_with (fail)
  obtain ⟨K, hK⟩ : ∃ K, K = w2.heap.size := ⟨_, rfl⟩
  rw [← hK]
  have HKK := Lib.hid hK
  have hHK : H ≤ K := by rw [HH.out]; omega
  have hBK0 : Box (w2.alloc (.cells #[.pointer p0, .int .i64 0] 26)) K 26 #[.pointer p0, .int .i64 0] := Box.new _ _ _ _ hK
  have HBK0 := Lib.hid hBK0
  have hb3 : Below K w2 (w2.alloc (.cells #[.pointer p0, .int .i64 0] 26)) := (Below.refl _ w2).alloc (by omega) _
  have HB3 := Lib.hid hb3
  clear hK hBK0 hb3
  go_loopw [6, 7, 8] (fun o i _ wr => PlayRel K n L w2 o i wr) (fun _ i _ _ => n - (intOf i).toNat)
  case atStart =>
    unfold PlayRel
    exact ⟨0, 0, t0, p0, Nat.zero_le _, Nat.le_refl _, rfl, Lib.hid ⟨rfl, HP0.out, HM0.out.1, (HM0.out.2.below (HB3.out.mono (by rw [HKK.out]; exact Nat.le_refl _))).more (by simp)⟩, by simpa [pairV, runS] using World.ownsRow_nil _ _ _ _, HBK0.out, HB3.out⟩
  case round =>
    obtain ⟨k, m, t, p, hk, hm, rfl, HM, ho, hbk, hB1⟩ := hrel
    have hsz := hB1.size
    rw [← HKK.out] at hsz
    have hklt := hbk.lt
    have HBR := Lib.hid (HB2.out.trans (hB1.mono (by rw [← HH.out]; exact hHK)))
    by_cases hlt : k < n
    · have hkl : k < L.length := by have := HN.out; omega
      have hse := HS.out.below HBR.out
      rw [HN.out] at hse
      obtain ⟨b, off, cap', hvv, hbl, hc0, hc1, hc2⟩ := sees_op hse k hkl
      injection hvv with hA hLn hCC
      subst hA
      subst hCC
      have hru := runS_take L k hkl
      have hI := HK.out L[k] (List.getElem_mem hkl)
      obtain ⟨q, hq⟩ : ∃ q, q = L[k] := ⟨_, rfl⟩
      rw [← hq] at hc0 hc1 hc2 hru hI
      obtain ⟨d, x, y⟩ := q
      obtain ⟨l', hl'⟩ : ∃ l', l' = runS (L.take (k + 1)) := ⟨_, rfl⟩
      obtain ⟨m', hm'⟩ : ∃ m', m' = l'.length := ⟨_, rfl⟩
      have hle : m' ≤ m + 1 := by rw [hm', hl', hru, HM.out.1]; exact opS_le _ _ HM.out.2.2.1.2.2.1
      have HStep := Lib.hid (fun w' (h1 : Below wr.heap.size wr w') => step_any B m m' t p HM.out.2.1 (runS (L.take k)) l' HM.out.1 d x y _ w' (by have := h1.size; have := HH.out; omega) (HT.out.on ((HBR.out.trans (h1.mono (by have := HH.out; omega))).mono hB)) hI HM.out.2.2.1 ((HM.out.2.2.2.below h1).more h1.size) (by rw [← HM.out.1]; omega) (((Sees.of_own ho).below h1).more h1.size) (by rw [hl']; exact hru.symm) hm')
      have i0' : (0 : Int) ≤ (k : Int) := by omega
      have i1' : (k : Int) < (n : Int) := by omega
      have hbK : b < K := by rw [← HH.out] at hbl; omega
      have HL' := Lib.hid hl'
      have HM' := Lib.hid hm'
      have c0 : wr.cell? ⟨K, 0, none⟩ = some (.pointer p) := hbk.cell 0
      have c1 : wr.cell? ⟨K, 1, none⟩ = some (.int .i64 m) := hbk.cell 1
      clear hse hLn hru hq hkl hI hl' hm'
      have HBK := Lib.hid hbk
      have HO := Lib.hid ho
      have hHw : w.heap.size = H := HH.out.symm
      clear hbk ho
      go_wp2_with (fail)
      have hbne : ¬ b = K := by omega
      have hbne' : ¬ K = b := by omega
      go_region_with
        (first | (go_at_call 11; refine (HStep.out wr.drew ((Below.refl _ _).drew)).mono ?_; rintro e w4 ⟨u, q, r, rfl, hu, hro, hb4⟩; have hB4 : Below wr.heap.size wr w4 := (Below.refl _ _).drew.trans (hb4.mono (by simp)); have hbk4 := HBK.out.below hB4 hklt; have f0 := hbk4.frozen 0; have f1 := hbk4.frozen 1; have r0 := hbk4.cell 0; have r1 := hbk4.cell 1; have q0 := (hB4.cell (p := ⟨b, off + k * 3, none⟩) (by dsimp only; omega)).trans hc0; have q1 := (hB4.cell (p := ⟨b, off + k * 3 + 1, none⟩) (by dsimp only; omega)).trans hc1; have q2 := (hB4.cell (p := ⟨b, off + k * 3 + 2, none⟩) (by dsimp only; omega)).trans hc2))
      all_goals
        have hbk5 := hbk4.two (.pointer q) (.int .i64 m')
        have x0 := hbk5.cell 0
        have x1 := hbk5.cell 1
        have hr2 := own_set_at (own_set_at (hro.out.mono (base' := K) (by simp; omega)) hbk4 (by decide) 0 (.pointer q)) (hbk4.set 0 _) (by decide) 1 (.int .i64 m')
        have hz4 := hB4.size
        have hB5 : Below K w2 ((w4.setCell ⟨K, 0, none⟩ (.pointer q)).setCell ⟨K, 1, none⟩ (.int .i64 m')) := ((hB1.trans (hB4.mono (by omega))).setCell (p := ⟨K, 0, none⟩) (Nat.le_refl _) _).setCell (p := ⟨K, 1, none⟩) (Nat.le_refl _) _
        have hkeep := keeps_set2 hbk4 (by decide) (by decide) 0 1 (.pointer q) (.int .i64 m')
        have hlies := hu.out.2.2.1.keep hkeep
        obtain ⟨W5, hW5⟩ : ∃ W5, W5 = ((w4.setCell ⟨K, 0, none⟩ (.pointer q)).setCell ⟨K, 1, none⟩ (.int .i64 m')) := ⟨_, rfl⟩
        have hz5 : W5.heap.size = w4.heap.size := by rw [hW5, World.size_setCell, World.size_setCell]
        have HW5 := Lib.hid hW5
        rw [← hW5] at x0 x1 hbk5 hr2 hB5 hlies
        have HREL : Hid (∀ W', Below W5.heap.size W5 W' → PlayRel K n L w2 r (.int .i64 ((k + 1 : Nat) : Int)) W') := by
          intro W' hb
          unfold PlayRel
          have h1 := HL'.out
          have hK5 : K ≤ W5.heap.size := by omega
          refine ⟨k + 1, m', u, q, by omega, by omega, rfl, Lib.hid ⟨by rw [← h1]; exact HM'.out, hu.out.1, by rw [← h1]; exact hu.out.2.1, (hlies.below (hb.mono (by omega))).more (by have := hb.size; omega)⟩, ?_, hbk5.below hb (by omega), hB5.trans (hb.mono hK5)⟩
          rw [← h1]; exact own_below hr2 hb
        have HLike := Lib.hid (like_at B W5.heap.size m' u q hu.out.1 l' HM'.out r W5 (by omega) (HT.out.on ((HB2.out.trans (hB5.mono (by omega))).mono hB)) hu.out.2.1 (hlies.more (by omega)) (by rw [← HM'.out]; omega) (Nat.le_refl _) (Sees.of_own hr2))
        have e0 : ((k + 1 : Nat) : Int) = (k : Int) + 1 := by omega
        rw [e0] at HREL
        clear hkeep c0 c1 q0 q1 q2 hc0 hc1 hc2 hbk5 hr2 hB5 hlies hu hro hb4 hB4 hbk4 hW5 e0
        go_wp2_with (fail)
        all_goals rw [← HW5.out]
        all_goals first
          | exact ⟨HREL.out W5 (Below.refl _ _), by simp [intOf]; omega⟩
          | (refine HLike.out.mono ?_
             rintro e w6 ⟨rfl, hb6⟩
             have HB6 := Lib.hid hb6
             clear hb6
             go_wp2_with (fail)
             go_roundw
             case rel => exact HREL.out w6 HB6.out
             case measure => simp [intOf]; omega)
    · have hkn : k = n := by omega
      obtain ⟨F, hF⟩ : ∃ F, F = runS (L.take k) := ⟨_, rfl⟩
      rw [← hF] at HM ho
      obtain ⟨A6, cap6, hA6⟩ := (Sees.of_own ho).form
      subst hA6
      obtain ⟨⟨gv, g⟩, hg⟩ : ∃ q, q = getS F key := ⟨_, rfl⟩
      have HM := HM
      have HF := Lib.hid hF
      have hm2 : m ≤ 150 := by omega
      have hF1 : F.length ≤ 1048576 := by rw [← HM.out.1]; omega
      have HGet := Lib.hid (mget_at B m t p HM.out.2.1 F key wr (by have := HBR.out.size; omega) (HT.out.on (HBR.out.mono hB)) HM.out.2.2.1 HM.out.2.2.2 gv g hg.symm)
      have HRGet := Lib.hid (fun C w' h => rget_any F key (.slice A6 m cap6) C w' hF1 h)
      rw [← hg] at HRGet
      have c0 : wr.cell? ⟨K, 0, none⟩ = some (.pointer p) := hbk.cell 0
      have c1 : wr.cell? ⟨K, 1, none⟩ = some (.int .i64 m) := hbk.cell 1
      have HBK := Lib.hid hbk
      have HO := Lib.hid ho
      have HB1' := Lib.hid hB1
      have hHw : H = w.heap.size := HH.out
      clear hF hg hbk ho hB1 hkn
      go_wp2_with (fail)
      refine HGet.out.mono ?_
      rintro e w4 ⟨rfl, hb4⟩
      have hbk4 := HBK.out.below hb4 hklt
      have HBK4 := Lib.hid hbk4
      have d0 : w4.cell? ⟨K, 0, none⟩ = some (.pointer p) := hbk4.cell 0
      have d1 : w4.cell? ⟨K, 1, none⟩ = some (.int .i64 m) := hbk4.cell 1
      have hz4 := hb4.size
      have HB4 := Lib.hid hb4
      have ho4 := own_below HO.out hb4
      have HO4 := Lib.hid ho4
      have HS4 : Hid (Sees w4.heap.size 2 w4 (.slice A6 m cap6) m (pairV F)) := Sees.of_own ho4
      have HBW4 := Lib.hid (HBR.out.trans (hb4.mono (by have := HBR.out.size; omega)))
      have HL4 := Lib.hid ((HM.out.2.2.2.below hb4).more hz4)
      clear hb4 hbk4 c0 c1 ho4
      go_wp2_with (fail)
      refine (HRGet.out w4.heap.size w4 (by rw [← HM.out.1]; exact HS4.out)).mono ?_
      rintro e w4' ⟨rfl, rfl⟩
      have HLike := Lib.hid (like_at B w4.heap.size m t p HM.out.2.1 F HM.out.1 (.slice A6 m cap6) w4 (by have := HBW4.out.size; omega) (HT.out.on (HBW4.out.mono hB)) HM.out.2.2.1 HL4.out hF1 (Nat.le_refl _) HS4.out)
      go_wp2_with (fail)
      refine HLike.out.mono ?_
      rintro e w5 ⟨rfl, hb5⟩
      have hbk5 := HBK4.out.below hb5 (by omega)
      have HBK5 := Lib.hid hbk5
      have hz5 := hb5.size
      have ho5 := own_below HO4.out hb5
      have HO5 := Lib.hid ho5
      have HL5 := Lib.hid ((HL4.out.below hb5).more hz5)
      have HBW5 := Lib.hid (HBW4.out.trans (hb5.mono (by have := HBW4.out.size; omega)))
      clear hb5 hbk5 ho5 d0 d1
      have hgg : (g != g) = false := by simp
      have hgv : (gv != gv) = false := by simp
      go_wp2_with (fail)
      go_loopw [13] (fun i wx => DropAll K m F (.slice A6 m cap6) w5 i wx) (fun i _ => m - (intOf i).toNat)
      case atStart =>
        unfold DropAll
        exact ⟨0, m, t, p, Nat.zero_add _, rfl, Lib.hid ⟨HM.out.2.1, by rw [List.drop_zero]; exact HM.out.2.2.1, HL5.out⟩, HO5, HBK5.out, Below.refl _ _⟩
      case round =>
        obtain ⟨k2, j, t2, p2, hkj, rfl, HM2, HOx, hbx, hBx⟩ := hrel
        have hzx := hBx.size
        have hxlt := hbx.lt
        by_cases hlt2 : k2 < m
        · have hkl : k2 < F.length := by have := HM.out.1; omega
          have hse := Sees.of_own HOx.out
          rw [HM.out.1] at hse
          obtain ⟨b, off, cap', hvv, hbl, hc1, hc1v⟩ := hse.pair k2 hkl
          rw [← HM.out.1] at hvv
          injection hvv with hA hLn hCC
          subst hA
          subst hCC
          have hbne : ¬ b = K := by
            intro e
            have h1 := box_apart hbx HOx.out (by decide)
            exact h1 (by rw [e]; rfl)
          have hbne' : ¬ K = b := fun e => hbne e.symm
          have hdr := drop_first F HM.out.2.2.1.2.2.1 k2 hkl
          obtain ⟨x, hx⟩ : ∃ x, x = F[k2].1 := ⟨_, rfl⟩
          rw [← hx] at hc1 hdr
          have hjl : j = (F.drop k2).length := by rw [List.length_drop, ← HM.out.1]; omega
          have hjl2 : j - 1 = (F.drop (k2 + 1)).length := by rw [List.length_drop, ← HM.out.1]; omega
          have HDrop := Lib.hid (fun w' (h1 : Below wr.heap.size wr w') => mdrop_at B j (j - 1) t2 p2 HM2.out.1 (F.drop k2) (F.drop (k2 + 1)) hjl x w' (by have := h1.size; have := HBW5.out.size; omega) (HT.out.on ((HBW5.out.trans ((hBx.mono (by omega)).trans (h1.mono (by omega)))).mono hB)) HM2.out.2.1 ((HM2.out.2.2.below h1).more h1.size) (by rw [← hjl]; omega) hdr hjl2 _ rfl)
          have i0' : (0 : Int) ≤ (k2 : Int) := by omega
          have i1' : (k2 : Int) < (m : Int) := by omega
          have c0 : wr.cell? ⟨K, 0, none⟩ = some (.pointer p2) := hbx.cell 0
          have c1 : wr.cell? ⟨K, 1, none⟩ = some (.int .i64 j) := hbx.cell 1
          have HBXX := Lib.hid hbx
          have HC1 := Lib.hid hc1
          clear hse hLn hdr hx hjl hjl2 hc1v hkl hbx
          go_wp2_with (fail)
          go_region_with
            (first | (go_at_call 15; refine (HDrop.out wr.drew ((Below.refl _ _).drew)).mono ?_; rintro e wd ⟨u, q, rfl, hu, hbd⟩; have hBd : Below wr.heap.size wr wd := (Below.refl _ _).drew.trans (hbd.mono (by simp)); have hbkd := HBXX.out.below hBd hxlt; have f0 := hbkd.frozen 0; have f1 := hbkd.frozen 1; have r0 := hbkd.cell 0; have r1 := hbkd.cell 1; have q0 := (hBd.cell (p := ⟨b, off + k2 * 2, none⟩) hbl).trans HC1.out))
          all_goals
            have hbk6 := hbkd.two (.pointer q) (.int .i64 (j - 1 : Nat))
            have hod := own_below HOx.out hBd
            have hr2 := own_set_at (own_set_at hod hbkd (by decide) 0 (.pointer q)) (hbkd.set 0 _) (by decide) 1 (.int .i64 (j - 1 : Nat))
            have hzd := hBd.size
            have hB6 : Below K w5 ((wd.setCell ⟨K, 0, none⟩ (.pointer q)).setCell ⟨K, 1, none⟩ (.int .i64 (j - 1 : Nat))) := ((hBx.trans (hBd.mono (by omega))).setCell (p := ⟨K, 0, none⟩) (Nat.le_refl _) _).setCell (p := ⟨K, 1, none⟩) (Nat.le_refl _) _
            have hkeep := keeps_set2 hbkd (by decide) (by decide) 0 1 (.pointer q) (.int .i64 (j - 1 : Nat))
            have hlies := hu.out.2.2.1.keep hkeep
            have hz6 : ((wd.setCell ⟨K, 0, none⟩ (.pointer q)).setCell ⟨K, 1, none⟩ (.int .i64 (j - 1 : Nat))).heap.size = wd.heap.size := by rw [World.size_setCell, World.size_setCell]
            have HREL : Hid (DropAll K m F (.slice (some ⟨b, off, none⟩) m cap6) w5 (.int .i64 ((k2 + 1 : Nat) : Int)) ((wd.setCell ⟨K, 0, none⟩ (.pointer q)).setCell ⟨K, 1, none⟩ (.int .i64 (j - 1 : Nat)))) := by
              show DropAll _ _ _ _ _ _ _
              unfold DropAll
              exact ⟨k2 + 1, j - 1, u, q, by omega, rfl, Lib.hid ⟨hu.out.1, hu.out.2.1, hlies.more (by omega)⟩, hr2, hbk6, hB6⟩
            have e0 : ((k2 + 1 : Nat) : Int) = (k2 : Int) + 1 := by omega
            rw [e0] at HREL
            clear hbk6 hod hr2 hB6 hkeep hlies hz6 q0 hu hbd hBd e0
            go_wp2_with (fail)
            go_roundw
            case rel => exact HREL.out
            case measure => simp [intOf]; omega
        · have hnil : F.drop k2 = [] := List.drop_eq_nil_of_le (by have := HM.out.1; omega)
          rw [hnil] at HM2
          have ht2 := map_nil HM2.out.2.1
          subst ht2
          obtain rfl : p2 = none := by have h := HM2.out.1; simpa [ptr] using h.symm
          obtain rfl : j = 0 := by omega
          have HLen := Lib.hid (fun w' => len_at 0 .none none rfl w')
          have HNodes := Lib.hid (fun w' h => nodes_at 0 .none none rfl w' trivial h)
          have HKeys := Lib.hid (fun w' h => keys_at 0 .none none rfl [] rfl w' MapOf.none_ h (by decide))
          have c0 : wr.cell? ⟨K, 0, none⟩ = some (.pointer none) := hbx.cell 0
          have c1 : wr.cell? ⟨K, 1, none⟩ = some (.int .i64 0) := hbx.cell 1
          have hfin0 := HBW5.out.trans (hBx.mono (by omega))
          have HFin0 := Lib.hid hfin0
          have HBXX := Lib.hid hbx
          have HLx := Lib.hid HM2.out.2.2
          have hsh : sh .none .none = 0 := rfl
          clear hfin0 hnil hbx hBx
          go_wp2_with (fail)
          refine (HLen.out wr).mono ?_
          rintro e w6 ⟨rfl, hb6⟩
          have hz6 := hb6.size
          have d0 : w6.cell? ⟨K, 0, none⟩ = some (.pointer none) := (hb6.cell (p := ⟨K, 0, none⟩) hxlt).trans c0
          have d1 : w6.cell? ⟨K, 1, none⟩ = some (.int .i64 0) := (hb6.cell (p := ⟨K, 1, none⟩) hxlt).trans c1
          have HB6 := Lib.hid hb6
          clear c0 c1 hb6
          go_wp2_with (fail)
          refine (HNodes.out w6 trivial).mono ?_
          rintro e w7 ⟨rfl, hb7⟩
          have hz7 := hb7.size
          have e0 : w7.cell? ⟨K, 0, none⟩ = some (.pointer none) := (hb7.cell (p := ⟨K, 0, none⟩) (by dsimp only; omega)).trans d0
          have e1 : w7.cell? ⟨K, 1, none⟩ = some (.int .i64 0) := (hb7.cell (p := ⟨K, 1, none⟩) (by dsimp only; omega)).trans d1
          have HB7 := Lib.hid hb7
          rw [hsh]
          clear d0 d1 hb7
          go_wp2_with (fail)
          refine (HKeys.out w7 trivial).mono ?_
          rintro e w8 ⟨r, rfl, hg8⟩
          obtain ⟨A8, cap8, rfl⟩ := (Sees.of_own hg8.1).form
          have HG8 := Lib.hid hg8.2
          clear hg8 e0 e1
          go_wp2_with (fail)
          go_ret
          have hlast := HFin0.out.trans (((HB6.out.trans (HB7.out.mono hz6)).trans (HG8.out.mono (by omega))).mono (by have := HFin0.out.size; omega))
          exact ⟨rfl, hlast⟩
end Go.Proofs.YtjlbchkdiaomjaaDoor.trie

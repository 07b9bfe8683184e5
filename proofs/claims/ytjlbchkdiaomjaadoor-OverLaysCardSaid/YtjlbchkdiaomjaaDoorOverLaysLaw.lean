/- The law on maps one over the other, and one without any keys. -/
import Derived.Test.YtjlbchkdiaomjaaDoorOverWorks
import Derived.Test.YtjlbchkdiaomjaaDoorOverSets
import Derived.Deep.RegionHeld3
namespace Go.Proofs.YtjlbchkdiaomjaaDoor.trie
open Go.RowKit Go.Shelf mem tri mix

theorem lays_long (B n m : Nat) (A A2 : Option Addr) (cap cap2 : Nat) (w : World) (hB : B ≤ w.heap.size) (hT : Laid B w) (hn : 6 < n ∨ 60 < m) :
    Calls Tryd.prog 6 #[.slice A n cap, .slice A2 m cap2] w (LawHolds w) := by
  have HT := Lib.hid hT
  clear hT
  by_cases h6 : 6 < n
  · have hn' : (6 : Int) < (n : Int) := by omega
    clear hn
    go_enter Tryd.func6, Tryd.ntmps6
    go_wp2_with (fail)
    refine (works5_any B _ hB HT.out).mono ?_
    rintro e w1 ⟨rfl, hb1⟩
    have HB1 := Lib.hid hb1
    have hz1 := hb1.size
    clear hb1
    go_wp2_with (fail)
    refine (works5_any B w1 (by omega) (HT.out.on (HB1.out.mono hB))).mono ?_
    rintro e w2 ⟨rfl, hb2⟩
    go_wp2_with (fail)
    go_ret
    exact ⟨rfl, HB1.out.trans (hb2.mono hz1)⟩
  · have hn' : ¬ (6 : Int) < (n : Int) := by omega
    have hm' : (60 : Int) < (m : Int) := by omega
    clear hn
    go_enter Tryd.func6, Tryd.ntmps6
    go_wp2_with (fail)
    refine (works5_any B _ hB HT.out).mono ?_
    rintro e w1 ⟨rfl, hb1⟩
    have HB1 := Lib.hid hb1
    have hz1 := hb1.size
    clear hb1
    go_wp2_with (fail)
    refine (works5_any B w1 (by omega) (HT.out.on (HB1.out.mono hB))).mono ?_
    rintro e w2 ⟨rfl, hb2⟩
    go_wp2_with (fail)
    go_ret
    exact ⟨rfl, HB1.out.trans (hb2.mono hz1)⟩
/-- the first loop: the maps, and what is wanted of them -/
def LaysRel (H n : Nat) (LL : List (List (Int × Int))) (w1 : World) (a o i : Value) (wr : World) : Prop :=
  ∃ (k m : Nat) (l : List (Option Addr × Nat)), k ≤ n ∧ i = .int .i64 k ∧ Hid (l.length = k ∧ MapsOf l ((LL.take k).map ofS) wr ∧ (∀ L ∈ LL.take k, L.length ≤ 60) ∧ m = (overAll ((LL.take k).map ofS)).length) ∧
    wr.ownsRow H 26 2 a k (mapsV l) ∧ wr.ownsRow H 40 2 o m (pairV (overAll ((LL.take k).map ofS))) ∧ Below H w1 wr
theorem lays_len (LL : List (List (Int × Int))) (k : Nat) (hk : k ≤ 6) (h : ∀ L ∈ LL.take k, L.length ≤ 60) : (overAll ((LL.take k).map ofS)).length ≤ 360 := by
  have h1 : ∀ L ∈ (LL.take k).map ofS, L.length ≤ 60 := by
    intro L hL
    obtain ⟨M, hM, rfl⟩ := List.mem_map.1 hL
    have := ofS_len M; have := h M hM; omega
  have h2 := overAll_len ((LL.take k).map ofS) 60 h1 ((LL.take k).map ofS).length (Nat.le_refl _)
  rw [List.take_length] at h2
  have h3 : ((LL.take k).map ofS).length ≤ 6 := by rw [List.length_map, List.length_take]; omega
  omega
set_option maxHeartbeats 4000000 in
set_option maxRecDepth 100000 in
theorem lays_law (B C n nk : Nat) (LL : List (List (Int × Int))) (vs : List Value) (K : List Int) (V VK : Value) (w : World) (hB : B ≤ w.heap.size) (hT : Laid B w) (hC : C ≤ w.heap.size) (hn : n = LL.length) (hn2 : n ≤ 6) (hk : nk = K.length) (hk2 : nk ≤ 60)
    (hsee : Sees C 1 w V n vs) (hrows : RowsOf C LL vs w) (hsk : Sees C 1 w VK nk (intV K)) :
    Calls Tryd.prog 6 #[V, VK] w (LawHolds w) := by
  obtain ⟨A, cap, rfl⟩ := hsee.form
  obtain ⟨AK, capK, rfl⟩ := hsk.form
  obtain ⟨i0, hi, hz0, hz1, hz2⟩ := info_parts infoMap
  have HT := Lib.hid hT
  have HN := Lib.hid hn
  have HNK := Lib.hid hk
  have HS := Lib.hid (hsee.more hC)
  have HSK := Lib.hid (hsk.more hC)
  have HR := Lib.hid hrows
  have hn' : ¬ (6 : Int) < (n : Int) := by omega
  have hk' : ¬ (60 : Int) < (nk : Int) := by omega
  clear hT hn hk hsee hsk hrows
  go_enter Tryd.func6, Tryd.ntmps6
  go_wp2_with (fail)
  refine (works5_any B _ hB HT.out).mono ?_
  rintro e w1 ⟨rfl, hb1⟩
  have HB1 := Lib.hid hb1
  have hz1w := hb1.size
  obtain ⟨H, hH⟩ : ∃ H, H = w1.heap.size := ⟨_, rfl⟩
  have HH := Lib.hid hH
  clear hb1 hH
  go_wp2_with (fail)
  go_loopw [5, 6, 7] (fun a o i wr => LaysRel H n LL w1 a o i wr) (fun _ _ i _ => n - (intOf i).toNat)
  case atStart =>
    unfold LaysRel
    refine ⟨0, 0, [], Nat.zero_le _, rfl, Lib.hid ⟨rfl, ⟨rfl, fun j q hj => by simp at hj⟩, fun L hL => by simp at hL, rfl⟩, by simpa [mapsV] using World.ownsRow_nil _ _ _ _, by simpa [pairV, overAll] using World.ownsRow_nil _ _ _ _, Below.refl _ _⟩
  case round =>
    obtain ⟨k, m, l, hkn, rfl, HM, hoa, hob, hBr⟩ := hrel
    have hsz := hBr.size
    rw [← HH.out] at hsz
    have hzw : w.heap.size ≤ H := by rw [HH.out]; exact hz1w
    have HBR := Lib.hid (HB1.out.trans (hBr.mono hzw))
    by_cases hlt : k < n
    · have hkL : k < LL.length := by rw [← HN.out]; exact hlt
      obtain ⟨v, hv, hsv, hkv⟩ := HR.out.2 k LL[k] (List.getElem?_eq_getElem hkL)
      have hmx := lays_len LL k (by omega) HM.out.2.2.1
      have htk : LL.take (k + 1) = LL.take k ++ [LL[k]] := List.take_succ_eq_append_getElem hkL
      obtain ⟨L, hL⟩ : ∃ L, L = LL[k] := ⟨_, rfl⟩
      rw [← hL] at hsv hkv htk
      obtain ⟨nl, hnl⟩ : ∃ nl, nl = L.length := ⟨_, rfl⟩
      rw [← hnl] at hsv
      obtain ⟨Av, cv, rfl⟩ := hsv.form
      obtain ⟨_, A', cap', hva, hca⟩ := HS.out.below HBR.out
      obtain ⟨ba, oa, rfl, hba, hca⟩ := hca (by omega)
      injection hva with e1 _ e3
      subst e1
      subst e3
      have x0 : wr.cell? ⟨ba, oa + k, none⟩ = some (.slice Av nl cv) := hca _ _ hv
      have HSV := Lib.hid (hsv.more hC)
      have HKV := Lib.hid hkv
      have HTK := Lib.hid htk
      have HNL := Lib.hid hnl
      have HBr := Lib.hid hBr
      have HOA := Lib.hid hoa
      have HOB := Lib.hid hob
      have j0' : (0 : Int) ≤ (k : Int) := by omega
      have j1' : (k : Int) < (n : Int) := by omega
      have hbH : ba < H := by omega
      clear hkL hv hsv hkv htk hL hnl hca hoa hob hBr
      by_cases h60 : 60 < nl
      · have h60' : (60 : Int) < (nl : Int) := by omega
        clear h60
        go_wp2_with (fail)
        go_ret
        exact ⟨rfl, HBR.out⟩
      · have h60' : ¬ (60 : Int) < (nl : Int) := by omega
        have hnl1 : L.length ≤ 1048000 := by rw [← HNL.out]; omega
        go_wp2_with (fail)
        refine (made_at B w.heap.size nl L _ wr (by omega) (HT.out.on (HBR.out.mono hB)) (by omega) HNL.out (HSV.out.below HBR.out) (by omega) HKV.out).mono ?_
        rintro e w3 ⟨t, p, mL, rfl, hu, hb3⟩
        have hz3 := hb3.size
        have oa3 := own_below HOA.out hb3
        have ob3 := own_below HOB.out hb3
        have y0 := (hb3.cell (p := ⟨ba, oa + k, none⟩) (by dsimp only; omega)).trans x0
        have HB3 := Lib.hid hb3
        clear hb3 x0
        go_wp2_with (at_builtin; refine wpList_append_own _ rfl (.tmp 37) (.tmp 43) 45 rfl H 26 i0 (.agg #[.pointer none, .int .i64 0]) 2 16 Tryd.underlying45 hi hz0 hz1 hz2 rfl (by decide) _ _ _ rfl (oa3.alloc _) ⟨w3.heap.size, 0, none⟩ 1 1 [.pointer p, .int .i64 mL] rfl rfl (map_new _ _ _ _) (map_ones _ _) (by unfold maxLen; omega) (by omega) (by simp; omega) ?_; intro v1 w4 hown1 hgrow0 _; have hgrow1 : (w3.alloc (.cells #[.pointer p, .int .i64 mL] 26)).grownBy w4 u5.ownBlock := hgrow0; clear hgrow0; have hB34 : Below H w3 w4 := ((Below.refl H w3).alloc (by omega) _).grown hgrow1 (by simp; omega) (fun g h => (oa3.lt g h).1); have y1 := (hB34.cell (p := ⟨ba, oa + k, none⟩) hbH).trans y0)
        have hz4 : w3.heap.size + 1 ≤ w4.heap.size := by have := hgrow1.size; simp at this; exact this
        have hbA : Below w3.heap.size w3 (w3.alloc (.cells #[.pointer p, .int .i64 mL] 26)) := (Below.refl _ w3).alloc (Nat.le_refl _) _
        have k4 : Keeps (w3.alloc (.cells #[.pointer p, .int .i64 mL] 26)) w4 := Keeps.grown_own (oa3.alloc _) hgrow1 (by decide) (by decide)
        have ob4 := (ob3.alloc (.cells #[.pointer p, .int .i64 mL] 26)).kept hgrow1 (own_apart ob3 oa3 (by decide))
        have maps4 := (((HM.out.2.1.below HB3.out).below hbA).keep k4 hgrow1.size).snoc hu.out.1 hu.out.2.1 hu.out.2.2.1 (((hu.out.2.2.2.below hbA).keep k4).more (by omega)) (ofS_keys L HKV.out)
        have HB4 := Lib.hid ((HBr.out.trans (HB3.out.mono hsz)).trans hB34)
        have HBW4 := Lib.hid (HBR.out.trans ((HB3.out.mono hsz).trans hB34 |>.mono hzw))
        have HO1 := Lib.hid hown1
        have HOB4 := Lib.hid ob4
        have HMA4 := Lib.hid maps4
        clear oa3 ob3 y0 y1 hown1 hgrow1 hB34 hbA k4 ob4 maps4
        refine (listed_any w.heap.size L _ w4 (by have := HBW4.out.size; omega) (by omega) (by rw [← HNL.out]; exact HSV.out.below HBW4.out)).mono ?_
        rintro e w5 ⟨r5, rfl, hg5⟩
        have hz5 := hg5.2.size
        have HB5 := Lib.hid hg5.2
        have ob5 := own_below HOB4.out hg5.2
        obtain ⟨X, hX⟩ : ∃ X, X = overAll (List.map ofS (List.take k LL)) := ⟨_, rfl⟩
        have hmX : m = X.length := by rw [hX]; exact HM.out.2.2.2
        rw [← hX, hmX] at ob5
        have hXl : X.length ≤ 360 := by rw [hX]; exact hmx
        have hLl : (ofS L).length ≤ 60 := by have := ofS_len L; rw [← HNL.out] at this; omega
        have HOv := Lib.hid (rover_own H X (ofS L) u6 r5 w5 (by omega) (by omega) ob5 (Sees.of_own hg5.1))
        have HXX := Lib.hid hX
        clear hg5 ob5 hX hmX
        go_wp2_with (fail)
        refine HOv.out.mono ?_
        rintro e w6 ⟨r6, rfl, ho6, hb6⟩
        have HO6 := Lib.hid ho6
        have HB6 := Lib.hid hb6
        have hz6 := hb6.size
        clear ho6 hb6
        go_wp2_with (fail)
        go_roundw
        case rel =>
          have e1 : overAll (List.map ofS (List.take (k + 1) LL)) = overS X (ofS L) := by
            rw [HTK.out, List.map_append, List.map_singleton, overAll_snoc, ← HXX.out]
          unfold LaysRel
          refine ⟨k + 1, (overS X (ofS L)).length, l ++ [(p, mL)], by omega, by go_num, Lib.hid ⟨by rw [List.length_append, HM.out.1]; rfl, ?_, ?_, by rw [e1]⟩, ?_, by rw [e1]; exact HO6.out, ?_⟩
          · rw [HTK.out, List.map_append, List.map_singleton]
            exact (HMA4.out.below HB5.out).below HB6.out
          · intro M hM
            rw [HTK.out] at hM
            rcases List.mem_append.1 hM with h | h
            · exact HM.out.2.2.1 M h
            · have : M = L := by simpa using h
              rw [this, ← HNL.out]; omega
          · rw [mapsV_snoc]; exact own_below (own_below HO1.out HB5.out) HB6.out
          · exact HB4.out.trans ((HB5.out.trans (HB6.out.mono hz5)).mono (by omega))
        case measure => simp [intOf]; omega
    · obtain rfl : k = n := by omega
      have hfull : LL.take k = LL := List.take_of_length_le (by rw [← HN.out]; exact Nat.le_refl _)
      have hmx := lays_len LL k hn2 HM.out.2.2.1
      rw [hfull] at HM hob hmx
      obtain ⟨LS, hLS⟩ : ∃ LS, LS = List.map ofS LL := ⟨_, rfl⟩
      rw [← hLS] at HM hob hmx
      obtain ⟨X, hX⟩ : ∃ X, X = overAll LS := ⟨_, rfl⟩
      rw [← hX] at HM hob hmx
      obtain ⟨A5, c5, h5⟩ := (Sees.of_own hoa).form
      obtain ⟨A6, c6, h6⟩ := (Sees.of_own hob).form
      subst h5
      subst h6
      have hXu : Up X := by rw [hX]; exact overAll_up LS
      have hLS5 : ∀ M ∈ LS, M.length ≤ 5000 := by
        intro M hM
        rw [hLS] at hM
        obtain ⟨N, hN, rfl⟩ := List.mem_map.1 hM
        have := HM.out.2.2.1 N hN; have := ofS_len N; omega
      have hXk : ∀ x ∈ X, I64 x.1 := by
        rw [hX]
        refine overAll_keys LS fun M hM => ?_
        rw [hLS] at hM
        obtain ⟨N, hN, rfl⟩ := List.mem_map.1 hM
        obtain ⟨j, hj, hjN⟩ := List.mem_iff_getElem.1 hN
        obtain ⟨_, _, _, h3⟩ := HR.out.2 j N (by rw [List.getElem?_eq_getElem hj, hjN])
        exact ofS_keys N h3
      have HLS := Lib.hid hLS
      have HX := Lib.hid hX
      have HXU := Lib.hid hXu
      have HOA := Lib.hid hoa
      have HOB := Lib.hid hob
      have HBr := Lib.hid hBr
      obtain ⟨wo, rfl⟩ : ∃ wo : World, wo = wr := ⟨_, rfl⟩
      have HOver := Lib.hid (over_any B wo.heap.size k l LS _ wo (by omega) (HT.out.on (HBR.out.mono hB)) (Nat.le_refl _) HM.out.1.symm (by omega) (Sees.of_own hoa) HM.out.2.1 hLS5)
      have HXK := Lib.hid hXk
      have HLS5 := Lib.hid hLS5
      clear hfull hLS hX hXu hLS5 hoa hob hBr hXk
      go_wp2_with (fail)
      refine HOver.out.mono ?_
      rintro e w3 ⟨t3, p3, m3, rfl, hu3, hb3⟩
      rw [← HX.out] at hu3
      obtain rfl : m3 = m := by rw [hu3.out.2.1, HM.out.2.2.2]
      have hz3 := hb3.size
      have hmX : m3 ≤ 360 := by rw [hu3.out.2.1]; exact hmx
      obtain ⟨W3, hW3⟩ : ∃ W3, W3 = w3.alloc (.cells #[.pointer p3, .int .i64 m3] 26) := ⟨_, rfl⟩
      have hbA : Below w3.heap.size w3 W3 := by rw [hW3]; exact (Below.refl _ w3).alloc (Nat.le_refl _) _
      have bm := Box.new w3 26 #[.pointer p3, .int .i64 m3] w3.heap.size rfl
      rw [← hW3] at bm
      obtain ⟨G, hG⟩ : ∃ G, G = w3.heap.size := ⟨_, rfl⟩
      rw [← hG] at bm
      have hbo : Below wo.heap.size wo W3 := hb3.trans (hbA.mono hz3)
      have HOA3 := Lib.hid (own_below HOA.out hbo)
      have HOB3 := Lib.hid (own_below HOB.out hbo)
      have HMA3 := Lib.hid (HM.out.2.1.below hbo)
      have HBW3 := Lib.hid (HBR.out.trans (hbo.mono (by omega)))
      have HL3 := Lib.hid ((hu3.out.2.2.2.below hbA).more hbA.size)
      have HBM := Lib.hid bm
      have hGW : G < W3.heap.size := bm.lt
      have hHG : H ≤ G := by omega
      have HW3 := Lib.hid hW3
      have HG := Lib.hid hG
      clear hb3 hbA bm hbo hW3 hG
      go_wp2_with (fail)
      rw [← HW3.out, ← HG.out]
      go_loopw [9, 10] (fun o i wr => ∃ (j mo : Nat), j ≤ nk ∧ i = .int .i64 j ∧ mo ≤ 360 ∧ Hid (mo = (dropAll X (K.take j)).length) ∧ wr.ownsRow H 40 2 o mo (pairV (dropAll X (K.take j))) ∧ Below W3.heap.size W3 wr) (fun _ i _ => nk - (intOf i).toNat)
      case atStart => exact ⟨0, m3, Nat.zero_le _, rfl, hmX, Lib.hid hu3.out.2.1, by simpa [dropAll] using HOB3.out, Below.refl _ _⟩
      case round =>
        obtain ⟨j, mo, hj, rfl, hmo, HMO, hoL, hBx⟩ := hrel
        have hzx := hBx.size
        have HBX := Lib.hid (HBW3.out.trans (hBx.mono (by omega)))
        by_cases hlt2 : j < nk
        · have hjK : j < K.length := by rw [← HNK.out]; exact hlt2
          obtain ⟨_, A', cap', hva, hca⟩ := HSK.out.below HBX.out
          obtain ⟨ba, oa, rfl, hba, hca⟩ := hca (by omega)
          injection hva with e1 _ e3
          subst e1
          subst e3
          obtain ⟨x, hx⟩ : ∃ x, x = K[j] := ⟨_, rfl⟩
          have htk := dropAll_take X K j hjK
          rw [← hx] at htk
          have hxv : (intV K)[j]? = some (.int .i64 x) := by unfold intV; rw [List.getElem?_map, List.getElem?_eq_getElem hjK, ← hx]; rfl
          have x0 : wr.cell? ⟨ba, oa + j, none⟩ = some (.int .i64 x) := hca _ _ hxv
          obtain ⟨Y, hY⟩ : ∃ Y, Y = dropAll X (K.take j) := ⟨_, rfl⟩
          rw [← hY] at hoL HMO htk
          have hle := dropS_le Y x
          have HDr := Lib.hid (rdrop_any Y x u9 wr (by rw [← HMO.out]; omega) (by rw [← HMO.out]; exact Sees.of_own hoL))
          have HTK := Lib.hid htk
          have j0' : (0 : Int) ≤ (j : Int) := by omega
          have j1' : (j : Int) < (nk : Int) := by omega
          have HBx := Lib.hid hBx
          clear hjK hca hx htk hxv hY hoL hBx
          go_wp2_with (fail)
          refine HDr.out.mono ?_
          rintro e w5 ⟨r5, rfl, hg5⟩
          obtain ⟨m5, hm5⟩ : ∃ m5, m5 = (dropS Y x).length := ⟨_, rfl⟩
          rw [← hm5] at hg5 hle
          have HM5 := Lib.hid hm5
          have HG5 := Lib.hid hg5
          clear hg5 hm5
          rw [← HMO.out] at hle
          go_wp2_with (fail)
          go_roundw
          case rel => exact ⟨j + 1, m5, by omega, by go_num, by omega, Lib.hid (by rw [HTK.out]; exact HM5.out), by rw [HTK.out]; exact HG5.out.1.mono (by omega), HBx.out.trans (HG5.out.2.mono hzx)⟩
          case measure => simp [intOf]; omega
        · obtain rfl : j = nk := by omega
          have hfull : K.take j = K := List.take_of_length_le (by rw [← HNK.out]; exact Nat.le_refl _)
          rw [hfull] at HMO hoL
          obtain ⟨Y, hY⟩ : ∃ Y, Y = dropAll X K := ⟨_, rfl⟩
          rw [← hY] at HMO hoL
          obtain ⟨A9, c9, h9⟩ := (Sees.of_own hoL).form
          subst h9
          obtain ⟨wd, rfl⟩ : ∃ wd : World, wd = wr := ⟨_, rfl⟩
          have HY := Lib.hid hY
          have HOA4 := Lib.hid (own_below HOA3.out hBx)
          have HOB4 := Lib.hid (own_below HOB3.out hBx)
          have HMA4 := Lib.hid (HMA3.out.below hBx)
          have HL4 := Lib.hid ((HL3.out.below hBx).more hzx)
          have HBM4 := Lib.hid (HBM.out.below hBx hGW)
          have HOY := Lib.hid hoL
          clear hfull hY hoL hBx
          go_wp2_with (fail)
          go_loopw [11] (fun i wr => ∃ r : Nat, r ≤ k ∧ i = .int .i64 r ∧ Below wd.heap.size wd wr) (fun i _ => k - (intOf i).toNat)
          case atStart => exact ⟨0, Nat.zero_le _, rfl, Below.refl _ _⟩
          case round =>
            obtain ⟨r, hr, rfl, hBz⟩ := hrel
            have hzz := hBz.size
            have HBZ := Lib.hid (HBX.out.trans (hBz.mono (by omega)))
            by_cases hlt3 : r < k
            · have hrL : r < LL.length := by rw [← HN.out]; exact hlt3
              have hrl : r < l.length := by rw [HM.out.1]; exact hlt3
              obtain ⟨v, hv, hsv, hkv⟩ := HR.out.2 r LL[r] (List.getElem?_eq_getElem hrL)
              have hlen := HM.out.2.2.1 LL[r] (List.getElem_mem hrL)
              obtain ⟨M2, t2, hM1, hp2, hc2, hmo2, hli2, hki2⟩ := HMA4.out.2 r l[r] (List.getElem?_eq_getElem hrl)
              have hM2 : M2 = ofS LL[r] := by
                rw [HLS.out, List.getElem?_map, List.getElem?_eq_getElem hrL] at hM1
                exact (Option.some.inj hM1).symm
              subst hM2
              have hx := mapsV_at l r hrl
              obtain ⟨L, hL⟩ : ∃ L, L = LL[r] := ⟨_, rfl⟩
              rw [← hL] at hsv hkv hlen hc2 hmo2
              obtain ⟨pc, hpc⟩ : ∃ pc, pc = l[r] := ⟨_, rfl⟩
              rw [← hpc] at hx hp2 hc2
              obtain ⟨p2, c2⟩ := pc
              dsimp only at hx hp2 hc2
              obtain ⟨nl, hnl⟩ : ∃ nl, nl = L.length := ⟨_, rfl⟩
              rw [← hnl] at hsv
              obtain ⟨Av, cv, rfl⟩ := hsv.form
              obtain ⟨_, A', cap', hva, hca⟩ := HS.out.below HBZ.out
              obtain ⟨ba, oa, rfl, hba, hca⟩ := hca (by omega)
              injection hva with e1 _ e3
              subst e1
              subst e3
              obtain ⟨_, A', cap', hvb, hcb⟩ := (Sees.of_own HOA4.out).below hBz
              obtain ⟨bb, ob, rfl, hbb, hcb⟩ := hcb (by omega)
              injection hvb with e1 _ e3
              subst e1
              subst e3
              have x0 : wr.cell? ⟨ba, oa + r, none⟩ = some (.slice Av nl cv) := hca _ _ hv
              have y0 : wr.cell? ⟨bb, ob + r * 2, none⟩ = some (.pointer p2) := hcb _ _ hx.1
              have y1 : wr.cell? ⟨bb, ob + r * 2 + 1, none⟩ = some (.int .i64 c2) := hcb _ _ hx.2
              have hLl : (ofS L).length ≤ 60 := by have := ofS_len L; omega
              have HList := Lib.hid (listed_any w.heap.size L (.slice Av nl cv) wr.drew (by simp; have := HBZ.out.size; omega) (by omega) (by rw [← hnl]; exact (hsv.more hC).below HBZ.out.drew))
              have HLike := Lib.hid (fun (r5 : Value) (w5 : World) (h1 : Below wr.heap.size wr w5) (h2 : Sees w5.heap.size 2 w5 r5 c2 (pairV (ofS L))) => like_at B w5.heap.size c2 t2 p2 hp2 (ofS L) hc2 r5 w5 (by have := h1.size; have := HBZ.out.size; omega) (HT.out.on ((HBZ.out.trans (h1.mono HBZ.out.size)).mono hB)) hmo2 ((hli2.below (hBz.trans (h1.mono hzz))).more (by have := h1.size; omega)) (by omega) (Nat.le_refl _) h2)
              rw [← hc2] at HList
              have j0' : (0 : Int) ≤ (r : Int) := by omega
              have j1' : (r : Int) < (k : Int) := by omega
              have hbaw : ba < wr.heap.size := by have := HBZ.out.size; omega
              have hbbw : bb < wr.heap.size := by omega
              have HBz := Lib.hid hBz
              clear hki2 hrL hrl hv hsv hkv hlen hM1 hp2 hc2 hmo2 hli2 hx hL hpc hnl hca hcb hBz hLl
              go_wp2_with (fail)
              go_region_held3 (fun w' => w'.cell? ⟨ba, oa + r, none⟩ = some (.slice Av nl cv) ∧ w'.cell? ⟨bb, ob + r * 2, none⟩ = some (.pointer p2) ∧ w'.cell? ⟨bb, ob + r * 2 + 1, none⟩ = some (.int .i64 c2)) (first | go_keep)
                (first
                  | (go_at_call 25; (with_reducible refine HList.out.mono ?_); rintro e w5 ⟨r5, rfl, hg5⟩; have hs5 := Sees.of_own hg5.1; have hB5 : Below wr.heap.size wr w5 := (Below.refl _ wr).drew.trans (hg5.2.mono (by simp)); have q0 := (hB5.cell (p := ⟨ba, oa + r, none⟩) hbaw).trans x0; have q1 := (hB5.cell (p := ⟨bb, ob + r * 2, none⟩) hbbw).trans y0; have q2 := (hB5.cell (p := ⟨bb, ob + r * 2 + 1, none⟩) hbbw).trans y1)
                  | (go_at_call 12; (with_reducible refine (HLike.out r5 w5 hB5 hs5).mono ?_); rintro e w6 ⟨rfl, hb6⟩; have hB6 : Below wr.heap.size wr w6 := hB5.trans (hb6.mono hB5.size); have s0 := (hB6.cell (p := ⟨ba, oa + r, none⟩) hbaw).trans x0; have s1 := (hB6.cell (p := ⟨bb, ob + r * 2, none⟩) hbbw).trans y0; have s2 := (hB6.cell (p := ⟨bb, ob + r * 2 + 1, none⟩) hbbw).trans y1))
              have HB6 := Lib.hid hB6
              clear q0 q1 q2 s0 s1 s2 x0 y0 y1 hb6 hB6 hB5 hg5 hs5
              go_wp2_with (fail)
              go_roundw
              case rel => exact ⟨r + 1, by omega, by go_num, HBz.out.trans (HB6.out.mono hzz)⟩
              case measure => simp [intOf]; omega
            · have hdw := HBX.out.size
              have j1' : ¬ (r : Int) < (k : Int) := by omega
              have bG := HBM4.out.below hBz (by omega)
              have hlG := bG.lt
              have HBG := Lib.hid bG
              have g0 : wr.cell? ⟨G, 0, none⟩ = some (.pointer p3) := bG.cell 0
              have g1 : wr.cell? ⟨G, 1, none⟩ = some (.int .i64 m3) := bG.cell 1
              have HW1 := Lib.hid (Sees.of_own (own_below HOB4.out hBz))
              have HY1 := Lib.hid (Sees.of_own (own_below HOY.out hBz))
              have HL5 := Lib.hid ((HL4.out.below hBz).more hzz)
              have hXl : X.length ≤ 1048576 := by omega
              have HLikeX := Lib.hid (fun (t' : Tr) (p' : Option Addr) (hp' : ptr t' = .pointer p') (hm' : MapOf t' X) (w' : World) (h1 : Below wr.heap.size wr w') (hl' : Lies w'.heap.size w' t') => like_at B wr.heap.size m3 t' p' hp' X hu3.out.2.1 (.slice A6 m3 c6) w' (by have := h1.size; have := HBZ.out.size; omega) (HT.out.on ((HBZ.out.trans (h1.mono HBZ.out.size)).mono hB)) hm' hl' hXl h1.size (HW1.out.below h1))
              clear hBz bG
              go_wp2_with (fail)
              refine (HLikeX.out t3 p3 hu3.out.1 hu3.out.2.2.1 wr (Below.refl _ _) HL5.out).mono ?_
              rintro e w5 ⟨rfl, hb5⟩
              have hz5 := hb5.size
              have g2 : w5.cell? ⟨G, 0, none⟩ = some (.pointer p3) := (HBG.out.below hb5 hlG).cell 0
              have g3 : w5.cell? ⟨G, 1, none⟩ = some (.int .i64 m3) := (HBG.out.below hb5 hlG).cell 1
              have HB5 := Lib.hid hb5
              clear hb5 g0 g1
              go_wp2_with (fail)
              obtain ⟨W6, hW6⟩ : ∃ W6, W6 = w5.alloc (.cells #[.pointer p3, .int .i64 m3, .pointer p3, .int .i64 m3] 26) := ⟨_, rfl⟩
              have hbA : Below w5.heap.size w5 W6 := by rw [hW6]; exact (Below.refl _ w5).alloc (Nat.le_refl _) _
              have hs6 : Sees (w5.heap.size + 1) 2 W6 (.slice (some ⟨w5.heap.size, 0, none⟩) 2 2) 2 (mapsV [(p3, m3), (p3, m3)]) := by
                rw [hW6]; exact sees_new w5 2 2 #[.pointer p3, .int .i64 m3, .pointer p3, .int .i64 m3] _ rfl
              have hb6 : Below wr.heap.size wr W6 := HB5.out.trans (hbA.mono hz5)
              have hz6 : w5.heap.size + 1 ≤ W6.heap.size := by rw [hW6]; simp
              have hl6 := (HL5.out.below hb6).more hb6.size
              have hm6 : MapsOf [(p3, m3), (p3, m3)] [X, X] W6 := by
                refine ⟨rfl, fun j q hj => ?_⟩
                match j, hj with
                | 0, hj => simp at hj; subst hj; exact ⟨X, t3, rfl, hu3.out.1, hu3.out.2.1, hu3.out.2.2.1, hl6, HXK.out⟩
                | 1, hj => simp at hj; subst hj; exact ⟨X, t3, rfl, hu3.out.1, hu3.out.2.1, hu3.out.2.2.1, hl6, HXK.out⟩
                | j + 2, hj => simp at hj
              have HB6 := Lib.hid hb6
              have HOv2 := Lib.hid (over_any B (w5.heap.size + 1) 2 [(p3, m3), (p3, m3)] [X, X] _ W6 (by have := hb6.size; have := HBZ.out.size; omega) (HT.out.on ((HBZ.out.trans (hb6.mono HBZ.out.size)).mono hB)) hz6 rfl (by decide) hs6 hm6 (by intro M hM; simp at hM; subst hM; omega))
              rw [overAll_two X HXU.out] at HOv2
              rw [← hW6]
              clear hbA hs6 hb6 hl6 hm6 hW6
              refine HOv2.out.mono ?_
              rintro e w7 ⟨t7, p7, m7, rfl, hu7, hb7⟩
              obtain rfl : m7 = m3 := by rw [hu7.out.2.1, hu3.out.2.1]
              have hz7 := hb7.size
              have HB7 := Lib.hid (HB6.out.trans (hb7.mono HB6.out.size))
              clear hb7
              go_wp2_with (fail)
              refine (HLikeX.out t7 p7 hu7.out.1 hu7.out.2.2.1 w7 HB7.out hu7.out.2.2.2).mono ?_
              rintro e w8 ⟨rfl, hb8⟩
              have hz8 := hb8.size
              have hb8' := HB7.out.trans (hb8.mono HB7.out.size)
              have g4 : w8.cell? ⟨G, 0, none⟩ = some (.pointer p3) := (HBG.out.below hb8' hlG).cell 0
              have g5 : w8.cell? ⟨G, 1, none⟩ = some (.int .i64 m7) := (HBG.out.below hb8' hlG).cell 1
              have HB8 := Lib.hid hb8'
              have HWi := Lib.hid (without_any B w.heap.size j m7 t3 p3 hu3.out.1 X hu3.out.2.1 K (.slice AK j capK) w8 (by have := hb8'.size; have := HBZ.out.size; omega) (HT.out.on ((HBZ.out.trans (hb8'.mono HBZ.out.size)).mono hB)) (by have := hb8'.size; have := HBZ.out.size; omega) HNK.out (by omega) (HSK.out.below (HBZ.out.trans (hb8'.mono HBZ.out.size))) hu3.out.2.2.1 ((HL5.out.below hb8').more hb8'.size) hXl)
              rw [← HY.out] at HWi
              clear hb8 hb8' g2 g3
              go_wp2_with (fail)
              refine HWi.out.mono ?_
              rintro e w9 ⟨t9, p9, m9, rfl, hu9, hb9⟩
              obtain rfl : m9 = mo := by rw [hu9.out.2.1, HMO.out]
              have hb9' := HB8.out.trans (hb9.mono HB8.out.size)
              have HB9 := Lib.hid hb9'
              have HLikeY := Lib.hid (like_at B wr.heap.size m9 t9 p9 hu9.out.1 Y hu9.out.2.1 (.slice A9 m9 c9) w9 (by have := hb9'.size; have := HBZ.out.size; omega) (HT.out.on ((HBZ.out.trans (hb9'.mono HBZ.out.size)).mono hB)) hu9.out.2.2.1 hu9.out.2.2.2 (by rw [← HMO.out]; omega) hb9'.size (HY1.out.below hb9'))
              clear hb9 hb9' g4 g5
              go_wp2_with (fail)
              refine HLikeY.out.mono ?_
              rintro e w10 ⟨rfl, hb10⟩
              have hlast := HBZ.out.trans ((HB9.out.trans (hb10.mono HB9.out.size)).mono HBZ.out.size)
              clear hb10
              go_wp2_with (fail)
              go_ret
              exact ⟨rfl, hlast⟩
end Go.Proofs.YtjlbchkdiaomjaaDoor.trie

/- A map with another one over it; maps one over the other, in any number. -/
import Derived.Test.YtjlbchkdiaomjaaDoorOverFoldM
import Derived.Test.YtjlbchkdiaomjaaDoorTrieStay
namespace Go.Proofs.YtjlbchkdiaomjaaDoor.trie
open Go.RowKit Go.Shelf mem tri mix

theorem putS_last (k v : Int) : ∀ l : List (Int × Int), (∀ p ∈ l, p.1 < k) → putS l k v = l ++ [(k, v)] := by
  intro l
  unfold putS
  induction l with
  | nil => intro _; rfl
  | cons p l ih =>
    intro h
    have hp := h p (by simp)
    rw [putR, if_neg (by intro hh; have := hh.2; omega), if_neg (by omega), ih (fun q hq => h q (by simp [hq]))]
    rfl
theorem overS_nil_aux : ∀ (L acc : List (Int × Int)), Up (acc ++ L) → overS acc L = acc ++ L
  | [], acc, _ => by simp [overS]
  | q :: L, acc, h => by
    show overS (putS acc q.1 q.2) L = _
    have hlt : ∀ p ∈ acc, p.1 < q.1 := fun p hp => (List.pairwise_append.1 h).2.2 p hp q (by simp)
    rw [putS_last q.1 q.2 acc hlt, overS_nil_aux L _ (by simpa using h)]
    simp
theorem overS_nil (L : List (Int × Int)) (h : Up L) : overS [] L = L := by
  have := overS_nil_aux L [] (by simpa using h)
  simpa using this
set_option maxHeartbeats 2000000 in
set_option maxRecDepth 100000 in
theorem lay_any (B N M : Nat) (t t2 : Tr) (p q : Option Addr) (hp : ptr t = .pointer p) (hq : ptr t2 = .pointer q) (L L2 : List (Int × Int)) (hN : N = L.length) (hM : M = L2.length) (w : World) (hB : B ≤ w.heap.size) (hT : Laid B w) (hk : ∀ x ∈ L, I64 x.1)
    (hm : MapOf t L) (hL : Lies w.heap.size w t) (hm2 : MapOf t2 L2) (hL2 : Lies w.heap.size w t2) (hl : N + M ≤ 1048000) :
    Calls Tryd.prog 45 #[.agg #[.pointer q, .int .i64 M], .agg #[.pointer p, .int .i64 N]] w (LaidPost (overS L2 L) w) := by
  obtain ⟨H, hH⟩ : ∃ H, H = w.heap.size := ⟨_, rfl⟩
  have HH := Lib.hid hH
  have HFold := Lib.hid (fun W' h1 h2 h3 h4 => fold_maps B N M t t2 p q hp hq L L2 hN hM W' h1 h2 hk hm h3 hm2 h4 hl)
  have HLen := Lib.hid (len_at M t2 q hq)
  have HN := Lib.hid hN
  have HM := Lib.hid hM
  have HP := Lib.hid (And.intro hp hm)
  have HL := Lib.hid hL
  have HL2 := Lib.hid hL2
  have HT := Lib.hid hT
  clear hN hM hp hq hm hL hm2 hL2 hT hk
  go_enter Tryd.func45, Tryd.ntmps45
  go_wp2_with (fail)
  have e1 : H + 1 + 1 = H + 2 := rfl
  obtain ⟨W, hW⟩ : ∃ W, W = (((w.alloc (.cells #[.pointer q, .int .i64 M] 26)).alloc (.cells #[.pointer p, .int .i64 N] 26)).alloc (.cells #[.pointer none, .int .i64 0] 26)) := ⟨_, rfl⟩
  rw [← hW, ← hH, e1]
  have b0 : Box W H 26 #[.pointer q, .int .i64 M] := by rw [hW]; exact ((Box.new _ _ _ H hH).alloc _).alloc _
  have b1 : Box W (H + 1) 26 #[.pointer p, .int .i64 N] := by rw [hW]; exact (Box.new _ _ _ (H + 1) (by rw [hH]; simp)).alloc _
  have b2 : Box W (H + 2) 26 #[.pointer none, .int .i64 0] := by rw [hW]; exact Box.new _ _ _ (H + 2) (by rw [hH]; simp)
  have hBW : Below H w W := by rw [hW, hH]; exact (((Below.refl _ w).alloc (Nat.le_refl _) _).alloc (by simp) _).alloc (by simp; omega) _
  have hWz : W.heap.size = H + 3 := by rw [hW, hH]; simp
  have HWZ := Lib.hid hWz
  have HBW := Lib.hid hBW
  have hBH : B ≤ H := by rw [hH]; exact hB
  have hle : H + 3 ≤ W.heap.size := by omega
  clear hW hH e1 hWz hBW
  refine (HLen.out W).mono ?_
  rintro e w1 ⟨rfl, hb1⟩
  have c0 : w1.cell? ⟨H, 0, none⟩ = some (.pointer q) := (b0.below hb1 (by omega)).cell 0
  have c1 : w1.cell? ⟨H, 1, none⟩ = some (.int .i64 M) := (b0.below hb1 (by omega)).cell 1
  have d0 : w1.cell? ⟨H + 1, 0, none⟩ = some (.pointer p) := (b1.below hb1 (by omega)).cell 0
  have d1 : w1.cell? ⟨H + 1, 1, none⟩ = some (.int .i64 N) := (b1.below hb1 (by omega)).cell 1
  have hr1 := b2.below hb1 (by omega)
  have HR1 := Lib.hid hr1
  have hz1 := hb1.size
  have HB1 := Lib.hid (HBW.out.trans (hb1.mono (by omega)))
  have f0 := hr1.frozen 0
  have f1 := hr1.frozen 1
  have r0 : w1.cell? ⟨H + 2, 0, none⟩ = some (.pointer none) := hr1.cell 0
  have r1 : w1.cell? ⟨H + 2, 1, none⟩ = some (.int .i64 0) := hr1.cell 1
  have HLA := Lib.hid (((HL.out.below (by rw [← HH.out]; exact HB1.out))).more (by rw [← HH.out]; omega : w.heap.size ≤ w1.heap.size))
  have HLA2 := Lib.hid (((HL2.out.below (by rw [← HH.out]; exact HB1.out))).more (by rw [← HH.out]; omega : w.heap.size ≤ w1.heap.size))
  clear b0 b1 b2 hb1 hr1
  by_cases h0 : M = 0
  · have hbq : ((M : Int) == 0) = true := by rw [beq_iff_eq]; omega
    have hov : Hid (overS L2 L = L) := by
      have : L2 = [] := List.length_eq_zero_iff.1 (by rw [← HM.out]; exact h0)
      show _ = _
      rw [this]; exact overS_nil L HP.out.2.2.2.1
    clear h0
    go_wp2_with (fail)
    have hx := HR1.out.two (.pointer p) (.int .i64 N)
    have x0 := hx.cell 0
    have x1 := hx.cell 1
    refine bodyPost_ret (v := .agg #[.pointer p, .int .i64 N]) (by simp [results, Tryd.results45, go_sem, x0, x1]) rfl ?_
    refine ⟨t, p, N, rfl, ⟨HP.out.1, by rw [hov.out]; exact HN.out, by rw [hov.out]; exact HP.out.2, ?_⟩, ?_⟩
    · rw [World.size_setCell, World.size_setCell]
      exact HLA.out.keep (keeps_set2 HR1.out (by decide) (by decide) 0 1 (.pointer p) (.int .i64 N))
    · rw [← HH.out]; exact (HB1.out.setCell (p := ⟨H + 2, 0, none⟩) (by dsimp only; omega) _).setCell (p := ⟨H + 2, 1, none⟩) (by dsimp only; omega) _
  · have hbq : ((M : Int) == 0) = false := by rw [beq_eq_false_iff_ne]; omega
    clear h0
    go_wp2_with (fail)
    refine (HFold.out w1 (by omega) (HT.out.on (HB1.out.mono hBH)) HLA.out HLA2.out).mono ?_
    rintro e w2 ⟨u, r, m, rfl, hu, hb2⟩
    have hr2 := HR1.out.below hb2 (by omega)
    have HR2 := Lib.hid hr2
    have y0 : w2.cell? ⟨H + 2, 0, none⟩ = some (.pointer none) := hr2.cell 0
    have y1 : w2.cell? ⟨H + 2, 1, none⟩ = some (.int .i64 0) := hr2.cell 1
    have g0 := hr2.frozen 0
    have g1 := hr2.frozen 1
    have HB2 := Lib.hid (HB1.out.trans (hb2.mono (by omega)))
    clear hb2 hr2
    go_wp2_with (fail)
    have hx := HR2.out.two (.pointer r) (.int .i64 m)
    have x0 := hx.cell 0
    have x1 := hx.cell 1
    refine bodyPost_ret (v := .agg #[.pointer r, .int .i64 m]) (by simp [results, Tryd.results45, go_sem, x0, x1]) rfl ?_
    refine ⟨u, r, m, rfl, ⟨hu.out.1, hu.out.2.1, hu.out.2.2.1, ?_⟩, ?_⟩
    · rw [World.size_setCell, World.size_setCell]
      exact hu.out.2.2.2.keep (keeps_set2 HR2.out (by decide) (by decide) 0 1 (.pointer r) (.int .i64 m))
    · rw [← HH.out]; exact (HB2.out.setCell (p := ⟨H + 2, 0, none⟩) (by dsimp only; omega) _).setCell (p := ⟨H + 2, 1, none⟩) (by dsimp only; omega) _
/-- lists of pairs, one over the other -/
def overAll (LL : List (List (Int × Int))) : List (Int × Int) := LL.foldl overS []
theorem overAll_take (LL : List (List (Int × Int))) (k : Nat) (h : k < LL.length) : overAll (LL.take (k + 1)) = overS (overAll (LL.take k)) LL[k] := by
  unfold overAll; rw [List.take_succ_eq_append_getElem h, List.foldl_append]; rfl
theorem overAll_up (LL : List (List (Int × Int))) : Up (overAll LL) := by
  unfold overAll
  have : ∀ (M : List (List (Int × Int))) (a : List (Int × Int)), Up a → Up (M.foldl overS a) := by
    intro M
    induction M with
    | nil => intro a h; exact h
    | cons x M ih => intro a h; exact ih _ (overS_up a h x)
  exact this LL [] (by simp [Up])
theorem overAll_len (LL : List (List (Int × Int))) (c : Nat) (hc : ∀ L ∈ LL, L.length ≤ c) : ∀ k, k ≤ LL.length → (overAll (LL.take k)).length ≤ c * k
  | 0, _ => by simp [overAll]
  | k + 1, h => by
    have ih := overAll_len LL c hc k (by omega)
    rw [overAll_take LL k h]
    have h1 := overS_len LL[k] (overAll (LL.take k))
    have h2 := hc LL[k] (List.getElem_mem h)
    rw [Nat.mul_succ]; omega
/-- maps in memory, and the lists that they have -/
def MapsOf (l : List (Option Addr × Nat)) (LL : List (List (Int × Int))) (w : World) : Prop :=
  l.length = LL.length ∧ ∀ (j : Nat) (q : Option Addr × Nat), l[j]? = some q → ∃ L t, LL[j]? = some L ∧ ptr t = .pointer q.1 ∧ q.2 = L.length ∧ MapOf t L ∧ Lies w.heap.size w t ∧ ∀ x ∈ L, I64 x.1
theorem MapsOf.below {l : List (Option Addr × Nat)} {LL : List (List (Int × Int))} {w w' : World} (h : MapsOf l LL w) (hb : Below w.heap.size w w') : MapsOf l LL w' := ⟨h.1, fun j q hj => by
  obtain ⟨L, t, h1, h2, h3, h4, h5, h6⟩ := h.2 j q hj
  exact ⟨L, t, h1, h2, h3, h4, (h5.below hb).more hb.size, h6⟩⟩
def AllRel (H n : Nat) (LL : List (List (Int × Int))) (w : World) (i : Value) (wr : World) : Prop :=
  ∃ (k m : Nat) (u : Tr) (q : Option Addr), k ≤ n ∧ i = .int .i64 k ∧ Hid (ptr u = .pointer q ∧ m = (overAll (LL.take k)).length ∧ MapOf u (overAll (LL.take k)) ∧ Lies wr.heap.size wr u) ∧
    Box wr H 26 #[.pointer none, .int .i64 0] ∧ Box wr (H + 1) 26 #[.pointer q, .int .i64 m] ∧ Below H w wr
set_option maxHeartbeats 2000000 in
set_option maxRecDepth 100000 in
theorem over_any (B C n : Nat) (l : List (Option Addr × Nat)) (LL : List (List (Int × Int))) (v : Value) (w : World) (hB : B ≤ w.heap.size) (hT : Laid B w) (hC : C ≤ w.heap.size) (hn : n = l.length) (hn2 : n ≤ 100) (hs : Sees C 2 w v n (mapsV l)) (hm : MapsOf l LL w) (hc : ∀ L ∈ LL, L.length ≤ 5000) :
    Calls Tryd.prog 26 #[v] w (LaidPost (overAll LL) w) := by
  obtain ⟨A, cap, rfl⟩ := hs.form
  obtain ⟨H, hH⟩ : ∃ H, H = w.heap.size := ⟨_, rfl⟩
  have HH := Lib.hid hH
  have HN := Lib.hid hn
  have HS := Lib.hid (hs.more hC)
  have HM := Lib.hid hm
  have HT := Lib.hid hT
  have HC := Lib.hid hc
  clear hn hs hm hT hc
  go_enter Tryd.func26, Tryd.ntmps26
  go_wp2_with (fail)
  rw [← hH]
  have b0 : Box ((w.alloc (.cells #[.pointer none, .int .i64 0] 26)).alloc (.cells #[.pointer none, .int .i64 0] 26)) H 26 #[.pointer none, .int .i64 0] := (Box.new _ _ _ H hH).alloc _
  have b1 : Box ((w.alloc (.cells #[.pointer none, .int .i64 0] 26)).alloc (.cells #[.pointer none, .int .i64 0] 26)) (H + 1) 26 #[.pointer none, .int .i64 0] := Box.new _ _ _ (H + 1) (by rw [hH]; simp)
  have hBW : Below H w ((w.alloc (.cells #[.pointer none, .int .i64 0] 26)).alloc (.cells #[.pointer none, .int .i64 0] 26)) := by rw [hH]; exact ((Below.refl _ w).alloc (Nat.le_refl _) _).alloc (by simp) _
  have hBH : B ≤ H := by rw [hH]; exact hB
  clear hH
  go_loopw [8] (fun i wr => AllRel H n LL w i wr) (fun i _ => n - (intOf i).toNat)
  case atStart =>
    unfold AllRel
    exact ⟨0, 0, .none, none, Nat.zero_le _, rfl, Lib.hid ⟨rfl, rfl, MapOf.none_, trivial⟩, b0, b1, hBW⟩
  case round =>
    clear b0 b1 hBW
    obtain ⟨k, m, u, q, hk, rfl, HU, hb0, hb1, hBr⟩ := hrel
    have hsz := hBr.size
    rw [← HH.out] at hsz
    by_cases hlt : k < n
    · have hkl : k < l.length := by have := HN.out; omega
      have hkL : k < LL.length := by rw [← HM.out.1]; exact hkl
      have hbw : Below w.heap.size w wr := by rw [← HH.out]; exact hBr
      obtain ⟨_, A', cap', hva, hca⟩ := HS.out.below hbw
      obtain ⟨ba, oa, rfl, hba, hca⟩ := hca (by omega)
      injection hva with e1 _ e3
      subst e1
      subst e3
      have hx := mapsV_at l k hkl
      obtain ⟨L, t, hL1, hL2, hL3, hL4, hL5, hL6⟩ := HM.out.2 k l[k] (List.getElem?_eq_getElem hkl)
      have hLk : LL[k] = L := by rw [List.getElem?_eq_getElem hkL] at hL1; exact Option.some.inj hL1
      have htk := overAll_take LL k hkL
      rw [hLk] at htk
      have hLc := HC.out L (by rw [← hLk]; exact List.getElem_mem hkL)
      have hac := overAll_len LL 5000 HC.out k (by omega)
      obtain ⟨pc, hpc⟩ : ∃ pc, pc = l[k] := ⟨_, rfl⟩
      rw [← hpc] at hx hL2 hL3
      obtain ⟨p2, c2⟩ := pc
      dsimp only at hx hL2 hL3
      have x0 : wr.cell? ⟨ba, oa + k * 2, none⟩ = some (.pointer p2) := hca _ _ hx.1
      have x1 : wr.cell? ⟨ba, oa + k * 2 + 1, none⟩ = some (.int .i64 c2) := hca _ _ hx.2
      obtain ⟨G, hG⟩ : ∃ G, G = wr.heap.size := ⟨_, rfl⟩
      obtain ⟨W, hW⟩ : ∃ W, W = wr.alloc (.cells #[.pointer p2, .int .i64 c2] 26) := ⟨_, rfl⟩
      have hBa : Below wr.heap.size wr W := by rw [hW]; exact (Below.refl _ wr).alloc (Nat.le_refl _) _
      have bg : Box W G 26 #[.pointer p2, .int .i64 c2] := by rw [hW]; exact Box.new _ _ _ G hG
      have hb0W := hb0.below hBa hb0.lt
      have hb1W := hb1.below hBa hb1.lt
      have hl1 := hb1.lt
      have c0 : wr.cell? ⟨H + 1, 0, none⟩ = some (.pointer q) := hb1.cell 0
      have c1 : wr.cell? ⟨H + 1, 1, none⟩ = some (.int .i64 m) := hb1.cell 1
      have hzW := hBa.size
      have HLay := Lib.hid (lay_any B c2 m t u p2 q hL2 HU.out.1 L (overAll (LL.take k)) hL3 HU.out.2.1 W (by omega) (HT.out.on ((hBr.trans (hBa.mono hsz)).mono hBH)) hL6 hL4 ((hL5.below (hbw.trans (hBa.mono (by rw [← HH.out]; exact hsz)))).more (by rw [← HH.out]; omega)) HU.out.2.2.1 ((HU.out.2.2.2.below hBa).more hzW) (by rw [hL3, HU.out.2.1]; omega))
      have HTK := Lib.hid htk
      have HBr := Lib.hid (hBr.trans (hBa.mono hsz))
      have HB0 := Lib.hid hb0W
      have HB1 := Lib.hid hb1W
      have j0' : (0 : Int) ≤ (k : Int) := by omega
      have j1' : (k : Int) < (n : Int) := by omega
      have hl1W : H + 1 < W.heap.size := hb1W.lt
      have HW := Lib.hid hW
      clear hkl hkL hbw hca hx hL1 hL2 hL3 hL4 hL5 hL6 hLk htk hLc hac hpc hBa bg hb0 hb1 hb0W hb1W hBr hW hG
      go_wp2_with (fail)
      rw [← HW.out]
      refine HLay.out.mono ?_
      rintro e w2 ⟨u2, r, m2, rfl, hu2, hb2⟩
      have hr2 := HB1.out.below hb2 (by omega)
      have HR2 := Lib.hid hr2
      have y0 : w2.cell? ⟨H + 1, 0, none⟩ = some (.pointer q) := hr2.cell 0
      have y1 : w2.cell? ⟨H + 1, 1, none⟩ = some (.int .i64 m) := hr2.cell 1
      have g0 := hr2.frozen 0
      have g1 := hr2.frozen 1
      have HB2 := Lib.hid (HBr.out.trans (hb2.mono (by omega)))
      have HR0 := Lib.hid (HB0.out.below hb2 (by omega))
      clear hb2 hr2 c0 c1 x0 x1
      go_wp2_with (fail)
      go_roundw
      case rel =>
        unfold AllRel
        refine ⟨k + 1, m2, u2, r, by omega, by go_num, Lib.hid ⟨hu2.out.1, by rw [HTK.out]; exact hu2.out.2.1, by rw [HTK.out]; exact hu2.out.2.2.1, ?_⟩, ?_, HR2.out.two _ _, ?_⟩
        · rw [World.size_setCell, World.size_setCell]
          exact hu2.out.2.2.2.keep (keeps_set2 HR2.out (by decide) (by decide) 0 1 (.pointer r) (.int .i64 m2))
        · exact (HR0.out.far (p := ⟨H + 1, 0, none⟩) (by dsimp only; omega) _).far (p := ⟨H + 1, 1, none⟩) (by dsimp only; omega) _
        · exact (HB2.out.setCell (p := ⟨H + 1, 0, none⟩) (by dsimp only; omega) _).setCell (p := ⟨H + 1, 1, none⟩) (by dsimp only; omega) _
      case measure => simp [intOf]; omega
    · have hfin : Hid (overAll (LL.take k) = overAll LL) := by
        show _ = _
        rw [List.take_of_length_le (by have := HN.out; have := HM.out.1; omega)]
      have d0 : wr.cell? ⟨H + 1, 0, none⟩ = some (.pointer q) := hb1.cell 0
      have d1 : wr.cell? ⟨H + 1, 1, none⟩ = some (.int .i64 m) := hb1.cell 1
      have e0 : wr.cell? ⟨H, 0, none⟩ = some (.pointer none) := hb0.cell 0
      have e1 : wr.cell? ⟨H, 1, none⟩ = some (.int .i64 0) := hb0.cell 1
      have f0 := hb0.frozen 0
      have f1 := hb0.frozen 1
      have HB0 := Lib.hid hb0
      have HBr := Lib.hid hBr
      have j1' : ¬ (k : Int) < (n : Int) := by omega
      clear hb0 hb1 hBr
      go_wp2_with (fail)
      have hx := HB0.out.two (.pointer q) (.int .i64 m)
      have x0 := hx.cell 0
      have x1 := hx.cell 1
      refine bodyPost_ret (v := .agg #[.pointer q, .int .i64 m]) (by simp [results, Tryd.results26, go_sem, x0, x1]) rfl ?_
      have h1 := HU.out
      rw [hfin.out] at h1
      refine ⟨u, q, m, rfl, ⟨h1.1, h1.2.1, h1.2.2.1, ?_⟩, ?_⟩
      · rw [World.size_setCell, World.size_setCell]
        exact h1.2.2.2.keep (keeps_set2 HB0.out (by decide) (by decide) 0 1 (.pointer q) (.int .i64 m))
      · rw [← HH.out]; exact (HBr.out.setCell (p := ⟨H, 0, none⟩) (by dsimp only; omega) _).setCell (p := ⟨H, 1, none⟩) (by dsimp only; omega) _
end Go.Proofs.YtjlbchkdiaomjaaDoor.trie

/- How many keys two lists have in common; where a list differs from what is laid over it. The law on where two maps are unlike. -/
import Derived.Test.YtjlbchkdiaomjaaDoorOverDiffers
import Derived.Test.YtjlbchkdiaomjaaDoorOverWorks
import Derived.Test.YtjlbchkdiaomjaaDoorOverSets
import Derived.Deep.RegionHeld3
namespace Go.Proofs.YtjlbchkdiaomjaaDoor.trie
open Go.RowKit Go.Shelf mem tri mix

theorem getS_has (X : List (Int × Int)) (k : Int) : (getS X k).2 = true ↔ ∃ v, (k, v) ∈ X := by
  rcases getS_is X k with ⟨v, h1, h2⟩ | ⟨h1, h2⟩
  · rw [h1]; exact ⟨fun _ => ⟨v, h2⟩, fun _ => rfl⟩
  · rw [h1]; exact ⟨fun h => by simp at h, fun ⟨v, h⟩ => absurd h (h2 v)⟩
theorem hitsN_filter (X Y : List (Int × Int)) (L : List Int) : hitsN X Y L = (L.filter fun k => (getS X k).2 && (getS Y k).2).length := by
  unfold hitsN
  induction L with
  | nil => rfl
  | cons k L ih =>
    rw [List.map_cons, List.sum_cons, ih, List.filter_cons]
    unfold hitS
    by_cases h : ((getS X k).2 && (getS Y k).2) = true
    · rw [if_pos h, if_pos h, List.length_cons]; omega
    · rw [if_neg h, if_neg h]; omega
/-- how many pairs have a key that another list has, too -/
def bothN (Y X : List (Int × Int)) : Nat := (X.filter fun p => (getS Y p.1).2).length
theorem bothN_take (Y X : List (Int × Int)) (k : Nat) (h : k < X.length) : bothN Y (X.take (k + 1)) = bothN Y (X.take k) + if (getS Y X[k].1).2 = true then 1 else 0 := by
  unfold bothN
  rw [List.take_succ_eq_append_getElem h, List.filter_append, List.length_append]
  by_cases hb : (getS Y X[k].1).2 = true <;> simp [hb]
theorem bothN_le (Y X : List (Int × Int)) : bothN Y X ≤ X.length := by unfold bothN; exact List.length_filter_le _ _
theorem hits_both (X Y : List (Int × Int)) (hX : Up X) (hY : Up Y) : hitsN X Y (keysS (overS X Y)) = bothN Y X := by
  rw [hitsN_filter]
  unfold bothN
  have hu : Up (X.filter fun p => (getS Y p.1).2) := List.Pairwise.filter _ hX
  have e : ((keysS (overS X Y)).filter fun k => (getS X k).2 && (getS Y k).2) = keysS (X.filter fun p => (getS Y p.1).2) := by
    refine lt_ext _ _ (List.Pairwise.filter _ (keysS_lt _ (overS_up X hX Y))) (keysS_lt _ hu) fun k => ?_
    rw [List.mem_filter, keysS_over X Y hX hY, keysS_mem, keysS_mem, keysS_mem, Bool.and_eq_true, getS_has, getS_has]
    constructor
    · rintro ⟨_, ⟨v, hv⟩, hy⟩
      exact ⟨v, List.mem_filter.2 ⟨hv, (getS_has Y k).2 hy⟩⟩
    · rintro ⟨v, hv⟩
      obtain ⟨h1, h2⟩ := List.mem_filter.1 hv
      have hy := (getS_has Y k).1 h2
      exact ⟨.inl ⟨v, h1⟩, ⟨v, h1⟩, hy⟩
  rw [e]; unfold keysS; rw [List.length_map]
theorem differs_eq (X Y : List (Int × Int)) (n : Int) : ((keysS (overS X Y)).filter fun key => !alikeS n X Y key) = differsS X Y n := by
  unfold differsS
  congr 1
  funext key
  unfold alikeS diffK
  cases (getS X key).2 <;> cases (getS Y key).2 <;> simp [bne]
theorem getS_over (X Y : List (Int × Int)) (hX : Up X) (hY : Up Y) (k : Int) (h : (getS Y k).2 = false) : getS (overS X Y) k = getS X k := by
  have hn : ∀ v, (k, v) ∉ Y := fun v hv => by rw [(getS_has Y k).2 ⟨v, hv⟩] at h; cases h
  rcases getS_is X k with ⟨v, h1, h2⟩ | ⟨h1, h2⟩
  · rw [h1]
    exact (getS_some _ (overS_up X hX Y) k v).1 ((overS_mem Y X hX hY _).2 (.inr ⟨h2, hn⟩))
  · rw [h1]
    refine getS_none _ k fun v hv => ?_
    rcases (overS_mem Y X hX hY _).1 hv with h' | ⟨h', _⟩
    · exact hn v h'
    · exact h2 v h'
theorem laid_keys (X Y : List (Int × Int)) (hX : Up X) (hY : Up Y) (k : Int) (hk : k ∈ (keysS (overS X (overS X Y))).filter fun key => !alike2S X (overS X Y) key) : (getS Y k).2 = true := by
  obtain ⟨h1, h2⟩ := List.mem_filter.1 hk
  cases hy : (getS Y k).2 with
  | true => rfl
  | false =>
    exfalso
    have he := getS_over X Y hX hY k hy
    have hin : k ∈ keysS X := by
      rcases (keysS_over X (overS X Y) hX (overS_up X hX Y) k).1 h1 with h | h
      · exact h
      · rcases (keysS_over X Y hX hY k).1 h with h | h
        · exact h
        · rw [(getS_has Y k).2 ((keysS_mem Y k).1 h)] at hy; cases hy
    have hg := (getS_has X k).2 ((keysS_mem X k).1 hin)
    unfold alike2S at h2
    rw [he, hg] at h2
    simp at h2
theorem and_seven (a : Int) : 0 ≤ bits .and .i64 a 7 ∧ bits .and .i64 a 7 ≤ 7 := by
  have h : ∀ x : BitVec 64, (x &&& BitVec.ofInt 64 7).toNat ≤ 7 := fun x => by
    rw [BitVec.toNat_and]; exact Nat.and_le_right
  have h1 := h (BitVec.ofInt 64 a)
  have e : bits .and .i64 a 7 = IntKind.i64.wrap ((BitVec.ofInt 64 a &&& BitVec.ofInt 64 7).toNat : Int) := rfl
  rw [e, IntWalk.i64_in _ (by omega)]
  omega
theorem ints_one (L : List Int) (N B : Nat) (u v : Value) (w : World) (hN : N = L.length) (hl : N ≤ 1048576) (h1 : Sees B 1 w u N (intV L)) (h2 : Sees B 1 w v N (intV L)) :
    Calls Tryd.prog 32 #[u, v] w fun e w' => e = .returned (.bool true) ∧ Below w.heap.size w w' := by
  subst hN
  refine (rints_any _ _ u v B w hl h1 h2).mono ?_
  rintro e w' ⟨rfl, n, rfl⟩
  exact ⟨by simp, below_drewN (Below.refl _ _) n⟩
end Go.Proofs.YtjlbchkdiaomjaaDoor.trie

namespace Go.Proofs.YtjlbchkdiaomjaaDoor.trie
open Go.RowKit Go.Shelf mem tri mix

theorem differs_long (B n m : Nat) (A A2 : Option Addr) (cap cap2 : Nat) (a0 a1 a2 : Int) (w : World) (hB : B ≤ w.heap.size) (hT : Laid B w) (hn : 80 < n ∨ 80 < m) :
    Calls Tryd.prog 7 #[.slice A n cap, .slice A2 m cap2, .agg #[.int .i64 a0, .int .i64 a1, .int .i64 a2]] w (LawHolds w) := by
  have HT := Lib.hid hT
  clear hT
  have hb0 : Below w.heap.size w (w.alloc (.cells #[.int .i64 a0, .int .i64 a1, .int .i64 a2] 63)) := (Below.refl _ w).alloc (Nat.le_refl _) _
  have HB0 := Lib.hid hb0
  clear hb0
  by_cases h6 : 80 < n
  · have hn' : (80 : Int) < (n : Int) := by omega
    clear hn
    go_enter Tryd.func7, Tryd.ntmps7
    go_wp2_with (fail)
    refine (works5_any B _ (by simp; omega) (HT.out.on (HB0.out.mono hB))).mono ?_
    rintro e w1 ⟨rfl, hb1⟩
    have HB1 := Lib.hid (HB0.out.trans (hb1.mono (by simp)))
    have hz1 := HB1.out.size
    clear hb1
    go_wp2_with (fail)
    refine (works5_any B w1 (by omega) (HT.out.on (HB1.out.mono hB))).mono ?_
    rintro e w2 ⟨rfl, hb2⟩
    go_wp2_with (fail)
    go_ret
    exact ⟨rfl, HB1.out.trans (hb2.mono hz1)⟩
  · have hn' : ¬ (80 : Int) < (n : Int) := by omega
    have hm' : (80 : Int) < (m : Int) := by omega
    clear hn
    go_enter Tryd.func7, Tryd.ntmps7
    go_wp2_with (fail)
    refine (works5_any B _ (by simp; omega) (HT.out.on (HB0.out.mono hB))).mono ?_
    rintro e w1 ⟨rfl, hb1⟩
    have HB1 := Lib.hid (HB0.out.trans (hb1.mono (by simp)))
    have hz1 := HB1.out.size
    clear hb1
    go_wp2_with (fail)
    refine (works5_any B w1 (by omega) (HT.out.on (HB1.out.mono hB))).mono ?_
    rintro e w2 ⟨rfl, hb2⟩
    go_wp2_with (fail)
    go_ret
    exact ⟨rfl, HB1.out.trans (hb2.mono hz1)⟩
theorem rdiffers_n (N M : Nat) (a b : List (Int × Int)) (n : Int) (u v : Value) (w : World) (hN : N = a.length) (hM : M = b.length) (hn : 1 ≤ n ∧ n ≤ 1000) (hl : N + M ≤ 1048000) (h1 : Sees w.heap.size 2 w u N (pairV a)) (h2 : Sees w.heap.size 2 w v M (pairV b)) :
    Calls Tryd.prog 33 #[u, v, .int .i64 n] w fun e w' => ∃ r, e = .returned r ∧ Sees w'.heap.size 1 w' r (differsS a b n).length (intV (differsS a b n)) ∧ Below w.heap.size w w' := by
  subst hN
  subst hM
  exact rdiffers_any a b n u v w hn hl h1 h2
theorem rbetween_n (N : Nat) (l : List (Int × Int)) (lo hi : Int) (v : Value) (w : World) (hN : N = l.length) (hl : N ≤ 1048576) (h : Sees w.heap.size 2 w v N (pairV l)) :
    Calls Tryd.prog 35 #[v, .int .i64 lo, .int .i64 hi] w fun e w' => ∃ r, e = .returned r ∧ Sees w'.heap.size 1 w' r (keysS (betweenS l lo hi)).length (intV (keysS (betweenS l lo hi))) ∧ Below w.heap.size w w' := by
  subst hN
  refine (rbetween_any l lo hi v w hl h).mono ?_
  rintro e w' ⟨r, rfl, hg⟩
  have hs := Sees.of_own hg.1
  rw [keyV_keys, show (betweenS l lo hi).length = (keysS (betweenS l lo hi)).length by unfold keysS; rw [List.length_map]] at hs
  exact ⟨r, rfl, hs, hg.2⟩
theorem between_n (N : Nat) (t : Tr) (p : Option Addr) (hp : ptr t = .pointer p) (l : List (Int × Int)) (hN : N = l.length) (lo hi : Int) (w : World) (hm : MapOf t l) (hL : Lies w.heap.size w t) (hl : N ≤ 1048576) :
    Calls Tryd.prog 34 #[.agg #[.pointer p, .int .i64 N], .int .i64 lo, .int .i64 hi] w fun e w' => ∃ r, e = .returned r ∧ Sees w'.heap.size 1 w' r (keysS (betweenS l lo hi)).length (intV (keysS (betweenS l lo hi))) ∧ Below w.heap.size w w' := by
  refine (between_any N t p hp l hN lo hi w hm hL hl).mono ?_
  rintro e w' ⟨r, rfl, hg⟩
  have hs := Sees.of_own hg.1
  rw [keyV_keys, show (betweenS l lo hi).length = (keysS (betweenS l lo hi)).length by unfold keysS; rw [List.length_map]] at hs
  exact ⟨r, rfl, hs, hg.2⟩
set_option maxHeartbeats 4000000 in
set_option maxRecDepth 100000 in
theorem differs_law (B C n m : Nat) (L O : List (Int × Int)) (V VO : Value) (a0 a1 a2 : Int) (w : World) (hB : B ≤ w.heap.size) (hT : Laid B w) (hC : C ≤ w.heap.size) (hn : n = L.length) (hn2 : n ≤ 80) (hm : m = O.length) (hm2 : m ≤ 80)
    (hsl : Sees C 2 w V n (pairV L)) (hkl : ∀ x ∈ L, I64 x.1) (hso : Sees C 2 w VO m (pairV O)) (hko : ∀ x ∈ O, I64 x.1) :
    Calls Tryd.prog 7 #[V, VO, .agg #[.int .i64 a0, .int .i64 a1, .int .i64 a2]] w (LawHolds w) := by
  obtain ⟨A, cap, rfl⟩ := hsl.form
  obtain ⟨A2, cap2, rfl⟩ := hso.form
  obtain ⟨H, hH⟩ : ∃ H, H = w.heap.size := ⟨_, rfl⟩
  have HH := Lib.hid hH
  have HT := Lib.hid hT
  have HN := Lib.hid (And.intro hn hm)
  have HSL := Lib.hid (hsl.more hC)
  have HSO := Lib.hid (hso.more hC)
  have HKL := Lib.hid hkl
  have HKO := Lib.hid hko
  have hn' : ¬ (80 : Int) < (n : Int) := by omega
  have hm' : ¬ (80 : Int) < (m : Int) := by omega
  have hll : L.length ≤ 80 := by omega
  have hol : O.length ≤ 80 := by omega
  have hb0 : Below w.heap.size w (w.alloc (.cells #[.int .i64 a0, .int .i64 a1, .int .i64 a2] 63)) := (Below.refl _ w).alloc (Nat.le_refl _) _
  have HB0 := Lib.hid hb0
  have bat := Box.new w 63 #[.int .i64 a0, .int .i64 a1, .int .i64 a2] H hH
  have HBat := Lib.hid bat
  have hBH : B ≤ H := by rw [hH]; exact hB
  clear hT hn hm hsl hso hkl hko hb0 bat hH
  go_enter Tryd.func7, Tryd.ntmps7
  go_wp2_with (fail)
  refine (works5_any B _ (by simp; omega) (HT.out.on (HB0.out.mono hB))).mono ?_
  rintro e w1 ⟨rfl, hb1⟩
  have hz1 : H + 1 ≤ w1.heap.size := by have := hb1.size; rw [HH.out]; simpa using this
  have HB1 := Lib.hid (HB0.out.trans (hb1.mono (by simp)))
  have HBat1 := Lib.hid (HBat.out.below hb1 (by rw [HH.out]; simp))
  have hHw : w.heap.size = H := HH.out.symm
  rw [hHw] at HB1 ⊢
  clear hb1 HBat
  have HSL1 := Lib.hid (HSL.out.below (by rw [hHw]; exact HB1.out))
  have HSO1 := Lib.hid (HSO.out.below (by rw [hHw]; exact HB1.out))
  rw [hHw] at HSL1 HSO1
  clear HSL HSO
  go_wp2_with (fail)
  refine (made_at B H n L _ w1 (by omega) (HT.out.on (HB1.out.mono hBH)) (by omega) HN.out.1 HSL1.out (by omega) HKL.out).mono ?_
  rintro e w2 ⟨ta, pa, na, rfl, hua, hb2⟩
  have hz2 := hb2.size
  have HB2 := Lib.hid (HB1.out.trans (hb2.mono (by omega)))
  have HSO2 := Lib.hid (HSO1.out.below (hb2.mono (by omega)))
  have HSL2 := Lib.hid (HSL1.out.below (hb2.mono (by omega)))
  have HBat2 := Lib.hid (HBat1.out.below hb2 (by omega))
  clear hb2
  go_wp2_with (fail)
  refine (made_at B H m O _ w2 (by omega) (HT.out.on (HB2.out.mono hBH)) (by omega) HN.out.2 HSO2.out (by omega) HKO.out).mono ?_
  rintro e w3 ⟨tb, pb, nb, rfl, hub, hb3⟩
  have hz3 := hb3.size
  have HB3 := Lib.hid (HB2.out.trans (hb3.mono (by omega)))
  have HSO3 := Lib.hid (HSO2.out.below (hb3.mono (by omega)))
  have HSL3 := Lib.hid (HSL2.out.below (hb3.mono (by omega)))
  have HBat3 := Lib.hid (HBat2.out.below hb3 (by omega))
  have HLa3 := Lib.hid ((hua.out.2.2.2.below hb3).more hz3)
  clear hb3
  obtain ⟨X, hX⟩ : ∃ X, X = ofS L := ⟨_, rfl⟩
  obtain ⟨Y, hY⟩ : ∃ Y, Y = ofS O := ⟨_, rfl⟩
  rw [← hX] at hua
  rw [← hY] at hub
  have hXl : X.length ≤ 80 := by rw [hX]; have := ofS_len L; omega
  have hYl : Y.length ≤ 80 := by rw [hY]; have := ofS_len O; omega
  have HXK := Lib.hid (show (∀ x ∈ X, I64 x.1) ∧ ∀ x ∈ Y, I64 x.1 by rw [hX, hY]; exact ⟨ofS_keys L HKL.out, ofS_keys O HKO.out⟩)
  have HX := Lib.hid (And.intro hX hY)
  clear hX hY
  go_wp2_with (fail)
  obtain ⟨K, hK⟩ : ∃ K, K = w3.heap.size := ⟨_, rfl⟩
  obtain ⟨W4, hW4⟩ : ∃ W4, W4 = ((w3.alloc (.cells #[.pointer pa, .int .i64 na] 26)).alloc (.cells #[.pointer pb, .int .i64 nb] 26)) := ⟨_, rfl⟩
  rw [← hW4, ← hK]
  have ba4 : Box W4 K 26 #[.pointer pa, .int .i64 na] := by rw [hW4]; exact (Box.new _ _ _ K hK).alloc _
  have bb4 : Box W4 (K + 1) 26 #[.pointer pb, .int .i64 nb] := by rw [hW4]; exact Box.new _ _ _ (K + 1) (by rw [hK]; simp)
  have hb34 : Below w3.heap.size w3 W4 := by rw [hW4]; exact ((Below.refl _ w3).alloc (Nat.le_refl _) _).alloc (by simp) _
  have hW4z : W4.heap.size = K + 2 := by rw [hW4, hK]; simp
  have hHK : H + 1 ≤ K := by omega
  have HBa4 := Lib.hid ba4
  have HBb4 := Lib.hid bb4
  have HB4 := Lib.hid (HB3.out.trans (hb34.mono (by omega)))
  have HSO4 := Lib.hid (HSO3.out.below (hb34.mono (by omega)))
  have HSL4 := Lib.hid (HSL3.out.below (hb34.mono (by omega)))
  have HBat4 := Lib.hid (HBat3.out.below hb34 (by omega))
  have HLa4 := Lib.hid ((HLa3.out.below hb34).more hb34.size)
  have HLb4 := Lib.hid ((hub.out.2.2.2.below hb34).more hb34.size)
  clear ba4 bb4 hb34 hW4 hK HSO3 HSL3 HSO2 HSL2 HSO1 HSL1 HBat2 HBat3 HBat1 HLa3
  refine (listed_any H L _ W4 (by omega) (by omega) (by rw [← HN.out.1]; exact HSL4.out)).mono ?_
  rintro e w5 ⟨r1, rfl, hg5⟩
  rw [← HX.out.1, ← hua.out.2.1] at hg5
  have hz5 := hg5.2.size
  have hs5 := Sees.of_own hg5.1
  have hb45 := hg5.2
  have HB5 := Lib.hid (HB4.out.trans (hb45.mono (by omega)))
  have HSO5 := Lib.hid (HSO4.out.below (hb45.mono (by omega)))
  have HS5 := Lib.hid hs5
  have HB45 := Lib.hid hb45
  clear hg5 hs5 hb45
  go_wp2_with (fail)
  refine (listed_any H O _ w5 (by omega) (by omega) (by rw [← HN.out.2]; exact HSO5.out)).mono ?_
  rintro e w6 ⟨r2, rfl, hg6⟩
  rw [← HX.out.2, ← hub.out.2.1] at hg6
  have hz6 := hg6.2.size
  have HS6 := Lib.hid (Sees.of_own hg6.1)
  have HS56 := Lib.hid ((HS5.out.below hg6.2).more hz6)
  have HB46 := Lib.hid (HB45.out.trans (hg6.2.mono hz5))
  have HB6 := Lib.hid (HB4.out.trans (HB46.out.mono (by omega)))
  have hat6 := HBat4.out.below HB46.out (by omega)
  have c2 : w6.cell? ⟨H, 2, none⟩ = some (.int .i64 a2) := hat6.cell 2
  obtain ⟨A9, c9, h9⟩ := HS56.out.form
  obtain ⟨A10, c10, h10⟩ := HS6.out.form
  subst h9
  subst h10
  obtain ⟨hsv0, hsv7⟩ := and_seven a2
  have HBat6 := Lib.hid hat6
  have HBa6 := Lib.hid (HBa4.out.below HB46.out (by omega))
  have HBb6 := Lib.hid (HBb4.out.below HB46.out (by omega))
  have HLa6 := Lib.hid ((HLa4.out.below HB46.out).more HB46.out.size)
  have HLb6 := Lib.hid ((HLb4.out.below HB46.out).more HB46.out.size)
  obtain ⟨G, hG⟩ : ∃ G, G = w6.heap.size := ⟨_, rfl⟩
  have HG := Lib.hid hG
  have k0 : w6.cell? ⟨K, 0, none⟩ = some (.pointer pa) := HBa6.out.cell 0
  have k1 : w6.cell? ⟨K, 1, none⟩ = some (.int .i64 na) := HBa6.out.cell 1
  have k2 : w6.cell? ⟨K + 1, 0, none⟩ = some (.pointer pb) := HBb6.out.cell 0
  have k3 : w6.cell? ⟨K + 1, 1, none⟩ = some (.int .i64 nb) := HBb6.out.cell 1
  have hK0 : K < w6.heap.size := by omega
  have hK1 : K + 1 < w6.heap.size := by omega
  clear hg6 hat6 HSO5 HSO4 HSL4 HBat4 HBa4 HBb4 HLa4 HLb4 HS5 HB45 hG
  go_wp2_with (fail)
  obtain ⟨nn, hnn⟩ : ∃ nn, nn = 1 + bits .and .i64 a2 7 := ⟨_, rfl⟩
  have hnn2 : 1 ≤ nn ∧ nn ≤ 8 := by rw [hnn]; omega
  obtain ⟨W7, hW7⟩ : ∃ W7, W7 = ((w6.alloc (.cells #[.int .i64 nn] 3)).alloc (.cells #[.int .i64 0] 3)) := ⟨_, rfl⟩
  rw [← hnn, ← hW7, ← HG.out]
  have bn7 : Box W7 G 3 #[.int .i64 nn] := by rw [hW7]; exact (Box.new _ _ _ G HG.out).alloc _
  have bk7 : Box W7 (G + 1) 3 #[.int .i64 ((0 : Nat) : Int)] := by rw [hW7]; exact Box.new _ _ _ (G + 1) (by rw [HG.out]; simp)
  have hb67 : Below w6.heap.size w6 W7 := by rw [hW7]; exact ((Below.refl _ w6).alloc (Nat.le_refl _) _).alloc (by simp) _
  have hW7z : W7.heap.size = G + 2 := by rw [hW7, HG.out]; simp
  have hz67 := hb67.size
  have HB7 := Lib.hid (HB6.out.trans (hb67.mono (by omega)))
  have HD1 := Lib.hid (differs1_any B na nb ta tb pa pb hua.out.1 hub.out.1 X Y hua.out.2.1 hub.out.2.1 nn 0 (G + 1) G W7 (by omega) (HT.out.on (HB7.out.mono hBH)) hua.out.2.2.1 ((HLa6.out.below hb67).more hz67) hub.out.2.2.1 ((HLb6.out.below hb67).more hz67) (by rw [hua.out.2.1, hub.out.2.1]; omega) (by omega) (by omega) bk7 bn7 (by omega) (by have := HG.out; omega))
  unfold DiffersPost at HD1
  rw [differs_eq, hits_both X Y hua.out.2.2.1.2.2.1 hub.out.2.2.1.2.2.1] at HD1
  refine HD1.out.mono ?_
  rintro e w8 ⟨r14, rfl, ho8, hgr8, hk8⟩
  have hz8 := hgr8.size
  have hb78 : Below (G + 1) W7 w8 := below_of hgr8 (Nat.le_refl _) (by omega)
  have hb68 : Below G w6 w8 := (hb67.mono (by rw [HG.out]; exact Nat.le_refl _)).trans (hb78.mono (by omega))
  have hzG : w6.heap.size = G := HG.out.symm
  have HS9 := Lib.hid (HS56.out.below (by rw [hzG]; exact hb68))
  have HS10 := Lib.hid (HS6.out.below (by rw [hzG]; exact hb68))
  rw [hzG] at HS9 HS10
  have HBa8 := Lib.hid (HBa6.out.below hb68 (by omega))
  have HBb8 := Lib.hid (HBb6.out.below hb68 (by omega))
  have HBn8 := Lib.hid (bn7.below hb78 (by omega))
  have HBat8 := Lib.hid (HBat6.out.below hb68 (by omega))
  have HLa8 := Lib.hid (lies_grown hgr8 bk7 ((HLa6.out.below hb67).more hz67))
  have HLb8 := Lib.hid (lies_grown hgr8 bk7 ((HLb6.out.below hb67).more hz67))
  have HB8 := Lib.hid (HB7.out.trans (hb78.mono (by omega)))
  obtain ⟨D, hD⟩ : ∃ D, D = differsS X Y nn := ⟨_, rfl⟩
  rw [← hD] at ho8
  obtain ⟨bo, hbo⟩ : ∃ bo, bo = bothN Y X := ⟨_, rfl⟩
  rw [← hbo, Nat.zero_add] at hk8
  have HS14 := Lib.hid (Sees.of_own ho8)
  have HAsk := Lib.hid hk8
  have HDB := Lib.hid (And.intro hD hbo)
  have hGz : G + 2 ≤ w8.heap.size := by omega
  have hKG : K + 2 ≤ G := by omega
  clear bn7 bk7 hb67 HD1 ho8 hgr8 hk8 hb78 hb68 hD hbo hW7 HBa6 HBb6 HBat6 HLa6 HLb6 HS56 HS6 k0 k1 k2 k3 c2 hnn
  go_wp2_with (fail)
  go_loop [15, 16] (fun c i => ∃ k cN : Nat, k ≤ na ∧ i = .int .i64 k ∧ c = .int .i64 cN ∧ cN ≤ k ∧ Hid (cN = bothN Y (X.take k))) (fun _ i => na - (intOf i).toNat)
  case atStart => exact ⟨0, 0, Nat.zero_le _, rfl, rfl, Nat.le_refl _, Lib.hid rfl⟩
  case round =>
    obtain ⟨k, cN, hk, rfl, rfl, hcN, HC⟩ := hrel
    have hnal : na ≤ 80 := by rw [hua.out.2.1]; exact hXl
    by_cases hlt : k < na
    · have hkX : k < X.length := by rw [← hua.out.2.1]; exact hlt
      have h1 := HS9.out
      rw [hua.out.2.1] at h1
      obtain ⟨b, off, cap', hv, hbl, hc1, hc1v⟩ := h1.pair k hkX
      rw [← hua.out.2.1] at hv
      injection hv with e1 _ e3
      subst e1
      subst e3
      have hbt := bothN_take Y X k hkX
      obtain ⟨x, hx⟩ : ∃ x, x = X[k].1 := ⟨_, rfl⟩
      rw [← hx] at hc1 hbt
      have hs2 := HS10.out
      rw [hub.out.2.1] at hs2
      have HGet := Lib.hid (rget_any Y x (.slice A10 Y.length c10) G w8 (by omega) hs2)
      rw [← hub.out.2.1] at HGet
      obtain ⟨⟨gv, gb⟩, hg⟩ : ∃ r, r = getS Y x := ⟨_, rfl⟩
      rw [← hg] at HGet hbt
      have HBT := Lib.hid hbt
      have x1 : (k : Int) < (na : Int) := by omega
      have x2 : (0 : Int) ≤ (k : Int) := by omega
      clear h1 hc1v hkX hbt hx hs2 hg
      go_wp2_with (fail)
      refine HGet.out.mono ?_
      rintro e w' ⟨rfl, rfl⟩
      cases gb with
      | true =>
        go_wp2_with (fail)
        go_round
        case rel => exact ⟨k + 1, cN + 1, by omega, by go_num, by go_num, by omega, Lib.hid (by have h := HBT.out; rw [h, ← HC.out]; simp)⟩
        case measure => simp [intOf]; omega
      | false =>
        go_wp2_with (fail)
        go_round
        case rel => exact ⟨k + 1, cN, by omega, by go_num, rfl, by omega, Lib.hid (by have h := HBT.out; rw [h, ← HC.out]; simp)⟩
        case measure => simp [intOf]; omega
    · have hcb : cN = bo := by rw [HC.out, List.take_of_length_le (by rw [← hua.out.2.1]; omega), ← HDB.out.2]
      subst hcb
      have x1 : ¬ (k : Int) < (na : Int) := by omega
      have g0 : w8.cell? ⟨K, 0, none⟩ = some (.pointer pa) := HBa8.out.cell 0
      have g1 : w8.cell? ⟨K, 1, none⟩ = some (.int .i64 na) := HBa8.out.cell 1
      have g2 : w8.cell? ⟨K + 1, 0, none⟩ = some (.pointer pb) := HBb8.out.cell 0
      have g3 : w8.cell? ⟨K + 1, 1, none⟩ = some (.int .i64 nb) := HBb8.out.cell 1
      have hK8 : K < w8.heap.size := by omega
      have hK18 : K + 1 < w8.heap.size := by omega
      have hnbl : nb ≤ 80 := by rw [hub.out.2.1]; exact hYl
      obtain ⟨WA, hWA⟩ : ∃ WA, WA = (w8.alloc (.cells #[.pointer pa, .int .i64 na, .pointer pb, .int .i64 nb] 26)).drew := ⟨_, rfl⟩
      have hbA : Below w8.heap.size w8 WA := by rw [hWA]; exact ((Below.refl _ w8).alloc (Nat.le_refl _) _).drew
      have hsA : Sees (w8.heap.size + 1) 2 WA (.slice (some ⟨w8.heap.size, 0, none⟩) 2 2) 2 (mapsV [(pa, na), (pb, nb)]) := by
        have h := (sees_new w8 2 2 #[.pointer pa, .int .i64 na, .pointer pb, .int .i64 nb] 26 rfl).below ((Below.refl (w8.heap.size + 1) _).drew)
        rw [← hWA] at h
        have e : mapsV [(pa, na), (pb, nb)] = #[Value.pointer pa, .int .i64 na, .pointer pb, .int .i64 nb].toList := rfl
        rw [e]
        simpa using h
      have hAz : w8.heap.size + 1 ≤ WA.heap.size := by rw [hWA]; simp
      have hmA : MapsOf [(pa, na), (pb, nb)] [X, Y] WA := by
        refine ⟨rfl, fun j q hj => ?_⟩
        match j, hj with
        | 0, hj => simp at hj; subst hj; exact ⟨X, ta, rfl, hua.out.1, hua.out.2.1, hua.out.2.2.1, (HLa8.out.below hbA).more hbA.size, HXK.out.1⟩
        | 1, hj => simp at hj; subst hj; exact ⟨Y, tb, rfl, hub.out.1, hub.out.2.1, hub.out.2.2.1, (HLb8.out.below hbA).more hbA.size, HXK.out.2⟩
        | j + 2, hj => simp at hj
      have HOv := Lib.hid (over_any B (w8.heap.size + 1) 2 [(pa, na), (pb, nb)] [X, Y] _ WA (by have := hbA.size; omega) (HT.out.on ((HB8.out.trans (hbA.mono (by omega))).mono hBH)) hAz rfl (by decide) hsA hmA (by intro M hM; simp at hM; rcases hM with rfl | rfl <;> omega))
      have he2 : overAll [X, Y] = overS X Y := by show overS (overS [] X) Y = _; rw [overS_nil X hua.out.2.2.1.2.2.1]
      have HBA := Lib.hid hbA
      have HD2 := Lib.hid (fun (t' : Tr) (p' : Option Addr) (mo : Nat) (w' : World) (hb : Below w8.heap.size w8 w') (hu : Hid (ptr t' = .pointer p' ∧ mo = (overAll [X, Y]).length ∧ MapOf t' (overAll [X, Y]) ∧ Lies w'.heap.size w' t')) =>
        differs2_any B na mo ta t' pa p' hua.out.1 hu.out.1 X (overAll [X, Y]) hua.out.2.1 hu.out.2.1 w' (by have := hb.size; omega) (HT.out.on ((HB8.out.trans (hb.mono (by omega))).mono hBH)) hua.out.2.2.1 ((HLa8.out.below hb).more hb.size) hu.out.2.2.1 hu.out.2.2.2 (by rw [hu.out.2.1, he2]; have := overS_len Y X; omega))
      rw [hWA] at HOv
      have HBA' := Lib.hid (hWA ▸ hbA)
      clear HC hbA hsA hmA hWA hAz
      go_wp2_with (fail)
      go_region_held3 (fun w' => w'.cell? ⟨K, 0, none⟩ = some (.pointer pa) ∧ w'.cell? ⟨K, 1, none⟩ = some (.int .i64 na) ∧ w'.cell? ⟨K + 1, 0, none⟩ = some (.pointer pb) ∧ w'.cell? ⟨K + 1, 1, none⟩ = some (.int .i64 nb)) (first | go_keep)
        (first
          | (go_at_call 26; (with_reducible refine HOv.out.mono ?_); rintro e w9 ⟨t9, p9, mo, rfl, hu9, hb9⟩; have hB9 : Below w8.heap.size w8 w9 := HBA'.out.trans (hb9.mono HBA'.out.size); have q0 := (hB9.cell (p := ⟨K, 0, none⟩) hK8).trans g0; have q1 := (hB9.cell (p := ⟨K, 1, none⟩) hK8).trans g1; have q2 := (hB9.cell (p := ⟨K + 1, 0, none⟩) hK18).trans g2; have q3 := (hB9.cell (p := ⟨K + 1, 1, none⟩) hK18).trans g3)
          | (go_at_call 30; (with_reducible refine (HD2.out t9 p9 mo w9 hB9 hu9).mono ?_); rintro e w10 ⟨r10, rfl, ho10, hb10⟩; have hB10 : Below w8.heap.size w8 w10 := hB9.trans (hb10.mono hB9.size); have s0 := (hB10.cell (p := ⟨K, 0, none⟩) hK8).trans g0; have s1 := (hB10.cell (p := ⟨K, 1, none⟩) hK8).trans g1; have s2 := (hB10.cell (p := ⟨K + 1, 0, none⟩) hK18).trans g2; have s3 := (hB10.cell (p := ⟨K + 1, 1, none⟩) hK18).trans g3))
      obtain ⟨D2, hD2⟩ : ∃ D2, D2 = (keysS (overS X (overS X Y))).filter fun key => !alike2S X (overS X Y) key := ⟨_, rfl⟩
      rw [he2, ← hD2] at ho10
      have hDl : D2.length ≤ 240 := by
        rw [hD2]
        have h1 := List.length_filter_le (fun key => !alike2S X (overS X Y) key) (keysS (overS X (overS X Y)))
        have h2 : (keysS (overS X (overS X Y))).length = (overS X (overS X Y)).length := by unfold keysS; rw [List.length_map]
        have h3 := overS_len (overS X Y) X
        have h4 := overS_len Y X
        omega
      have HLK := Lib.hid (fun k (hk : k ∈ D2) => laid_keys X Y hua.out.2.2.1.2.2.1 hub.out.2.2.1.2.2.1 k (by rw [← hD2]; exact hk))
      obtain ⟨nd, hnd⟩ : ∃ nd, nd = D2.length := ⟨_, rfl⟩
      rw [← hnd] at ho10
      have HS19 := Lib.hid (Sees.of_own ho10)
      have hndl : nd ≤ 240 := by omega
      have HND := Lib.hid hnd
      have hbG := hB10.mono (show G ≤ w8.heap.size by omega)
      have hz10 := hB10.size
      have HSX := Lib.hid (HS9.out.below hbG)
      have HSY := Lib.hid (HS10.out.below hbG)
      have HB10 := Lib.hid (HB8.out.trans (hB10.mono (by omega)))
      have HBa10 := Lib.hid (HBa8.out.below hB10 (by omega))
      have HBn10 := Lib.hid (HBn8.out.below hB10 (by omega))
      have HAsk10 := Lib.hid (HAsk.out.below hB10 (by omega))
      have HBat10 := Lib.hid (HBat8.out.below hB10 (by omega))
      have HLa10 := Lib.hid ((HLa8.out.below hB10).more hz10)
      have HS14' := Lib.hid ((HS14.out.below hB10).more hz10)
      obtain ⟨A19, c19, h19⟩ := HS19.out.form
      subst h19
      clear q0 q1 q2 q3 s0 s1 s2 s3 g0 g1 g2 g3 ho10 hb9 hb10 hB9 hB10 hbG hnd hDl hu9 HOv HD2 HBA HBA' HS9 HS10 HB8 HBa8 HBb8 HBn8 HAsk HBat8 HLa8 HLb8 HS14 hD2 he2
      go_wp2_with (fail)
      go_loop [20] (fun i => ∃ k : Nat, k ≤ nd ∧ i = .int .i64 k) (fun i => nd - (intOf i).toNat)
      case atStart => exact ⟨0, Nat.zero_le _, rfl⟩
      case round =>
        obtain ⟨r, hr, rfl⟩ := hrel
        by_cases hrt : r < nd
        · have hrD : r < D2.length := by rw [← HND.out]; exact hrt
          obtain ⟨_, A', cap', hv, hc⟩ := HS19.out
          obtain ⟨b, off, rfl, hb, hc⟩ := hc (by omega)
          injection hv with e1 _ e3
          subst e1
          subst e3
          have y0 := hc r (.int .i64 D2[r]) (by unfold intV; simp [hrD])
          have hlk := HLK.out D2[r] (List.getElem_mem hrD)
          obtain ⟨x, hx⟩ : ∃ x, x = D2[r] := ⟨_, rfl⟩
          rw [← hx] at y0 hlk
          have hs2 := HSY.out
          rw [hub.out.2.1] at hs2
          have HGet := Lib.hid (rget_any Y x (.slice A10 Y.length c10) G w10 (by omega) hs2)
          rw [← hub.out.2.1] at HGet
          obtain ⟨⟨gv, gb⟩, hg⟩ : ∃ r, r = getS Y x := ⟨_, rfl⟩
          rw [← hg] at HGet hlk
          obtain rfl : gb = true := hlk
          have x1 : (r : Int) < (nd : Int) := by omega
          have x2 : (0 : Int) ≤ (r : Int) := by omega
          clear hc hrD hx hs2 hg
          go_wp2_with (fail)
          refine HGet.out.mono ?_
          rintro e w' ⟨rfl, rfl⟩
          go_wp2_with (fail)
          go_round
          case rel => exact ⟨r + 1, by omega, by go_num⟩
          case measure => simp [intOf]; omega
        · have x1 : ¬ (r : Int) < (nd : Int) := by omega
          have HC6 := Lib.hid (fun (w' : World) (hb : Below w10.heap.size w10 w') => (show w'.cell? ⟨K, 0, none⟩ = some (.pointer pa) ∧ w'.cell? ⟨K, 1, none⟩ = some (.int .i64 na) ∧ w'.cell? ⟨H, 0, none⟩ = some (.int .i64 a0) ∧ w'.cell? ⟨H, 1, none⟩ = some (.int .i64 a1) ∧ w'.cell? ⟨G, 0, none⟩ = some (.int .i64 nn) ∧ w'.cell? ⟨G + 1, 0, none⟩ = some (.int .i64 cN) from
            ⟨(HBa10.out.below hb (by omega)).cell 0, (HBa10.out.below hb (by omega)).cell 1, (HBat10.out.below hb (by omega)).cell 0, (HBat10.out.below hb (by omega)).cell 1, (HBn10.out.below hb (by omega)).cell 0, (HAsk10.out.below hb (by omega)).cell 0⟩))
          have HDf := Lib.hid (fun (w' : World) (hb : Below w10.heap.size w10 w') => rdiffers_n na nb X Y nn (.slice A9 na c9) (.slice A10 nb c10) w' hua.out.2.1 hub.out.2.1 (by omega) (by omega) ((HSX.out.below (hb.mono (by omega))).more (by have := hb.size; omega)) ((HSY.out.below (hb.mono (by omega))).more (by have := hb.size; omega)))
          rw [← HDB.out.1] at HDf
          have hDlen : D.length ≤ 1048576 := by
            rw [HDB.out.1]
            unfold differsS
            have h1 := List.length_filter_le (diffK X Y nn) (keysS (overS X Y))
            have h2 : (keysS (overS X Y)).length = (overS X Y).length := by unfold keysS; rw [List.length_map]
            have h3 := overS_len Y X
            omega
          have HI1 := Lib.hid (fun (r : Value) (w' : World) (hb : Below w10.heap.size w10 w') (hs : Sees w'.heap.size 1 w' r D.length (intV D)) => ints_one D D.length w'.heap.size r14 r w' rfl hDlen ((HS14'.out.below hb).more hb.size) hs)
          have HBt := Lib.hid (fun (w' : World) (hb : Below w10.heap.size w10 w') => between_n na ta pa hua.out.1 X hua.out.2.1 a0 a1 w' hua.out.2.2.1 ((HLa10.out.below hb).more hb.size) (by omega))
          have HRb := Lib.hid (fun (w' : World) (hb : Below w10.heap.size w10 w') => rbetween_n na X a0 a1 (.slice A9 na c9) w' hua.out.2.1 (by omega) ((HSX.out.below (hb.mono (by omega))).more (by have := hb.size; omega)))
          obtain ⟨E, hE⟩ : ∃ E, E = keysS (betweenS X a0 a1) := ⟨_, rfl⟩
          have hEl : E.length ≤ 1048576 := by
            rw [hE]
            have h1 := betweenS_le X a0 a1
            have h2 : (keysS (betweenS X a0 a1)).length = (betweenS X a0 a1).length := by unfold keysS; rw [List.length_map]
            omega
          rw [← hE] at HBt HRb
          have HI2 := Lib.hid (fun (r r' : Value) (w' : World) (hs : Sees w'.heap.size 1 w' r E.length (intV E)) (hs' : Sees w'.heap.size 1 w' r' E.length (intV E)) => ints_one E E.length w'.heap.size r r' w' rfl hEl hs hs')
          obtain ⟨g0, g1, g2, g3, g4, g5⟩ := HC6.out w10 (Below.refl _ _)
          clear hE
          go_wp2_with (fail)
          go_region_held3 (fun w' => w'.cell? ⟨K, 0, none⟩ = some (.pointer pa) ∧ w'.cell? ⟨K, 1, none⟩ = some (.int .i64 na) ∧ w'.cell? ⟨H, 0, none⟩ = some (.int .i64 a0) ∧ w'.cell? ⟨H, 1, none⟩ = some (.int .i64 a1) ∧ w'.cell? ⟨G, 0, none⟩ = some (.int .i64 nn) ∧ w'.cell? ⟨G + 1, 0, none⟩ = some (.int .i64 cN)) (first | go_keep)
            (first
              | (go_at_call 33; (with_reducible refine (HDf.out _ (Below.refl _ w10).drew).mono ?_); rintro e w11 ⟨r11, rfl, hs11, hb11⟩; have hB11 : Below w10.heap.size w10 w11 := (Below.refl _ w10).drew.trans (hb11.mono (by simp)); obtain ⟨p0, p1, p2, p3, p4, p5⟩ := HC6.out w11 hB11)
              | (go_at_call 32; (with_reducible refine (HI1.out r11 w11 hB11 hs11).mono ?_); rintro e w12 ⟨rfl, hb12⟩; have hB12 : Below w10.heap.size w10 w12 := hB11.trans (hb12.mono hB11.size); obtain ⟨q0, q1, q2, q3, q4, q5⟩ := HC6.out w12 hB12)
              | (go_at_call 34; (with_reducible refine (HBt.out w12 hB12).mono ?_); rintro e w13 ⟨r13, rfl, hs13, hb13⟩; have hB13 : Below w10.heap.size w10 w13 := hB12.trans (hb13.mono hB12.size); obtain ⟨s0, s1, s2, s3, s4, s5⟩ := HC6.out w13 hB13)
              | (go_at_call 35; (with_reducible refine (HRb.out w13 hB13).mono ?_); rintro e w16 ⟨r16, rfl, hs16, hb16⟩; have hs13' := (hs13.below hb16).more hb16.size; have hB16 : Below w10.heap.size w10 w16 := hB13.trans (hb16.mono hB13.size); obtain ⟨t0, t1, t2, t3, t4, t5⟩ := HC6.out w16 hB16)
              | (go_at_call 32; (with_reducible refine (HI2.out r13 r16 w16 hs13' hs16).mono ?_); rintro e w15 ⟨rfl, hb15⟩; have hB15 : Below w10.heap.size w10 w15 := hB16.trans (hb15.mono hB16.size); obtain ⟨v0, v1, v2, v3, v4, v5⟩ := HC6.out w15 hB15))
          have hlast := HB10.out.trans (hB15.mono (show H ≤ w10.heap.size by omega))
          clear hs11 hb11 hB11 hb12 hB12 hs13 hb13 hB13 hs16 hb16 hs13' hB16 hb15 hB15 p0 p1 p2 p3 p4 p5 q0 q1 q2 q3 q4 q5 s0 s1 s2 s3 s4 s5 t0 t1 t2 t3 t4 t5 v0 v1 v2 v3 v4 v5
          go_wp2_with (fail)
          go_ret
          exact ⟨rfl, by rw [hHw]; exact hlast⟩
end Go.Proofs.YtjlbchkdiaomjaaDoor.trie

/- The head of layer 5's laws. -/
import Derived.Test.YtjlbchkdiaomjaaDoorOverLay
import Derived.Test.YtjlbchkdiaomjaaDoorOverMade
import Derived.Test.YtjlbchkdiaomjaaDoorOverBetween
namespace Go.Proofs.YtjlbchkdiaomjaaDoor.trie
open Go.RowKit Go.Shelf mem tri mix

/-- a law's answer -/
def LawHolds (w : World) (e : Ending) (w' : World) : Prop := e = .returned (.bool true) ∧ Below w.heap.size w w'
theorem made_at (B C n : Nat) (L : List (Int × Int)) (v : Value) (w : World) (hB : B ≤ w.heap.size) (hT : Laid B w) (hC : C ≤ w.heap.size) (hn : n = L.length) (hs : Sees C 2 w v n (pairV L)) (hl : L.length ≤ 1048576) (hk : ∀ p ∈ L, I64 p.1) :
    Calls Tryd.prog 23 #[v] w (LaidPost (ofS L) w) := by
  subst hn
  refine (made_any B C L v w hB hT hC hs hl hk).mono ?_
  rintro e w' ⟨t, rfl, hm, hb⟩
  obtain ⟨p, hp⟩ := ptr_is t
  refine ⟨t, p, _, by unfold mapV; rw [hp], ⟨hp, rfl, hm.1, hm.2⟩, hb⟩
theorem sees_new (w : World) (size n : Nat) (cs : Array Value) (t : TypeId) (h : cs.size = n * size) : Sees (w.heap.size + 1) size (w.alloc (.cells cs t)) (.slice (some ⟨w.heap.size, 0, none⟩) n n) n cs.toList := by
  refine ⟨by simpa using h, _, n, rfl, fun _ => ⟨w.heap.size, 0, rfl, Nat.lt_succ_self _, fun j u hu => ?_⟩⟩
  rw [Nat.zero_add, cell_new w _ rfl]
  simpa using hu
set_option maxHeartbeats 4000000 in
set_option maxRecDepth 100000 in
theorem works5_any (B : Nat) (w : World) (hB : B ≤ w.heap.size) (hT : Laid B w) :
    Calls Tryd.prog 22 #[] w fun e w' => e = .returned (.bool true) ∧ Below w.heap.size w w' := by
  have HT := Lib.hid hT
  clear hT
  go_enter Tryd.func22, Tryd.ntmps22
  go_wp2_with (fail)
  have hb0 : Below w.heap.size w (w.alloc (.cells #[.int .i64 1, .int .i64 7, .int .i64 2, .int .i64 8] 40)) := (Below.refl _ w).alloc (Nat.le_refl _) _
  refine (made_at B (w.heap.size + 1) 2 [(1, 7), (2, 8)] _ _ (by simp; omega) (HT.out.on (hb0.mono hB)) (by simp) rfl (sees_new w 2 2 #[.int .i64 1, .int .i64 7, .int .i64 2, .int .i64 8] _ rfl) (by decide) (by intro p hp; simp at hp; rcases hp with rfl | rfl <;> (unfold I64; omega))).mono ?_
  rintro e w1 ⟨t1, p1, m1, rfl, hu1, hb1⟩
  obtain rfl : m1 = 2 := hu1.out.2.1
  have hbw1 := hb0.trans (hb1.mono (by simp))
  have hz1 : w.heap.size < w1.heap.size := by have := hb1.size; simp at this; omega
  have HBW1 := Lib.hid hbw1
  clear hb0 hb1 hbw1
  go_wp2_with (fail)
  have hb0 : Below w1.heap.size w1 (w1.alloc (.cells #[.int .i64 2, .int .i64 9] 40)) := (Below.refl _ w1).alloc (Nat.le_refl _) _
  refine (made_at B (w1.heap.size + 1) 1 [(2, 9)] _ _ (by simp; omega) (HT.out.on ((HBW1.out.trans (hb0.mono (by omega))).mono hB)) (by simp) rfl (sees_new w1 2 1 #[.int .i64 2, .int .i64 9] _ rfl) (by decide) (by intro p hp; simp at hp; subst hp; unfold I64; omega)).mono ?_
  rintro e w2 ⟨t2, p2, m2, rfl, hu2, hb2⟩
  obtain rfl : m2 = 1 := hu2.out.2.1
  have h12 := hb0.trans (hb2.mono (by simp))
  have hz2 : w1.heap.size < w2.heap.size := by have := hb2.size; simp at this; omega
  have HBW2 := Lib.hid (HBW1.out.trans (h12.mono (by omega)))
  have HL1 := Lib.hid ((hu1.out.2.2.2.below h12).more (by omega : w1.heap.size ≤ w2.heap.size))
  clear hb0 hb2 h12
  go_wp2_with (fail)
  obtain ⟨K, hK⟩ : ∃ K, K = w2.heap.size := ⟨_, rfl⟩
  obtain ⟨W, hW⟩ : ∃ W, W = (((w2.alloc (.cells #[.pointer p1, .int .i64 2] 26)).alloc (.cells #[.pointer p2, .int .i64 1] 26)).alloc (.cells #[.pointer p1, .int .i64 2, .pointer p2, .int .i64 1] 26)) := ⟨_, rfl⟩
  have hbW : Below w2.heap.size w2 W := by rw [hW]; exact (((Below.refl _ w2).alloc (Nat.le_refl _) _).alloc (by simp) _).alloc (by simp; omega) _
  have hWz : W.heap.size = K + 3 := by rw [hW, hK]; simp
  have hsW : Sees (K + 3) 2 W (.slice (some ⟨K + 2, 0, none⟩) 2 2) 2 (mapsV [(p1, 2), (p2, 1)]) := by
    have h := sees_new ((w2.alloc (.cells #[.pointer p1, .int .i64 2] 26)).alloc (.cells #[.pointer p2, .int .i64 1] 26)) 2 2 #[.pointer p1, .int .i64 2, .pointer p2, .int .i64 1] 26 rfl
    rw [← hW, World.size_alloc, World.size_alloc, ← hK] at h
    exact h
  have hmW : MapsOf [(p1, 2), (p2, 1)] [ofS [(1, 7), (2, 8)], ofS [(2, 9)]] W := by
    refine ⟨rfl, fun j q hj => ?_⟩
    match j, hj with
    | 0, hj => simp at hj; subst hj; exact ⟨_, t1, rfl, hu1.out.1, rfl, hu1.out.2.2.1, (HL1.out.below hbW).more hbW.size, by intro x hx; simp [ofS, putS, putR] at hx; rcases hx with rfl | rfl <;> (unfold I64; omega)⟩
    | 1, hj => simp at hj; subst hj; exact ⟨_, t2, rfl, hu2.out.1, rfl, hu2.out.2.2.1, (hu2.out.2.2.2.below hbW).more hbW.size, by intro x hx; simp [ofS, putS, putR] at hx; subst hx; unfold I64; omega⟩
    | j + 2, hj => simp at hj
  have e0 : K + 1 + 1 = K + 2 := rfl
  rw [← hW, ← hK, e0]
  have HWZ := Lib.hid hWz
  have hKW : w.heap.size ≤ K := by omega
  have HBW := Lib.hid (HBW2.out.trans (hbW.mono (by omega)))
  clear hW e0 hWz hbW
  refine (over_any B (K + 3) 2 _ _ _ W (by have := HWZ.out; omega) (HT.out.on (HBW.out.mono hB)) (by rw [HWZ.out]; exact Nat.le_refl _) rfl (by decide) hsW hmW (by intro L hL; simp [ofS, putS, putR] at hL; rcases hL with rfl | rfl <;> decide)).mono ?_
  rintro e w3 ⟨t3, p3, m3, rfl, hu3, hb3⟩
  have hov : overAll [ofS [(1, 7), (2, 8)], ofS [(2, 9)]] = [(1, 7), (2, 9)] := by decide
  rw [hov] at hu3
  obtain rfl : m3 = 2 := hu3.out.2.1
  have hz3 := hb3.size
  have HBW3 := Lib.hid (HBW.out.trans (hb3.mono (by have := HWZ.out; omega)))
  clear hb3 hsW hmW hov hK
  go_wp2_with (fail)
  have hbA : Below w3.heap.size w3 (w3.alloc (.cells #[.pointer p3, .int .i64 2] 26)) := (Below.refl _ w3).alloc (Nat.le_refl _) _
  have bA := Box.new w3 26 #[.pointer p3, .int .i64 2] w3.heap.size rfl
  have hw3 : w.heap.size ≤ w3.heap.size := HBW3.out.size
  refine (mget_at B 2 t3 p3 hu3.out.1 [(1, 7), (2, 9)] 2 _ (by simp; omega) (HT.out.on ((HBW3.out.trans (hbA.mono hw3)).mono hB)) hu3.out.2.2.1 ((hu3.out.2.2.2.below hbA).more (by simp)) 9 true rfl).mono ?_
  rintro e w4 ⟨rfl, hb4⟩
  have h34 := hbA.trans (hb4.mono (by simp))
  have bA4 := bA.below hb4 (by simp)
  have hz4 : w3.heap.size < w4.heap.size := by have := hb4.size; simp at this; omega
  have a0 : w4.cell? ⟨w3.heap.size, 0, none⟩ = some (.pointer p3) := bA4.cell 0
  have a1 : w4.cell? ⟨w3.heap.size, 1, none⟩ = some (.int .i64 2) := bA4.cell 1
  have BA4 := Lib.hid bA4
  have HL4 := Lib.hid ((hu3.out.2.2.2.below h34).more (by omega : w3.heap.size ≤ w4.heap.size))
  have HBW4 := Lib.hid (HBW3.out.trans (h34.mono hw3))
  clear hbA bA hb4 h34 bA4
  go_wp2_with (fail)
  refine (len_at 2 t3 p3 hu3.out.1 w4).mono ?_
  rintro e w5 ⟨rfl, hb5⟩
  have hz5 := hb5.size
  have bA5 := BA4.out.below hb5 (by omega)
  have c0 : w5.cell? ⟨w3.heap.size, 0, none⟩ = some (.pointer p3) := bA5.cell 0
  have c1 : w5.cell? ⟨w3.heap.size, 1, none⟩ = some (.int .i64 2) := bA5.cell 1
  have HL5 := Lib.hid ((HL4.out.below hb5).more hz5)
  have HBW5 := Lib.hid (HBW4.out.trans (hb5.mono (by omega)))
  clear hb5 bA5 a0 a1
  go_wp2_with (fail)
  refine (between_any 2 t3 p3 hu3.out.1 [(1, 7), (2, 9)] rfl 2 9 w5 hu3.out.2.2.1 HL5.out (by decide)).mono ?_
  rintro e w6 ⟨r, rfl, hg6⟩
  have hz6 := hg6.2.size
  have hsr : Sees w6.heap.size 1 w6 r 1 (keyV [(2, 9)]) := Sees.of_own hg6.1
  have HBW6 := Lib.hid (HBW5.out.trans (hg6.2.mono (by omega)))
  have HSR := Lib.hid hsr
  clear c0 c1 hg6 hsr
  go_wp2_with (fail)
  have hbC : Below w6.heap.size w6 (w6.alloc (.cells #[.int .i64 2] 3)) := (Below.refl _ w6).alloc (Nat.le_refl _) _
  refine (ints_same [(2, 9)] 1 (w6.heap.size + 1) r _ _ rfl (by decide) ((HSR.out.below hbC).more (by simp)) (sees_new w6 1 1 #[.int .i64 2] _ rfl)).mono ?_
  rintro e w7 ⟨rfl, hb7⟩
  have hlast := HBW6.out.trans ((hbC.trans (hb7.mono (by simp))).mono (by omega))
  clear hb7 hbC
  go_wp2_with (fail)
  go_ret
  exact ⟨rfl, hlast⟩
end Go.Proofs.YtjlbchkdiaomjaaDoor.trie

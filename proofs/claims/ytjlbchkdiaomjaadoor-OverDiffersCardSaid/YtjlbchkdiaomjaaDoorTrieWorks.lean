/- The head of each statement of layer 4 holds. -/
import Derived.Test.YtjlbchkdiaomjaaDoorTrieLike
namespace Go.Proofs.YtjlbchkdiaomjaaDoor.trie
open Go.RowKit mem tri mix

theorem mget_at (B n : Nat) (t : Tr) (p : Option Addr) (hp : ptr t = .pointer p) (l : List (Int × Int)) (key : Int) (w : World) (hB : B ≤ w.heap.size) (hT : Laid B w) (hm : MapOf t l) (hL : Lies w.heap.size w t) (x : Int) (b : Bool) (hg : getS l key = (x, b)) :
    Calls Tryd.prog 13 #[.agg #[.pointer p, .int .i64 n], .int .i64 key] w fun e w' => e = .returned (.tuple #[.int .i64 x, .bool b]) ∧ Below w.heap.size w w' := by
  have h := mget_any B n t l key w hB hT hm hL
  unfold mapV at h
  rw [hp, hg] at h; exact h
theorem nodes_at (n : Nat) (t : Tr) (p : Option Addr) (hp : ptr t = .pointer p) (w : World) (ho : Ok t 0 0) (hL : Lies w.heap.size w t) :
    Calls Tryd.prog 17 #[.agg #[.pointer p, .int .i64 n]] w fun e w' => e = .returned (.int .i64 (sh t t : Nat)) ∧ Below w.heap.size w w' := by
  have h := nodes_any t n w ho hL
  unfold mapV at h
  rw [hp] at h; exact h
theorem keys_at (n : Nat) (t : Tr) (p : Option Addr) (hp : ptr t = .pointer p) (l : List (Int × Int)) (hn : n = l.length) (w : World) (hm : MapOf t l) (hL : Lies w.heap.size w t) (hl : l.length ≤ 1048576) :
    Calls Tryd.prog 18 #[.agg #[.pointer p, .int .i64 n]] w fun e w' => ∃ r, e = .returned r ∧ Got w.heap.size 3 1 n (keyV l) r w w' := by
  subst hn
  have h := keys_any t l w hm hL hl
  unfold mapV at h
  rw [hp] at h; exact h
/-- what Put tells, where the two lists are known -/
theorem mput_at (B n m : Nat) (t : Tr) (p : Option Addr) (hp : ptr t = .pointer p) (l l' : List (Int × Int)) (hn : n = l.length) (k v : Int) (w : World) (hB : B ≤ w.heap.size) (hT : Laid B w) (hk : I64 k) (hm : MapOf t l) (hL : Lies w.heap.size w t) (hl : l.length ≤ 1048576) (he : putS l k v = l') (hn' : m = l'.length) :
    Calls Tryd.prog 38 #[.agg #[.pointer p, .int .i64 n], .int .i64 k, .int .i64 v] w fun e w' => ∃ u q, e = .returned (.agg #[.pointer q, .int .i64 m]) ∧ Hid (ptr u = .pointer q ∧ MapOf u l' ∧ Lies w'.heap.size w' u ∧ sh u u ≤ sh t u + 16) ∧ Below w.heap.size w w' := by
  subst hn
  subst he
  subst hn'
  have h := mput_any B t l k v w hB hT hk hm hL hl
  unfold mapV at h
  rw [hp] at h
  refine h.mono ?_
  rintro e w' ⟨u, rfl, h1, h2, h3, h4⟩
  obtain ⟨q, hq⟩ := ptr_is u
  exact ⟨u, q, by unfold mapV; rw [hq], ⟨hq, h1, h2, h4⟩, h3⟩
theorem kid_nodes {t : Tr} {l : List (Int × Int)} (hm : MapOf t l) (h : l ≠ []) : 1 ≤ sh t t := by
  rcases hm.1 with ⟨_, h2⟩ | ⟨⟨b, a, h1⟩, _⟩
  · exact absurd h2 h
  · rw [h1, sh_kid, if_pos rfl]; omega
set_option maxHeartbeats 4000000 in
set_option maxRecDepth 100000 in
theorem works_any (B : Nat) (w : World) (hB : B ≤ w.heap.size) (hT : Laid B w) :
    Calls Tryd.prog 9 #[] w fun e w' => e = .returned (.bool true) ∧ Below w.heap.size w w' := by
  have HT := Lib.hid hT
  obtain ⟨H, hH⟩ : ∃ H, H = w.heap.size := ⟨_, rfl⟩
  have HH := Lib.hid hH
  clear hT hH
  go_enter Tryd.func9, Tryd.ntmps9
  go_wp2_with (fail)
  have hb0 : Below w.heap.size w (w.alloc (.cells #[.int .i64 1, .int .i64 7, .int .i64 5, .int .i64 9] 50)) := (Below.refl _ w).alloc (Nat.le_refl _) _
  have hs : Sees (w.heap.size + 1) 2 (w.alloc (.cells #[.int .i64 1, .int .i64 7, .int .i64 5, .int .i64 9] 50)) (.slice (some ⟨w.heap.size, 0, none⟩) 2 2) 2 (pairV [(1, 7), (5, 9)]) := by
    refine ⟨rfl, _, 2, rfl, fun _ => ⟨w.heap.size, 0, rfl, Nat.lt_succ_self _, fun j u hu => ?_⟩⟩
    rw [Nat.zero_add, cell_new w _ rfl]
    match j, hu with
    | 0, hu => exact hu
    | 1, hu => exact hu
    | 2, hu => exact hu
    | 3, hu => exact hu
    | j + 4, hu => simp [pairV] at hu
  refine (of_any B (w.heap.size + 1) [(1, 7), (5, 9)] _ _ (by simp; omega) (HT.out.on (hb0.mono hB)) (by simp) hs (by decide) (by intro p hp; simp at hp; rcases hp with rfl | rfl <;> (unfold I64; omega))).mono ?_
  rintro e w1 ⟨t, rfl, hmi, hb1⟩
  obtain ⟨p, hp⟩ := ptr_is t
  rw [show ofS [(1, 7), (5, 9)] = [(1, 7), (5, 9)] by decide] at hmi ⊢
  unfold mapV
  rw [hp]
  have HMI := Lib.hid hmi
  have HP := Lib.hid hp
  have hbw1 := hb0.trans (hb1.mono (by simp))
  have hz1 : w.heap.size < w1.heap.size := by have := hb1.size; simp at this; omega
  clear hmi hp hb0 hb1 hs
  go_wp2_with (fail)
  have hbA : Below w.heap.size w (w1.alloc (.cells #[.pointer p, .int .i64 2] 26)) := hbw1.alloc (by omega) _
  have bA := Box.new w1 26 #[.pointer p, .int .i64 2] w1.heap.size rfl
  refine (mput_at B 2 2 t p HP.out [(1, 7), (5, 9)] [(1, 8), (5, 9)] rfl 1 8 _ (by simp; omega) (HT.out.on (hbA.mono hB)) (by unfold I64; omega) HMI.out.1 ((HMI.out.2.below ((Below.refl _ w1).alloc (Nat.le_refl _) _)).more (by simp)) (by decide) (by decide) rfl).mono ?_
  rintro e w2 ⟨u, q, rfl, HU, hb2⟩
  have hbw2 := hbA.trans (hb2.mono (by simp; omega))
  have hz2 : w1.heap.size < w2.heap.size := by have := hb2.size; simp at this; omega
  have bA2 := bA.below hb2 (by simp)
  have hLA2 : Hid (Lies w2.heap.size w2 t) := (HMI.out.2.below (((Below.refl _ w1).alloc (Nat.le_refl _) _).trans (hb2.mono (by simp)))).more (by omega)
  have a0 : w2.cell? ⟨w1.heap.size, 0, none⟩ = some (.pointer p) := bA2.cell 0
  have a1 : w2.cell? ⟨w1.heap.size, 1, none⟩ = some (.int .i64 2) := bA2.cell 1
  have BA2 := Lib.hid bA2
  clear bA bA2 hbA hb2 hbw1
  go_wp2_with (fail)
  have hbB : Below w2.heap.size w2 (w2.alloc (.cells #[.pointer q, .int .i64 2] 26)) := (Below.refl _ w2).alloc (Nat.le_refl _) _
  have bB := Box.new w2 26 #[.pointer q, .int .i64 2] w2.heap.size rfl
  refine (mget_at B 2 t p HP.out [(1, 7), (5, 9)] 1 _ (by simp; omega) (HT.out.on ((hbw2.trans (hbB.mono (by omega))).mono hB)) HMI.out.1 ((hLA2.out.below hbB).more (by simp)) 7 true rfl).mono ?_
  rintro e w3 ⟨rfl, hb3⟩
  have h23 := hbB.trans (hb3.mono (by simp))
  have bB3 := bB.below hb3 (by simp)
  have BB3 := Lib.hid bB3
  have BA3 := Lib.hid (BA2.out.below h23 hz2)
  have hz3 : w2.heap.size < w3.heap.size := by have := hb3.size; simp at this; omega
  have c0 : w3.cell? ⟨w2.heap.size, 0, none⟩ = some (.pointer q) := bB3.cell 0
  have c1 : w3.cell? ⟨w2.heap.size, 1, none⟩ = some (.int .i64 2) := bB3.cell 1
  have HB23 := Lib.hid h23
  have hbw3 := hbw2.trans (h23.mono (by omega))
  clear bB bB3 hbB hb3 h23 a0 a1
  go_wp2_with (fail)
  refine (mget_at B 2 u q HU.out.1 [(1, 8), (5, 9)] 1 w3 (by omega) (HT.out.on (hbw3.mono hB)) HU.out.2.1 ((HU.out.2.2.1.below HB23.out).more (by omega)) 8 true rfl).mono ?_
  rintro e w4 ⟨rfl, hb4⟩
  have hz4 := hb4.size
  have a0 : w4.cell? ⟨w1.heap.size, 0, none⟩ = some (.pointer p) := (BA3.out.below hb4 (by omega)).cell 0
  have a1 : w4.cell? ⟨w1.heap.size, 1, none⟩ = some (.int .i64 2) := (BA3.out.below hb4 (by omega)).cell 1
  have HB4 := Lib.hid hb4
  clear c0 c1 hb4
  go_wp2_with (fail)
  refine (len_at 2 t p HP.out w4).mono ?_
  rintro e w5 ⟨rfl, hb5⟩
  have hz5 := hb5.size
  have h35 := HB4.out.trans (hb5.mono hz4)
  have c0 : w5.cell? ⟨w2.heap.size, 0, none⟩ = some (.pointer q) := (BB3.out.below h35 hz3).cell 0
  have c1 : w5.cell? ⟨w2.heap.size, 1, none⟩ = some (.int .i64 2) := (BB3.out.below h35 hz3).cell 1
  have H35 := Lib.hid h35
  clear a0 a1 hb5 h35
  go_wp2_with (fail)
  refine (keys_at 2 u q HU.out.1 [(1, 8), (5, 9)] rfl w5 HU.out.2.1 ((HU.out.2.2.1.below (HB23.out.trans (H35.out.mono (by omega)))).more (by omega)) (by decide)).mono ?_
  rintro e w6 ⟨r, rfl, hg6⟩
  have hz6 := hg6.2.size
  have hsr := Sees.of_own hg6.1
  have HG6 := Lib.hid hg6.2
  have HSR := Lib.hid hsr
  clear c0 c1 hg6 hsr
  go_wp2_with (fail)
  have hbC : Below w6.heap.size w6 (w6.alloc (.cells #[.int .i64 1, .int .i64 5] 3)) := (Below.refl _ w6).alloc (Nat.le_refl _) _
  refine (ints_same [(1, 8), (5, 9)] 2 (w6.heap.size + 1) r _ _ rfl (by decide) ((HSR.out.below hbC).more (by simp)) ⟨rfl, _, 2, rfl, fun _ => ⟨w6.heap.size, 0, rfl, Nat.lt_succ_self _, fun j x hx => by
    rw [Nat.zero_add, cell_new w6 _ rfl]
    match j, hx with
    | 0, hx => exact hx
    | 1, hx => exact hx
    | j + 2, hx => simp [keyV] at hx⟩⟩).mono ?_
  rintro e w7 ⟨rfl, hb7⟩
  have h57 := HG6.out.trans ((hbC.trans (hb7.mono (by simp))).mono hz6)
  have hz7 := h57.size
  have h37 := H35.out.trans (h57.mono (by omega))
  have c0 : w7.cell? ⟨w2.heap.size, 0, none⟩ = some (.pointer q) := (BB3.out.below h37 hz3).cell 0
  have c1 : w7.cell? ⟨w2.heap.size, 1, none⟩ = some (.int .i64 2) := (BB3.out.below h37 hz3).cell 1
  have H37 := Lib.hid h37
  have hpos := kid_nodes HU.out.2.1 (by simp)
  obtain ⟨z, hz⟩ : ∃ z, z = sh u u := ⟨_, rfl⟩
  have HN := Lib.hid (nodes_at 2 u q HU.out.1 w7 HU.out.2.1.2.1 ((HU.out.2.2.1.below (HB23.out.trans (H37.out.mono (by omega)))).more (by have := H37.out.size; omega)))
  rw [← hz] at HN hpos
  have hpz : decide ((z : Int) > 0) = true := by simp; omega
  clear hz hb7 hbC h57 h37
  go_wp2_with (fail)
  refine HN.out.mono ?_
  rintro e w8 ⟨rfl, hb8⟩
  have hlast := hbw3.trans ((H37.out.mono (by omega)).trans (hb8.mono (by have := H37.out.size; omega)))
  clear c0 c1 hb8
  go_wp2_with (fail)
  go_ret
  refine ⟨?_, hlast⟩
  show Ending.returned (Value.bool (decide (0 < z))) = _
  rw [decide_eq_true (show 0 < z from hpos)]
end Go.Proofs.YtjlbchkdiaomjaaDoor.trie

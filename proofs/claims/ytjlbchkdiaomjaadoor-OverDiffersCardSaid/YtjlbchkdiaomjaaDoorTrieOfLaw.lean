/- The law on a map of any pairs, and a walk that is broken off. -/
import Derived.Test.YtjlbchkdiaomjaaDoorTrieWorks
import Derived.Deep.AppendLies
namespace Go.Proofs.YtjlbchkdiaomjaaDoor.trie
open Go.RowKit Go.Shelf mem tri mix

attribute [local go_sem] Oper.semAt_some

def OfLaw (w : World) (e : Ending) (w' : World) : Prop := e = .returned (.bool true) ∧ Below w.heap.size w w'
set_option maxHeartbeats 2000000 in
set_option maxRecDepth 100000 in
theorem of_long (B n s : Nat) (A : Option Addr) (cap : Nat) (w : World) (hB : B ≤ w.heap.size) (hT : Laid B w) (hn : 150 < n) :
    Calls Tryd.prog 5 #[.slice A n cap, .int .u8 s] w (OfLaw w) := by
  have HT := Lib.hid hT
  clear hT
  have hf : Fence.wide.fn 5 := trivial
  refine (callsIn_wide (n := 9)).1 ?_
  refine callsIn_of_wp_marks Tryd.func5 rfl hf ?_ rfl
  simp only [Tryd.ntmps5, List.size_toArray, List.length_cons, List.length_nil, Nat.reduceAdd, Nat.reduceSub, Array.replicate_succ, Array.replicate_zero, List.push_toArray, List.append_toArray, List.nil_append, List.cons_append]
  refine wpIn_wide.2 ?_
  go_wp2_with (fail)
  have hb0 : Below w.heap.size w ((w.alloc (.cells #[.int .u8 s] 5)).alloc (.cells #[.bool false] 4)) := ((Below.refl _ w).alloc (Nat.le_refl _) _).alloc (by simp) _
  have hbx := Box.new (w.alloc (.cells #[.int .u8 s] 5)) 4 #[.bool false] (w.heap.size + 1) (by simp)
  refine (works_any B _ (by simp; omega) (HT.out.on (hb0.mono hB))).mono ?_
  rintro e w1 ⟨rfl, hb1⟩
  have hz1 := hb1.size
  simp only [World.size_alloc] at hz1
  have hbw1 := hb0.trans (hb1.mono (by simp; omega))
  have hbx1 := hbx.below hb1 (by simp)
  clear hb0 hb1 hbx
  go_wp2_with (fail)
  refine (works_any B w1 (by omega) (HT.out.on (hbw1.mono hB))).mono ?_
  rintro e w2 ⟨rfl, hb2⟩
  have hbx2 := hbx1.below hb2 (by omega)
  have r0 : w2.cell? ⟨w.heap.size + 1, 0, none⟩ = some (.bool false) := hbx2.cell 0
  have rf := hbx2.frozen 0
  have hlast := (hbw1.trans (hb2.mono (by omega))).setCell (p := ⟨w.heap.size + 1, 0, none⟩) (by dsimp only; omega) (.bool true)
  clear hbx1 hbx2 hbw1 hb2
  go_wp2_with (fail)
  have rc : (w2.setCell ⟨w.heap.size + 1, 0, none⟩ (.bool true)).cell? ⟨w.heap.size + 1, 0, none⟩ = some (.bool true) := World.cell?_setCell_same' _ _ _ (by rw [r0]; rfl)
  exact ⟨.bool true, by simp [results, Tryd.results5, go_sem, rc], rfl, hlast⟩
theorem own_apart {w : World} {b1 b2 s1 s2 n m : Nat} {e1 e2 : TypeId} {v u : Value} {xs ys : List Value} (h1 : w.ownsRow b1 e1 s1 v n xs) (h2 : w.ownsRow b2 e2 s2 u m ys) (hne : e1 ≠ e2) : v.ownBlock = none ∨ v.ownBlock ≠ u.ownBlock := by
  rcases h1.2 with ⟨rfl, _⟩ | ⟨g, c, cur, rfl, _, hg, _⟩
  · exact .inl rfl
  · refine .inr ?_
    rcases h2.2 with ⟨rfl, _⟩ | ⟨g2, c2, cur2, rfl, _, hg2, _⟩
    · simp [Value.ownBlock]
    · intro e
      have : g = g2 := by simpa [Value.ownBlock] using e
      subst this
      rw [hg] at hg2; injection hg2 with hg2; injection hg2 with _ he; exact hne he
theorem box_apart {w : World} {g base size n : Nat} {t e : TypeId} {cs : Array Value} {v : Value} {xs : List Value} (hb : Box w g t cs) (h : w.ownsRow base e size v n xs) (hne : t ≠ e) : some g ≠ v.ownBlock := by
  rcases h.2 with ⟨rfl, _⟩ | ⟨g2, c2, cur2, rfl, _, hg2, _⟩
  · simp [Value.ownBlock]
  · intro e'
    have : g = g2 := by simpa [Value.ownBlock] using e'
    subst this
    unfold Box at hb
    rw [hb] at hg2; injection hg2 with hg2; injection hg2 with _ he; exact hne he
theorem own_below {w w' : World} {base size n : Nat} {e : TypeId} {v : Value} {xs : List Value} (h : w.ownsRow base e size v n xs) (hb : Below w.heap.size w w') : w'.ownsRow base e size v n xs := by
  refine h.kept (grown_none hb) ?_
  cases hv : v.ownBlock with
  | none => exact .inl rfl
  | some g => exact .inr (by simp)
theorem own_set {w : World} {g base size n : Nat} {t e : TypeId} {cs : Array Value} {v : Value} {xs : List Value} (h : w.ownsRow base e size v n xs) (hb : Box w g t cs) (hne : t ≠ e) (x : Value) : (w.setCell ⟨g, 0, none⟩ x).ownsRow base e size v n xs :=
  h.kept (grownBy_setCell' w g x) (.inr (box_apart hb h hne).symm)
theorem like_at (B C n : Nat) (t : Tr) (p : Option Addr) (hp : ptr t = .pointer p) (L : List (Int × Int)) (hn : n = L.length) (v : Value) (w : World) (hB : B ≤ w.heap.size) (hT : Laid B w) (hm : MapOf t L) (hL : Lies w.heap.size w t) (hl : L.length ≤ 1048576) (hC : C ≤ w.heap.size) (hs : Sees C 2 w v n (pairV L)) :
    Calls Tryd.prog 12 #[.agg #[.pointer p, .int .i64 n], v] w fun e w' => e = .returned (.int .i64 1) ∧ Below w.heap.size w w' := by
  subst hn
  have h := like_any B C t L v w hB hT hm hL hl hC hs
  unfold mapV LikePost at h
  rw [hp] at h; exact h
theorem no_take2 {pre L : List (Int × Int)} {x : Int × Int} (hlt : pre.length < L.length) (hne : x.1 ≠ L[pre.length].1) : ∀ k, pre ++ [x] ≠ L.take k := by
  intro k hk
  have h1 : (pre ++ [x])[pre.length]? = some x := by simp
  rw [hk, List.getElem?_take] at h1
  split at h1
  · rw [List.getElem?_eq_getElem hlt] at h1
    injection h1 with h1
    exact hne (by rw [h1])
  · cases h1
theorem keys_on {pre L : List (Int × Int)} {x : Int × Int} (hlt : pre.length < L.length) (hpre : pre.map (fun q => q.1) = (L.take pre.length).map (fun q => q.1)) (he : x.1 = L[pre.length].1) :
    (pre ++ [x]).map (fun q => q.1) = (L.take (pre ++ [x]).length).map (fun q => q.1) := by
  rw [List.length_append, List.length_singleton, List.take_succ_eq_append_getElem hlt, List.map_append, List.map_append, hpre]
  simp [he]
/-- the loop: the pairs that were laid for Of, and the list that is wanted -/
def LawRel (K n : Nat) (L : List (Int × Int)) (w0 : World) (o i : Value) (wr : World) : Prop :=
  ∃ (k m : Nat) (v : Value), k ≤ n ∧ m ≤ k ∧ i = .int .i64 k ∧ Hid (m = (ofS (L.take k)).length ∧ Up (ofS (L.take k))) ∧ wr.ownsRow K 50 2 o k (pairV (L.take k)) ∧
    wr.ownsRow K 40 2 v m (pairV (ofS (L.take k))) ∧ Box wr K 28 #[v] ∧ Below K w0 wr
set_option maxHeartbeats 4000000 in
set_option maxRecDepth 100000 in
theorem of_law (B C n s : Nat) (L : List (Int × Int)) (v : Value) (w : World) (hB : B ≤ w.heap.size) (hT : Laid B w) (hC : C ≤ w.heap.size) (hn : n = L.length) (hn2 : n ≤ 150) (hs : s ≤ 255) (hsee : Sees C 2 w v n (pairV L)) (hkeys : ∀ p ∈ L, I64 p.1) :
    Calls Tryd.prog 5 #[v, .int .u8 s] w (OfLaw w) := by
  obtain ⟨A, cap, rfl⟩ := hsee.form
  obtain ⟨i0, hi, hz0, hz1, hz2⟩ := info_parts infoTP
  obtain ⟨H, hH⟩ : ∃ H, H = w.heap.size := ⟨_, rfl⟩
  have HT := Lib.hid hT
  have HN := Lib.hid hn
  have HH := Lib.hid hH
  have HS := Lib.hid (hsee.more hC)
  have HK := Lib.hid hkeys
  clear hT hn hsee hkeys hH
  have hf : Fence.wide.fn 5 := trivial
  have hf3 : Fence.wide.fn 43 := trivial
  refine (callsIn_wide (n := 9)).1 ?_
  refine callsIn_of_wp_marks Tryd.func5 rfl hf ?_ rfl
  simp only [Tryd.ntmps5, List.size_toArray, List.length_cons, List.length_nil, Nat.reduceAdd, Nat.reduceSub, Array.replicate_succ, Array.replicate_zero, List.push_toArray, List.append_toArray, List.nil_append, List.cons_append]
  refine wpIn_wide.2 ?_
  go_wp2_with (fail)
  have hb0 : Below w.heap.size w ((w.alloc (.cells #[.int .u8 s] 5)).alloc (.cells #[.bool false] 4)) := ((Below.refl _ w).alloc (Nat.le_refl _) _).alloc (by simp) _
  have hbs := (Box.new w 5 #[.int .u8 s] w.heap.size rfl).alloc (.cells #[.bool false] 4)
  have hbx := Box.new (w.alloc (.cells #[.int .u8 s] 5)) 4 #[.bool false] (w.heap.size + 1) (by simp)
  refine (works_any B _ (by simp; omega) (HT.out.on (hb0.mono hB))).mono ?_
  rintro e w1 ⟨rfl, hb1⟩
  have hz1w := hb1.size
  simp only [World.size_alloc] at hz1w
  have hbw1 := hb0.trans (hb1.mono (by simp; omega))
  have hbx1 := hbx.below hb1 (by simp)
  have hbs1 := hbs.below hb1 (by simp; omega)
  rw [← HH.out] at hbx1 hbs1 hbw1 hz1w hB ⊢
  have HBX := Lib.hid hbx1
  have HBS := Lib.hid hbs1
  have HBW := Lib.hid hbw1
  clear hb0 hb1 hbx hbs hbx1 hbs1 hbw1
  go_wp2_with (fail)
  obtain ⟨K, hK⟩ : ∃ K, K = w1.heap.size := ⟨_, rfl⟩
  rw [← hK]
  have HKK := Lib.hid hK
  have hKH : H + 2 ≤ K := by omega
  have hBK0 : Box (w1.alloc (.cells #[.slice none 0 0] 28)) K 28 #[.slice none 0 0] := Box.new _ _ _ _ hK
  clear hK
  go_loopw [5, 7] (fun o i wr => LawRel K n L w1 o i wr) (fun _ i _ => n - (intOf i).toNat)
  case atStart =>
    unfold LawRel
    exact ⟨0, 0, .slice none 0 0, Nat.zero_le _, Nat.le_refl _, rfl, Lib.hid ⟨rfl, by simp [ofS, Up]⟩, by simpa [pairV] using World.ownsRow_nil _ _ _ _, by simpa [pairV, ofS] using World.ownsRow_nil _ _ _ _, hBK0, (Below.refl _ w1).alloc (by rw [← HKK.out]; exact Nat.le_refl _) _⟩
  case round =>
    obtain ⟨k, m, v2, hk, hm, rfl, HM, ho1, ho2, hbk, hB1⟩ := hrel
    have hsz := hB1.size
    rw [← HKK.out] at hsz
    have hklt := hbk.lt
    by_cases hlt : k < n
    · have hkl : k < L.length := by have := HN.out; omega
      have hse := (HS.out.below (by rw [← HH.out]; exact HBW.out.trans (hB1.mono (by omega))))
      rw [HN.out] at hse
      obtain ⟨b, off, cap', hvv, hbl, hc1, hc2⟩ := hse.pair k hkl
      injection hvv with hA hLn hCC
      subst hA
      subst hCC
      have htk : L.take (k + 1) = L.take k ++ [L[k]] := List.take_succ_eq_append_getElem hkl
      have hof := ofS_take L k hkl
      obtain ⟨q, hq⟩ : ∃ q, q = L[k] := ⟨_, rfl⟩
      rw [← hq] at hc1 hc2 htk hof
      obtain ⟨x, y⟩ := q
      have HTK := Lib.hid htk
      have HOF := Lib.hid hof
      have i0' : (0 : Int) ≤ (k : Int) := by omega
      have i1' : (k : Int) < (n : Int) := by omega
      have hbK : b < K := by rw [← HH.out] at hbl; omega
      clear hse hLn htk hof hq hkl
      go_wp2_with (fail)
      go_region_held3 (fun w' => w'.cell? ⟨b, off + k * 2, none⟩ = some (.int .i64 x) ∧ w'.cell? ⟨b, off + k * 2 + 1, none⟩ = some (.int .i64 y)) (first | go_keep)
        ((refine step_append_lies _ (by rfl) _ _ _ (by rfl) K 50 i0 (.agg #[.int .i64 0, .int .i64 0]) 2 16 Tryd.underlying49 hi hz0 hz1 hz2 rfl (by decide) _ k (pairV (L.take k)) (by rfl) ((ho1.alloc _).drew) ⟨wr.heap.size, 0, none⟩ 1 1 [.int .i64 x, .int .i64 y] (by rfl) (by rfl) (World.news_of_block (cs := #[.int .i64 x, .int .i64 y]) (t := 50) (fr := (0, 0)) (heap_alloc_new wr _)) (two_int _ _ _) (by decide) (by unfold maxLen; omega) (by omega) (by simp; omega) (wr.heap.size + 1) (by simp) ?_; intro gg cap2 w3 hown1 hgrow hat hlt2; have hB3 : Below K wr w3 := (((Below.refl K wr).alloc (by omega) _).drew).grown hgrow (by simp; omega) (fun g h => (ho1.lt g h).1); have q0 := (hB3.cell (p := ⟨b, off + k * 2, none⟩) hbK).trans hc1; have q1 := (hB3.cell (p := ⟨b, off + k * 2 + 1, none⟩) hbK).trans hc2))
      have hbk3 : Box w3 K 28 #[v2] := ((hbk.alloc _).drew).grown hgrow (box_apart hbk ho1 (by decide))
      have ho23 := ((ho2.alloc (.cells #[.int .i64 x, .int .i64 y] 50)).drew).kept hgrow (own_apart ho2 ho1 (by decide))
      have c0 : w3.cell? ⟨K, 0, none⟩ = some v2 := hbk3.cell 0
      have hz3 := hB3.size
      have hput := rput_any (ofS (L.take k)) x y v2 w3.drew (by rw [← HM.out.1]; omega) (by rw [← HM.out.1]; exact (Sees.of_own ho23).below (Below.refl _ _).drew)
      have HPut := Lib.hid hput
      have hzd : w3.drew.heap.size = w3.heap.size := by simp
      have HO1 := Lib.hid hown1
      have HBK3 := Lib.hid hbk3
      have HB3 := Lib.hid (hB1.trans hB3)
      clear hput ho1 ho2 hbk ho23 hown1 hgrow hB3 hc1 hc2
      go_wp2_with (fail)
      go_still_tail 11, (by kernel_rfl)
      change wpList _ _ _ _ _ w3.drew
      go_wp2_with (fail)
      refine HPut.out.mono ?_
      rintro e w4 ⟨r, rfl, hg4⟩
      have hB4 : Below w3.heap.size w3 w4 := (Below.refl _ w3).drew.trans (hg4.2.mono (by simp))
      obtain ⟨A5, cap5, rfl⟩ := (Sees.of_own hg4.1).form
      have hbk4 := HBK3.out.below hB4 (by omega)
      have d0 : w4.cell? ⟨K, 0, none⟩ = some v2 := hbk4.cell 0
      have df := hbk4.frozen 0
      obtain ⟨m2, hm2⟩ : ∃ m2, m2 = (putS (ofS (L.take k)) x y).length := ⟨_, rfl⟩
      have hle := putS_le (ofS (L.take k)) x y HM.out.2
      rw [← hm2, ← HM.out.1] at hle
      rw [← hm2] at hg4 ⊢
      have HM2 := Lib.hid hm2
      have HG4 := Lib.hid hg4
      have HBK4 := Lib.hid hbk4
      have HB4 := Lib.hid hB4
      clear hm2 hg4 hbk4 hB4 c0 q0 q1
      go_wp2_with (fail)
      go_roundw
      case rel =>
        unfold LawRel
        have hro1 := own_set (own_below HO1.out HB4.out) HBK4.out (by decide) (.slice A5 m2 cap5)
        have hro2 := own_set (HG4.out.1.mono (base' := K) (by simp; omega)) HBK4.out (by decide) (.slice A5 m2 cap5)
        refine ⟨k + 1, m2, .slice A5 m2 cap5, by omega, by omega, by go_num, Lib.hid ⟨by rw [HOF.out]; exact HM2.out, by rw [HOF.out]; exact putS_up _ _ _ HM.out.2⟩, ?_, ?_, HBK4.out.set 0 _, ((HB3.out.trans (HB4.out.mono (by omega))).setCell (p := ⟨K, 0, none⟩) (Nat.le_refl _) _)⟩
        · rw [HTK.out, pairV_snoc]; exact hro1
        · rw [HOF.out]; exact hro2
      case measure => simp [intOf]; omega
    · have hfin : Hid (L.take k = L ∧ k = n) := by
        have h1 : k = n := by omega
        exact ⟨List.take_of_length_le (by have := HN.out; omega), h1⟩
      go_wp2_with (fail)
      have hL1 : L.length ≤ 1048576 := by have := HN.out; omega
      have hbwr : Below H w wr := HBW.out.trans (hB1.mono (by omega))
      have hown := ho1
      rw [hfin.out.1, hfin.out.2, HN.out] at hown
      refine (of_any B wr.heap.size L u5 wr (by omega) (HT.out.on (hbwr.mono hB)) (Nat.le_refl _) (Sees.of_own hown) hL1 HK.out).mono ?_
      rintro e w5 ⟨t, rfl, hmi, hb5⟩
      obtain ⟨p, hp⟩ := ptr_is t
      unfold mapV
      rw [hp]
      have hmo := HM.out.1
      rw [hfin.out.1] at hmo
      rw [← hmo]
      have hmL : m ≤ 150 := by omega
      have hz5 := hb5.size
      have hbk5 := hbk.below hb5 hklt
      have hsv : Hid (Sees wr.heap.size 2 w5 v2 m (pairV (ofS L))) := by
        show Sees _ _ _ _ _ _
        have h := Sees.of_own ho2
        rw [hfin.out.1] at h
        exact h.below hb5
      have HMO := Lib.hid hmo
      have HMI := Lib.hid hmi
      have HP := Lib.hid hp
      have HB5 := Lib.hid (hbwr.trans (hb5.mono (by omega)))
      have HBK5 := Lib.hid hbk5
      have HF : Hid (K ≤ wr.heap.size) := hsz
      have HW15 := Lib.hid (hB1.trans (hb5.mono hsz))
      clear hmo hmi hp hb5 hbk hbk5 ho1 ho2 hown hbwr
      have k0 : w5.cell? ⟨K, 0, none⟩ = some v2 := HBK5.out.cell 0
      have klt : K < w5.heap.size := HBK5.out.lt
      go_wp2_with (go_at_call 21; refine (mall_any t m _ p).mono ?_; rintro e w' ⟨rfl, rfl⟩)
      have hb56 : Below w5.heap.size w5 ((w5.alloc (.cells #[.pointer p, .int .i64 m] 26)).alloc (.cells #[.pointer p, .int .i64 m] 26)) := ((Below.refl _ w5).alloc (Nat.le_refl _) _).alloc (by simp) _
      have bm6 := Box.new (w5.alloc (.cells #[.pointer p, .int .i64 m] 26)) 26 #[.pointer p, .int .i64 m] (w5.heap.size + 1) (by simp)
      refine (like_at B wr.heap.size m t p HP.out (ofS L) HMO.out v2 _ (by simp; omega) (HT.out.on ((HB5.out.trans (hb56.mono (by omega))).mono (by omega))) HMI.out.1 ((HMI.out.2.below hb56).more (by simp; omega)) (by rw [← HMO.out]; omega) (by simp; omega) (hsv.out.below (hb56.mono hz5))).mono ?_
      rintro e w7 ⟨rfl, hb7⟩
      have hz7 := hb7.size
      simp only [World.size_alloc] at hz7
      have bm7 := bm6.below hb7 (by simp)
      have h57 := hb56.trans (hb7.mono (by simp; omega))
      have hfn := fun w => func_nil (w5.heap.size + 1) w
      have BM7 := Lib.hid bm7
      have H57 := Lib.hid h57
      have BX7 := Lib.hid (HBX.out.below (HW15.out.trans (h57.mono (by omega))) (by omega))
      have BS7 := Lib.hid (HBS.out.below (HW15.out.trans (h57.mono (by omega))) (by omega))
      have BK7 := Lib.hid (HBK5.out.below h57 klt)
      clear hb56 bm6 hb7 bm7 h57 k0
      go_wp2_with (fail)
      have bn := Boxed.new w7 3 (.int .i64 0)
      have hB8 : Below w7.heap.size w7 (w7.alloc (.cells #[.int .i64 0] 3)) := (Below.refl _ w7).alloc (Nat.le_refl _) _
      have m0 : (w7.alloc (.cells #[.int .i64 0] 3)).cell? ⟨w5.heap.size + 1, 0, none⟩ = some (.pointer p) := (BM7.out.below hB8 (by omega)).cell 0
      have m1 : (w7.alloc (.cells #[.int .i64 0] 3)).cell? ⟨w5.heap.size + 1, 1, none⟩ = some (.int .i64 (ofS L).length) := by rw [← HMO.out]; exact (BM7.out.below hB8 (by omega)).cell 1
      refine (wpIn_wide (n := 9)).1 ?_
      refine wpIn_rangeFunc_ownG rfl (by decide) (gf := 43) (lb := #[.pointer (some ⟨w5.heap.size + 1, 0, none⟩)]) rfl hf3 (enters_of Tryd.func43 (by kernel_rfl) rfl)
        (all_stops 8 (w5.heap.size + 1) (by decide) t p (ofS L) _ HP.out HMI.out.1 (by rw [← HMO.out]; omega) (by simp; omega) m0 m1 ((HMI.out.2.below (H57.out.trans (hB8.mono (by omega)))).more (by simp; omega))) (fun h1 h2 => KeepP.trans h1 h2) (fun W l o o' h1 h2 h3 h4 => KeepP.put (w := (w7.alloc (.cells #[.int .i64 0] 3))) W l o o' h1 h2 h3 h4) (Below.refl _ _) (fun _ => rfl)
        (fun (pre : List (Int × Int)) (W : World) => (Boxed W w7.heap.size 3 (.int .i64 pre.length) ∧ (pre.length ≤ s ∧ pre.map (fun q => q.1) = ((ofS L).take pre.length).map (fun q => q.1))) ∧ Below w7.heap.size w7 W)
        (fun c pre W => (c = .ret ∧ ∀ k, pre ≠ (ofS L).take k) ∨ (c = .exit 2 ∧ (Boxed W w7.heap.size 3 (.int .i64 pre.length) ∧ pre.length = s + 1) ∧ Below w7.heap.size w7 W))
        (OwnFrom.and (OwnFrom.and (Own.from (boxed_own w7.heap.size 3 (fun pre : List (Int × Int) => Value.int .i64 (pre.length : Nat))) _) (ownFrom_pure _ _)) (ownFrom_below (Nat.le_refl _) (by simp)))
        (fun c => fun pre W W' row hs hg hr => by
          rcases hs with h | ⟨h1, h2, h3⟩
          · exact .inl h
          · exact .inr ⟨h1, (OwnFrom.and (Own.from (boxed_own w7.heap.size 3 (fun pre : List (Int × Int) => Value.int .i64 (pre.length : Nat))) _) (ownFrom_pure _ (fun pre : List (Int × Int) => pre.length = s + 1))) pre W W' row h2 hg hr, (ownFrom_below (β := List (Int × Int)) (Nat.le_refl _) (by simp)) pre W W' row h3 hg hr⟩)
        ⟨⟨bn, Nat.zero_le _, rfl⟩, hB8⟩
        (fun x => { tmps := #[.slice A n cap, .int .u8 s, undef, .pointer (some ⟨H, 0, none⟩), .pointer (some ⟨H + 1, 0, none⟩), u5, .pointer (some ⟨K, 0, none⟩), .int .i64 k, .pointer (some ⟨w5.heap.size, 0, none⟩), .func (.func 43) #[] #[.pointer (some ⟨w5.heap.size + 1, 0, none⟩)], .pointer (some ⟨w7.heap.size, 0, none⟩), .int .i64 x.1, .bool true, .bool false, .bool false, .slice A n cap, .int .i64 n, .bool (decide (150 < (n : Int))), .bool (decide (150 < (n : Int))), undef, .int .i64 k, .slice A n cap, .int .i64 n, .bool false, u24, u25, u26, u27, u28, u29, u30, u31, u32, u33, u34, u35, u36, u37, u38, u39, u40, u41, u42, u43, u44, u45, u46, u47, u48, u49, u50, u51, u5, .agg #[.pointer p, .int .i64 m], .agg #[.pointer p, .int .i64 m], .func (.func 43) #[] #[.pointer (some ⟨w5.heap.size + 1, 0, none⟩)], .agg #[.pointer p, .int .i64 m], v2, .int .i64 1, .bool false, .bool false, .func (.func 43) #[] #[.pointer (some ⟨w5.heap.size + 1, 0, none⟩)], .bool false, .bool false, .func (.func 43) #[] #[.pointer (some ⟨w5.heap.size + 1, 0, none⟩)], .int .i64 x.1, .int .i64 x.2, undef, undef, undef, undef, undef, undef, undef, undef, undef, undef, undef, undef, undef, undef, undef, undef, undef, undef, undef, undef, undef], defers := [] }) ?assign ?body ?done ?stop
      case assign =>
        intro l x W K hK
        gi_wp2
        exact hK
      case body =>
        rintro l pre x W ⟨⟨hv, hps, hpre⟩, hB⟩ hlt
        have hzW := hB.size
        have hse := (hsv.out.below (H57.out.mono hz5)).below (hB.mono (by omega))
        rw [HMO.out] at hse
        obtain ⟨b, off, cap', hvv, hbl, hc1, hc2⟩ := hse.pair pre.length hlt
        have k0 : W.cell? ⟨K, 0, none⟩ = some v2 := (BK7.out.below hB (by omega)).cell 0
        have s0 : W.cell? ⟨H, 0, none⟩ = some (.int .u8 s) := (BS7.out.below hB (by omega)).cell 0
        have x0 : W.cell? ⟨H + 1, 0, none⟩ = some (.bool false) := (BX7.out.below hB (by omega)).cell 0
        have xf := (BX7.out.below hB (by omega)).frozen 0
        rw [hvv, ← HMO.out] at k0
        have n0 := hv.cell
        have nf := hv.frozen
        have nlt := hv.lt
        have hltm : pre.length < m := by rw [HMO.out]; exact hlt
        obtain ⟨kx, vx⟩ := x
        obtain ⟨kk, hkk⟩ : ∃ kk, kk = (ofS L)[pre.length].1 := ⟨_, rfl⟩
        rw [← hkk] at hc1
        have HV := Lib.hid hv
        have HPre := Lib.hid hpre
        have HNT : Hid (kx ≠ kk → ∀ k, pre ++ [(kx, vx)] ≠ (ofS L).take k) := fun h => no_take2 hlt (by rw [hkk] at h; exact h)
        have HON : Hid (kx = kk → (pre ++ [(kx, vx)]).map (fun q => q.1) = ((ofS L).take (pre ++ [(kx, vx)]).length).map (fun q => q.1)) := fun h => keys_on hlt hpre (by rw [hkk] at h; exact h)
        obtain ⟨r, hr⟩ : ∃ r, r = pre.length := ⟨_, rfl⟩
        have HR := Lib.hid hr
        rw [← hr] at n0 hc1 hltm hps
        have hr1 : r ≤ 150 := by omega
        clear hse hvv hc2 hkk hpre hv hr m0 m1 bn hB8 hlt
        by_cases e1 : kx = kk
        · have hne : (kx != kk) = false := by rw [bne_eq_false_iff_eq]; exact e1
          have HON := Lib.hid (HON.out e1)
          have hlen : (pre ++ [(kx, vx)]).length = r + 1 := by rw [HR.out]; simp
          have HLen := Lib.hid hlen
          clear e1 hlen
          have hBn := hB.setCell (p := ⟨w7.heap.size, 0, none⟩) (Nat.le_refl _) (.int .i64 ((r : Int) + 1))
          have hBX := Boxed.set (.int .i64 ((r : Int) + 1)) HV.out
          have hKO : KeepsOthers W (W.setCell ⟨w7.heap.size, 0, none⟩ (.int .i64 ((r : Int) + 1))) := KeepsOthers.setCell _ _ _
          have hKP : KeepP W (W.setCell ⟨w7.heap.size, 0, none⟩ (.int .i64 ((r : Int) + 1))) := KeepP.set (t := 3) HV.out (by decide) 0 _
          have HA := Lib.hid (And.intro hBn (And.intro hBX (And.intro hKO hKP)))
          clear hBn hBX hKO hKP
          by_cases e2 : r = s
          · have hgt : decide ((s : Int) < (r : Int) + 1) = true := by simp; omega
            have hgt2 : (s : Int) < (r : Int) + 1 := by omega
            have hps1 : Hid (r + 1 = s + 1) := by show r + 1 = s + 1; omega
            clear e2
            gi_wp2_with (fail)
            refine ⟨HA.out.2.2.1.from _, .inr ⟨rfl, ⟨?_, ?_⟩, HA.out.1⟩⟩
            · rw [HLen.out]; exact HA.out.2.1
            · rw [HLen.out]; exact hps1.out
          · have hgt2 : ¬ (s : Int) < (r : Int) + 1 := by omega
            have hps1 : Hid (r + 1 ≤ s) := by show r + 1 ≤ s; omega
            clear e2
            gi_wp2_with (fail)
            refine ⟨HA.out.2.2.1.from _, HA.out.2.2.2, ⟨?_, ?_, by have h := HON.out; simpa only [List.map_take] using h⟩, HA.out.1⟩
            · rw [HLen.out]; exact HA.out.2.1
            · rw [HLen.out]; exact hps1.out
        · have hne : (kx != kk) = true := by rw [bne_iff_ne]; exact e1
          have HNT := Lib.hid (HNT.out e1)
          clear e1 HON
          gi_wp2_with (fail)
          first
            | exact ⟨KeepsFrom.refl _ _, .inl ⟨rfl, HNT.out⟩⟩
            | exact ⟨(KeepsOthers.setCell _ _ _).from _, .inl ⟨rfl, HNT.out⟩⟩
      case done =>
        rintro D ys W hD rfl ⟨⟨hv, hps, hpre⟩, hB⟩ hK
        have hzW := hB.size
        have hD1 : w7.heap.size + 1 ≤ D := by have h := hD; rwa [World.size_alloc] at h
        have hDw : H ≤ D := by omega
        have hbX := BX7.out.below hB (by omega)
        have k0 : W.cell? ⟨K, 0, none⟩ = some v2 := (BK7.out.below hB (by omega)).cell 0
        have s0 : W.cell? ⟨H, 0, none⟩ = some (.int .u8 s) := (BS7.out.below hB (by omega)).cell 0
        have x0 : W.cell? ⟨H + 1, 0, none⟩ = some (.bool false) := hbX.cell 0
        have xf := hbX.frozen 0
        have n0 := hv.cell
        obtain ⟨r, hr⟩ : ∃ r, r = (ofS L).length := ⟨_, rfl⟩
        have HR := Lib.hid hr
        rw [← hr] at n0 hps
        have hr1 : r = m := by rw [HMO.out]; exact hr
        clear hv hpre hr bn hB8 m0 m1
        obtain ⟨A2, cap2, hvv⟩ := hsv.out.form
        rw [hvv] at k0
        clear hr1
        go_wp2_with (fail)
        have hrm : r = m := by rw [HMO.out]; exact HR.out
        have hmin : ((r : Int) == min ((s : Int) + 1) (m : Int)) = true := by rw [beq_iff_eq]; omega
        rw [hmin]
        have hKL : (W.setCell ⟨H + 1, 0, none⟩ (.bool true)).heap[D]? = some (.deferred (some [])) := (Below.heap_setCell W _ _ D (by dsimp only; omega)).trans hK
        have hlast := ((H57.out.trans (hB.mono (by omega))).mono (show H ≤ w5.heap.size by omega)).setCell (p := ⟨H + 1, 0, none⟩) (show H ≤ H + 1 by omega) (.bool true)
        have hfin2 := HB5.out.trans hlast
        refine ⟨by simp, .inl ⟨_, _, rfl, run_takeDeferred hKL, ?_⟩⟩
        have hD6 : D < (W.setCell ⟨H + 1, 0, none⟩ (.bool true)).heap.size := (Array.getElem?_eq_some_iff.1 hKL).1
        have hput : Below D (W.setCell ⟨H + 1, 0, none⟩ (.bool true)) ((W.setCell ⟨H + 1, 0, none⟩ (.bool true)).putObj D (.deferred none)) := (Below.refl D _).grown (grownBy_putObj' _ D _) (Nat.le_of_lt hD6) (fun k e => by cases e; exact Nat.le_refl _)
        have rc : ((W.setCell ⟨H + 1, 0, none⟩ (.bool true)).putObj D (.deferred none)).cell? ⟨H + 1, 0, none⟩ = some (.bool true) := (hput.cell (p := ⟨H + 1, 0, none⟩) (by dsimp only; omega)).trans (World.cell?_setCell_same' _ _ _ (by rw [x0]; rfl))
        exact ⟨.bool true, by simp [results, Tryd.results5, go_sem, rc], rfl, by rw [← HH.out]; exact hfin2.trans (hput.mono (by omega))⟩
      case stop =>
        rintro D c pre W hD ⟨q, hq, hpre⟩ hx hK
        rcases hx with ⟨_, hx⟩ | ⟨rfl, ⟨hv, hps⟩, hB⟩
        · exact absurd hpre (hx q)
        · have hzW := hB.size
          have hD1 : w7.heap.size + 1 ≤ D := by have h := hD; rwa [World.size_alloc] at h
          have hDw : H ≤ D := by omega
          have hbX := BX7.out.below hB (by omega)
          have k0 : W.cell? ⟨K, 0, none⟩ = some v2 := (BK7.out.below hB (by omega)).cell 0
          have s0 : W.cell? ⟨H, 0, none⟩ = some (.int .u8 s) := (BS7.out.below hB (by omega)).cell 0
          have x0 : W.cell? ⟨H + 1, 0, none⟩ = some (.bool false) := hbX.cell 0
          have xf := hbX.frozen 0
          have n0 := hv.cell
          obtain ⟨r, hr⟩ : ∃ r, r = pre.length := ⟨_, rfl⟩
          rw [← hr] at n0 hps
          have hrm : r ≤ m := by rw [hr, hpre, HMO.out, List.length_take]; exact Nat.min_le_right _ _
          have HR : Hid (r ≤ m ∧ r = s + 1) := ⟨hrm, hps⟩
          obtain ⟨A2, cap2, hvv⟩ := hsv.out.form
          rw [hvv] at k0
          clear hv hpre hr bn hB8 m0 m1 hps hrm
          gi_wp2_with (fail)
          go_wp2_with (fail)
          have HRo := HR.out
          have hmin : ((r : Int) == min ((s : Int) + 1) (m : Int)) = true := by rw [beq_iff_eq]; omega
          rw [hmin]
          have hKL : (W.setCell ⟨H + 1, 0, none⟩ (.bool true)).heap[D]? = some (.deferred (some [])) := (Below.heap_setCell W _ _ D (by dsimp only; omega)).trans hK
          have hlast := ((H57.out.trans (hB.mono (by omega))).mono (show H ≤ w5.heap.size by omega)).setCell (p := ⟨H + 1, 0, none⟩) (show H ≤ H + 1 by omega) (.bool true)
          have hfin2 := HB5.out.trans hlast
          refine ⟨by simp, .inl ⟨_, _, rfl, run_takeDeferred hKL, ?_⟩⟩
          have hD6 : D < (W.setCell ⟨H + 1, 0, none⟩ (.bool true)).heap.size := (Array.getElem?_eq_some_iff.1 hKL).1
          have hput : Below D (W.setCell ⟨H + 1, 0, none⟩ (.bool true)) ((W.setCell ⟨H + 1, 0, none⟩ (.bool true)).putObj D (.deferred none)) := (Below.refl D _).grown (grownBy_putObj' _ D _) (Nat.le_of_lt hD6) (fun k e => by cases e; exact Nat.le_refl _)
          have rc : ((W.setCell ⟨H + 1, 0, none⟩ (.bool true)).putObj D (.deferred none)).cell? ⟨H + 1, 0, none⟩ = some (.bool true) := (hput.cell (p := ⟨H + 1, 0, none⟩) (by dsimp only; omega)).trans (World.cell?_setCell_same' _ _ _ (by rw [x0]; rfl))
          exact ⟨.bool true, by simp [results, Tryd.results5, go_sem, rc], rfl, by rw [← HH.out]; exact hfin2.trans (hput.mono (by omega))⟩
end Go.Proofs.YtjlbchkdiaomjaaDoor.trie

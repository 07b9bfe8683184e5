/- A map that has just these pairs is told so. -/
import Derived.Test.YtjlbchkdiaomjaaDoorTrieKeys
import Derived.Deep.RegionHeld3
namespace Go.Proofs.YtjlbchkdiaomjaaDoor.trie
open Go.RowKit Go.Shelf mem tri mix

attribute [local go_sem] Oper.semAt_some

theorem mall_at (t : Tr) (n : Nat) (w : World) (p : Option Addr) :
    Calls Tryd.prog 21 #[.agg #[.pointer p, .int .i64 n]] w fun e w' => e = .returned (.func (.func 43) #[] #[.pointer (some ⟨w.heap.size, 0, none⟩)]) ∧ w' = w.alloc (.cells #[.pointer p, .int .i64 n] 26) := mall_any t n w p
theorem len_at (n : Nat) (t : Tr) (p : Option Addr) (hp : ptr t = .pointer p) (w : World) : Calls Tryd.prog 16 #[.agg #[.pointer p, .int .i64 n]] w fun e w' => e = .returned (.int .i64 n) ∧ Below w.heap.size w w' := by
  have h := len_any t n w
  unfold mapV at h
  rw [hp] at h; exact h
theorem ints_same (L : List (Int × Int)) (N B : Nat) (u v : Value) (w : World) (hN : N = L.length) (hl : N ≤ 1048576) (h1 : Sees B 1 w u N (keyV L)) (h2 : Sees B 1 w v N (keyV L)) :
    Calls Tryd.prog 32 #[u, v] w fun e w' => e = .returned (.bool true) ∧ Below w.heap.size w w' := by
  have e1 : keyV L = intV (L.map fun p => p.1) := by unfold keyV intV; rw [List.map_map]; rfl
  have e2 : N = (L.map fun p => p.1).length := by rw [List.length_map]; exact hN
  rw [e1, e2] at h1 h2
  refine (rints_any _ _ u v B w (by rw [← e2]; exact hl) h1 h2).mono ?_
  rintro e w' ⟨rfl, n, rfl⟩
  exact ⟨by simp, below_drewN (Below.refl _ _) n⟩
theorem func_nil (H : Nat) (w : World) : Sem.run Tryd.prog (binOp BinOp.eql 53 (.func (.func 43) #[] #[.pointer (some ⟨H, 0, none⟩)]) .nilFunc) w = .ok (.bool false) w := by kernel_rfl
theorem no_take {pre L : List (Int × Int)} {x q : Int × Int} (h : L.take (pre.length + 1) = L.take pre.length ++ [q]) (hpre : pre = L.take pre.length) (hne : x ≠ q) : ∀ k, pre ++ [x] ≠ L.take k := by
  intro k hk
  have hl := congrArg List.length hk
  rw [List.length_append, List.length_singleton, List.length_take] at hl
  have h2 : (L.take k).take (pre.length + 1) = L.take (pre.length + 1) := by rw [List.take_take]; congr 1; omega
  rw [← hk, h, ← hpre, List.take_of_length_le (by simp)] at h2
  have h3 := List.append_cancel_left h2
  injection h3 with h3
  exact hne h3
def LikePost (w : World) (e : Ending) (w' : World) : Prop := e = .returned (.int .i64 1) ∧ Below w.heap.size w w'
set_option maxRecDepth 100000 in
set_option maxHeartbeats 4000000 in
theorem like_any (B C : Nat) (t : Tr) (L : List (Int × Int)) (v : Value) (w : World) (hB : B ≤ w.heap.size) (hT : Laid B w) (hm : MapOf t L) (hL : Lies w.heap.size w t) (hl : L.length ≤ 1048576) (hC : C ≤ w.heap.size) (hs : Sees C 2 w v L.length (pairV L)) :
    Calls Tryd.prog 12 #[mapV t L.length, v] w (LikePost w) := by
  obtain ⟨p, hp⟩ := ptr_is t
  obtain ⟨A, cap, rfl⟩ := hs.form
  obtain ⟨N, hN⟩ : ∃ N, N = L.length := ⟨_, rfl⟩
  obtain ⟨H, hH⟩ : ∃ H, H = w.heap.size := ⟨_, rfl⟩
  have HKeys := Lib.hid (fun W h => keys_any t L W hm h hl)
  unfold mapV at HKeys ⊢
  rw [hp, ← hN] at HKeys ⊢
  have HLen := Lib.hid (len_at N t p hp)
  have HRK := Lib.hid (fun W h => rkeys_any L (.slice A L.length cap) W hl h)
  rw [← hN] at hl HRK
  have HN := Lib.hid hN
  have HP := Lib.hid hp
  have HM := Lib.hid hm
  have HL := Lib.hid hL
  have HT := Lib.hid hT
  have HS := Lib.hid (hs.more hC)
  have HH := Lib.hid hH
  rw [← hN] at HS
  clear hN hp hm hL hT hs
  have hf : Fence.wide.fn 12 := trivial
  have hf3 : Fence.wide.fn 43 := trivial
  refine (callsIn_wide (n := 9)).1 ?_
  refine callsIn_of_wp_marks Tryd.func12 rfl hf ?_ rfl
  simp only [Tryd.ntmps12, List.size_toArray, List.length_cons, List.length_nil, Nat.reduceAdd, Nat.reduceSub, Array.replicate_succ, Array.replicate_zero, List.push_toArray, List.append_toArray, List.nil_append, List.cons_append]
  refine wpIn_wide.2 ?_
  go_wp2_with (go_at_call 21; refine (mall_any t N _ p).mono ?_; rintro e w' ⟨rfl, rfl⟩)
  obtain ⟨W, hW⟩ : ∃ W, W = ((((w.alloc (.cells #[.pointer p, .int .i64 N] 26)).alloc (.cells #[.slice A N cap] 28)).alloc (.cells #[.int .i64 0] 3)).alloc (.cells #[.pointer p, .int .i64 N] 26)) := ⟨_, rfl⟩
  rw [← hW, ← HH.out]
  have b0 : Box W H 26 #[.pointer p, .int .i64 N] := by rw [hW]; exact ((((Box.new w _ _ H HH.out).alloc _).alloc _).alloc _)
  have b1 : Box W (H + 1) 28 #[.slice A N cap] := by rw [hW]; exact ((Box.new _ _ _ (H + 1) (by rw [HH.out]; simp)).alloc _).alloc _
  have b2 : Box W (H + 2) 3 #[.int .i64 0] := by rw [hW]; exact (Box.new _ _ _ (H + 2) (by rw [HH.out]; simp)).alloc _
  have b3 : Box W (H + 3) 26 #[.pointer p, .int .i64 N] := by rw [hW]; exact Box.new _ _ _ (H + 3) (by rw [HH.out]; simp)
  have hBW : Below H w W := by rw [hW, HH.out]; exact ((((Below.refl _ w).alloc (Nat.le_refl _) _).alloc (by simp) _).alloc (by simp; omega) _).alloc (by simp; omega) _
  have hWz : W.heap.size = H + 4 := by rw [hW, HH.out]; simp
  have c0 : W.cell? ⟨H, 0, none⟩ = some (.pointer p) := b0.cell 0
  have c1 : W.cell? ⟨H, 1, none⟩ = some (.int .i64 N) := b0.cell 1
  have c2 : W.cell? ⟨H + 1, 0, none⟩ = some (.slice A N cap) := b1.cell 0
  have hLW : Hid (Lies (H + 4) W t) := by show Lies _ _ _; rw [← HH.out] at HL; exact (HL.out.below hBW).more (by omega)
  have hSW : Hid (Sees (H + 4) 2 W (.slice A N cap) N (pairV L)) := by show Sees _ _ _ _ _ _; rw [← HH.out] at HS; exact (HS.out.below hBW).more (by omega)
  have HWZ := Lib.hid hWz
  have hle : H + 4 ≤ W.heap.size := by omega
  have HBW := Lib.hid hBW
  have hBH : B ≤ H := by rw [HH.out]; exact hB
  have e0 : H + 1 + 1 = H + 2 := rfl
  have e1 : H + 1 + 1 + 1 = H + 3 := rfl
  rw [e0, e1]
  clear hW hH hWz e0 e1
  have hfn := fun w => func_nil (H + 3) w
  go_region_held3 (fun w' => w'.cell? ⟨H, 0, none⟩ = some (.pointer p) ∧ w'.cell? ⟨H, 1, none⟩ = some (.int .i64 N) ∧ w'.cell? ⟨H + 1, 0, none⟩ = some (.slice A N cap)) (first | go_keep)
    (first
      | (go_at_call 16; refine (HLen.out _).mono ?_; rintro e w1 ⟨rfl, hb1⟩; have hW1 : Below (H + 4) W w1 := (Below.refl _ W).drew.trans (hb1.mono hle); have q10 := (hW1.cell (p := ⟨H, 0, none⟩) (by dsimp only; omega)).trans c0; have q11 := (hW1.cell (p := ⟨H, 1, none⟩) (by dsimp only; omega)).trans c1; have q12 := (hW1.cell (p := ⟨H + 1, 0, none⟩) (by dsimp only; omega)).trans c2; have z1 := hW1.size)
      | (go_at_call 18; refine (HKeys.out w1 ((hLW.out.below hW1).more (by omega))).mono ?_; rintro e w2 ⟨r1, rfl, hg1⟩; have hW2 : Below (H + 4) W w2 := hW1.trans (hg1.2.mono (by omega)); have q20 := (hW2.cell (p := ⟨H, 0, none⟩) (by dsimp only; omega)).trans c0; have q21 := (hW2.cell (p := ⟨H, 1, none⟩) (by dsimp only; omega)).trans c1; have q22 := (hW2.cell (p := ⟨H + 1, 0, none⟩) (by dsimp only; omega)).trans c2; have z2 := hW2.size)
      | (go_at_call 39; refine (HRK.out w2 ((hSW.out.below hW2).more (by omega))).mono ?_; rintro e w3 ⟨r2, rfl, hg2⟩; have hW3 : Below (H + 4) W w3 := hW2.trans (hg2.2.mono (by omega)); have q30 := (hW3.cell (p := ⟨H, 0, none⟩) (by dsimp only; omega)).trans c0; have q31 := (hW3.cell (p := ⟨H, 1, none⟩) (by dsimp only; omega)).trans c1; have q32 := (hW3.cell (p := ⟨H + 1, 0, none⟩) (by dsimp only; omega)).trans c2; have z3 := hW3.size)
      | (go_at_call 32; refine (ints_same L N w3.heap.size r1 r2 w3 HN.out hl (((Sees.of_own hg1.1).below hg2.2).more hg2.2.size) (Sees.of_own hg2.1)).mono ?_; rintro e w4 ⟨rfl, hb4⟩; have hW4 : Below (H + 4) W w4 := hW3.trans (hb4.mono (by omega)); have q40 := (hW4.cell (p := ⟨H, 0, none⟩) (by dsimp only; omega)).trans c0; have q41 := (hW4.cell (p := ⟨H, 1, none⟩) (by dsimp only; omega)).trans c1; have q42 := (hW4.cell (p := ⟨H + 1, 0, none⟩) (by dsimp only; omega)).trans c2; have z4 := hW4.size))
  have hz4 : H + 4 ≤ w4.heap.size := by omega
  have d0 := b0.below hW4 (by omega)
  have d1 := b1.below hW4 (by omega)
  have d2 := b2.below hW4 (by omega)
  have HW4 := Lib.hid hW4
  have HD0 := Lib.hid d0
  have HD1 := Lib.hid d1
  have HD2 := Lib.hid d2
  have hB3' := (b3.below (hW4.trans ((Below.refl _ w4).alloc (by omega) (.cells #[.int .i64 0] 3))) (by omega)).cell 0
  have m1 : (w4.alloc (.cells #[.int .i64 0] 3)).cell? ⟨H + 3, 1, none⟩ = some (.int .i64 L.length) := by rw [← HN.out]; exact (b3.below (hW4.trans ((Below.refl _ w4).alloc (by omega) (.cells #[.int .i64 0] 3))) (by omega)).cell 1
  have h1 : 1 ≤ 9 := by decide
  clear q10 q11 q12 q20 q21 q22 q30 q31 q32 q40 q41 q42 c0 c1 c2 b0 b1 b2 b3 hfn hg1 hg2 hb1 hb4 hW1 hW2 hW3 hW4 d0 d1 d2
  go_wp2_with (fail)
  have bn := Boxed.new w4 3 (.int .i64 0)
  have hB5 : Below (H + 4) w4 (w4.alloc (.cells #[.int .i64 0] 3)) := (Below.refl _ w4).alloc (by omega) _
  have m0 : (w4.alloc (.cells #[.int .i64 0] 3)).cell? ⟨H + 3, 0, none⟩ = some (.pointer p) := hB3'
  refine (wpIn_wide (n := 9)).1 ?_
  refine wpIn_rangeFunc_ownG rfl h1 (gf := 43) (lb := #[.pointer (some ⟨H + 3, 0, none⟩)]) rfl hf3 (enters_of Tryd.func43 (by kernel_rfl) rfl)
    (all_stops 8 (H + 3) (by decide) t p L _ HP.out HM.out (by rw [← HN.out]; exact hl) (by simp; omega) m0 m1 ((hLW.out.below (HW4.out.trans hB5)).more (by simp; omega))) (fun h1 h2 => KeepP.trans h1 h2) (fun W l o o' h1 h2 h3 h4 => KeepP.put (w := w4.alloc (.cells #[.int .i64 0] 3)) W l o o' h1 h2 h3 h4) (Below.refl _ _) (fun _ => rfl)
    (fun (pre : List (Int × Int)) (W : World) => (Boxed W w4.heap.size 3 (.int .i64 pre.length) ∧ pre = L.take pre.length) ∧ Below (H + 4) w4 W)
    (fun _ pre _ => ∀ k, pre ≠ L.take k)
    (OwnFrom.and (OwnFrom.and (Own.from (boxed_own w4.heap.size 3 (fun pre : List (Int × Int) => Value.int .i64 (pre.length : Nat))) _) (ownFrom_pure _ _)) (ownFrom_below (by omega) (by simp; omega)))
    (fun _ => ownFrom_pure _ _)
    ⟨⟨bn, rfl⟩, hB5⟩
    (fun x => { tmps := #[.agg #[.pointer p, .int .i64 N], .slice A N cap, .pointer (some ⟨H, 0, none⟩), .pointer (some ⟨H + 1, 0, none⟩), .pointer (some ⟨H + 2, 0, none⟩), .func (.func 43) #[] #[.pointer (some ⟨H + 3, 0, none⟩)], .pointer (some ⟨w4.heap.size, 0, none⟩), .int .i64 x.1, .int .i64 x.2, undef, undef, undef, .agg #[.pointer p, .int .i64 N], .func (.func 43) #[] #[.pointer (some ⟨H + 3, 0, none⟩)], .agg #[.pointer p, .int .i64 N], .int .i64 N, .slice A N cap, .int .i64 N, .bool false, .bool false, .agg #[.pointer p, .int .i64 N], r1, .slice A N cap, r2, .bool true, .bool false, .bool false, .bool false, .func (.func 43) #[] #[.pointer (some ⟨H + 3, 0, none⟩)], .bool false, .bool false, .func (.func 43) #[] #[.pointer (some ⟨H + 3, 0, none⟩)], .int .i64 x.1, .int .i64 x.2, undef, undef, undef, undef, undef, undef, undef, undef, undef, undef, undef, undef, undef, undef, undef, undef, undef, undef, undef, undef, undef, undef, undef, undef, undef, undef, undef, undef, undef, undef, undef, undef, undef, undef, undef, undef, undef, undef, undef, undef, undef, undef, undef, undef, undef, undef, undef, undef, undef, undef, undef, undef, undef, undef, undef, undef, undef, undef, undef, undef, undef, undef, undef, undef], defers := [] }) ?assign ?body ?done ?stop
  case assign =>
    intro l x W K hK
    gi_wp2
    exact hK
  case body =>
    rintro l pre x W5 ⟨⟨hv, hpre⟩, hB⟩ hlt
    have hltN : pre.length < N := by have := HN.out; omega
    have hz5 := hB.size
    have g1 := HD1.out.below hB (by omega)
    have g2 := HD2.out.below hB (by omega)
    have l0 : W5.cell? ⟨H + 1, 0, none⟩ = some (.slice A N cap) := g1.cell 0
    have r0 : W5.cell? ⟨H + 2, 0, none⟩ = some (.int .i64 0) := g2.cell 0
    have rf := g2.frozen 0
    have n0 := hv.cell
    have nf := hv.frozen
    have hse := hSW.out.below (HW4.out.trans hB)
    rw [HN.out] at hse
    obtain ⟨b, off, cap', hvv, hbl, hc1, hc2⟩ := hse.pair pre.length hlt
    injection hvv with hA hLn hC
    subst hA
    subst hC
    have htk : L.take (pre.length + 1) = L.take pre.length ++ [L[pre.length]] := List.take_succ_eq_append_getElem hlt
    obtain ⟨q, hq⟩ : ∃ q, q = L[pre.length] := ⟨_, rfl⟩
    rw [← hq] at hc1 hc2 htk
    clear hq
    obtain ⟨kx, vx⟩ := x
    obtain ⟨k0, v0⟩ := q
    have HPre := Lib.hid hpre
    have HTK := Lib.hid htk
    have HV := Lib.hid hv
    have HG2 := Lib.hid g2
    obtain ⟨m, hmm⟩ : ∃ m, m = pre.length := ⟨_, rfl⟩
    rw [← hmm] at hltN n0 hc1 hc2
    have HMM := Lib.hid hmm
    have hm1 : m ≤ 1048576 := by omega
    clear hpre htk hv hse hLn m0 m1 bn hB5 hB3' g1 g2 hmm hlt
    by_cases e1 : kx = k0
    · subst e1
      by_cases e2 : vx = v0
      · subst e2
        gi_wp2_with (fail)
        have e : pre.length + 1 = (pre ++ [(kx, vx)]).length := by simp
        refine ⟨(KeepsOthers.setCell _ _ _).from _, KeepP.set (t := 3) HV.out (by decide) 0 _, ⟨?_, ?_⟩, hB.setCell (p := ⟨w4.heap.size, 0, none⟩) (by dsimp only; omega) _⟩
        · rw [← e, show ((pre.length + 1 : Nat) : Int) = (m : Int) + 1 by rw [HMM.out]; rfl]
          exact HV.out.set _
        · rw [← e, HTK.out, ← HPre.out]
      · have hne : (vx != v0) = true := by rw [bne_iff_ne]; exact e2
        have HNT := Lib.hid (no_take HTK.out HPre.out (x := (kx, vx)) (fun h => e2 (by injection h)))
        clear e2
        gi_wp2_with (fail)
        first
          | exact ⟨KeepsFrom.refl _ _, HNT.out⟩
          | exact ⟨(KeepsOthers.setCell _ _ _).from _, HNT.out⟩
    · have hne : (kx != k0) = true := by rw [bne_iff_ne]; exact e1
      have HNT := Lib.hid (no_take HTK.out HPre.out (x := (kx, vx)) (fun h => e1 (by injection h)))
      clear e1
      gi_wp2_with (fail)
      first
        | exact ⟨KeepsFrom.refl _ _, HNT.out⟩
        | exact ⟨(KeepsOthers.setCell _ _ _).from _, HNT.out⟩
  case done =>
    rintro D ys W5 hD rfl ⟨⟨hv, hpre⟩, hB⟩ hK
    have hz5 := hB.size
    have hD' : w4.heap.size + 1 ≤ D := by simpa using hD
    have hDz : D < W5.heap.size := (Array.getElem?_eq_some_iff.1 hK).1
    rw [← HN.out] at hv
    have n0 := hv.cell
    have hB4 := HW4.out.trans hB
    have b0 := HD0.out.below hB (by omega)
    have b1 := HD1.out.below hB (by omega)
    have b2 := HD2.out.below hB (by omega)
    have nlt := hv.lt
    have HK := Lib.hid hK
    have HB0 := Lib.hid b0
    have HB1 := Lib.hid b1
    have HB2 := Lib.hid b2
    have HV := Lib.hid hv
    have HB4 := Lib.hid hB4
    clear m0 m1 bn hB5 hB3' hpre hK b0 b1 b2 hv hB4
    go_wp2_with (fail)
    go_loopw [9] (fun i wr => ∃ k : Nat, k ≤ N ∧ i = .int .i64 k ∧ Below W5.heap.size W5 wr) (fun i _ => N - (intOf i).toNat)
    case atStart => exact ⟨0, Nat.zero_le _, rfl, Below.refl _ _⟩
    case round =>
      obtain ⟨k, hk, rfl, hBr⟩ := hrel
      have hzr := hBr.size
      have hN1 := HN.out
      have a1 : wr.cell? ⟨H + 1, 0, none⟩ = some (.slice A N cap) := (HB1.out.below hBr (by omega)).cell 0
      have a2 : wr.cell? ⟨H, 0, none⟩ = some (.pointer p) := (HB0.out.below hBr (by omega)).cell 0
      have a3 : wr.cell? ⟨H, 1, none⟩ = some (.int .i64 N) := (HB0.out.below hBr (by omega)).cell 1
      by_cases hlt : k < N
      · have hkl : k < ys.length := by omega
        have hse := hSW.out.below (HB4.out.trans (hBr.mono (by omega)))
        rw [HN.out] at hse
        obtain ⟨b, off, cap', hvv, hbl, hc1, hc2⟩ := hse.pair k hkl
        injection hvv with hA hLn hC
        subst hA
        subst hC
        have hmem : ys[k] ∈ ys := List.getElem_mem hkl
        obtain ⟨q, hq⟩ : ∃ q, q = ys[k] := ⟨_, rfl⟩
        rw [← hq] at hc1 hc2 hmem
        obtain ⟨k0, v0⟩ := q
        have hg := (getS_some ys HM.out.2.2.1 k0 v0).1 hmem
        have hget := mget_any B N t ys k0 wr.drew (by simp; omega) (HT.out.on (((HBW.out.trans (HB4.out.mono (by omega))).trans ((hBr.mono (by omega)).drew)).mono hBH)) HM.out ((hLW.out.below ((HB4.out.trans (hBr.mono (by omega))).drew)).more (by simp; omega))
        unfold mapV at hget
        rw [HP.out, hg] at hget
        have HGet := Lib.hid hget
        have HBr := Lib.hid hBr
        clear hse hLn hmem hq hg hget hN1 hBr hkl
        go_wp2_with (fail)
        go_region_held3 (fun w' => w'.cell? ⟨H, 0, none⟩ = some (.pointer p) ∧ w'.cell? ⟨H, 1, none⟩ = some (.int .i64 N) ∧ w'.cell? ⟨H + 1, 0, none⟩ = some (.slice (some ⟨b, off, none⟩) N cap) ∧ w'.cell? ⟨b, off + k * 2, none⟩ = some (.int .i64 k0)) (first | go_keep)
          (first | (go_at_call 13; refine HGet.out.mono ?_; rintro e w6 ⟨rfl, hb6⟩; have hr6 : Below wr.heap.size wr w6 := (Below.refl _ wr).drew.trans (hb6.mono (by simp)); have q0 := (hr6.cell (p := ⟨H, 0, none⟩) (by dsimp only; omega)).trans a2; have q1 := (hr6.cell (p := ⟨H, 1, none⟩) (by dsimp only; omega)).trans a3; have q2 := (hr6.cell (p := ⟨H + 1, 0, none⟩) (by dsimp only; omega)).trans a1; have q3 := (hr6.cell (p := ⟨b, off + k * 2, none⟩) (by dsimp only; omega)).trans hc1; have q4 := (hr6.cell (p := ⟨b, off + k * 2 + 1, none⟩) (by dsimp only; omega)).trans hc2))
        have HB6 := Lib.hid (HBr.out.trans (hr6.mono hzr))
        clear q0 q1 q3 a1 a2 a3 hc1 hc2 hb6 hr6
        go_wp2_with (fail)
        go_roundw
        case rel => exact ⟨k + 1, by omega, by go_num, HB6.out⟩
        case measure => simp [intOf]; omega
      · obtain rfl : k = N := by omega
        obtain ⟨z, hz⟩ : ∃ z, z = sh t t := ⟨_, rfl⟩
        obtain ⟨bb, hbb⟩ : ∃ bb, bb = decide (k = 0) := ⟨_, rfl⟩
        have hzb : ((z : Int) == 0) = bb := by
          rcases HM.out.1 with ⟨h1, h2⟩ | ⟨⟨b, a, h1⟩, h2⟩
          · rw [h2] at hN1
            have : k = 0 := by simpa using hN1
            rw [hz, hbb, h1, this]; simp [sh]
          · have h3 : 0 < ys.length := List.length_pos_iff.2 h2
            have h4 : 1 ≤ sh t t := by rw [h1, sh_kid, if_pos rfl]; omega
            have h5 : ¬ k = 0 := by omega
            rw [hbb, beq_eq_false_iff_ne.2 (by omega)]; simp [h5]
        have hkb : ((k : Int) == 0) = bb := by
          rw [hbb]
          by_cases h : k = 0
          · subst h; rfl
          · rw [beq_eq_false_iff_ne.2 (by omega)]; simp [h]
        have hBw := (hBr.mono (show w4.heap.size ≤ W5.heap.size by omega))
        have hnodes := nodes_any t k wr.drew HM.out.2.1 ((hLW.out.below ((HB4.out.trans (hBr.mono (by omega))).drew)).more (by simp; omega))
        unfold mapV at hnodes
        rw [HP.out, ← hz] at hnodes
        have HNodes := Lib.hid hnodes
        have a4 : wr.cell? ⟨w4.heap.size, 0, none⟩ = some (.int .i64 k) := (hBr.cell (p := ⟨w4.heap.size, 0, none⟩) (by dsimp only; omega)).trans n0
        have HBr := Lib.hid hBr
        have nlt2 : w4.heap.size < wr.heap.size := by omega
        clear hz hbb hnodes hBr hN1 hlt hk n0 hBw
        go_wp2_with (fail)
        go_region_held3 (fun w' => w'.cell? ⟨H, 0, none⟩ = some (.pointer p) ∧ w'.cell? ⟨H, 1, none⟩ = some (.int .i64 k) ∧ w'.cell? ⟨H + 1, 0, none⟩ = some (.slice A k cap) ∧ w'.cell? ⟨w4.heap.size, 0, none⟩ = some (.int .i64 k)) (first | go_keep)
          (first | (go_at_call 17; refine HNodes.out.mono ?_; rintro e w6 ⟨rfl, hb6⟩; have hr6 : Below wr.heap.size wr w6 := (Below.refl _ wr).drew.trans (hb6.mono (by simp)); have q0 := (hr6.cell (p := ⟨H, 0, none⟩) (by dsimp only; omega)).trans a2; have q1 := (hr6.cell (p := ⟨H, 1, none⟩) (by dsimp only; omega)).trans a3; have q2 := (hr6.cell (p := ⟨H + 1, 0, none⟩) (by dsimp only; omega)).trans a1; have q3 := (hr6.cell (p := ⟨w4.heap.size, 0, none⟩) (by dsimp only; omega)).trans a4))
        have hBF : Below W5.heap.size W5 w6 := HBr.out.trans (hr6.mono hzr)
        have hbF := HB2.out.below hBF (by omega)
        have r0 : w6.cell? ⟨H + 2, 0, none⟩ = some (.int .i64 0) := hbF.cell 0
        have rf := hbF.frozen 0
        have hKF : w6.heap[D]? = some (.deferred (some [])) := (hBF.block D hDz).trans HK.out
        have HKF := Lib.hid hKF
        have HBF := Lib.hid hBF
        clear q0 q1 q2 q3 a1 a2 a3 a4 hb6 hr6 hKF hBF hbF hzb hkb
        go_wp2_with (fail)
        have hKL : (w6.setCell ⟨H + 2, 0, none⟩ (.int .i64 1)).heap[D]? = some (.deferred (some [])) := (Below.heap_setCell w6 _ _ D (by dsimp only; omega)).trans HKF.out
        have hlast := ((HB4.out.trans (HBF.out.mono (by omega))).mono (show H ≤ H + 4 by omega)).setCell (p := ⟨H + 2, 0, none⟩) (show H ≤ H + 2 by omega) (.int .i64 1)
        have hDw : w.heap.size ≤ D := by rw [← HH.out]; omega
        have hfin := HBW.out.trans hlast
        refine ⟨by simp, .inl ⟨_, _, rfl, run_takeDeferred hKL, ?_⟩⟩
        have hD6 : D < (w6.setCell ⟨H + 2, 0, none⟩ (.int .i64 1)).heap.size := (Array.getElem?_eq_some_iff.1 hKL).1
        have hput : Below D (w6.setCell ⟨H + 2, 0, none⟩ (.int .i64 1)) ((w6.setCell ⟨H + 2, 0, none⟩ (.int .i64 1)).putObj D (.deferred none)) := (Below.refl D _).grown (grownBy_putObj' _ D _) (Nat.le_of_lt hD6) (fun k e => by cases e; exact Nat.le_refl _)
        have rc : ((w6.setCell ⟨H + 2, 0, none⟩ (.int .i64 1)).putObj D (.deferred none)).cell? ⟨H + 2, 0, none⟩ = some (.int .i64 1) := (hput.cell (p := ⟨H + 2, 0, none⟩) (by dsimp only; omega)).trans (World.cell?_setCell_same' _ _ _ (by rw [r0]; rfl))
        exact ⟨.int .i64 1, by simp [results, Tryd.results12, go_sem, rc], rfl, by rw [← HH.out]; exact hfin.trans (hput.mono (by omega))⟩
  case stop =>
    rintro D c pre W5 hD ⟨k, hk, hpre⟩ hx hK
    exact absurd hpre (hx k)
end Go.Proofs.YtjlbchkdiaomjaaDoor.trie

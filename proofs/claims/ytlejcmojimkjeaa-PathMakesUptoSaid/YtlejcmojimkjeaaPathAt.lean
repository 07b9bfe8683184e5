/- Where steps lead: the package's way. -/
import Derived.Test.YtlejcmojimkjeaaPathFits
import Derived.Test.YtlejcmojimkjeaaBox
namespace Go.Proofs.Ytlejcmojimkjeaa.vt
open Go.RowKit mem

theorem ended_none : ended none = (zeroT, 3) := rfl
theorem ended_some (t : VT) : ended (some t) = (t, 0) := rfl
theorem take_snoc (l : List Way) (k : Nat) (hk : k < l.length) : l.take (k + 1) = l.take k ++ [l[k]] := List.take_succ_eq_append_getElem hk
theorem at_stop {t u : VT} {l : List Way} {k : Nat} (hk : k < l.length) (h : atT t (l.take k) = some u) (hn : leadsB u l[k] = false) : atT t l = none := by
  have h1 : atT t (l.take (k + 1)) = none := by rw [take_snoc l k hk, atT_snoc, h]; simp [hn]
  have := atT_none_more _ (l.drop (k + 1)) _ h1
  rwa [List.take_append_drop] at this
theorem at_on {t u : VT} {l : List Way} {k : Nat} (hk : k < l.length) (h : atT t (l.take k) = some u) (hn : leadsB u l[k] = true) : atT t (l.take (k + 1)) = some (kidT u l[k]) := by
  rw [take_snoc l k hk, atT_snoc, h]; simp [hn]
theorem at_all {t u : VT} {l : List Way} {k : Nat} (hk : ¬ k < l.length) (h : atT t (l.take k) = some u) : atT t l = some u := by
  rwa [List.take_of_length_le (by omega)] at h
abbrev TV : TypeId := 24
abbrev zero3 : Array Value := #[.int .i64 0, .int .i64 0, .slice none 0 0]
abbrev boxV (u : VT) (s : Value) : Array Value := #[.int .i64 u.kind, .int .i64 u.num, s]
def AtRel (G : Nat → Prop) (w0 : World) (t : VT) (l : List Way) (N : Nat) (i : Value) (wr : World) : Prop :=
  ∃ (k : Nat) (u : VT) (s : Value), k ≤ N ∧ i = .int .i64 k ∧ Hid (atT t (l.take k) = some u) ∧ (I64 u.kind ∧ I64 u.num) ∧ Hid (Box wr w0.heap.size TV (boxV u s) ∧ Box wr (w0.heap.size + 1) TV zero3 ∧ Kids (fun b => G b ∧ b < w0.heap.size) wr u.kids s) ∧ Hid (Below w0.heap.size w0 wr)
theorem kid_way {u : VT} {wy : Way} (h : leadsB u wy = true) : ∃ (j : Nat) (hj : j < u.kids.length), wy.2 = (j : Int) ∧ kidT u wy = u.kids[j] := by
  obtain ⟨hk, he⟩ := kid_get h
  have := (leadsB_iff u wy).1 h
  exact ⟨wy.2.toNat, hk, by omega, he⟩
set_option maxHeartbeats 2000000 in
theorem at_any {G G' : Nat → Prop} (t : VT) (s : Value) (l : List Way) (ws : Value) (w : World) (hi : I64 t.kind ∧ I64 t.num) (h : Kids G w t.kids s) (hw : Ways G' w l ws) :
    Calls Try.prog 10 #[.agg #[.int .i64 t.kind, .int .i64 t.num, s], ws] w (ValPost G (ended (atT t l)) w) := by
  have HW := Lib.hid hw
  have HK := Lib.hid (h.lt.below (((Below.refl _ w).alloc (Nat.le_refl _) (.cells #[.int .i64 t.kind, .int .i64 t.num, s] TV)).alloc (by simp) (.cells zero3 TV)))
  obtain ⟨A, cap, rfl, hl⟩ := hw.form
  obtain ⟨A', cap', rfl, hl'⟩ := h.form
  obtain ⟨N, hN⟩ : ∃ N, N = l.length := ⟨_, rfl⟩
  have HN := Lib.hid hN
  rw [← hN] at hl ⊢
  have HB0 : Hid (Below w.heap.size w ((w.alloc (.cells #[.int .i64 t.kind, .int .i64 t.num, .slice A' t.kids.length cap'] TV)).alloc (.cells zero3 TV))) := Lib.hid (((Below.refl _ w).alloc (Nat.le_refl _) _).alloc (by simp) _)
  have HX0 : Hid (Box ((w.alloc (.cells #[.int .i64 t.kind, .int .i64 t.num, .slice A' t.kids.length cap'] TV)).alloc (.cells zero3 TV)) w.heap.size TV (boxV t (.slice A' t.kids.length cap')) ∧ Box ((w.alloc (.cells #[.int .i64 t.kind, .int .i64 t.num, .slice A' t.kids.length cap'] TV)).alloc (.cells zero3 TV)) (w.heap.size + 1) TV zero3) :=
    Lib.hid ⟨(Box.new _ _ _ _ rfl).alloc _, Box.new _ _ _ _ (by simp)⟩
  have HI := Lib.hid hi
  obtain ⟨n, hn⟩ : ∃ n, n = t.kids.length := ⟨_, rfl⟩
  rw [← hn] at HK HB0 HX0 ⊢
  clear h hw hN hn hi
  go_enter Try.func10, Try.ntmps10
  go_wp2
  go_loopw [10] (fun i wr => AtRel G w t l N i wr) (fun i _ => N - (intOf i).toNat)
  case atStart => unfold AtRel; exact ⟨0, t, _, Nat.zero_le _, rfl, Lib.hid (by rw [List.take_zero, atT]), HI.out, Lib.hid ⟨HX0.out.1, HX0.out.2, HK.out⟩, HB0⟩
  case round =>
    obtain ⟨k, u, s, hk, rfl, HA, ⟨hu1, hu2⟩, HX, HB⟩ := hrel
    by_cases hlt : k < N
    · have hkl : k < l.length := by have := HN.out; omega
      obtain ⟨b, off, cap2, hs, hblt, hiw, c0, c1⟩ := HW.out.step HB.out k hkl
      injection hs with hA hL hC
      subst hA
      subst hC
      clear hL
      obtain ⟨X0, X1, XK⟩ := HX.out
      obtain ⟨A2, cp2, hs2, hul⟩ := XK.form
      subst hs2
      have hz := X1.lt
      have hz0 := X0.lt
      have a0 : wr.cell? ⟨w.heap.size, 0, none⟩ = some (.int .i64 u.kind) := X0.cell 0
      have a1 : wr.cell? ⟨w.heap.size, 1, none⟩ = some (.int .i64 u.num) := X0.cell 1
      have a2 : wr.cell? ⟨w.heap.size, 2, none⟩ = some (.slice A2 u.kids.length cp2) := X0.cell 2
      have HON : Hid (∀ w', Below wr.heap.size wr w' → Box w' w.heap.size TV (boxV u (.slice A2 u.kids.length cp2)) ∧ Box w' (w.heap.size + 1) TV zero3 ∧ Kids (fun b => G b ∧ b < w.heap.size) w' u.kids (.slice A2 u.kids.length cp2)) := Lib.hid fun w' hb => ⟨X0.on hb, X1.on hb, XK.below hb⟩
      obtain ⟨wy, hwy⟩ : ∃ wy, wy = l[k] := ⟨_, rfl⟩
      have HWY := Lib.hid hwy
      rw [← hwy] at c0 c1 hiw
      obtain ⟨M, hM⟩ : ∃ M, M = u.kids.length := ⟨_, rfl⟩
      have HM := Lib.hid hM
      have HLD := Lib.hid (fun o => leads_any u A2 cp2 wy (wr.alloc o) ⟨hu1, hiw⟩ hul)
      rw [← hM] at a2 hul HON HLD
      have HWB := Lib.hid (fun cs (w' : World) (hb : Below (wr.alloc (.cells cs 42)).heap.size (wr.alloc (.cells cs 42)) w') => (Box.new wr 42 cs _ rfl).on hb)
      have HUP : Hid (∀ o w', Below (wr.alloc o).heap.size (wr.alloc o) w' → Below wr.heap.size wr w') := Lib.hid fun o w' hb => ((Below.refl _ _).alloc (Nat.le_refl _) o).trans (hb.mono (by simp))
      clear X0 X1 XK HX hwy hM HX0 HK HB0
      by_cases hL : leadsB u wy = true
      · obtain ⟨j, hj, hj2, hkt⟩ := kid_way hL
        rw [hL] at HLD
        rw [hj2] at c1 HLD hiw
        have hjM : j < M := by have := HM.out; omega
        have HLI := Lib.hid hiw
        have hiw2 : (j : Int) ≤ 9223372036854775807 := hiw.2
        clear hj2 hiw
        go_wp2_with (fail)
        refine (HLD.out _).mono ?_
        rintro e w1 ⟨rfl, hb1⟩
        have hb1' := HUP.out _ _ hb1
        obtain ⟨Y0, Y1, YK⟩ := HON.out w1 hb1'
        have hw0 := HWB.out _ w1 hb1
        have g1 : w1.cell? ⟨wr.heap.size, 1, none⟩ = some (.int .i64 j) := hw0.cell 1
        have a0 : w1.cell? ⟨w.heap.size, 0, none⟩ = some (.int .i64 u.kind) := Y0.cell 0
        have a1 : w1.cell? ⟨w.heap.size, 1, none⟩ = some (.int .i64 u.num) := Y0.cell 1
        have a2 : w1.cell? ⟨w.heap.size, 2, none⟩ = some (.slice A2 M cp2) := Y0.cell 2
        have f0 := Y0.frozen 0
        have f1 := Y0.frozen 1
        have f2 := Y0.frozen 2
        rw [HM.out] at YK
        obtain ⟨b', off', cp', hs', hG, ⟨i1, i2, k0, k1, s', k2, hkk⟩⟩ := YK.at_ j hj
        injection hs' with hA hL2 hC
        subst hA
        subst hC
        clear hL2
        obtain ⟨A3, cp3, hs3, _⟩ := hkk.form
        subst hs3
        obtain ⟨u', hu'⟩ : ∃ u', u' = u.kids[j] := ⟨_, rfl⟩
        rw [← hu'] at i1 i2 k0 k1 k2 hkk hkt
        have HKK := Lib.hid hkk
        have HE : Hid (atT t (l.take (k + 1)) = some u') := Lib.hid (by rw [at_on hkl HA.out (by rw [← HWY.out]; exact hL), ← HWY.out, hkt])
        obtain ⟨M', hM'⟩ : ∃ M', M' = u'.kids.length := ⟨_, rfl⟩
        rw [← hM'] at k2 HKK
        have HY := Lib.hid (And.intro Y0 Y1)
        have HBW := Lib.hid (HB.out.trans (hb1'.mono HB.out.size))
        clear hb1 hb1' Y0 Y1 YK c0 c1 HLD hkk hu' hM' hkt hw0 HON HWB HUP HLI
        go_wp2
        go_roundw
        case rel =>
          unfold AtRel
          refine ⟨k + 1, u', .slice A3 M' cp3, by omega, by go_num, HE, ⟨i1, i2⟩, Lib.hid ⟨HY.out.1.three _ _ _, HY.out.2.far3 (by omega) _ _ _ _ _ _, ?_⟩, Lib.hid (below_told HBW.out (Nat.le_refl _))⟩
          exact ((HKK.out.set fun c hc _ => by omega).set fun c hc _ => by omega).set fun c hc _ => by omega
        case measure => simp [intOf]; omega
      · have hL' : leadsB u wy = false := by simpa using hL
        rw [hL'] at HLD
        go_wp2_with (fail)
        refine (HLD.out _).mono ?_
        rintro e w1 ⟨rfl, hb1⟩
        have hb1' := HUP.out _ _ hb1
        obtain ⟨Y0, Y1, YK⟩ := HON.out w1 hb1'
        have d0 : w1.cell? ⟨w.heap.size + 1, 0, none⟩ = some (.int .i64 0) := Y1.cell 0
        have d1 : w1.cell? ⟨w.heap.size + 1, 1, none⟩ = some (.int .i64 0) := Y1.cell 1
        have d2 : w1.cell? ⟨w.heap.size + 1, 2, none⟩ = some (.slice none 0 0) := Y1.cell 2
        have f0 := Y1.frozen 0
        have f1 := Y1.frozen 1
        have f2 := Y1.frozen 2
        have HBW := Lib.hid (HB.out.trans (hb1'.mono HB.out.size))
        clear hb1 hb1' Y0 Y1 YK c0 c1 a0 a1 a2 HLD
        have HE : Hid (atT t l = none) := Lib.hid (at_stop hkl HA.out (by rw [← HWY.out]; exact hL'))
        go_wp2
        refine bodyPost_ret (v := .tuple #[.agg #[.int .i64 0, .int .i64 0, .slice none 0 0], .int .i64 3]) (by simp [results, Try.results10, go_sem, d0, d1, d2]) rfl ?_
        rw [HE.out, ended_none]
        exact told_here 0 0 [] _ 3 (Kids.nil_ _ _) HBW.out
    · obtain ⟨X0, X1, XK⟩ := HX.out
      obtain ⟨A2, cp2, hs2, hul⟩ := XK.form
      subst hs2
      have hz := X1.lt
      have hz0 := X0.lt
      have a0 : wr.cell? ⟨w.heap.size, 0, none⟩ = some (.int .i64 u.kind) := X0.cell 0
      have a1 : wr.cell? ⟨w.heap.size, 1, none⟩ = some (.int .i64 u.num) := X0.cell 1
      have a2 : wr.cell? ⟨w.heap.size, 2, none⟩ = some (.slice A2 u.kids.length cp2) := X0.cell 2
      have d0 : wr.cell? ⟨w.heap.size + 1, 0, none⟩ = some (.int .i64 0) := X1.cell 0
      have d1 : wr.cell? ⟨w.heap.size + 1, 1, none⟩ = some (.int .i64 0) := X1.cell 1
      have d2 : wr.cell? ⟨w.heap.size + 1, 2, none⟩ = some (.slice none 0 0) := X1.cell 2
      have f0 := X1.frozen 0
      have f1 := X1.frozen 1
      have f2 := X1.frozen 2
      have HXK := Lib.hid XK
      have HE : Hid (atT t l = some u) := Lib.hid (at_all (by have := HN.out; omega) HA.out)
      obtain ⟨M, hM⟩ : ∃ M, M = u.kids.length := ⟨_, rfl⟩
      rw [← hM] at a2 HXK
      clear X0 X1 XK HX hM hul
      go_wp2
      refine bodyPost_ret (v := .tuple #[.agg #[.int .i64 u.kind, .int .i64 u.num, .slice A2 M cp2], .int .i64 0]) (by simp [results, Try.results10, go_sem, d0, d1, d2]) rfl ?_
      rw [HE.out, ended_some, show u = .mk u.kind u.num u.kids from VT.eta u]
      exact told_here u.kind u.num u.kids _ 0 HXK.out HB.out
end Go.Proofs.Ytlejcmojimkjeaa.vt

/- Where steps lead: the document's way. -/
import Derived.Test.YtlejcmojimkjeaaPathAt
import Derived.Deep.RegionHeld3
import Derived.StillTailTactics
namespace Go.Proofs.Ytlejcmojimkjeaa.vt
open Go.RowKit mem

theorem ways_tail {G : Nat → Prop} {w : World} {x : Way} {r : List Way} {b off L cap : Nat} (h : Ways G w (x :: r) (.slice (some ⟨b, off, none⟩) L cap)) (h1 : cap ≠ 1) :
    Ways G w r (.slice (some ⟨b, off + 2, none⟩) (L - 1) (cap - 1)) := by
  obtain ⟨A, c, hs, hl, h⟩ := h
  injection hs with hA hL hC
  subst hA hC hL
  simp only [List.length_cons] at hl h ⊢
  refine ⟨some ⟨b, off + 2, none⟩, cap - 1, by simp, by omega, fun h0 => ?_⟩
  obtain ⟨b', off', e, hb, h⟩ := h (by omega)
  injection e with e
  injection e with e1 e2
  subst e1 e2
  refine ⟨b, off + 2, rfl, hb, fun k hk => ?_⟩
  have := h (k + 1) (by omega)
  rw [show off + 2 + k * 2 = off + (k + 1) * 2 by omega]
  exact this
theorem ways_one {G : Nat → Prop} {w : World} {x : Way} {r : List Way} {b off L : Nat} (h : Ways G w (x :: r) (.slice (some ⟨b, off, none⟩) L 1)) :
    Ways G w r (.slice (some ⟨b, off, none⟩) 0 0) ∧ L = 1 := by
  obtain ⟨A, c, hs, hl, h⟩ := h
  injection hs with hA hL hC
  subst hA hC hL
  simp only [List.length_cons] at hl h ⊢
  have h0 : r.length = 0 := by omega
  obtain rfl : r = [] := List.eq_nil_of_length_eq_zero h0
  exact ⟨⟨_, 0, rfl, by simp, fun h => by simp at h⟩, by simp⟩
theorem ways_head {G : Nat → Prop} {w : World} {x : Way} {r : List Way} {s : Value} (h : Ways G w (x :: r) s) : ∃ b off L cap, s = .slice (some ⟨b, off, none⟩) L cap ∧ b < w.heap.size ∧ (1 ≤ L ∧ L ≤ cap ∧ cap ≤ 9223372036854775807) ∧ I64 x.2 ∧ w.cell? ⟨b, off, none⟩ = some (.bool x.1) ∧ w.cell? ⟨b, off + 1, none⟩ = some (.int .i64 x.2) := by
  obtain ⟨A, c, rfl, hl, h⟩ := h
  obtain ⟨b, off, rfl, hb, h⟩ := h (by simp)
  have := h 0 (by simp)
  simp only [Nat.zero_mul, Nat.add_zero, List.getElem_cons_zero] at this
  exact ⟨b, off, _, c, rfl, World.block_lt_of_cell? _ _ this.2.1, ⟨by simp, hl.2.1, hl.2.2⟩, this.1, this.2.1, this.2.2⟩
def RAt (l : List Way) : Prop := ∀ (G G' : Nat → Prop) (t : VT) (s : Value) (ws : Value) (w : World), I64 t.kind ∧ I64 t.num → Kids G w t.kids s → Ways G' w l ws →
    Calls Try.prog 11 #[.agg #[.int .i64 t.kind, .int .i64 t.num, s], ws] w (ValPost G (ended (atT t l)) w)
theorem rat_nil : RAt [] := by
  intro G G' t s ws w hi h hw
  obtain ⟨A, cap, rfl, _⟩ := hw.form
  obtain ⟨A2, cp2, rfl, _⟩ := h.form
  have HK := Lib.hid (fun o o' => h.below (((Below.refl w.heap.size w).alloc (Nat.le_refl _) o).alloc (by simp) o'))
  have HB := Lib.hid (fun o o' => ((Below.refl w.heap.size w).alloc (Nat.le_refl _) o).alloc (by simp) o')
  obtain ⟨M, hM⟩ : ∃ M, M = t.kids.length := ⟨_, rfl⟩
  rw [← hM] at HK ⊢
  clear h hw hM hi
  show Calls _ _ #[_, .slice A 0 cap] _ _
  go_enter Try.func11, Try.ntmps11
  go_wp2
  refine bodyPost_ret (v := .tuple #[.agg #[.int .i64 t.kind, .int .i64 t.num, .slice A2 M cp2], .int .i64 0]) (by simp [results, Try.results11, go_sem]) rfl ?_
  rw [atT, ended_some]
  exact ⟨_, rfl, HK.out _ _, HB.out _ _⟩
theorem rat_stop {G G' : Nat → Prop} (x : Way) (r : List Way) (t : VT) (s : Value) (ws : Value) (w : World) (hi : I64 t.kind ∧ I64 t.num) (h : Kids G w t.kids s) (hw : Ways G' w (x :: r) ws) (hn : leadsB t x = false) :
    Calls Try.prog 11 #[.agg #[.int .i64 t.kind, .int .i64 t.num, s], ws] w (ValPost G (zeroT, 3) w) := by
  obtain ⟨b, off, L, cap, rfl, hb, ⟨hL1, hL2, hL3⟩, hix, c0, c1⟩ := ways_head hw
  obtain ⟨A2, cp2, rfl, hul⟩ := h.form
  have HB := Lib.hid (fun o o' o'' => (((Below.refl w.heap.size w).alloc (Nat.le_refl _) o).alloc (by simp) o').alloc (by simp; omega) o'')
  obtain ⟨f, n⟩ := x
  have hLd := leadsB_iff t (f, n)
  obtain ⟨M, hM⟩ : ∃ M, M = t.kids.length := ⟨_, rfl⟩
  obtain ⟨K, hK⟩ : ∃ K, K = t.kind := ⟨_, rfl⟩
  rw [hn, ← hM, ← hK] at hLd
  rw [← hM] at hul
  rw [← hM, ← hK]
  have hno : ¬ (K = fromK f ∧ 0 ≤ n ∧ n < (M : Int)) := fun e => by simpa using hLd.2 e
  clear h hw hM hi hLd hK hn
  dsimp only at c0 c1 hix
  unfold I64 at hix
  have hend : ∀ o o' o'', Hid (ValPost G (zeroT, 3) w (.returned (.tuple #[.agg #[.int .i64 0, .int .i64 0, .slice none 0 0], .int .i64 3])) (((w.alloc o).alloc o').alloc o'')) := fun o o' o'' => Lib.hid ⟨_, rfl, Kids.nil_ _ _, HB.out _ _ _⟩
  clear HB
  cases f
  · by_cases h1 : K = 2
    · subst h1
      by_cases h2 : 0 ≤ n
      · have h3 : ¬ n < (M : Int) := fun e => hno ⟨rfl, h2, e⟩
        clear hno
        go_enter Try.func11, Try.ntmps11
        go_wp2
        refine bodyPost_ret (v := .tuple #[.agg #[.int .i64 0, .int .i64 0, .slice none 0 0], .int .i64 3]) (by simp [results, Try.results11, go_sem]) rfl ?_
        exact (hend _ _ _).out
      · clear hno
        go_enter Try.func11, Try.ntmps11
        go_wp2
        refine bodyPost_ret (v := .tuple #[.agg #[.int .i64 0, .int .i64 0, .slice none 0 0], .int .i64 3]) (by simp [results, Try.results11, go_sem]) rfl ?_
        exact (hend _ _ _).out
    · have h1' : (K == 2) = false := by simpa using h1
      clear hno
      go_enter Try.func11, Try.ntmps11
      go_wp2
      refine bodyPost_ret (v := .tuple #[.agg #[.int .i64 0, .int .i64 0, .slice none 0 0], .int .i64 3]) (by simp [results, Try.results11, go_sem]) rfl ?_
      exact (hend _ _ _).out
  · by_cases h1 : K = 3
    · subst h1
      by_cases h2 : 0 ≤ n
      · have h3 : ¬ n < (M : Int) := fun e => hno ⟨rfl, h2, e⟩
        clear hno
        go_enter Try.func11, Try.ntmps11
        go_wp2
        refine bodyPost_ret (v := .tuple #[.agg #[.int .i64 0, .int .i64 0, .slice none 0 0], .int .i64 3]) (by simp [results, Try.results11, go_sem]) rfl ?_
        exact (hend _ _ _).out
      · clear hno
        go_enter Try.func11, Try.ntmps11
        go_wp2
        refine bodyPost_ret (v := .tuple #[.agg #[.int .i64 0, .int .i64 0, .slice none 0 0], .int .i64 3]) (by simp [results, Try.results11, go_sem]) rfl ?_
        exact (hend _ _ _).out
    · have h1' : (K == 3) = false := by simpa using h1
      clear hno
      go_enter Try.func11, Try.ntmps11
      go_wp2
      refine bodyPost_ret (v := .tuple #[.agg #[.int .i64 0, .int .i64 0, .slice none 0 0], .int .i64 3]) (by simp [results, Try.results11, go_sem]) rfl ?_
      exact (hend _ _ _).out
set_option maxHeartbeats 2000000 in
theorem rat_go {G G' : Nat → Prop} (x : Way) (r : List Way) (ih : RAt r) (t : VT) (s : Value) (ws : Value) (w : World) (h : Kids G w t.kids s) (hw : Ways G' w (x :: r) ws) (hn : leadsB t x = true) :
    Calls Try.prog 11 #[.agg #[.int .i64 t.kind, .int .i64 t.num, s], ws] w (ValPost G (ended (atT (kidT t x) r)) w) := by
  obtain ⟨b, off, L, cap, rfl, hb, ⟨hL1, hL2, hL3⟩, hix, c0, c1⟩ := ways_head hw
  obtain ⟨j, hj, hj2, hkt⟩ := kid_way hn
  have hkd := ((leadsB_iff t x).1 hn).1
  obtain ⟨b2, off2, cp2, rfl, hG, i1, i2, k0, k1, s', k2, hkk⟩ := h.at_ j hj
  obtain ⟨A3, cp3, rfl, hul⟩ := hkk.form
  have hb2 : b2 < w.heap.size := World.block_lt_of_cell? _ _ k0
  have HUP : Hid (∀ o o' o'', Below w.heap.size w (((w.alloc o).alloc o').alloc o'')) := Lib.hid (fun o o' o'' => (((Below.refl w.heap.size w).alloc (Nat.le_refl _) o).alloc (by simp) o').alloc (by simp; omega) o'')
  have HI := Lib.hid (fun ws' (w' : World) (hb : Below w.heap.size w w') (hw' : Ways G' w r ws') => ih (fun b => G b ∧ b < w.heap.size) G' t.kids[j] _ ws' w' ⟨i1, i2⟩ (hkk.lt.below hb) (hw'.below hb))
  have HT := Lib.hid (fun h1 => ways_tail hw h1)
  have HO := Lib.hid (fun (e : cap = 1) => ways_one (by rw [e] at hw; exact hw))
  obtain ⟨f, n⟩ := x
  dsimp only at c0 c1 hix hj2
  subst hj2
  obtain ⟨u, hu⟩ : ∃ u, u = t.kids[j] := ⟨_, rfl⟩
  rw [hkt]
  rw [← hu] at i1 i2 k0 k1 k2 hkk HI hul ⊢
  obtain ⟨M, hM⟩ : ∃ M, M = t.kids.length := ⟨_, rfl⟩
  obtain ⟨M3, hM3⟩ : ∃ M3, M3 = u.kids.length := ⟨_, rfl⟩
  rw [← hM3] at k2 HI hul
  rw [← hM] at hj ⊢
  have hj3 : (j : Int) < (M : Int) := by omega
  have hj4 : (j : Int) ≤ 9223372036854775807 := hix.2
  obtain ⟨K, hK⟩ : ∃ K, K = t.kind := ⟨_, rfl⟩
  rw [← hK] at hkd ⊢
  subst hkd
  clear hK hM hM3 hkt hu hkk h hix hn ih hw hG
  by_cases hc1 : cap = 1
  · have HIw := Lib.hid (fun w' hb => HI.out _ w' hb (HO.out hc1).1)
    have hL := (HO.out hc1).2
    clear HI HT HO
    subst hL hc1
    obtain ⟨p, hp⟩ : ∃ p, p = ended (atT u r) := ⟨_, rfl⟩
    rw [← hp] at HIw ⊢
    clear hp
    cases f
    · first | rw [show fromK false = 2 from rfl] | rw [show fromK true = 3 from rfl]
      go_enter Try.func11, Try.ntmps11
      go_wp2_with (fail)
      obtain ⟨H, hH⟩ : ∃ H, H = w.heap.size := ⟨_, rfl⟩
      obtain ⟨W, hW⟩ : ∃ W, W = (((w.alloc (Obj.cells #[Value.int IntKind.i64 2, Value.int IntKind.i64 t.num, Value.slice (some { block := b2, off := off2 }) M cp2] 24)).alloc (Obj.cells #[Value.int IntKind.i64 0, Value.int IntKind.i64 0, Value.slice none 0 0] 24)).alloc (Obj.cells #[Value.bool false, Value.int IntKind.i64 ↑j] 42)) := ⟨_, rfl⟩
      rw [← hW, ← hH]
      have b0 : Box W H TV #[.int .i64 2, .int .i64 t.num, .slice (some ⟨b2, off2, none⟩) M cp2] := by rw [hW]; exact ((Box.new _ _ _ _ hH).alloc _).alloc _
      have b1 : Box W (H + 1) TV zero3 := by rw [hW]; exact (Box.new _ _ _ _ (by rw [hH]; simp)).alloc _
      have b3 : Box W (H + 2) 42 #[.bool false, .int .i64 j] := by rw [hW]; exact Box.new _ _ _ _ (by rw [hH]; simp)
      have hBW : Below H w W := by rw [hW, hH]; exact HUP.out _ _ _
      have y0 : W.cell? ⟨H, 2, none⟩ = some (.slice (some ⟨b2, off2, none⟩) M cp2) := b0.cell 2
      have y1 : W.cell? ⟨H + 2, 1, none⟩ = some (.int .i64 j) := b3.cell 1
      rw [← hH] at hb2
      have z0 := (hBW.cell (p := ⟨b2, off2 + j * 3, none⟩) hb2).trans k0
      have z1 := (hBW.cell (p := ⟨b2, off2 + j * 3 + 1, none⟩) hb2).trans k1
      have z2 := (hBW.cell (p := ⟨b2, off2 + j * 3 + 2, none⟩) hb2).trans k2
      have hz := b3.lt
      have HX : Hid (∀ w', Below W.heap.size W w' → Box w' (H + 1) TV zero3 ∧ Below H w w' ∧ w'.cell? ⟨H, 2, none⟩ = some (.slice (some ⟨b2, off2, none⟩) M cp2) ∧ w'.cell? ⟨H + 2, 1, none⟩ = some (.int .i64 j) ∧ w'.cell? ⟨b2, off2 + j * 3, none⟩ = some (.int .i64 u.kind) ∧ w'.cell? ⟨b2, off2 + j * 3 + 1, none⟩ = some (.int .i64 u.num) ∧ w'.cell? ⟨b2, off2 + j * 3 + 2, none⟩ = some (.slice A3 M3 cp3)) := Lib.hid fun w' h =>
        ⟨b1.on h, hBW.trans (h.mono (by omega)), (h.cell (p := ⟨H, 2, none⟩) (by dsimp only; omega)).trans y0, (h.cell (p := ⟨H + 2, 1, none⟩) (by dsimp only; omega)).trans y1, (h.cell (p := ⟨b2, _, none⟩) (by dsimp only; omega)).trans z0, (h.cell (p := ⟨b2, _, none⟩) (by dsimp only; omega)).trans z1, (h.cell (p := ⟨b2, _, none⟩) (by dsimp only; omega)).trans z2⟩
      have HCW : Hid (Below w.heap.size w W.drew) := Lib.hid (by rw [← hH]; exact hBW.drew)
      have hH2 : H + 1 + 1 = H + 2 := rfl
      rw [hH2]
      have HH := Lib.hid hH
      have hbH : b < H := by rw [hH]; exact hb
      have hn1 : ¬ H + 1 = b2 := by omega
      have hn2 : ¬ b2 = H + 1 := by omega
      clear b0 b1 b3 hBW hW k0 k1 k2 c0 c1 hH2 hH hb
      go_region_held3 (fun w' => w'.cell? ⟨H, 2, none⟩ = some (.slice (some ⟨b2, off2, none⟩) M cp2) ∧ w'.cell? ⟨H + 2, 1, none⟩ = some (.int .i64 j) ∧ w'.cell? ⟨b2, off2 + j * 3, none⟩ = some (.int .i64 u.kind) ∧ w'.cell? ⟨b2, off2 + j * 3 + 1, none⟩ = some (.int .i64 u.num) ∧ w'.cell? ⟨b2, off2 + j * 3 + 2, none⟩ = some (.slice A3 M3 cp3)) (first | go_keep)
        (first | (go_at_call 11; (with_reducible refine (HIw.out _ HCW.out).mono ?_); rintro e w1 ⟨s1, rfl, hk1, hb1⟩; obtain ⟨q5, q6, q0, q1, q2, q3, q4⟩ := HX.out w1 ((Below.refl _ W).drew.trans hb1); obtain ⟨A5, cp5, rfl, _⟩ := hk1.form; have r0 : w1.cell? ⟨H + 1, 0, none⟩ = some (.int .i64 0) := q5.cell 0; have r1 : w1.cell? ⟨H + 1, 1, none⟩ = some (.int .i64 0) := q5.cell 1; have r2 : w1.cell? ⟨H + 1, 2, none⟩ = some (.slice none 0 0) := q5.cell 2; have f0 := q5.frozen 0; have f1 := q5.frozen 1; have f2 := q5.frozen 2))
      all_goals
        have hbx := q5.three (.int .i64 p.1.kind) (.int .i64 p.1.num) (.slice A5 p.1.kids.length cp5)
        have x0 := hbx.cell 0
        have x1 := hbx.cell 1
        have x2 := hbx.cell 2
        simp only [List.getElem?_toArray, List.getElem?_cons_zero, List.getElem?_cons_succ] at x0 x1 x2
        have HK1 := Lib.hid hk1
        have HQ6 := Lib.hid q6
        clear hk1 q6 q5 q0 q1 q2 q3 q4 hbx r0 r1 r2 y0 y1 z0 z1 z2
        go_wp2_with (fail)
        refine bodyPost_ret (v := .tuple #[.agg #[.int .i64 p.1.kind, .int .i64 p.1.num, .slice A5 p.1.kids.length cp5], .int .i64 p.2]) (by simp [results, Try.results11, go_sem, x0, x1, x2]) rfl ?_
        clear x0 x1 x2
        obtain ⟨⟨kd, nm, l⟩, n⟩ := p
        exact told_val kd nm l _ n (by rw [HH.out]; exact Nat.le_refl _) (HK1.out.mono fun b hb => ⟨hb.1, by have := HH.out; omega⟩) HQ6.out (by rw [HH.out]; exact Nat.le_refl _)
    · first | rw [show fromK false = 2 from rfl] | rw [show fromK true = 3 from rfl]
      go_enter Try.func11, Try.ntmps11
      go_wp2_with (fail)
      obtain ⟨H, hH⟩ : ∃ H, H = w.heap.size := ⟨_, rfl⟩
      obtain ⟨W, hW⟩ : ∃ W, W = (((w.alloc (Obj.cells #[Value.int IntKind.i64 3, Value.int IntKind.i64 t.num, Value.slice (some { block := b2, off := off2 }) M cp2] 24)).alloc (Obj.cells #[Value.int IntKind.i64 0, Value.int IntKind.i64 0, Value.slice none 0 0] 24)).alloc (Obj.cells #[Value.bool true, Value.int IntKind.i64 ↑j] 42)) := ⟨_, rfl⟩
      rw [← hW, ← hH]
      have b0 : Box W H TV #[.int .i64 3, .int .i64 t.num, .slice (some ⟨b2, off2, none⟩) M cp2] := by rw [hW]; exact ((Box.new _ _ _ _ hH).alloc _).alloc _
      have b1 : Box W (H + 1) TV zero3 := by rw [hW]; exact (Box.new _ _ _ _ (by rw [hH]; simp)).alloc _
      have b3 : Box W (H + 2) 42 #[.bool true, .int .i64 j] := by rw [hW]; exact Box.new _ _ _ _ (by rw [hH]; simp)
      have hBW : Below H w W := by rw [hW, hH]; exact HUP.out _ _ _
      have y0 : W.cell? ⟨H, 2, none⟩ = some (.slice (some ⟨b2, off2, none⟩) M cp2) := b0.cell 2
      have y1 : W.cell? ⟨H + 2, 1, none⟩ = some (.int .i64 j) := b3.cell 1
      rw [← hH] at hb2
      have z0 := (hBW.cell (p := ⟨b2, off2 + j * 3, none⟩) hb2).trans k0
      have z1 := (hBW.cell (p := ⟨b2, off2 + j * 3 + 1, none⟩) hb2).trans k1
      have z2 := (hBW.cell (p := ⟨b2, off2 + j * 3 + 2, none⟩) hb2).trans k2
      have hz := b3.lt
      have HX : Hid (∀ w', Below W.heap.size W w' → Box w' (H + 1) TV zero3 ∧ Below H w w' ∧ w'.cell? ⟨H, 2, none⟩ = some (.slice (some ⟨b2, off2, none⟩) M cp2) ∧ w'.cell? ⟨H + 2, 1, none⟩ = some (.int .i64 j) ∧ w'.cell? ⟨b2, off2 + j * 3, none⟩ = some (.int .i64 u.kind) ∧ w'.cell? ⟨b2, off2 + j * 3 + 1, none⟩ = some (.int .i64 u.num) ∧ w'.cell? ⟨b2, off2 + j * 3 + 2, none⟩ = some (.slice A3 M3 cp3)) := Lib.hid fun w' h =>
        ⟨b1.on h, hBW.trans (h.mono (by omega)), (h.cell (p := ⟨H, 2, none⟩) (by dsimp only; omega)).trans y0, (h.cell (p := ⟨H + 2, 1, none⟩) (by dsimp only; omega)).trans y1, (h.cell (p := ⟨b2, _, none⟩) (by dsimp only; omega)).trans z0, (h.cell (p := ⟨b2, _, none⟩) (by dsimp only; omega)).trans z1, (h.cell (p := ⟨b2, _, none⟩) (by dsimp only; omega)).trans z2⟩
      have HCW : Hid (Below w.heap.size w W.drew) := Lib.hid (by rw [← hH]; exact hBW.drew)
      have hH2 : H + 1 + 1 = H + 2 := rfl
      rw [hH2]
      have HH := Lib.hid hH
      have hbH : b < H := by rw [hH]; exact hb
      have hn1 : ¬ H + 1 = b2 := by omega
      have hn2 : ¬ b2 = H + 1 := by omega
      clear b0 b1 b3 hBW hW k0 k1 k2 c0 c1 hH2 hH hb
      go_region_held3 (fun w' => w'.cell? ⟨H, 2, none⟩ = some (.slice (some ⟨b2, off2, none⟩) M cp2) ∧ w'.cell? ⟨H + 2, 1, none⟩ = some (.int .i64 j) ∧ w'.cell? ⟨b2, off2 + j * 3, none⟩ = some (.int .i64 u.kind) ∧ w'.cell? ⟨b2, off2 + j * 3 + 1, none⟩ = some (.int .i64 u.num) ∧ w'.cell? ⟨b2, off2 + j * 3 + 2, none⟩ = some (.slice A3 M3 cp3)) (first | go_keep)
        (first | (go_at_call 11; (with_reducible refine (HIw.out _ HCW.out).mono ?_); rintro e w1 ⟨s1, rfl, hk1, hb1⟩; obtain ⟨q5, q6, q0, q1, q2, q3, q4⟩ := HX.out w1 ((Below.refl _ W).drew.trans hb1); obtain ⟨A5, cp5, rfl, _⟩ := hk1.form; have r0 : w1.cell? ⟨H + 1, 0, none⟩ = some (.int .i64 0) := q5.cell 0; have r1 : w1.cell? ⟨H + 1, 1, none⟩ = some (.int .i64 0) := q5.cell 1; have r2 : w1.cell? ⟨H + 1, 2, none⟩ = some (.slice none 0 0) := q5.cell 2; have f0 := q5.frozen 0; have f1 := q5.frozen 1; have f2 := q5.frozen 2))
      all_goals
        have hbx := q5.three (.int .i64 p.1.kind) (.int .i64 p.1.num) (.slice A5 p.1.kids.length cp5)
        have x0 := hbx.cell 0
        have x1 := hbx.cell 1
        have x2 := hbx.cell 2
        simp only [List.getElem?_toArray, List.getElem?_cons_zero, List.getElem?_cons_succ] at x0 x1 x2
        have HK1 := Lib.hid hk1
        have HQ6 := Lib.hid q6
        clear hk1 q6 q5 q0 q1 q2 q3 q4 hbx r0 r1 r2 y0 y1 z0 z1 z2
        go_wp2_with (fail)
        refine bodyPost_ret (v := .tuple #[.agg #[.int .i64 p.1.kind, .int .i64 p.1.num, .slice A5 p.1.kids.length cp5], .int .i64 p.2]) (by simp [results, Try.results11, go_sem, x0, x1, x2]) rfl ?_
        clear x0 x1 x2
        obtain ⟨⟨kd, nm, l⟩, n⟩ := p
        exact told_val kd nm l _ n (by rw [HH.out]; exact Nat.le_refl _) (HK1.out.mono fun b hb => ⟨hb.1, by have := HH.out; omega⟩) HQ6.out (by rw [HH.out]; exact Nat.le_refl _)
  · have HIw := Lib.hid (fun w' hb => HI.out _ w' hb (HT.out hc1))
    clear HI HT HO
    have hcc : (1 : Int) ≤ (L : Int) := by omega
    have hcd : (1 : Int) ≤ (cap : Int) := by omega
    obtain ⟨p, hp⟩ : ∃ p, p = ended (atT u r) := ⟨_, rfl⟩
    rw [← hp] at HIw ⊢
    clear hp
    cases f
    · first | rw [show fromK false = 2 from rfl] | rw [show fromK true = 3 from rfl]
      go_enter Try.func11, Try.ntmps11
      go_wp2_with (fail)
      obtain ⟨H, hH⟩ : ∃ H, H = w.heap.size := ⟨_, rfl⟩
      obtain ⟨W, hW⟩ : ∃ W, W = (((w.alloc (Obj.cells #[Value.int IntKind.i64 2, Value.int IntKind.i64 t.num, Value.slice (some { block := b2, off := off2 }) M cp2] 24)).alloc (Obj.cells #[Value.int IntKind.i64 0, Value.int IntKind.i64 0, Value.slice none 0 0] 24)).alloc (Obj.cells #[Value.bool false, Value.int IntKind.i64 ↑j] 42)) := ⟨_, rfl⟩
      rw [← hW, ← hH]
      have b0 : Box W H TV #[.int .i64 2, .int .i64 t.num, .slice (some ⟨b2, off2, none⟩) M cp2] := by rw [hW]; exact ((Box.new _ _ _ _ hH).alloc _).alloc _
      have b1 : Box W (H + 1) TV zero3 := by rw [hW]; exact (Box.new _ _ _ _ (by rw [hH]; simp)).alloc _
      have b3 : Box W (H + 2) 42 #[.bool false, .int .i64 j] := by rw [hW]; exact Box.new _ _ _ _ (by rw [hH]; simp)
      have hBW : Below H w W := by rw [hW, hH]; exact HUP.out _ _ _
      have y0 : W.cell? ⟨H, 2, none⟩ = some (.slice (some ⟨b2, off2, none⟩) M cp2) := b0.cell 2
      have y1 : W.cell? ⟨H + 2, 1, none⟩ = some (.int .i64 j) := b3.cell 1
      rw [← hH] at hb2
      have z0 := (hBW.cell (p := ⟨b2, off2 + j * 3, none⟩) hb2).trans k0
      have z1 := (hBW.cell (p := ⟨b2, off2 + j * 3 + 1, none⟩) hb2).trans k1
      have z2 := (hBW.cell (p := ⟨b2, off2 + j * 3 + 2, none⟩) hb2).trans k2
      have hz := b3.lt
      have HX : Hid (∀ w', Below W.heap.size W w' → Box w' (H + 1) TV zero3 ∧ Below H w w' ∧ w'.cell? ⟨H, 2, none⟩ = some (.slice (some ⟨b2, off2, none⟩) M cp2) ∧ w'.cell? ⟨H + 2, 1, none⟩ = some (.int .i64 j) ∧ w'.cell? ⟨b2, off2 + j * 3, none⟩ = some (.int .i64 u.kind) ∧ w'.cell? ⟨b2, off2 + j * 3 + 1, none⟩ = some (.int .i64 u.num) ∧ w'.cell? ⟨b2, off2 + j * 3 + 2, none⟩ = some (.slice A3 M3 cp3)) := Lib.hid fun w' h =>
        ⟨b1.on h, hBW.trans (h.mono (by omega)), (h.cell (p := ⟨H, 2, none⟩) (by dsimp only; omega)).trans y0, (h.cell (p := ⟨H + 2, 1, none⟩) (by dsimp only; omega)).trans y1, (h.cell (p := ⟨b2, _, none⟩) (by dsimp only; omega)).trans z0, (h.cell (p := ⟨b2, _, none⟩) (by dsimp only; omega)).trans z1, (h.cell (p := ⟨b2, _, none⟩) (by dsimp only; omega)).trans z2⟩
      have HCW : Hid (Below w.heap.size w W.drew) := Lib.hid (by rw [← hH]; exact hBW.drew)
      have hH2 : H + 1 + 1 = H + 2 := rfl
      rw [hH2]
      have HH := Lib.hid hH
      have hbH : b < H := by rw [hH]; exact hb
      have hn1 : ¬ H + 1 = b2 := by omega
      have hn2 : ¬ b2 = H + 1 := by omega
      clear b0 b1 b3 hBW hW k0 k1 k2 c0 c1 hH2 hH hb
      go_region_held3 (fun w' => w'.cell? ⟨H, 2, none⟩ = some (.slice (some ⟨b2, off2, none⟩) M cp2) ∧ w'.cell? ⟨H + 2, 1, none⟩ = some (.int .i64 j) ∧ w'.cell? ⟨b2, off2 + j * 3, none⟩ = some (.int .i64 u.kind) ∧ w'.cell? ⟨b2, off2 + j * 3 + 1, none⟩ = some (.int .i64 u.num) ∧ w'.cell? ⟨b2, off2 + j * 3 + 2, none⟩ = some (.slice A3 M3 cp3)) (first | go_keep)
        (first | (go_at_call 11; (with_reducible refine (HIw.out _ HCW.out).mono ?_); rintro e w1 ⟨s1, rfl, hk1, hb1⟩; obtain ⟨q5, q6, q0, q1, q2, q3, q4⟩ := HX.out w1 ((Below.refl _ W).drew.trans hb1); obtain ⟨A5, cp5, rfl, _⟩ := hk1.form; have r0 : w1.cell? ⟨H + 1, 0, none⟩ = some (.int .i64 0) := q5.cell 0; have r1 : w1.cell? ⟨H + 1, 1, none⟩ = some (.int .i64 0) := q5.cell 1; have r2 : w1.cell? ⟨H + 1, 2, none⟩ = some (.slice none 0 0) := q5.cell 2; have f0 := q5.frozen 0; have f1 := q5.frozen 1; have f2 := q5.frozen 2))
      all_goals
        have hbx := q5.three (.int .i64 p.1.kind) (.int .i64 p.1.num) (.slice A5 p.1.kids.length cp5)
        have x0 := hbx.cell 0
        have x1 := hbx.cell 1
        have x2 := hbx.cell 2
        simp only [List.getElem?_toArray, List.getElem?_cons_zero, List.getElem?_cons_succ] at x0 x1 x2
        have HK1 := Lib.hid hk1
        have HQ6 := Lib.hid q6
        clear hk1 q6 q5 q0 q1 q2 q3 q4 hbx r0 r1 r2 y0 y1 z0 z1 z2
        go_wp2_with (fail)
        refine bodyPost_ret (v := .tuple #[.agg #[.int .i64 p.1.kind, .int .i64 p.1.num, .slice A5 p.1.kids.length cp5], .int .i64 p.2]) (by simp [results, Try.results11, go_sem, x0, x1, x2]) rfl ?_
        clear x0 x1 x2
        obtain ⟨⟨kd, nm, l⟩, n⟩ := p
        exact told_val kd nm l _ n (by rw [HH.out]; exact Nat.le_refl _) (HK1.out.mono fun b hb => ⟨hb.1, by have := HH.out; omega⟩) HQ6.out (by rw [HH.out]; exact Nat.le_refl _)
    · first | rw [show fromK false = 2 from rfl] | rw [show fromK true = 3 from rfl]
      go_enter Try.func11, Try.ntmps11
      go_wp2_with (fail)
      obtain ⟨H, hH⟩ : ∃ H, H = w.heap.size := ⟨_, rfl⟩
      obtain ⟨W, hW⟩ : ∃ W, W = (((w.alloc (Obj.cells #[Value.int IntKind.i64 3, Value.int IntKind.i64 t.num, Value.slice (some { block := b2, off := off2 }) M cp2] 24)).alloc (Obj.cells #[Value.int IntKind.i64 0, Value.int IntKind.i64 0, Value.slice none 0 0] 24)).alloc (Obj.cells #[Value.bool true, Value.int IntKind.i64 ↑j] 42)) := ⟨_, rfl⟩
      rw [← hW, ← hH]
      have b0 : Box W H TV #[.int .i64 3, .int .i64 t.num, .slice (some ⟨b2, off2, none⟩) M cp2] := by rw [hW]; exact ((Box.new _ _ _ _ hH).alloc _).alloc _
      have b1 : Box W (H + 1) TV zero3 := by rw [hW]; exact (Box.new _ _ _ _ (by rw [hH]; simp)).alloc _
      have b3 : Box W (H + 2) 42 #[.bool true, .int .i64 j] := by rw [hW]; exact Box.new _ _ _ _ (by rw [hH]; simp)
      have hBW : Below H w W := by rw [hW, hH]; exact HUP.out _ _ _
      have y0 : W.cell? ⟨H, 2, none⟩ = some (.slice (some ⟨b2, off2, none⟩) M cp2) := b0.cell 2
      have y1 : W.cell? ⟨H + 2, 1, none⟩ = some (.int .i64 j) := b3.cell 1
      rw [← hH] at hb2
      have z0 := (hBW.cell (p := ⟨b2, off2 + j * 3, none⟩) hb2).trans k0
      have z1 := (hBW.cell (p := ⟨b2, off2 + j * 3 + 1, none⟩) hb2).trans k1
      have z2 := (hBW.cell (p := ⟨b2, off2 + j * 3 + 2, none⟩) hb2).trans k2
      have hz := b3.lt
      have HX : Hid (∀ w', Below W.heap.size W w' → Box w' (H + 1) TV zero3 ∧ Below H w w' ∧ w'.cell? ⟨H, 2, none⟩ = some (.slice (some ⟨b2, off2, none⟩) M cp2) ∧ w'.cell? ⟨H + 2, 1, none⟩ = some (.int .i64 j) ∧ w'.cell? ⟨b2, off2 + j * 3, none⟩ = some (.int .i64 u.kind) ∧ w'.cell? ⟨b2, off2 + j * 3 + 1, none⟩ = some (.int .i64 u.num) ∧ w'.cell? ⟨b2, off2 + j * 3 + 2, none⟩ = some (.slice A3 M3 cp3)) := Lib.hid fun w' h =>
        ⟨b1.on h, hBW.trans (h.mono (by omega)), (h.cell (p := ⟨H, 2, none⟩) (by dsimp only; omega)).trans y0, (h.cell (p := ⟨H + 2, 1, none⟩) (by dsimp only; omega)).trans y1, (h.cell (p := ⟨b2, _, none⟩) (by dsimp only; omega)).trans z0, (h.cell (p := ⟨b2, _, none⟩) (by dsimp only; omega)).trans z1, (h.cell (p := ⟨b2, _, none⟩) (by dsimp only; omega)).trans z2⟩
      have HCW : Hid (Below w.heap.size w W.drew) := Lib.hid (by rw [← hH]; exact hBW.drew)
      have hH2 : H + 1 + 1 = H + 2 := rfl
      rw [hH2]
      have HH := Lib.hid hH
      have hbH : b < H := by rw [hH]; exact hb
      have hn1 : ¬ H + 1 = b2 := by omega
      have hn2 : ¬ b2 = H + 1 := by omega
      clear b0 b1 b3 hBW hW k0 k1 k2 c0 c1 hH2 hH hb
      go_region_held3 (fun w' => w'.cell? ⟨H, 2, none⟩ = some (.slice (some ⟨b2, off2, none⟩) M cp2) ∧ w'.cell? ⟨H + 2, 1, none⟩ = some (.int .i64 j) ∧ w'.cell? ⟨b2, off2 + j * 3, none⟩ = some (.int .i64 u.kind) ∧ w'.cell? ⟨b2, off2 + j * 3 + 1, none⟩ = some (.int .i64 u.num) ∧ w'.cell? ⟨b2, off2 + j * 3 + 2, none⟩ = some (.slice A3 M3 cp3)) (first | go_keep)
        (first | (go_at_call 11; (with_reducible refine (HIw.out _ HCW.out).mono ?_); rintro e w1 ⟨s1, rfl, hk1, hb1⟩; obtain ⟨q5, q6, q0, q1, q2, q3, q4⟩ := HX.out w1 ((Below.refl _ W).drew.trans hb1); obtain ⟨A5, cp5, rfl, _⟩ := hk1.form; have r0 : w1.cell? ⟨H + 1, 0, none⟩ = some (.int .i64 0) := q5.cell 0; have r1 : w1.cell? ⟨H + 1, 1, none⟩ = some (.int .i64 0) := q5.cell 1; have r2 : w1.cell? ⟨H + 1, 2, none⟩ = some (.slice none 0 0) := q5.cell 2; have f0 := q5.frozen 0; have f1 := q5.frozen 1; have f2 := q5.frozen 2))
      all_goals
        have hbx := q5.three (.int .i64 p.1.kind) (.int .i64 p.1.num) (.slice A5 p.1.kids.length cp5)
        have x0 := hbx.cell 0
        have x1 := hbx.cell 1
        have x2 := hbx.cell 2
        simp only [List.getElem?_toArray, List.getElem?_cons_zero, List.getElem?_cons_succ] at x0 x1 x2
        have HK1 := Lib.hid hk1
        have HQ6 := Lib.hid q6
        clear hk1 q6 q5 q0 q1 q2 q3 q4 hbx r0 r1 r2 y0 y1 z0 z1 z2
        go_wp2_with (fail)
        refine bodyPost_ret (v := .tuple #[.agg #[.int .i64 p.1.kind, .int .i64 p.1.num, .slice A5 p.1.kids.length cp5], .int .i64 p.2]) (by simp [results, Try.results11, go_sem, x0, x1, x2]) rfl ?_
        clear x0 x1 x2
        obtain ⟨⟨kd, nm, l⟩, n⟩ := p
        exact told_val kd nm l _ n (by rw [HH.out]; exact Nat.le_refl _) (HK1.out.mono fun b hb => ⟨hb.1, by have := HH.out; omega⟩) HQ6.out (by rw [HH.out]; exact Nat.le_refl _)
theorem rat_any (l : List Way) : RAt l := by
  induction l with
  | nil => exact rat_nil
  | cons x r ih =>
    intro G G' t s ws w hi h hw
    rw [atT]
    by_cases hn : leadsB t x = true
    · rw [if_pos hn]; exact rat_go x r ih t s ws w h hw hn
    · rw [if_neg hn]; exact rat_stop x r t s ws w hi h hw (by simpa using hn)
end Go.Proofs.Ytlejcmojimkjeaa.vt

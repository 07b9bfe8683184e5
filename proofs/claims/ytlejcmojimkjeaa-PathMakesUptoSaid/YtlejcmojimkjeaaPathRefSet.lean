/- A value with another one where steps lead, or a trap: the document's answer. -/
import Derived.Test.YtlejcmojimkjeaaPathWith
namespace Go.Proofs.Ytlejcmojimkjeaa.vt
open Go.RowKit mem

set_option maxHeartbeats 2000000 in
theorem rset_any {G G' : Nat → Prop} (t x : VT) (s xs : Value) (l : List Way) (ws : Value) (w : World) (hi : I64 t.kind ∧ I64 t.num) (hix : I64 x.kind ∧ I64 x.num) (hlen : t.lens) (hsz : t.size + x.size ≤ 9223372036854775807) (h : Kids G w t.kids s) (hx : Kids G w x.kids xs) (hw : Ways G' w l ws) :
    Calls Try.prog 13 #[.agg #[.int .i64 t.kind, .int .i64 t.num, s], .agg #[.int .i64 x.kind, .int .i64 x.num, xs], ws] w (ValPost (fun _ => True) (setT t x l) w) := by
  have HUP : Hid (∀ o o' o'', Below w.heap.size w (((w.alloc o).alloc o').alloc o'')) := Lib.hid fun o o' o'' => (((Below.refl w.heap.size w).alloc (Nat.le_refl _) o).alloc (by simp) o').alloc (by simp; omega) o''
  have HAT := Lib.hid (fun w' (hb : Below w.heap.size w w') => rat_any l (fun b => G b ∧ b < w.heap.size) G' t s ws w' hi (h.lt.below hb) (hw.below hb))
  have HWI := Lib.hid (fun w' (hb : Below w.heap.size w w') hat => rwith_any l (fun b => G b ∧ b < w.heap.size) G' t x s xs ws w' hi hix hlen hat (h.lt.below hb) (hx.lt.below hb) (hw.below hb))
  obtain ⟨A, cap, rfl, _⟩ := hw.form
  obtain ⟨A2, cp2, rfl, _⟩ := h.form
  obtain ⟨A3, cp3, rfl, _⟩ := hx.form
  obtain ⟨L, hL⟩ : ∃ L, L = l.length := ⟨_, rfl⟩
  obtain ⟨N, hN⟩ : ∃ N, N = t.kids.length := ⟨_, rfl⟩
  obtain ⟨M, hM⟩ : ∃ M, M = x.kids.length := ⟨_, rfl⟩
  rw [← hL, ← hN] at HAT
  rw [← hL, ← hN, ← hM] at HWI
  rw [← hL, ← hN, ← hM]
  have HON : Hid (∀ w', Below (w.heap.size + 3) (((w.alloc (.cells #[.int .i64 t.kind, .int .i64 t.num, .slice A2 N cp2] TV)).alloc (.cells #[.int .i64 x.kind, .int .i64 x.num, .slice A3 M cp3] TV)).alloc (.cells #[.int .i64 0, .int .i64 0, .slice none 0 0] TV)) w' →
      (Box w' w.heap.size TV #[.int .i64 t.kind, .int .i64 t.num, .slice A2 N cp2] ∧ Box w' (w.heap.size + 1) TV #[.int .i64 x.kind, .int .i64 x.num, .slice A3 M cp3] ∧ Box w' (w.heap.size + 2) TV zero3) ∧ Below w.heap.size w w') := Lib.hid (by
    intro w' hb
    exact ⟨⟨(((Box.new w TV #[.int .i64 t.kind, .int .i64 t.num, .slice A2 N cp2] _ rfl).alloc _).alloc _).below hb (by omega), ((Box.new _ _ _ (w.heap.size + 1) (by simp)).alloc _).below hb (by omega), (Box.new _ _ _ (w.heap.size + 2) (by simp)).below hb (by omega)⟩, (HUP.out _ _ _).trans (hb.mono (by omega))⟩)
  have HST : Hid (setT t x l = match atT t l with | some _ => fitsT (withT x t l) | none => (zeroT, 3)) := Lib.hid rfl
  clear h hw hx hL hN hM
  cases hat : atT t l with
  | none =>
    rw [hat, ended_none] at HAT
    rw [hat] at HST
    go_enter Try.func13, Try.ntmps13
    go_wp2_with (fail)
    have e2 : w.heap.size + 1 + 1 = w.heap.size + 2 := rfl
    rw [e2]
    clear e2
    refine (HAT.out _ (HUP.out _ _ _)).mono ?_
    rintro e w1 ⟨s1, rfl, hk1, hb1⟩
    obtain ⟨⟨b0, b1, b2⟩, hB⟩ := HON.out w1 (by simpa using hb1)
    obtain ⟨A5, cp5, rfl, _⟩ := hk1.form
    have d0 : w1.cell? ⟨w.heap.size + 2, 0, none⟩ = some (.int .i64 0) := b2.cell 0
    have d1 : w1.cell? ⟨w.heap.size + 2, 1, none⟩ = some (.int .i64 0) := b2.cell 1
    have d2 : w1.cell? ⟨w.heap.size + 2, 2, none⟩ = some (.slice none 0 0) := b2.cell 2
    have f0 := b2.frozen 0
    have f1 := b2.frozen 1
    have f2 := b2.frozen 2
    have hz := b2.lt
    have HB := Lib.hid hB
    clear hk1 hb1 b0 b1 b2 hB HAT HON HUP
    go_wp2_with (fail)
    refine bodyPost_ret (v := .tuple #[.agg #[.int .i64 0, .int .i64 0, .slice none 0 0], .int .i64 3]) (by simp [results, Try.results13, go_sem, d0, d1, d2, hz]) rfl ?_
    rw [HST.out]
    exact ⟨_, rfl, Kids.nil_ _ _, (below_told HB.out (by omega)).alloc (by simp only [World.size_setCell]; omega) _⟩
  | some u =>
    rw [hat, ended_some] at HAT
    rw [hat] at HST
    have hwz := with_size l t x u hat
    have hwi : I64 (withT x t l).kind ∧ I64 (withT x t l).num := with_i64 hix hi
    have hex : ∃ u, atT t l = some u := ⟨u, hat⟩
    obtain ⟨r, hr⟩ : ∃ r, r = withT x t l := ⟨_, rfl⟩
    rw [← hr] at HWI HST hwz
    have HWJ := Lib.hid (fun w' hb => HWI.out w' hb hex)
    clear HWI hex hr hat hwi
    go_enter Try.func13, Try.ntmps13
    go_wp2_with (fail)
    have e2 : w.heap.size + 1 + 1 = w.heap.size + 2 := rfl
    rw [e2]
    clear e2
    refine (HAT.out _ (HUP.out _ _ _)).mono ?_
    rintro e w1 ⟨s1, rfl, hk1, hb1⟩
    obtain ⟨⟨b0, b1, b2⟩, hB⟩ := HON.out w1 (by simpa using hb1)
    obtain ⟨A5, cp5, rfl, _⟩ := hk1.form
    have c0 : w1.cell? ⟨w.heap.size, 0, none⟩ = some (.int .i64 t.kind) := b0.cell 0
    have c1 : w1.cell? ⟨w.heap.size, 1, none⟩ = some (.int .i64 t.num) := b0.cell 1
    have c2 : w1.cell? ⟨w.heap.size, 2, none⟩ = some (.slice A2 N cp2) := b0.cell 2
    have g0 : w1.cell? ⟨w.heap.size + 1, 0, none⟩ = some (.int .i64 x.kind) := b1.cell 0
    have g1 : w1.cell? ⟨w.heap.size + 1, 1, none⟩ = some (.int .i64 x.num) := b1.cell 1
    have g2 : w1.cell? ⟨w.heap.size + 1, 2, none⟩ = some (.slice A3 M cp3) := b1.cell 2
    have hz := b2.lt
    have hz0 := b0.lt
    have hz1 := b1.lt
    have HB2 : Hid (Box (w1.alloc (.cells #[.int .i64 u.kind, .int .i64 u.num, .slice A5 u.kids.length cp5] TV)) (w.heap.size + 2) TV zero3) := Lib.hid (b2.alloc _)
    have HBA : Hid (Below w.heap.size w (w1.alloc (.cells #[.int .i64 u.kind, .int .i64 u.num, .slice A5 u.kids.length cp5] TV))) := Lib.hid (hB.alloc (by omega) _)
    clear hk1 hb1 b0 b1 b2 hB HAT
    go_wp2_with (fail)
    refine (HWJ.out _ HBA.out).mono ?_
    rintro e w2 ⟨s2, rfl, hk2, hb2⟩
    have b3 := HB2.out.on hb2
    have HBB := Lib.hid (HBA.out.trans (hb2.mono (by simp; omega)))
    have HFI := Lib.hid (rfits_any r s2 w2 hk2.lt (by omega))
    have HB3 := Lib.hid b3
    have hzz := b3.lt
    have hsz2 := hb2.size
    simp only [World.size_alloc] at hsz2
    obtain ⟨A6, cp6, rfl, _⟩ := hk2.form
    obtain ⟨n6, hn6⟩ : ∃ n6, n6 = r.kids.length := ⟨_, rfl⟩
    rw [← hn6] at HFI
    rw [← hn6]
    clear hk2 hb2 b3 HBA HB2 c0 c1 c2 g0 g1 g2 HWJ hn6
    go_wp2_with (fail)
    refine HFI.out.mono ?_
    rintro e w3 ⟨s3, rfl, hk3, hb3⟩
    obtain ⟨A7, cp7, rfl, _⟩ := hk3.form
    have b4 := HB3.out.on hb3
    have d0 : w3.cell? ⟨w.heap.size + 2, 0, none⟩ = some (.int .i64 0) := b4.cell 0
    have d1 : w3.cell? ⟨w.heap.size + 2, 1, none⟩ = some (.int .i64 0) := b4.cell 1
    have d2 : w3.cell? ⟨w.heap.size + 2, 2, none⟩ = some (.slice none 0 0) := b4.cell 2
    have f0 := b4.frozen 0
    have f1 := b4.frozen 1
    have f2 := b4.frozen 2
    have HK3 := Lib.hid hk3
    have HB4 := Lib.hid (HBB.out.trans (hb3.mono HBB.out.size))
    obtain ⟨q, hq⟩ : ∃ q, q = fitsT r := ⟨_, rfl⟩
    rw [← hq] at HK3 HST ⊢
    obtain ⟨⟨qk, qn, ql⟩, qt⟩ := q
    simp only [VT.kind, VT.num, VT.kids] at HK3 ⊢
    obtain ⟨M5, hM5⟩ : ∃ M5, M5 = ql.length := ⟨_, rfl⟩
    rw [← hM5] at HK3 ⊢
    clear hq hM5 hk3 hb3 b4 HFI HB3 HBB
    go_wp2_with (fail)
    refine bodyPost_ret (v := .tuple #[.agg #[.int .i64 qk, .int .i64 qn, .slice A7 M5 cp7], .int .i64 qt]) (by simp [results, Try.results13, go_sem, d0, d1, d2]) rfl ?_
    rw [HST.out]
    have hne : ∀ c, ((G c ∧ c < w.heap.size) ∨ w1.heap.size + 1 ≤ c) → c ≠ w.heap.size + 2 := fun c hc => by rcases hc with h | h <;> omega
    have HK4 := HK3.out.mono (G' := fun c => c ≠ w.heap.size + 2) (fun c hc => hne c (hc.1.imp id fun h => by simpa using h))
    exact ⟨_, rfl, (((HK4.set fun c hc _ => hc).set fun c hc _ => hc).set fun c hc _ => hc).mono fun _ _ => trivial, below_told HB4.out (by omega)⟩
end Go.Proofs.Ytlejcmojimkjeaa.vt

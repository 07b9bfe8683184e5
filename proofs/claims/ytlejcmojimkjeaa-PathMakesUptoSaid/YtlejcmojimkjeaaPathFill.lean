/- Arrays of one value: the package's way. -/
import Derived.Test.YtlejcmojimkjeaaPathMake
namespace Go.Proofs.Ytlejcmojimkjeaa.vt
open Go.RowKit mem

def fillT (n : Int) (t : VT) : VT × Int := if n < 0 ∨ 256 < n then (zeroT, 3) else fitsT (.mk 2 0 (List.replicate n.toNat t))
set_option maxHeartbeats 1000000 in
theorem fill_any {G : Nat → Prop} (n : Int) (t : VT) (s : Value) (w : World) (hi : I64 t.kind ∧ I64 t.num) (h : Kids G w t.kids s) :
    Calls Try.prog 15 #[.int .i64 n, .agg #[.int .i64 t.kind, .int .i64 t.num, s]] w (ValPost (fun _ => True) (fillT n t) w) := by
  have hup2 : ∀ o o', Below w.heap.size w ((w.alloc o).alloc o') := fun o o' => ((Below.refl _ _).alloc (Nat.le_refl _) _).alloc (by simp) _
  have hup3 : ∀ o o' o'', Below w.heap.size w (((w.alloc o).alloc o').alloc o'') := fun o o' o'' => (hup2 o o').alloc (by simp; omega) _
  have HUP2 := Lib.hid hup2
  have HUP3 := Lib.hid hup3
  have HK := Lib.hid h
  have HI := Lib.hid hi
  obtain ⟨A, cap, rfl, _⟩ := h.form
  obtain ⟨N, hN⟩ : ∃ N, N = t.kids.length := ⟨_, rfl⟩
  rw [← hN] at HK ⊢
  have HMT : Hid (fillT n t = if n < 0 ∨ 256 < n then (zeroT, 3) else fitsT (.mk 2 0 (List.replicate n.toNat t))) := Lib.hid rfl
  clear h hup2 hup3 hN hi
  by_cases h1 : n < 0
  · have HT : Hid (fillT n t = (zeroT, 3)) := Lib.hid (by rw [HMT.out, if_pos (Or.inl h1)])
    clear HMT
    go_enter Try.func15, Try.ntmps15
    go_wp2
    refine bodyPost_ret (v := .tuple #[.agg #[.int .i64 0, .int .i64 0, .slice none 0 0], .int .i64 3]) (by simp [results, Try.results15, go_sem]) rfl ?_
    rw [HT.out]
    exact ⟨_, rfl, Kids.nil_ _ _, HUP2.out _ _⟩
  · by_cases h2 : 256 < n
    · have HT : Hid (fillT n t = (zeroT, 3)) := Lib.hid (by rw [HMT.out, if_pos (Or.inr h2)])
      clear HMT
      go_enter Try.func15, Try.ntmps15
      go_wp2
      refine bodyPost_ret (v := .tuple #[.agg #[.int .i64 0, .int .i64 0, .slice none 0 0], .int .i64 3]) (by simp [results, Try.results15, go_sem]) rfl ?_
      rw [HT.out]
      exact ⟨_, rfl, Kids.nil_ _ _, HUP2.out _ _⟩
    · have HT : Hid (fillT n t = fitsT (.mk 2 0 (List.replicate n.toNat t))) := Lib.hid (by rw [HMT.out, if_neg (by omega)])
      obtain ⟨m, rfl⟩ := Int.eq_ofNat_of_zero_le (show 0 ≤ n by omega)
      rw [Int.toNat_natCast] at HT
      have hm : m ≤ 256 := by omega
      have HMK : Hid (makeT 2 (List.replicate m t) = fitsT (.mk 2 0 (List.replicate m t))) := Lib.hid (by unfold makeT; rw [if_pos (Or.inl ⟨rfl, by simpa using hm⟩)])
      clear HMT
      go_enter Try.func15, Try.ntmps15
      go_wp2_with (fail)
      have e2 : w.heap.size + 1 + 1 = w.heap.size + 2 := rfl
      rw [e2]
      obtain ⟨W, hW⟩ : ∃ W, W = ((w.alloc (.cells #[.int .i64 t.kind, .int .i64 t.num, .slice A N cap] TV)).alloc (.cells #[.int .i64 0, .int .i64 0, .slice none 0 0] TV)).alloc (.cells #[.int .i64 t.kind, .int .i64 t.num, .slice A N cap] TV) := ⟨_, rfl⟩
      have hB : Below w.heap.size w W := by rw [hW]; exact HUP3.out _ _ _
      have hx0 : Box W (w.heap.size + 2) TV #[.int .i64 t.kind, .int .i64 t.num, .slice A N cap] := by rw [hW]; exact Box.new _ _ _ _ (by simp)
      have hx1 : Box W (w.heap.size + 1) TV zero3 := by rw [hW]; exact (Box.new _ _ _ _ (by simp)).alloc _
      rw [← hW]
      refine (repeat_any (G := fun b => G b ∧ b < w.heap.size) t m (w.heap.size + 2) (.slice A N cap) W (by omega) HI.out (HK.out.lt.below hB) (hx0.cell 0) (hx0.cell 1) (hx0.cell 2)).mono ?_
      rintro e w1 ⟨s1, rfl, hb1, hk1⟩
      have hz0 := hx0.lt
      have hk1' := hk1.mono (G' := fun b => (G b ∧ b < w.heap.size) ∨ w.heap.size + 1 < b) (fun b hb => hb.imp id fun h => by omega)
      have HX := Lib.hid (hx1.on hb1)
      have hxz := (hx1.on hb1).lt
      have HB0 := Lib.hid (hB.trans (hb1.mono hB.size))
      have HFI := Lib.hid (make_any 2 (List.replicate m t) s1 w1 (by simp; omega) hk1')
      rw [HMK.out] at HFI
      obtain ⟨A1, c1, rfl, _⟩ := hk1.form
      rw [List.length_replicate] at HFI ⊢
      clear hW hB hx0 hx1 hb1 hk1 hk1' e2
      go_wp2_with (fail)
      refine HFI.out.mono ?_
      rintro e w2 ⟨s2, rfl, hk2, hb2⟩
      obtain ⟨A2, c2, rfl, _⟩ := hk2.form
      have b2 := HX.out.on hb2
      have d0 : w2.cell? ⟨w.heap.size + 1, 0, none⟩ = some (.int .i64 0) := b2.cell 0
      have d1 : w2.cell? ⟨w.heap.size + 1, 1, none⟩ = some (.int .i64 0) := b2.cell 1
      have d2 : w2.cell? ⟨w.heap.size + 1, 2, none⟩ = some (.slice none 0 0) := b2.cell 2
      have f0 := b2.frozen 0
      have f1 := b2.frozen 1
      have f2 := b2.frozen 2
      have HK2 := Lib.hid hk2
      have HB2 := Lib.hid (HB0.out.trans (hb2.mono HB0.out.size))
      obtain ⟨q, hq⟩ : ∃ q, q = fitsT (.mk 2 0 (List.replicate m t)) := ⟨_, rfl⟩
      rw [← hq] at HK2 HT ⊢
      obtain ⟨⟨qk, qn, ql⟩, qt⟩ := q
      simp only [VT.kind, VT.num, VT.kids] at HK2 ⊢
      obtain ⟨M5, hM5⟩ : ∃ M5, M5 = ql.length := ⟨_, rfl⟩
      rw [← hM5] at HK2 ⊢
      clear hq hM5 hk2 hb2 b2 HFI HX
      go_wp2_with (fail)
      refine bodyPost_ret (v := .tuple #[.agg #[.int .i64 qk, .int .i64 qn, .slice A2 M5 c2], .int .i64 qt]) (by simp [results, Try.results15, go_sem, d0, d1, d2]) rfl ?_
      rw [HT.out]
      exact told_at qk qn ql _ qt (Nat.le_succ _) (HK2.out.mono fun c hc => ⟨trivial, by rcases hc with (h | h) | h <;> omega⟩) HB2.out
end Go.Proofs.Ytlejcmojimkjeaa.vt

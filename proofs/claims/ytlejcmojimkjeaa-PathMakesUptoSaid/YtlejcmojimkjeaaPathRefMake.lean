/- Arrays and records of any values: the document's way. -/
import Derived.Test.YtlejcmojimkjeaaPathMake
namespace Go.Proofs.Ytlejcmojimkjeaa.vt
open Go.RowKit mem

set_option maxHeartbeats 1000000 in
theorem rmake_any {G : Nat → Prop} (k : Int) (l : List VT) (s : Value) (w : World) (hl : l.length ≤ 100000) (hz : (VT.mk k 0 l).size ≤ 9223372036854775807) (h : Kids G w l s) :
    Calls Try.prog 18 #[.int .i64 k, s] w (ValPost (fun _ => True) (makeT k l) w) := by
  have hup : ∀ o, Below w.heap.size w (w.alloc o) := fun o => (Below.refl _ _).alloc (Nat.le_refl _) _
  have HUP := Lib.hid hup
  have HFI := Lib.hid (rfits_any (.mk k 0 l) s (w.alloc (.cells zero3 TV)) (h.lt.below (hup _)) hz)
  obtain ⟨A, cap, rfl, _⟩ := h.form
  obtain ⟨N, hN⟩ : ∃ N, N = l.length := ⟨_, rfl⟩
  have HMT : Hid (makeT k l = if (k = 2 ∧ N ≤ 256) ∨ k = 3 then fitsT (.mk k 0 l) else (zeroT, 3)) := Lib.hid (by rw [hN]; rfl)
  replace HFI := Lib.hid (show Calls Try.prog 24 #[.agg #[.int .i64 k, .int .i64 0, .slice A l.length cap]] (w.alloc (.cells zero3 TV)) _ from HFI.out)
  rw [← hN] at HFI hl ⊢
  have hN0 : (N : Int) ≤ 100000 := by omega
  have HX : Hid (Box (w.alloc (.cells zero3 TV)) w.heap.size TV zero3) := Lib.hid (Box.new w TV zero3 _ rfl)
  have HB0 : Hid (Below w.heap.size w (w.alloc (.cells zero3 TV))) := Lib.hid (hup _)
  clear h hup hN hz
  by_cases h2 : k = 2
  · subst h2
    by_cases h3 : N ≤ 256
    · have HT : Hid (makeT 2 l = fitsT (.mk 2 0 l)) := Lib.hid (by rw [HMT.out, if_pos (Or.inl ⟨rfl, h3⟩)])
      have h3' : ¬ (N : Int) > 256 := by omega
      clear HMT
      go_enter Try.func18, Try.ntmps18
      go_wp2_with (fail)
      refine HFI.out.mono ?_
      rintro e w2 ⟨s2, rfl, hk2, hb2⟩
      obtain ⟨A2, c2, rfl, _⟩ := hk2.form
      have b2 := HX.out.on hb2
      have d0 : w2.cell? ⟨w.heap.size, 0, none⟩ = some (.int .i64 0) := b2.cell 0
      have d1 : w2.cell? ⟨w.heap.size, 1, none⟩ = some (.int .i64 0) := b2.cell 1
      have d2 : w2.cell? ⟨w.heap.size, 2, none⟩ = some (.slice none 0 0) := b2.cell 2
      have f0 := b2.frozen 0
      have f1 := b2.frozen 1
      have f2 := b2.frozen 2
      have HK2 := Lib.hid hk2
      have HB2 := Lib.hid (HB0.out.trans (hb2.mono HB0.out.size))
      obtain ⟨q, hq⟩ : ∃ q, q = fitsT (.mk 2 0 l) := ⟨_, rfl⟩
      rw [← hq] at HK2 HT ⊢
      obtain ⟨⟨qk, qn, ql⟩, qt⟩ := q
      simp only [VT.kind, VT.num, VT.kids] at HK2 ⊢
      obtain ⟨M5, hM5⟩ : ∃ M5, M5 = ql.length := ⟨_, rfl⟩
      rw [← hM5] at HK2 ⊢
      clear hq hM5 hk2 hb2 b2 HFI HX
      go_wp2_with (fail)
      refine bodyPost_ret (v := .tuple #[.agg #[.int .i64 qk, .int .i64 qn, .slice A2 M5 c2], .int .i64 qt]) (by simp [results, Try.results18, go_sem, d0, d1, d2]) rfl ?_
      rw [HT.out]
      exact told_at qk qn ql _ qt (Nat.le_refl _) (HK2.out.mono fun c hc => ⟨trivial, by have := hc.2; omega⟩) HB2.out
    · have HT : Hid (makeT 2 l = (zeroT, 3)) := Lib.hid (by rw [HMT.out, if_neg (by rintro (h | h); exact h3 h.2; exact absurd h (by decide))])
      have h3' : (N : Int) > 256 := by omega
      clear HMT HFI HX HB0
      go_enter Try.func18, Try.ntmps18
      go_wp2
      refine bodyPost_ret (v := .tuple #[.agg #[.int .i64 0, .int .i64 0, .slice none 0 0], .int .i64 3]) (by simp [results, Try.results18, go_sem]) rfl ?_
      rw [HT.out]
      exact ⟨_, rfl, Kids.nil_ _ _, HUP.out _⟩
  · have h2' : (k == 2) = false := by simpa using h2
    by_cases h3 : k = 3
    · subst h3
      have HT : Hid (makeT 3 l = fitsT (.mk 3 0 l)) := Lib.hid (by rw [HMT.out, if_pos (Or.inr rfl)])
      clear HMT h2'
      go_enter Try.func18, Try.ntmps18
      go_wp2_with (fail)
      refine HFI.out.mono ?_
      rintro e w2 ⟨s2, rfl, hk2, hb2⟩
      obtain ⟨A2, c2, rfl, _⟩ := hk2.form
      have b2 := HX.out.on hb2
      have d0 : w2.cell? ⟨w.heap.size, 0, none⟩ = some (.int .i64 0) := b2.cell 0
      have d1 : w2.cell? ⟨w.heap.size, 1, none⟩ = some (.int .i64 0) := b2.cell 1
      have d2 : w2.cell? ⟨w.heap.size, 2, none⟩ = some (.slice none 0 0) := b2.cell 2
      have f0 := b2.frozen 0
      have f1 := b2.frozen 1
      have f2 := b2.frozen 2
      have HK2 := Lib.hid hk2
      have HB2 := Lib.hid (HB0.out.trans (hb2.mono HB0.out.size))
      obtain ⟨q, hq⟩ : ∃ q, q = fitsT (.mk 3 0 l) := ⟨_, rfl⟩
      rw [← hq] at HK2 HT ⊢
      obtain ⟨⟨qk, qn, ql⟩, qt⟩ := q
      simp only [VT.kind, VT.num, VT.kids] at HK2 ⊢
      obtain ⟨M5, hM5⟩ : ∃ M5, M5 = ql.length := ⟨_, rfl⟩
      rw [← hM5] at HK2 ⊢
      clear hq hM5 hk2 hb2 b2 HFI HX
      go_wp2_with (fail)
      refine bodyPost_ret (v := .tuple #[.agg #[.int .i64 qk, .int .i64 qn, .slice A2 M5 c2], .int .i64 qt]) (by simp [results, Try.results18, go_sem, d0, d1, d2]) rfl ?_
      rw [HT.out]
      exact told_at qk qn ql _ qt (Nat.le_refl _) (HK2.out.mono fun c hc => ⟨trivial, by have := hc.2; omega⟩) HB2.out
    · have h3' : (k == 3) = false := by simpa using h3
      have HT : Hid (makeT k l = (zeroT, 3)) := Lib.hid (by rw [HMT.out, if_neg (by rintro (h | h); exact h2 h.1; exact h3 h)])
      clear HMT HFI HX HB0
      go_enter Try.func18, Try.ntmps18
      go_wp2
      refine bodyPost_ret (v := .tuple #[.agg #[.int .i64 0, .int .i64 0, .slice none 0 0], .int .i64 3]) (by simp [results, Try.results18, go_sem]) rfl ?_
      rw [HT.out]
      exact ⟨_, rfl, Kids.nil_ _ _, HUP.out _⟩
end Go.Proofs.Ytlejcmojimkjeaa.vt

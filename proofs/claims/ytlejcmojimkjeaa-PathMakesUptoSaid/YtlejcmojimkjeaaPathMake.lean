/- Arrays and records of any values, arrays of one: the package's way and the document's. -/
import Derived.Test.YtlejcmojimkjeaaPathRepeat
import Derived.Test.YtlejcmojimkjeaaValMake
namespace Go.Proofs.Ytlejcmojimkjeaa.vt
open Go.RowKit mem

def makeT (k : Int) (l : List VT) : VT × Int := if (k = 2 ∧ l.length ≤ 256) ∨ k = 3 then fitsT (.mk k 0 l) else (zeroT, 3)
theorem told_at {G : Nat → Prop} {w wr : World} {b : Nat} (k nm : Int) (l : List VT) (s : Value) (n : Int) (hb : w.heap.size ≤ b) (hk : Kids (fun c => G c ∧ c ≠ b) wr l s) (hbr : Below w.heap.size w wr) :
    ValPost G (.mk k nm l, n) w (.returned (.tuple #[.agg #[.int .i64 k, .int .i64 nm, s], .int .i64 n])) (((wr.setCell ⟨b, 0, none⟩ (.int .i64 k)).setCell ⟨b, 1, none⟩ (.int .i64 nm)).setCell ⟨b, 2, none⟩ s) :=
  ⟨s, rfl, (((hk.set fun c hc _ => hc.2).set fun c hc _ => hc.2).set fun c hc _ => hc.2).mono fun _ h => h.1, below_told hbr hb⟩
set_option maxHeartbeats 1000000 in
theorem make_any {G : Nat → Prop} (k : Int) (l : List VT) (s : Value) (w : World) (hl : l.length ≤ 100000) (h : Kids G w l s) :
    Calls Try.prog 17 #[.int .i64 k, s] w (ValPost (fun b => G b ∨ w.heap.size ≤ b) (makeT k l) w) := by
  have hup : ∀ o, Below w.heap.size w (w.alloc o) := fun o => (Below.refl _ _).alloc (Nat.le_refl _) _
  have HUP := Lib.hid hup
  have HAR := Lib.hid (fun o => arr_any l s (w.alloc o) (h.lt.below (hup o)) (by omega))
  have HRE := Lib.hid (fun o => rec_any l s (w.alloc o) (h.lt.below (hup o)) (by omega))
  obtain ⟨A, cap, rfl, _⟩ := h.form
  obtain ⟨N, hN⟩ : ∃ N, N = l.length := ⟨_, rfl⟩
  have HMT : Hid (makeT k l = if (k = 2 ∧ N ≤ 256) ∨ k = 3 then fitsT (.mk k 0 l) else (zeroT, 3)) := Lib.hid (by rw [hN]; rfl)
  rw [← hN] at HAR HRE hl ⊢
  have hN0 : (N : Int) ≤ 100000 := by omega
  have HN := Lib.hid hN
  clear h hup hN
  by_cases h2 : k = 2
  · subst h2
    by_cases h3 : N ≤ 256
    · have HT : Hid (makeT 2 l = fitsT (.mk 2 0 l)) := Lib.hid (by rw [HMT.out, if_pos (Or.inl ⟨rfl, h3⟩)])
      have h3' : (N : Int) ≤ 256 := by omega
      clear HMT HRE
      go_enter Try.func17, Try.ntmps17
      go_wp2_with (fail)
      refine (HAR.out _).mono ?_
      rintro e w1 ⟨s1, rfl, hb1, ho1⟩
      have hb0 : Below w.heap.size w w1 := (HUP.out _).trans (hb1.mono (by simp))
      have hk1 := ho1.kids (G' := fun c => (G c ∧ c < w.heap.size) ∨ w.heap.size < c) (fun c hc => Or.inl hc) (fun c hc => Or.inr (by simp at hc; omega))
      have hx := (Box.new w TV zero3 _ rfl).on hb1
      have HFI := Lib.hid (fitting_any (.mk 2 0 l) s1 w1 hk1)
      obtain ⟨A1, c1, rfl, _⟩ := hk1.form
      rw [← HN.out]
      replace HFI := Lib.hid (show Calls Try.prog 23 #[.agg #[.int .i64 2, .int .i64 0, .slice A1 N c1]] w1 _ from by have := HFI.out; rw [HN.out]; exact this)
      have HX := Lib.hid hx
      have hxz := hx.lt
      have HB0 := Lib.hid hb0
      clear hb0 hb1 ho1 hk1 hx HAR
      go_wp2_with (fail)
      refine HFI.out.mono ?_
      rintro e w2 ⟨s2, rfl, hk2, hb2⟩
      obtain ⟨A2, c2, rfl, _⟩ := hk2.form
      have b2 := HX.out.on hb2
      have d0 : w2.cell? ⟨w.heap.size, 0, none⟩ = some (.int .i64 0) := b2.cell 0
      have d1 : w2.cell? ⟨w.heap.size, 1, none⟩ = some (.int .i64 0) := b2.cell 1
      have d2 : w2.cell? ⟨w.heap.size, 2, none⟩ = some (.slice none 0 0) := b2.cell 2
      have f0 := b2.frozen 0
      have f1 := b2.frozen 1
      have f2 := b2.frozen 2
      have HK2 := Lib.hid hk2
      have HB2 := Lib.hid (HB0.out.trans (hb2.mono HB0.out.size))
      obtain ⟨q, hq⟩ : ∃ q, q = fitsT (.mk 2 0 l) := ⟨_, rfl⟩
      rw [← hq] at HK2 HT ⊢
      obtain ⟨⟨qk, qn, ql⟩, qt⟩ := q
      simp only [VT.kind, VT.num, VT.kids] at HK2 ⊢
      obtain ⟨M5, hM5⟩ : ∃ M5, M5 = ql.length := ⟨_, rfl⟩
      rw [← hM5] at HK2 ⊢
      clear hq hM5 hk2 hb2 b2 HFI HX
      go_wp2_with (fail)
      refine bodyPost_ret (v := .tuple #[.agg #[.int .i64 qk, .int .i64 qn, .slice A2 M5 c2], .int .i64 qt]) (by simp [results, Try.results17, go_sem, d0, d1, d2]) rfl ?_
      rw [HT.out]
      exact told_at qk qn ql _ qt (Nat.le_refl _) (HK2.out.mono fun c hc => ⟨hc.imp (fun h => h.1) (fun h => Nat.le_of_lt h), by rcases hc with h | h <;> omega⟩) HB2.out
    · have HT : Hid (makeT 2 l = (zeroT, 3)) := Lib.hid (by rw [HMT.out, if_neg (by rintro (h | h); exact h3 h.2; exact absurd h (by decide))])
      have h3' : ¬ (N : Int) ≤ 256 := by omega
      clear HMT HRE HAR
      go_enter Try.func17, Try.ntmps17
      go_wp2
      refine bodyPost_ret (v := .tuple #[.agg #[.int .i64 0, .int .i64 0, .slice none 0 0], .int .i64 3]) (by simp [results, Try.results17, go_sem]) rfl ?_
      rw [HT.out]
      exact ⟨_, rfl, Kids.nil_ _ _, HUP.out _⟩
  · have h2' : (k == 2) = false := by simpa using h2
    by_cases h3 : k = 3
    · subst h3
      have HT : Hid (makeT 3 l = fitsT (.mk 3 0 l)) := Lib.hid (by rw [HMT.out, if_pos (Or.inr rfl)])
      clear HMT HAR h2'
      go_enter Try.func17, Try.ntmps17
      go_wp2_with (fail)
      refine (HRE.out _).mono ?_
      rintro e w1 ⟨s1, rfl, hb1, ho1⟩
      have hb0 : Below w.heap.size w w1 := (HUP.out _).trans (hb1.mono (by simp))
      have hk1 := ho1.kids (G' := fun c => (G c ∧ c < w.heap.size) ∨ w.heap.size < c) (fun c hc => Or.inl hc) (fun c hc => Or.inr (by simp at hc; omega))
      have hx := (Box.new w TV zero3 _ rfl).on hb1
      have HFI := Lib.hid (fitting_any (.mk 3 0 l) s1 w1 hk1)
      obtain ⟨A1, c1, rfl, _⟩ := hk1.form
      rw [← HN.out]
      replace HFI := Lib.hid (show Calls Try.prog 23 #[.agg #[.int .i64 3, .int .i64 0, .slice A1 N c1]] w1 _ from by have := HFI.out; rw [HN.out]; exact this)
      have HX := Lib.hid hx
      have hxz := hx.lt
      have HB0 := Lib.hid hb0
      clear hb0 hb1 ho1 hk1 hx HRE
      go_wp2_with (fail)
      refine HFI.out.mono ?_
      rintro e w2 ⟨s2, rfl, hk2, hb2⟩
      obtain ⟨A2, c2, rfl, _⟩ := hk2.form
      have b2 := HX.out.on hb2
      have d0 : w2.cell? ⟨w.heap.size, 0, none⟩ = some (.int .i64 0) := b2.cell 0
      have d1 : w2.cell? ⟨w.heap.size, 1, none⟩ = some (.int .i64 0) := b2.cell 1
      have d2 : w2.cell? ⟨w.heap.size, 2, none⟩ = some (.slice none 0 0) := b2.cell 2
      have f0 := b2.frozen 0
      have f1 := b2.frozen 1
      have f2 := b2.frozen 2
      have HK2 := Lib.hid hk2
      have HB2 := Lib.hid (HB0.out.trans (hb2.mono HB0.out.size))
      obtain ⟨q, hq⟩ : ∃ q, q = fitsT (.mk 3 0 l) := ⟨_, rfl⟩
      rw [← hq] at HK2 HT ⊢
      obtain ⟨⟨qk, qn, ql⟩, qt⟩ := q
      simp only [VT.kind, VT.num, VT.kids] at HK2 ⊢
      obtain ⟨M5, hM5⟩ : ∃ M5, M5 = ql.length := ⟨_, rfl⟩
      rw [← hM5] at HK2 ⊢
      clear hq hM5 hk2 hb2 b2 HFI HX
      go_wp2_with (fail)
      refine bodyPost_ret (v := .tuple #[.agg #[.int .i64 qk, .int .i64 qn, .slice A2 M5 c2], .int .i64 qt]) (by simp [results, Try.results17, go_sem, d0, d1, d2]) rfl ?_
      rw [HT.out]
      exact told_at qk qn ql _ qt (Nat.le_refl _) (HK2.out.mono fun c hc => ⟨hc.imp (fun h => h.1) (fun h => Nat.le_of_lt h), by rcases hc with h | h <;> omega⟩) HB2.out
    · have h3' : (k == 3) = false := by simpa using h3
      have HT : Hid (makeT k l = (zeroT, 3)) := Lib.hid (by rw [HMT.out, if_neg (by rintro (h | h); exact h2 h.1; exact h3 h)])
      clear HMT HRE HAR
      go_enter Try.func17, Try.ntmps17
      go_wp2
      refine bodyPost_ret (v := .tuple #[.agg #[.int .i64 0, .int .i64 0, .slice none 0 0], .int .i64 3]) (by simp [results, Try.results17, go_sem]) rfl ?_
      rw [HT.out]
      exact ⟨_, rfl, Kids.nil_ _ _, HUP.out _⟩
end Go.Proofs.Ytlejcmojimkjeaa.vt

/- A value, or nought and a trap, if it is too great: the package's way and the document's. How many kids an array has. -/
import Derived.Test.YtlejcmojimkjeaaPathLeft
namespace Go.Proofs.Ytlejcmojimkjeaa.vt
open Go.RowKit mem

/-- two blocks that are new, behind all that came since -/
theorem two_since {w wr : World} {H : Nat} {cs cs' : Array Value} {t t' : TypeId} (hH : H = w.heap.size) (hb : Below (H + 2) ((w.alloc (.cells cs t)).alloc (.cells cs' t')) wr) :
    (∀ i, wr.cell? ⟨H, i, none⟩ = cs[i]? ∧ wr.frozen? ⟨H, i, none⟩ = false) ∧ (∀ i, wr.cell? ⟨H + 1, i, none⟩ = cs'[i]? ∧ wr.frozen? ⟨H + 1, i, none⟩ = false) := by
  have hb' : Below (H + 1) (w.alloc (.cells cs t)) wr := ((Below.refl _ _).alloc (by rw [hH]; simp) _).trans (hb.mono (by omega))
  exact ⟨fun i => cell_since hH hb' i, fun i => cell_since (N := H + 1) (by rw [hH]; simp) hb i⟩
theorem two_below {w wr : World} {H : Nat} {o o' : Obj} (hH : H = w.heap.size) (hb : Below (H + 2) ((w.alloc o).alloc o') wr) : Below w.heap.size w wr :=
  (((Below.refl _ _).alloc (Nat.le_refl _) _).alloc (by simp) _).trans (hb.mono (by omega))
theorem told_val {G : Nat → Prop} {w wr : World} {H : Nat} (k nm : Int) (l : List VT) (s : Value) (n : Int) (hH : H ≤ w.heap.size) (hk : Kids (fun b => G b ∧ b ≠ H + 1) wr l s) (hbr : Below H w wr) (hle : w.heap.size ≤ H) :
    ValPost G (.mk k nm l, n) w (.returned (.tuple #[.agg #[.int .i64 k, .int .i64 nm, s], .int .i64 n])) (((wr.setCell ⟨H + 1, 0, none⟩ (.int .i64 k)).setCell ⟨H + 1, 1, none⟩ (.int .i64 nm)).setCell ⟨H + 1, 2, none⟩ s) := by
  obtain rfl : H = w.heap.size := by omega
  refine ⟨s, rfl, ?_, below_told hbr (by omega)⟩
  exact (((hk.set fun c hc _ => hc.2).set fun c hc _ => hc.2).set fun c hc _ => hc.2).mono fun _ h => h.1
theorem leftI_pos {n : Nat} (h : n ≤ 4096) : ¬ leftI n 4096 < 0 := by unfold leftI; split <;> omega
theorem leftI_neg {n : Nat} (h : ¬ n ≤ 4096) : leftI n 4096 < 0 := by unfold leftI; split <;> omega
theorem told_here {G : Nat → Prop} {w wr : World} (k nm : Int) (l : List VT) (s : Value) (n : Int) (hk : Kids (fun b => G b ∧ b < w.heap.size) wr l s) (hbr : Below w.heap.size w wr) :
    ValPost G (.mk k nm l, n) w (.returned (.tuple #[.agg #[.int .i64 k, .int .i64 nm, s], .int .i64 n])) (((wr.setCell ⟨w.heap.size + 1, 0, none⟩ (.int .i64 k)).setCell ⟨w.heap.size + 1, 1, none⟩ (.int .i64 nm)).setCell ⟨w.heap.size + 1, 2, none⟩ s) :=
  told_val k nm l s n (Nat.le_refl _) (hk.mono fun b hb => ⟨hb.1, by omega⟩) hbr (Nat.le_refl _)
set_option maxHeartbeats 1000000 in
theorem fitting_any {G : Nat → Prop} (t : VT) (s : Value) (w : World) (h : Kids G w t.kids s) :
    Calls Try.prog 23 #[.agg #[.int .i64 t.kind, .int .i64 t.num, s]] w (ValPost G (fitsT t) w) := by
  have HL := Lib.hid (fun o o' => left_any t 4096 s ((w.alloc o).alloc o') (h.lt.below (((Below.refl _ _).alloc (Nat.le_refl _) o).alloc (by simp) o')) (by omega) (by omega))
  have HK := Lib.hid (fun w' (hb : Below w.heap.size w w') => h.lt.below hb)
  obtain ⟨A, cap, rfl, _⟩ := h.form
  cases t with
  | mk kd nm l =>
  have HF : Hid (fitsT (.mk kd nm l) = if (VT.mk kd nm l).size ≤ 4096 then (.mk kd nm l, 0) else (zeroT, 4)) := Lib.hid rfl
  have HP := Lib.hid (@leftI_pos (VT.mk kd nm l).size)
  have HN := Lib.hid (@leftI_neg (VT.mk kd nm l).size)
  obtain ⟨n, hn⟩ : ∃ n, n = (VT.mk kd nm l).size := ⟨_, rfl⟩
  rw [← hn] at HL HF HP HN
  show Calls Try.prog 23 #[.agg #[.int .i64 kd, .int .i64 nm, .slice A l.length cap]] w _
  replace HL := Lib.hid (fun o o' => show Calls Try.prog 31 #[.agg #[.int .i64 kd, .int .i64 nm, .slice A l.length cap], .int .i64 4096] ((w.alloc o).alloc o') _ from HL.out o o')
  obtain ⟨N, hN⟩ : ∃ N, N = l.length := ⟨_, rfl⟩
  change Hid (∀ w', Below w.heap.size w w' → Kids (fun b => G b ∧ b < w.heap.size) w' l (.slice A l.length cap)) at HK
  rw [← hN] at HL HK ⊢
  obtain ⟨m, hm⟩ : ∃ m, m = leftI n 4096 := ⟨_, rfl⟩
  rw [← hm] at HL HP HN
  clear hn h hN hm
  by_cases hc : n ≤ 4096
  · have hm := HP.out hc
    have hF := HF.out
    rw [if_pos hc] at hF
    rw [hF]
    clear hF HP HN HF hc
    go_enter Try.func23, Try.ntmps23
    go_wp2_with (go_at_call 31; refine (HL.out _ _).mono ?_; rintro e w1 ⟨rfl, hb1⟩; obtain ⟨z0, z1⟩ := two_since (H := w.heap.size) rfl (by simpa using hb1); have HB := Lib.hid (two_below (H := w.heap.size) rfl (by simpa using hb1)); clear hb1; have c0 := (z0 0).1; have c1 := (z0 1).1; have c2 := (z0 2).1; have d0 := (z1 0).1; have d1 := (z1 1).1; have d2 := (z1 2).1; have f0 := (z1 0).2; have f1 := (z1 1).2; have f2 := (z1 2).2; clear z0 z1)
    refine bodyPost_ret (v := .tuple #[.agg #[.int .i64 kd, .int .i64 nm, .slice A N cap], .int .i64 0]) (by simp [results, Try.results23, go_sem, d0, d1, d2]) rfl ?_
    exact told_here kd nm l _ 0 (HK.out _ HB.out) HB.out
  · have hm := HN.out hc
    have hF := HF.out
    rw [if_neg hc] at hF
    rw [hF]
    clear hF HP HN HF hc
    go_enter Try.func23, Try.ntmps23
    go_wp2_with (go_at_call 31; refine (HL.out _ _).mono ?_; rintro e w1 ⟨rfl, hb1⟩; obtain ⟨z0, z1⟩ := two_since (H := w.heap.size) rfl (by simpa using hb1); have HB := Lib.hid (two_below (H := w.heap.size) rfl (by simpa using hb1)); clear hb1; have c0 := (z0 0).1; have c1 := (z0 1).1; have c2 := (z0 2).1; have d0 := (z1 0).1; have d1 := (z1 1).1; have d2 := (z1 2).1; have f0 := (z1 0).2; have f1 := (z1 1).2; have f2 := (z1 2).2; clear z0 z1)
    refine bodyPost_ret (v := .tuple #[.agg #[.int .i64 0, .int .i64 0, .slice none 0 0], .int .i64 4]) (by simp [results, Try.results23, go_sem, d0, d1, d2]) rfl ?_
    exact told_here 0 0 [] _ 4 (Kids.nil_ _ _) HB.out
theorem sizeW_le {n : Nat} (hz : n ≤ 9223372036854775807) (h : n ≤ 4096) : ¬ wrap64 (n : Int) > 4096 := by unfold wrap64; omega
theorem sizeW_gt {n : Nat} (hz : n ≤ 9223372036854775807) (h : ¬ n ≤ 4096) : wrap64 (n : Int) > 4096 := by unfold wrap64; omega
set_option maxHeartbeats 1000000 in
theorem rfits_any {G : Nat → Prop} (t : VT) (s : Value) (w : World) (h : Kids G w t.kids s) (hz : t.size ≤ 9223372036854775807) :
    Calls Try.prog 24 #[.agg #[.int .i64 t.kind, .int .i64 t.num, s]] w (ValPost G (fitsT t) w) := by
  have HL := Lib.hid (fun o o' => rsize_any t s ((w.alloc o).alloc o') (h.lt.below (((Below.refl _ _).alloc (Nat.le_refl _) o).alloc (by simp) o')))
  have HK := Lib.hid (fun w' (hb : Below w.heap.size w w') => h.lt.below hb)
  obtain ⟨A, cap, rfl, _⟩ := h.form
  cases t with
  | mk kd nm l =>
  have HF : Hid (fitsT (.mk kd nm l) = if (VT.mk kd nm l).size ≤ 4096 then (.mk kd nm l, 0) else (zeroT, 4)) := Lib.hid rfl
  have HP := Lib.hid (sizeW_le hz)
  have HN := Lib.hid (sizeW_gt hz)
  obtain ⟨n, hn⟩ : ∃ n, n = (VT.mk kd nm l).size := ⟨_, rfl⟩
  rw [← hn] at HL HF HP HN
  show Calls Try.prog 24 #[.agg #[.int .i64 kd, .int .i64 nm, .slice A l.length cap]] w _
  replace HL := Lib.hid (fun o o' => show Calls Try.prog 8 #[.agg #[.int .i64 kd, .int .i64 nm, .slice A l.length cap]] ((w.alloc o).alloc o') _ from HL.out o o')
  obtain ⟨N, hN⟩ : ∃ N, N = l.length := ⟨_, rfl⟩
  change Hid (∀ w', Below w.heap.size w w' → Kids (fun b => G b ∧ b < w.heap.size) w' l (.slice A l.length cap)) at HK
  rw [← hN] at HL HK ⊢
  obtain ⟨m, hm⟩ : ∃ m, m = wrap64 (n : Int) := ⟨_, rfl⟩
  rw [← hm] at HL HP HN
  clear hn h hN hm hz
  by_cases hc : n ≤ 4096
  · have hm := HP.out hc
    have hF := HF.out
    rw [if_pos hc] at hF
    rw [hF]
    clear hF HP HN HF hc
    go_enter Try.func24, Try.ntmps24
    go_wp2_with (go_at_call 8; refine (HL.out _ _).mono ?_; rintro e w1 ⟨rfl, hb1⟩; obtain ⟨z0, z1⟩ := two_since (H := w.heap.size) rfl (by simpa using hb1); have HB := Lib.hid (two_below (H := w.heap.size) rfl (by simpa using hb1)); clear hb1; have c0 := (z0 0).1; have c1 := (z0 1).1; have c2 := (z0 2).1; have d0 := (z1 0).1; have d1 := (z1 1).1; have d2 := (z1 2).1; have f0 := (z1 0).2; have f1 := (z1 1).2; have f2 := (z1 2).2; clear z0 z1)
    refine bodyPost_ret (v := .tuple #[.agg #[.int .i64 kd, .int .i64 nm, .slice A N cap], .int .i64 0]) (by simp [results, Try.results24, go_sem, d0, d1, d2]) rfl ?_
    exact told_here kd nm l _ 0 (HK.out _ HB.out) HB.out
  · have hm := HN.out hc
    have hF := HF.out
    rw [if_neg hc] at hF
    rw [hF]
    clear hF HP HN HF hc
    go_enter Try.func24, Try.ntmps24
    go_wp2_with (go_at_call 8; refine (HL.out _ _).mono ?_; rintro e w1 ⟨rfl, hb1⟩; obtain ⟨z0, z1⟩ := two_since (H := w.heap.size) rfl (by simpa using hb1); have HB := Lib.hid (two_below (H := w.heap.size) rfl (by simpa using hb1)); clear hb1; have c0 := (z0 0).1; have c1 := (z0 1).1; have c2 := (z0 2).1; have d0 := (z1 0).1; have d1 := (z1 1).1; have d2 := (z1 2).1; have f0 := (z1 0).2; have f1 := (z1 1).2; have f2 := (z1 2).2; clear z0 z1)
    refine bodyPost_ret (v := .tuple #[.agg #[.int .i64 0, .int .i64 0, .slice none 0 0], .int .i64 4]) (by simp [results, Try.results24, go_sem, d0, d1, d2]) rfl ?_
    exact told_here 0 0 [] _ 4 (Kids.nil_ _ _) HB.out
def lenI (t : VT) : Int := if t.kind = 2 then (t.kids.length : Int) else 0
theorem len_any {G : Nat → Prop} (t : VT) (s : Value) (w : World) (h : Kids G w t.kids s) :
    Calls Try.prog 19 #[.agg #[.int .i64 t.kind, .int .i64 t.num, s]] w fun e w' => e = .returned (.int .i64 (lenI t)) ∧ Below w.heap.size w w' := by
  obtain ⟨A, cap, rfl, _⟩ := h.form
  clear h
  cases t with
  | mk kd nm l =>
  show Calls Try.prog 19 #[.agg #[.int .i64 kd, .int .i64 nm, .slice A l.length cap]] w _
  have HB : Hid (∀ o, Below w.heap.size w (w.alloc o)) := Lib.hid fun o => (Below.refl _ _).alloc (Nat.le_refl _) _
  have HL : Hid (lenI (.mk kd nm l) = if kd = 2 then (l.length : Int) else 0) := Lib.hid rfl
  obtain ⟨N, hN⟩ : ∃ N, N = l.length := ⟨_, rfl⟩
  rw [← hN] at HL ⊢
  clear hN
  by_cases hk : kd = 2
  · subst hk
    go_enter Try.func19, Try.ntmps19
    go_wp2
    go_ret
    exact ⟨by rw [HL.out]; rfl, HB.out _⟩
  · have hk' : (kd == 2) = false := by simpa using hk
    have HL' : Hid (lenI (.mk kd nm l) = 0) := Lib.hid (by rw [HL.out, if_neg hk])
    clear HL
    go_enter Try.func19, Try.ntmps19
    go_wp2
    go_ret
    exact ⟨by rw [HL'.out]; rfl, HB.out _⟩
end Go.Proofs.Ytlejcmojimkjeaa.vt

/- Arrays of one value: the document's way. -/
import Derived.Test.YtlejcmojimkjeaaPathFill
import Derived.Test.YtlejcmojimkjeaaPathWithA
namespace Go.Proofs.Ytlejcmojimkjeaa.vt
open Go.RowKit mem

def FillRel (G : Nat → Prop) (w0 : World) (t : VT) (s : Value) (m : Nat) (i : Value) (wr : World) : Prop :=
  ∃ (k : Nat) (so : Value) (vs : List Value), k ≤ m ∧ i = .int .i64 k ∧
    (Box wr w0.heap.size TV (boxV t s) ∧ Box wr (w0.heap.size + 1) TV zero3 ∧ Box wr (w0.heap.size + 2) TV #[.int .i64 2, .int .i64 0, so]) ∧
    wr.ownsRow (w0.heap.size + 3) TV 3 so k vs ∧ Vals (fun b => (G b ∧ b < w0.heap.size) ∧ some b ≠ so.ownBlock) wr (List.replicate k t) vs ∧ Below w0.heap.size w0 wr
theorem fill_next {G : Nat → Prop} {w wr w3 X : World} {t : VT} {s so : Value} {m k g cap : Nat} {vs : List Value} (hkm : k < m)
    (hbx : Box wr w.heap.size TV (boxV t s) ∧ Box wr (w.heap.size + 1) TV zero3 ∧ Box wr (w.heap.size + 2) TV #[.int .i64 2, .int .i64 0, so])
    (ho : wr.ownsRow (w.heap.size + 3) TV 3 so k vs) (hv : Vals (fun b => (G b ∧ b < w.heap.size) ∧ some b ≠ so.ownBlock) wr (List.replicate k t) vs) (hb : Below w.heap.size w wr)
    (hi : I64 t.kind ∧ I64 t.num) (hk : Kids (fun b => (G b ∧ b < w.heap.size) ∧ some b ≠ so.ownBlock) wr t.kids s)
    (hown : w3.ownsRow (w.heap.size + 3) TV 3 (.slice (some ⟨g, 0, none⟩) (k + 1) cap) (k + 1) (vs ++ [.int .i64 t.kind, .int .i64 t.num, s])) (hX : Below wr.heap.size wr X) (hg : X.grownBy w3 so.ownBlock) (hat : so.ownBlock = some g ∨ wr.heap.size ≤ g) :
    ∀ i, i = .int .i64 (k + 1 : Nat) → FillRel G w t s m i (w3.setCell ⟨w.heap.size + 2, 2, none⟩ (.slice (some ⟨g, 0, none⟩) (k + 1) cap)) := by
  intro i hi'
  have hno : ∀ b, b < w.heap.size + 3 → some b ≠ so.ownBlock := fun b hb e => by have := (ho.lt _ e.symm).1; omega
  have hz := hbx.2.2.lt
  have hgz : w.heap.size + 3 ≤ g := (hown.lt g rfl).1
  refine ⟨k + 1, _, _, by omega, hi', ⟨?_, ?_, ?_⟩, own_set hown (by omega), ?_, ?_⟩
  · exact ((hbx.1.on hX).grown hg (hno _ (by omega))).far (by dsimp only; omega) _
  · exact ((hbx.2.1.on hX).grown hg (hno _ (by omega))).far (by dsimp only; omega) _
  · exact ((hbx.2.2.on hX).grown hg (hno _ (by omega))).set 2 _
  · rw [List.replicate_succ']
    refine ((push_vals hv hi hk hX hg hat hown).set fun c hc _ => ?_).mono fun b hb => hb
    have := hc.1.2; omega
  · refine Below.setCell ?_ (by dsimp only; omega) _
    exact (hb.trans (hX.mono hb.size)).grown hg (by have := hb.size; have := hX.size; omega) (fun c h => by have := (ho.lt _ h).1; omega)
theorem sizeL_rep (t : VT) : ∀ m, sizeL (List.replicate m t) = m * t.size
  | 0 => by simp [sizeL]
  | m + 1 => by rw [List.replicate_succ, sizeL, sizeL_rep t m, Nat.succ_mul]; omega
set_option maxHeartbeats 1000000 in
theorem rfill_any {G : Nat → Prop} (n : Int) (t : VT) (s : Value) (w : World) (hi : I64 t.kind ∧ I64 t.num) (hsz : t.size ≤ 1048576) (h : Kids G w t.kids s) :
    Calls Try.prog 16 #[.int .i64 n, .agg #[.int .i64 t.kind, .int .i64 t.num, s]] w (ValPost (fun _ => True) (fillT n t) w) := by
  have hup2 : ∀ o o', Below w.heap.size w ((w.alloc o).alloc o') := fun o o' => ((Below.refl _ _).alloc (Nat.le_refl _) _).alloc (by simp) _
  have HUP2 := Lib.hid hup2
  have HK := Lib.hid h
  have HI := Lib.hid hi
  obtain ⟨A, cap, rfl, _⟩ := h.form
  obtain ⟨N, hN⟩ : ∃ N, N = t.kids.length := ⟨_, rfl⟩
  rw [← hN] at HK ⊢
  have HMT : Hid (fillT n t = if n < 0 ∨ 256 < n then (zeroT, 3) else fitsT (.mk 2 0 (List.replicate n.toNat t))) := Lib.hid rfl
  clear h hup2 hN hi
  by_cases h1 : n < 0
  · have HT : Hid (fillT n t = (zeroT, 3)) := Lib.hid (by rw [HMT.out, if_pos (Or.inl h1)])
    clear HMT
    go_enter Try.func16, Try.ntmps16
    go_wp2
    refine bodyPost_ret (v := .tuple #[.agg #[.int .i64 0, .int .i64 0, .slice none 0 0], .int .i64 3]) (by simp [results, Try.results16, go_sem]) rfl ?_
    rw [HT.out]
    exact ⟨_, rfl, Kids.nil_ _ _, HUP2.out _ _⟩
  · by_cases h2 : 256 < n
    · have HT : Hid (fillT n t = (zeroT, 3)) := Lib.hid (by rw [HMT.out, if_pos (Or.inr h2)])
      clear HMT
      go_enter Try.func16, Try.ntmps16
      go_wp2
      refine bodyPost_ret (v := .tuple #[.agg #[.int .i64 0, .int .i64 0, .slice none 0 0], .int .i64 3]) (by simp [results, Try.results16, go_sem]) rfl ?_
      rw [HT.out]
      exact ⟨_, rfl, Kids.nil_ _ _, HUP2.out _ _⟩
    · have HT : Hid (fillT n t = fitsT (.mk 2 0 (List.replicate n.toNat t))) := Lib.hid (by rw [HMT.out, if_neg (by omega)])
      obtain ⟨m, rfl⟩ := Int.eq_ofNat_of_zero_le (show 0 ≤ n by omega)
      rw [Int.toNat_natCast] at HT
      have hm : m ≤ 256 := by omega
      have hd1 : decide ((m : Int) < 0) = false := by simp
      have hd2 : decide ((256 : Int) < m) = false := by simp; omega
      clear HMT
      go_enter Try.func16, Try.ntmps16
      go_wp2
      have e2 : w.heap.size + 1 + 1 = w.heap.size + 2 := rfl
      rw [e2]
      obtain ⟨W, hW⟩ : ∃ W, W = ((w.alloc (.cells #[.int .i64 t.kind, .int .i64 t.num, .slice A N cap] TV)).alloc (.cells #[.int .i64 0, .int .i64 0, .slice none 0 0] TV)).alloc (.cells #[.int .i64 2, .int .i64 0, .slice none 0 0] TV) := ⟨_, rfl⟩
      have HB0 : Hid (Below w.heap.size w W) := Lib.hid (by rw [hW]; exact (HUP2.out _ _).alloc (by simp; omega) _)
      have HX0 : Hid (Box W w.heap.size TV (boxV t (.slice A N cap)) ∧ Box W (w.heap.size + 1) TV zero3 ∧ Box W (w.heap.size + 2) TV #[.int .i64 2, .int .i64 0, .slice none 0 0]) := Lib.hid (by
        rw [hW]; exact ⟨((Box.new _ _ _ _ rfl).alloc _).alloc _, (Box.new _ _ _ _ (by simp)).alloc _, Box.new _ _ _ _ (by simp)⟩)
      rw [← hW]
      clear hW e2
      go_loopw [7] (fun i wr => FillRel G w t (.slice A N cap) m i wr) (fun i _ => m - (intOf i).toNat)
      case atStart => unfold FillRel; exact ⟨0, .slice none 0 0, [], Nat.zero_le _, rfl, HX0.out, World.ownsRow_nil _ _ _ _, by rw [List.replicate_zero, Vals], HB0.out⟩
      case round =>
        obtain ⟨k, so, vs, hk, rfl, ⟨B0, B1, B2⟩, HO, HV, HB⟩ := hrel
        have hz := B2.lt
        have HOO := Lib.hid HO
        have HVV := Lib.hid HV
        have HBB := Lib.hid HB
        have HBX := Lib.hid (And.intro B0 (And.intro B1 B2))
        have hbz := HB.size
        by_cases hlt : k < m
        · have a0 : wr.cell? ⟨w.heap.size, 0, none⟩ = some (.int .i64 t.kind) := B0.cell 0
          have a1 : wr.cell? ⟨w.heap.size, 1, none⟩ = some (.int .i64 t.num) := B0.cell 1
          have a2 : wr.cell? ⟨w.heap.size, 2, none⟩ = some (.slice A N cap) := B0.cell 2
          have d2 : wr.cell? ⟨w.heap.size + 2, 2, none⟩ = some so := B2.cell 2
          have f2 := B2.frozen 2
          have hz0 : w.heap.size < wr.heap.size := by omega
          obtain ⟨i0, hi0, hzz0, hzz1, hzz2⟩ := info_parts infoV
          have h1c : Hid (∀ q ∈ [Value.int .i64 t.kind, .int .i64 t.num, .slice A N cap], q.oneCell' = true) := Lib.hid (by intro q hq; simp at hq; rcases hq with rfl | rfl | rfl <;> rfl)
          have HKW := Lib.hid ((HK.out.lt.below HB).mono (G' := fun b => (G b ∧ b < w.heap.size) ∧ some b ≠ so.ownBlock) fun b hb => ⟨hb, fun e => by have := (HO.lt _ e.symm).1; have := hb.2; omega⟩)
          clear B0 B1 B2 HO HV HB
          go_wp2_with (at_builtin; refine wpList_append_lies _ rfl (.tmp 22) (.tmp 24) 22 rfl (w.heap.size + 3) TV i0 (.agg #[.int .i64 0, .int .i64 0, .slice none 0 0]) 3 40 Try.underlying22 hi0 hzz0 hzz1 hzz2 rfl (by decide) so k vs rfl (HOO.out.alloc _) ⟨wr.heap.size, 0, none⟩ 1 1 [.int .i64 t.kind, .int .i64 t.num, .slice A N cap] rfl rfl (World.news_of_block (heap_alloc_new wr _)) h1c.out (by decide) (by unfold maxLen; omega) (by omega) (by simp; omega) (wr.heap.size + 1) (by simp) ?_; intro g cap3 w3 hown hgrow hat hlt3; have hb3 := (HBX.out.2.2.alloc _).grown hgrow (fun e => by have := (HOO.out.lt _ e.symm).1; omega); have y2 : w3.cell? ⟨w.heap.size + 2, 2, none⟩ = some so := hb3.cell 2; have fy := hb3.frozen 2; have HNX := Lib.hid (fill_next hlt HBX.out HOO.out HVV.out HBB.out HI.out HKW.out hown ((Below.refl _ _).alloc (Nat.le_refl _) _) hgrow (hat.imp id fun h => by omega)); clear hown hgrow hat hb3)
          go_roundw
          case rel => exact HNX.out _ (by go_num)
          case measure => simp [intOf]; omega
        · have hkm : k = m := by omega
          subst hkm
          have d0 : wr.cell? ⟨w.heap.size + 2, 0, none⟩ = some (.int .i64 2) := B2.cell 0
          have d1 : wr.cell? ⟨w.heap.size + 2, 1, none⟩ = some (.int .i64 0) := B2.cell 1
          have d2 : wr.cell? ⟨w.heap.size + 2, 2, none⟩ = some so := B2.cell 2
          have hOWN : Own (w.heap.size + 3) (fun b => (G b ∧ b < w.heap.size) ∧ some b ≠ so.ownBlock) wr (List.replicate k t) so := ⟨vs, HV, by rw [List.length_replicate]; exact HO⟩
          have hkk := hOWN.kids (G' := fun b => b < w.heap.size ∨ w.heap.size + 3 ≤ b) (fun b hb => Or.inl hb.1.2) (fun b hb => Or.inr hb)
          have hsize : (VT.mk 2 0 (List.replicate k t)).size ≤ 9223372036854775807 := by
            rw [size_mk, sizeL_rep]
            have := Nat.mul_le_mul hm hsz
            omega
          have HFI := Lib.hid (rfits_any (.mk 2 0 (List.replicate k t)) so wr hkk hsize)
          obtain ⟨Ao, co, rfl⟩ := own_form HO
          have HX := Lib.hid B1
          have hxz := B1.lt
          clear B0 B1 B2 HO HV HB hOWN hkk hsize
          replace HFI := Lib.hid (show Calls Try.prog 24 #[.agg #[.int .i64 2, .int .i64 0, .slice Ao k co]] wr _ from HFI.out)
          go_wp2_with (fail)
          refine HFI.out.mono ?_
          rintro e w2 ⟨s2, rfl, hk2, hb2⟩
          obtain ⟨A2, c2, rfl, _⟩ := hk2.form
          have b2 := HX.out.on hb2
          have d0 : w2.cell? ⟨w.heap.size + 1, 0, none⟩ = some (.int .i64 0) := b2.cell 0
          have d1 : w2.cell? ⟨w.heap.size + 1, 1, none⟩ = some (.int .i64 0) := b2.cell 1
          have d2 : w2.cell? ⟨w.heap.size + 1, 2, none⟩ = some (.slice none 0 0) := b2.cell 2
          have f0 := b2.frozen 0
          have f1 := b2.frozen 1
          have f2 := b2.frozen 2
          have HK2 := Lib.hid hk2
          have HB2 := Lib.hid (HBB.out.trans (hb2.mono HBB.out.size))
          obtain ⟨q, hq⟩ : ∃ q, q = fitsT (.mk 2 0 (List.replicate k t)) := ⟨_, rfl⟩
          rw [← hq] at HK2 HT ⊢
          obtain ⟨⟨qk, qn, ql⟩, qt⟩ := q
          simp only [VT.kind, VT.num, VT.kids] at HK2 ⊢
          obtain ⟨M5, hM5⟩ : ∃ M5, M5 = ql.length := ⟨_, rfl⟩
          rw [← hM5] at HK2 ⊢
          clear hq hM5 hk2 hb2 b2 HFI HX
          go_wp2_with (fail)
          refine bodyPost_ret (v := .tuple #[.agg #[.int .i64 qk, .int .i64 qn, .slice A2 M5 c2], .int .i64 qt]) (by simp [results, Try.results16, go_sem, d0, d1, d2]) rfl ?_
          rw [HT.out]
          exact told_at qk qn ql _ qt (Nat.le_succ _) (HK2.out.mono fun c hc => ⟨trivial, by rcases hc with h | h <;> omega⟩) HB2.out
end Go.Proofs.Ytlejcmojimkjeaa.vt

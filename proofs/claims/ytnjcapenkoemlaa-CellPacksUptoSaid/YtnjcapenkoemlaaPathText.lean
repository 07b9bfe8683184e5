/- The document's own text of any value, right or not. -/
import Derived.Test.YtnjcapenkoemlaaValRefText
namespace Go.Proofs.Ytnjcapenkoemlaa.vt
open Go.RowKit mem

def RTextA (t : VT) : Prop := ∀ (G : Nat → Prop) (s : Value) (w : World), Kids G w t.kids s → t.fits → t.size ≤ 1048576 →
    Calls Try.prog 17 #[.agg #[.int .i64 t.kind, .int .i64 t.num, s]] w fun e w' => e = .returned (.string ⟨t.text.toArray⟩) ∧ Below w.heap.size w w'
set_option maxHeartbeats 2000000 in
set_option maxRecDepth 100000 in
theorem rtexta_any (t : VT) : RTextA t := by
  induction t using VT.ind with
  | h kd nm l ih =>
    intro G s w h hf hsz
    change Kids G w l s at h
    have hlen := text_len _ hf
    rw [fits_mk] at hf
    have hnm := hf.1.2
    have hfl := hf.2
    clear hf
    obtain ⟨A, cap, hs, _⟩ := h.form
    subst hs
    show Calls Try.prog 17 #[.agg #[.int .i64 kd, .int .i64 nm, .slice A l.length cap]] w _
    have hB : ∀ o, Hid (Below w.heap.size w (w.alloc o)) := fun o => Lib.hid ((Below.refl _ _).alloc (Nat.le_refl _) _)
    by_cases h0 : kd = 0
    · subst h0
      have HT : Hid ((VT.mk 0 nm l).text = Lib.itoa nm) := Lib.hid (by rw [text_mk, if_pos rfl])
      clear ih hlen h hfl
      go_enter Try.func17, Try.ntmps17
      go_wp2_with (go_at_call 24; refine (whole.rtext_any nm _ hnm).mono ?_; rintro e w1 ⟨rfl, rfl⟩)
      go_ret
      exact ⟨str_ret HT.out.symm, (hB _).out⟩
    · by_cases h1 : kd = 1
      · subst h1
        have HT : Hid ((VT.mk 1 nm l).text = if nm = 1 then txtTrue else txtFalse) := Lib.hid (by rw [text_mk, if_neg (by omega), if_pos rfl])
        clear ih hlen h hfl
        by_cases hn : nm = 1
        · subst hn
          go_enter Try.func17, Try.ntmps17
          go_wp2
          go_ret
          exact ⟨by rw [HT.out]; rfl, (hB _).out⟩
        · have hn' : (nm == 1) = false := by simpa using hn
          have HT' : Hid ((VT.mk 1 nm l).text = txtFalse) := Lib.hid (by rw [HT.out, if_neg hn])
          clear HT
          go_enter Try.func17, Try.ntmps17
          go_wp2
          go_ret
          exact ⟨by rw [HT'.out]; rfl, (hB _).out⟩
      · rw [size_mk] at hsz
        have h0' : (kd == 0) = false := by simpa using h0
        have h1' : (kd == 1) = false := by simpa using h1
        have IH : Hid (∀ u ∈ l, u.fits ∧ u.size ≤ 1048576 ∧ RTextA u) := Lib.hid fun u hu => ⟨fitsL_mem hfl u hu, by have := mem_sizeL hu; omega, ih u hu⟩
        have HST := Lib.hid (fun k hk => text_step l k hk hfl (by omega))
        have HT : Hid ((VT.mk kd nm l).text = if kd = 3 then [123] ++ textL l ++ [125] else [91] ++ textL l ++ [93]) := Lib.hid (by rw [text_mk, if_neg h0, if_neg h1])
        have HK := Lib.hid h
        obtain ⟨N, hN⟩ : ∃ N, N = l.length := ⟨_, rfl⟩
        have hNl : N ≤ 1048576 := by have := len_le_sizeL l; omega
        have HN := Lib.hid hN
        rw [← hN]
        clear hfl hlen ih h hN hsz h0 h1
        have hc : ∃ (k3 : Bool), (kd == 3) = k3 ∧ (k3 = true → (VT.mk kd nm l).text = [123] ++ textL l ++ [125]) ∧ (k3 = false → (VT.mk kd nm l).text = [91] ++ textL l ++ [93]) := ⟨_, rfl, fun e => by rw [HT.out, if_pos (by simpa using e)], fun e => by rw [HT.out, if_neg (by simpa using e)]⟩
        obtain ⟨k3, hk3, ht3, hf3⟩ := hc
        clear HT
        cases k3
        all_goals
          (first | have HT := Lib.hid (ht3 rfl) | have HT := Lib.hid (hf3 rfl))
          clear ht3 hf3
          go_enter Try.func17, Try.ntmps17
          go_wp2
          obtain ⟨H, hH⟩ : ∃ H, H = w.heap.size := ⟨_, rfl⟩
          obtain ⟨W, hW⟩ : ∃ W, W = w.alloc (.cells #[.int .i64 kd, .int .i64 nm, .slice A N cap] 24) := ⟨_, rfl⟩
          rw [← hW]
          have HB0 : Hid (Below H w W) := Lib.hid (by rw [hW, hH]; exact (Below.refl _ _).alloc (Nat.le_refl _) _)
          have HC : Hid (W.cell? ⟨H, 2, none⟩ = some (.slice A N cap)) := Lib.hid (by rw [hW, hH]; simp)
          have hc0 := cell_first hH hW
          have HC0 := Lib.hid hc0
          have hS : H < W.heap.size := by rw [hW, hH]; simp
          rw [← hH]
          have HW := Lib.hid hW
          have HH := Lib.hid hH
          clear hH hB hW hc0
          go_loopw [3, 4] (fun s i wr => TextRel W.heap.size W N l s i wr) (fun _ i _ => N - (intOf i).toNat)
          case atStart => unfold TextRel; exact ⟨0, [], Nat.zero_le _, rfl, rfl, by simp, Lib.hid (by rw [List.take_zero, textL]), Below.refl _ _⟩
          case round =>
            obtain ⟨k, acc, hk, rfl, rfl, hacc, HA, hb⟩ := hrel
            have hc2 := (hb.cell (p := ⟨H, 2, none⟩) hS).trans HC.out
            have hc0 := (hb.cell (p := ⟨H, 0, none⟩) hS).trans HC0.out
            have hbw : Below w.heap.size w wr := by rw [← HH.out]; exact HB0.out.trans (hb.mono (by omega))
            by_cases hlt : k < N
            · have hkl : k < l.length := by have := HN.out; omega
              obtain ⟨b, off, cap', s', hs, hlt', _, _, c0, c1, c2, hkk⟩ := HK.out.kid hbw k hkl
              injection hs with hA hL hC
              subst hA
              subst hC
              clear hL
              obtain ⟨A', cc, rfl, _⟩ := hkk.form
              obtain ⟨u2, u3, u4⟩ := IH.out l[k] (List.getElem_mem hkl)
              have HI := Lib.hid (u4 G _ wr hkk u2 u3)
              have HS := Lib.hid (HST.out k hkl acc HA.out)
              obtain ⟨u, hu⟩ : ∃ u, u = l[k] := ⟨_, rfl⟩
              rw [← hu] at c0 c1 c2 HI HS u2 u3
              have hul := text_len u u2
              obtain ⟨M, hM⟩ : ∃ M, M = u.kids.length := ⟨_, rfl⟩
              rw [← hM] at c2 HI
              have hul2 : u.text.length ≤ 25165824 := by omega
              clear hkk hM hu hbw u2 u3 u4 hul
              have HB := Lib.hid hb
              clear hb
              by_cases hk0 : k = 0
              · subst hk0
                rw [Nat.zero_mul, Nat.add_zero] at c0 c1 c2
                go_wp2_with (go_at_call 17; refine HI.out.mono ?_; rintro e w1 ⟨rfl, hb1⟩)
                go_roundw
                case rel => unfold TextRel; exact ⟨0 + 1, _, by omega, by go_num, congrArg Value.string (cat3 _ _), by have := HS.out.2; simpa using this, Lib.hid (by have := HS.out.1; simpa using this), HB.out.trans (hb1.mono HB.out.size)⟩
                case measure => simp [intOf]; omega
              · have hkp : 0 < k := by omega
                have HS' : Hid (acc ++ [44, 32] ++ u.text = textL (l.take (k + 1)) ∧ (acc ++ [44, 32] ++ u.text).length ≤ 25165824) := Lib.hid (by have := HS.out; rwa [if_neg hk0] at this)
                go_wp2_with (go_at_call 17; refine HI.out.mono ?_; rintro e w1 ⟨rfl, hb1⟩)
                go_roundw
                case rel => unfold TextRel; exact ⟨k + 1, _, by omega, by go_num, congrArg Value.string ((congrArg (· ++ _) (cat3 acc [44, 32])).trans (cat3 _ _)), HS'.out.2, Lib.hid HS'.out.1, HB.out.trans (hb1.mono HB.out.size)⟩
                case measure => simp [intOf]; omega
            · have HF : Hid (textL l = acc) := Lib.hid (by have := HA.out; rw [List.take_of_length_le (by have := HN.out; omega)] at this; exact this.symm)
              have HBW := Lib.hid hbw
              clear hbw hb
              go_wp2
              go_ret
              refine ⟨?_, HBW.out⟩
              rw [HT.out]
              first
                | (rw [HF.out]; exact congrArg (fun x => Ending.returned (Value.string x)) ((congrArg (· ++ _) (cat3 [91] acc)).trans (cat3 _ [93])))
                | (rw [HF.out]; exact congrArg (fun x => Ending.returned (Value.string x)) ((congrArg (· ++ _) (cat3 [123] acc)).trans (cat3 _ [125])))
end Go.Proofs.Ytnjcapenkoemlaa.vt

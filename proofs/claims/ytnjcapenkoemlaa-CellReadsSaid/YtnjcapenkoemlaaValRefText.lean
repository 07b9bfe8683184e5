/- The document's own text of a right value. -/
import Derived.Test.YtnjcapenkoemlaaValNum
import Derived.Test.YtnjcapenkoemlaaValSame
namespace Go.Proofs.Ytnjcapenkoemlaa.vt
open Go.RowKit mem

def str (l : List UInt8) : Value := .string ⟨l.toArray⟩
theorem str_ret {a b : List UInt8} (h : a = b) : Ending.returned (.string ⟨a.toArray⟩) = .returned (.string ⟨b.toArray⟩) := by rw [h]
theorem right_arr {kd nm : Int} {l : List VT} (h : (VT.mk kd nm l).right = true) (h0 : kd ≠ 0) (h1 : kd ≠ 1) : (kd = 2 ∨ kd = 3) ∧ nm = 0 ∧ rightL l = true := by
  rw [right_mk, if_neg h0, if_neg h1] at h
  by_cases h2 : kd = 2 ∨ kd = 3
  · rw [if_pos h2] at h
    simp only [Bool.and_eq_true, decide_eq_true_eq] at h
    exact ⟨h2, h.1, h.2⟩
  · rw [if_neg h2] at h; cases h
theorem right_bool {nm : Int} {l : List VT} (h : (VT.mk 1 nm l).right = true) : (nm = 0 ∨ nm = 1) ∧ l = [] := by
  rw [right_mk, if_neg (by omega), if_pos rfl] at h
  simp only [Bool.and_eq_true, decide_eq_true_eq, List.isEmpty_iff] at h
  exact h
theorem right_int {nm : Int} {l : List VT} (h : (VT.mk 0 nm l).right = true) : l = [] := by
  rw [right_mk, if_pos rfl, List.isEmpty_iff] at h
  exact h
def RTextOf (t : VT) : Prop := ∀ (G : Nat → Prop) (s : Value) (w : World), Kids G w t.kids s → t.right = true → t.fits → t.size ≤ 1048576 →
    Calls Try.prog 17 #[.agg #[.int .i64 t.kind, .int .i64 t.num, s]] w fun e w' => e = .returned (.string ⟨t.text.toArray⟩) ∧ Below w.heap.size w w'
def TextRel (H : Nat) (W : World) (N : Nat) (l : List VT) (s i : Value) (wr : World) : Prop :=
  ∃ (k : Nat) (acc : List UInt8), k ≤ N ∧ i = .int .i64 k ∧ s = .string ⟨acc.toArray⟩ ∧ acc.length ≤ 25165824 ∧ Hid (acc = textL (l.take k)) ∧ Below H W wr
theorem text_step (l : List VT) (k : Nat) (hk : k < l.length) (hf : fitsL l) (hs : sizeL l ≤ 1048575) (acc : List UInt8) (h : acc = textL (l.take k)) :
    acc ++ (if k = 0 then [] else [44, 32]) ++ l[k].text = textL (l.take (k + 1)) ∧ (acc ++ (if k = 0 then [] else [44, 32]) ++ l[k].text).length ≤ 25165824 := by
  have e := textL_take l k hk
  rw [h, ← e]
  refine ⟨rfl, ?_⟩
  have h1 := textL_len (l.take (k + 1)) (fitsL_of fun u hu => fitsL_mem hf u (List.mem_of_mem_take hu))
  have h2 := sizeL_take_le l (k + 1)
  omega
theorem cat3 (a b : List UInt8) : (⟨a.toArray⟩ : ByteArray) ++ ⟨b.toArray⟩ = ⟨(a ++ b).toArray⟩ := by apply ByteArray.ext; simp
theorem cell_first {w W : World} {H : Nat} {x y z : Value} {t : TypeId} (hH : H = w.heap.size) (hW : W = w.alloc (.cells #[x, y, z] t)) : W.cell? ⟨H, 0, none⟩ = some x := by rw [hW, hH]; simp
set_option maxHeartbeats 2000000 in
set_option maxRecDepth 100000 in
theorem rtextv_any (t : VT) : RTextOf t := by
  induction t using VT.ind with
  | h kd nm l ih =>
    intro G s w h hr hf hsz
    change Kids G w l s at h
    have hlen := text_len _ hf
    rw [fits_mk] at hf
    have hnm := hf.1.2
    have hfl := hf.2
    clear hf
    have HR := Lib.hid hr
    obtain ⟨A, cap, hs, _⟩ := h.form
    subst hs
    show Calls Try.prog 17 #[.agg #[.int .i64 kd, .int .i64 nm, .slice A l.length cap]] w _
    have hB : ∀ o, Hid (Below w.heap.size w (w.alloc o)) := fun o => Lib.hid ((Below.refl _ _).alloc (Nat.le_refl _) _)
    by_cases h0 : kd = 0
    · subst h0
      have HT : Hid ((VT.mk 0 nm l).text = Lib.itoa nm) := Lib.hid (by rw [text_mk, if_pos rfl])
      clear ih hlen hr h hfl
      go_enter Try.func17, Try.ntmps17
      go_wp2_with (go_at_call 24; refine (whole.rtext_any nm _ hnm).mono ?_; rintro e w1 ⟨rfl, rfl⟩)
      go_ret
      exact ⟨str_ret HT.out.symm, (hB _).out⟩
    · by_cases h1 : kd = 1
      · subst h1
        obtain ⟨hnn, hll⟩ := right_bool hr
        subst hll
        have HT : Hid ((VT.mk 1 nm []).text = if nm = 1 then txtTrue else txtFalse) := Lib.hid (by rw [text_mk, if_neg (by omega), if_pos rfl])
        clear ih hlen hr h hfl
        rcases hnn with hn | hn
        · subst hn
          go_enter Try.func17, Try.ntmps17
          go_wp2
          go_ret
          exact ⟨by rw [HT.out]; rfl, (hB _).out⟩
        · subst hn
          go_enter Try.func17, Try.ntmps17
          go_wp2
          go_ret
          exact ⟨by rw [HT.out]; rfl, (hB _).out⟩
      · obtain ⟨h23, hn0, hrl⟩ := right_arr hr h0 h1
        subst hn0
        rw [size_mk] at hsz
        have IH : Hid (∀ u ∈ l, u.right = true ∧ u.fits ∧ u.size ≤ 1048576 ∧ RTextOf u) := Lib.hid fun u hu => ⟨rightL_mem hrl hu, fitsL_mem hfl u hu, by have := mem_sizeL hu; omega, ih u hu⟩
        have HST := Lib.hid (fun k hk => text_step l k hk hfl (by omega))
        have HT : Hid ((VT.mk kd 0 l).text = if kd = 3 then [123] ++ textL l ++ [125] else [91] ++ textL l ++ [93]) := Lib.hid (by rw [text_mk, if_neg h0, if_neg h1])
        have HK := Lib.hid h
        obtain ⟨N, hN⟩ : ∃ N, N = l.length := ⟨_, rfl⟩
        have hNl : N ≤ 1048576 := by have := len_le_sizeL l; omega
        have HN := Lib.hid hN
        rw [← hN]
        clear hr hrl hfl hlen ih h hN hsz h0 h1
        rcases h23 with rfl | rfl
        all_goals
          go_enter Try.func17, Try.ntmps17
          go_wp2
          obtain ⟨H, hH⟩ : ∃ H, H = w.heap.size := ⟨_, rfl⟩
          (first | (obtain ⟨W, hW⟩ : ∃ W, W = w.alloc (.cells #[.int .i64 2, .int .i64 0, .slice A N cap] 24) := ⟨_, rfl⟩; rw [← hW]) | (obtain ⟨W, hW⟩ : ∃ W, W = w.alloc (.cells #[.int .i64 3, .int .i64 0, .slice A N cap] 24) := ⟨_, rfl⟩; rw [← hW]))
          have HB0 : Hid (Below H w W) := Lib.hid (by rw [hW, hH]; exact (Below.refl _ _).alloc (Nat.le_refl _) _)
          have HC : Hid (W.cell? ⟨H, 2, none⟩ = some (.slice A N cap)) := Lib.hid (by rw [hW, hH]; simp)
          have hc0 := cell_first hH hW
          have HC0 := Lib.hid hc0
          have hS : H < W.heap.size := by rw [hW, hH]; simp
          rw [← hH]
          have HW := Lib.hid hW
          have HH := Lib.hid hH
          clear hH hB hW hc0
          go_loopw [3, 4] (fun s i wr => TextRel W.heap.size W N l s i wr) (fun _ i _ => N - (intOf i).toNat)
          case atStart => unfold TextRel; exact ⟨0, [], Nat.zero_le _, rfl, rfl, by simp, Lib.hid (by rw [List.take_zero, textL]), Below.refl _ _⟩
          case round =>
            obtain ⟨k, acc, hk, rfl, rfl, hacc, HA, hb⟩ := hrel
            have hc2 := (hb.cell (p := ⟨H, 2, none⟩) hS).trans HC.out
            have hc0 := (hb.cell (p := ⟨H, 0, none⟩) hS).trans HC0.out
            have hbw : Below w.heap.size w wr := by rw [← HH.out]; exact HB0.out.trans (hb.mono (by omega))
            by_cases hlt : k < N
            · have hkl : k < l.length := by have := HN.out; omega
              obtain ⟨b, off, cap', s', hs, hlt', _, _, c0, c1, c2, hkk⟩ := HK.out.kid hbw k hkl
              injection hs with hA hL hC
              subst hA
              subst hC
              clear hL
              obtain ⟨A', cc, rfl, _⟩ := hkk.form
              obtain ⟨u1, u2, u3, u4⟩ := IH.out l[k] (List.getElem_mem hkl)
              have HI := Lib.hid (u4 G _ wr hkk u1 u2 u3)
              have HS := Lib.hid (HST.out k hkl acc HA.out)
              obtain ⟨u, hu⟩ : ∃ u, u = l[k] := ⟨_, rfl⟩
              rw [← hu] at c0 c1 c2 HI HS u2 u3
              have hul := text_len u u2
              obtain ⟨M, hM⟩ : ∃ M, M = u.kids.length := ⟨_, rfl⟩
              rw [← hM] at c2 HI
              have hul2 : u.text.length ≤ 25165824 := by omega
              clear hkk hM hu hbw u1 u2 u3 u4 hul
              have HB := Lib.hid hb
              clear hb
              by_cases hk0 : k = 0
              · subst hk0
                rw [Nat.zero_mul, Nat.add_zero] at c0 c1 c2
                go_wp2_with (go_at_call 17; refine HI.out.mono ?_; rintro e w1 ⟨rfl, hb1⟩)
                go_roundw
                case rel => unfold TextRel; exact ⟨0 + 1, _, by omega, by go_num, congrArg Value.string (cat3 _ _), by have := HS.out.2; simpa using this, Lib.hid (by have := HS.out.1; simpa using this), HB.out.trans (hb1.mono HB.out.size)⟩
                case measure => simp [intOf]; omega
              · have hkp : 0 < k := by omega
                have HS' : Hid (acc ++ [44, 32] ++ u.text = textL (l.take (k + 1)) ∧ (acc ++ [44, 32] ++ u.text).length ≤ 25165824) := Lib.hid (by have := HS.out; rwa [if_neg hk0] at this)
                go_wp2_with (go_at_call 17; refine HI.out.mono ?_; rintro e w1 ⟨rfl, hb1⟩)
                go_roundw
                case rel => unfold TextRel; exact ⟨k + 1, _, by omega, by go_num, congrArg Value.string ((congrArg (· ++ _) (cat3 acc [44, 32])).trans (cat3 _ _)), HS'.out.2, Lib.hid HS'.out.1, HB.out.trans (hb1.mono HB.out.size)⟩
                case measure => simp [intOf]; omega
            · have HF : Hid (textL l = acc) := Lib.hid (by have := HA.out; rw [List.take_of_length_le (by have := HN.out; omega)] at this; exact this.symm)
              have HBW := Lib.hid hbw
              clear hbw hb
              go_wp2
              go_ret
              refine ⟨?_, HBW.out⟩
              rw [HT.out]
              first
                | (rw [if_neg (by decide), HF.out]; exact congrArg (fun x => Ending.returned (Value.string x)) ((congrArg (· ++ _) (cat3 [91] acc)).trans (cat3 _ [93])))
                | (rw [if_pos trivial, HF.out]; exact congrArg (fun x => Ending.returned (Value.string x)) ((congrArg (· ++ _) (cat3 [123] acc)).trans (cat3 _ [125])))
end Go.Proofs.Ytnjcapenkoemlaa.vt

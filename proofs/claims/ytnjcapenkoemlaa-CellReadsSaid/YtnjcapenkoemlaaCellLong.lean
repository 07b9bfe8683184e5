/- How many bytes a value has. -/
import Derived.Test.YtnjcapenkoemlaaCellPut
import Derived.Test.YtnjcapenkoemlaaValRight
import Derived.Test.YtnjcapenkoemlaaValSize
namespace Go.Proofs.Ytnjcapenkoemlaa.vt.ce
open Go.RowKit mem vt

/-- a value's bytes; none of one that is not right -/
def bytesT (t : VT) : List UInt8 := if t.right then t.bytes else []
theorem bytesT_yes {t : VT} (h : t.right = true) : bytesT t = t.bytes := by unfold bytesT; rw [if_pos h]
theorem bytesT_no {t : VT} (h : t.right = false) : bytesT t = [] := by unfold bytesT; rw [h]; rfl
def LongRel (H : Nat) (W : World) (N M : Nat) (l : List VT) (n i : Value) (wr : World) : Prop :=
  ∃ (k m : Nat), k ≤ N ∧ i = .int .i64 k ∧ n = .int .i64 (m : Int) ∧ Hid (m = 1 + M + (bytesL (l.take k)).length) ∧ m ≤ 1099511627776 ∧ Below H W wr
def LongAll (t : VT) : Prop := ∀ (G : Nat → Prop) (s : Value) (w : World), Kids G w t.kids s → t.right = true → t.fits → t.bytes.length ≤ 1099511627776 →
    Calls Try.prog 21 #[.agg #[.int .i64 t.kind, .int .i64 t.num, s]] w fun e w' => e = .returned (.int .i64 (t.bytes.length : Nat)) ∧ Below w.heap.size w w'
set_option maxHeartbeats 1000000 in
set_option maxRecDepth 100000 in
theorem long_any (t : VT) : LongAll t := by
  induction t using VT.ind with
  | h kd nm l ih =>
    intro G s w h hr hf hlen
    change Kids G w l s at h
    rw [right_mk] at hr
    rw [fits_mk] at hf
    have hi64 : I64 nm := hf.1.2
    obtain ⟨A, cap, rfl, hll⟩ := h.form
    show Calls Try.prog 21 #[.agg #[.int .i64 kd, .int .i64 nm, .slice A l.length cap]] w _
    obtain ⟨L, hL⟩ : ∃ L, L = (VT.mk kd nm l).bytes.length := ⟨_, rfl⟩
    rw [← hL] at hlen ⊢
    rw [bytes_mk] at hL
    obtain ⟨N, hN⟩ : ∃ N, N = l.length := ⟨_, rfl⟩
    rw [← hN]
    have hB : ∀ o, Hid (Below w.heap.size w (w.alloc o)) := fun o => Lib.hid ((Below.refl _ _).alloc (Nat.le_refl _) _)
    by_cases h0 : kd = 0
    · subst h0
      rw [if_pos rfl, List.length_cons] at hL
      have HL := Lib.hid hL
      have hg : (grpN (zig nm)).length ≤ 1099511627776 := by omega
      clear ih hr hf h hL hN hll
      have HLN := Lib.hid (fun o => longNumber_any nm (w.alloc o) hi64)
      generalize (grpN (zig nm)).length = g at HL HLN hg
      go_enter Try.func21, Try.ntmps21
      go_wp2_with (go_at_call 26; refine (HLN.out _).mono ?_; rintro e w1 ⟨rfl, rfl⟩)
      go_ret
      exact ⟨by rw [HL.out]; exact congrArg (fun x => Ending.returned (Value.int .i64 x)) (by omega), (hB _).out⟩
    · by_cases h1 : kd = 1
      · subst h1
        rw [if_neg h0, if_pos rfl] at hL
        have HL := Lib.hid hL
        clear ih hr hf h hL hN hll
        go_enter Try.func21, Try.ntmps21
        go_wp2
        go_ret
        exact ⟨by rw [HL.out]; rfl, (hB _).out⟩
      · rw [if_neg h0, if_neg h1] at hr hL
        by_cases h2 : kd = 2 ∨ kd = 3
        · rw [if_pos h2] at hr
          simp only [Bool.and_eq_true, decide_eq_true_eq] at hr
          obtain ⟨rfl, hrl⟩ := hr
          rw [List.length_cons, List.length_append, ← hN] at hL
          have hN64 : N ≤ 9223372036854775807 := by omega
          have HK := Lib.hid h
          have HLN := Lib.hid (fun o => longNumber_any (N : Int) (w.alloc o) (by unfold I64; omega))
          rw [zig_nat] at HLN
          generalize (grpN (2 * N)).length = g at HLN hL
          have HL := Lib.hid hL
          have HN := Lib.hid hN
          have hg : g + 1 ≤ 1099511627776 := by omega
          have HST : Hid (∀ k (hk : k < l.length), 1 + g + (bytesL (l.take k)).length + l[k].bytes.length = 1 + g + (bytesL (l.take (k + 1))).length ∧ 1 + g + (bytesL (l.take (k + 1))).length ≤ L) := Lib.hid fun k hk => by
            have := bytesL_take_le l (k + 1)
            rw [bytesL_take l k hk, List.length_append] at this ⊢
            omega
          have IH : Hid (∀ u ∈ l, u.bytes.length ≤ 1099511627776 → ∀ (s : Value) (w : World), Kids G w u.kids s → Calls Try.prog 21 #[.agg #[.int .i64 u.kind, .int .i64 u.num, s]] w fun e w' => e = .returned (.int .i64 (u.bytes.length : Nat)) ∧ Below w.heap.size w w') := Lib.hid fun u hu hb s w hk => ih u hu G s w hk (rightL_mem hrl hu) (fitsL_mem hf.2 u hu) hb
          obtain ⟨H, hH⟩ : ∃ H, H = w.heap.size := ⟨_, rfl⟩
          obtain ⟨W, hW⟩ : ∃ W, W = w.alloc (.cells #[.int .i64 kd, .int .i64 0, .slice A N cap] 24) := ⟨_, rfl⟩
          have HB0 : Hid (Below H w W) := Lib.hid (by rw [hW, hH]; exact (Below.refl _ _).alloc (Nat.le_refl _) _)
          have hS : H < W.heap.size := by rw [hW, hH]; simp
          have HH := Lib.hid hH
          have HW := Lib.hid hW
          clear ih hrl hf h hL hN hll h0 h1 hW hH
          rcases h2 with rfl | rfl
          all_goals
            go_enter Try.func21, Try.ntmps21
            go_wp2_with (go_at_call 26; refine (HLN.out _).mono ?_; rintro e w1 ⟨rfl, rfl⟩)
            rw [← HW.out, ← HH.out]
            clear hB
            go_loopw [3, 24] (fun n i wr => LongRel W.heap.size W N g l n i wr) (fun _ i _ => N - (intOf i).toNat)
            case atStart => unfold LongRel; exact ⟨0, 1 + g, Nat.zero_le _, rfl, by go_num, Lib.hid (by simp [bytesL]), by omega, Below.refl _ _⟩
            case round =>
              obtain ⟨k, m, hk, rfl, rfl, HM, hm, hb⟩ := hrel
              by_cases hlt : k < N
              · have hkl : k < l.length := by have := HN.out; omega
                have hbw : Below w.heap.size w wr := by rw [← HH.out]; exact HB0.out.trans (hb.mono (by omega))
                obtain ⟨b, off, cap', s', hs, hlt', _, _, c0, c1, c2, hkk⟩ := HK.out.kid hbw k hkl
                injection hs with hA hLe hC
                subst hA
                subst hC
                clear hLe
                obtain ⟨s1, s2⟩ := HST.out k hkl
                obtain ⟨A', cc, rfl, _⟩ := hkk.form
                obtain ⟨u, hu⟩ : ∃ u, u = l[k] := ⟨_, rfl⟩
                have hum : u ∈ l := by rw [hu]; exact List.getElem_mem hkl
                rw [← hu] at c0 c1 c2 hkk s1
                obtain ⟨M, hM⟩ : ∃ M, M = u.kids.length := ⟨_, rfl⟩
                rw [← hM] at c2 hkk
                have HI := Lib.hid (fun w' (hb' : Below wr.heap.size wr w') => IH.out u hum (by omega) _ w' (hkk.below hb'))
                have HS : Hid (m + u.bytes.length = 1 + g + (bytesL (l.take (k + 1))).length) := Lib.hid (by rw [HM.out]; exact s1)
                have hub : m + u.bytes.length ≤ 1099511627776 := by have := HM.out; omega
                rw [hM] at HI
                rw [← hM] at HI
                generalize u.bytes.length = q at HI HS hub
                clear hM hkk hu hum hbw s1 s2
                have HB := Lib.hid hb
                clear hb
                go_wp2_with (go_at_call 21; refine (HI.out _ ((Below.refl _ _).alloc (Nat.le_refl _) _)).mono ?_; rintro e w1 ⟨rfl, hb1⟩)
                go_roundw
                case rel => unfold LongRel; exact ⟨k + 1, m + q, by omega, by go_num, by go_num, HS, hub, HB.out.trans (((Below.refl _ _).alloc HB.out.size _).trans (hb1.mono (by simp; have := HB.out.size; omega)))⟩
                case measure => simp [intOf]; omega
              · have HE : Hid ((m : Int) = (L : Nat)) := Lib.hid (by have := HM.out; rw [List.take_of_length_le (by have := HN.out; omega)] at this; have := HL.out; omega)
                go_wp2
                go_ret
                exact ⟨congrArg (fun x => Ending.returned (Value.int .i64 x)) HE.out, by rw [← HH.out]; exact HB0.out.trans (hb.mono (by omega))⟩
        · rw [if_neg h2] at hr; cases hr
theorem Long_any {G : Nat → Prop} (t : VT) (s : Value) (w : World) (h : Kids G w t.kids s) (hf : t.fits) (hl : (bytesT t).length ≤ 1099511627776) :
    Calls Try.prog 10 #[.agg #[.int .i64 t.kind, .int .i64 t.num, s]] w fun e w' => e = .returned (.int .i64 ((bytesT t).length : Nat)) ∧ Below w.heap.size w w' := by
  obtain ⟨W, hW⟩ : ∃ W, W = w.alloc (.cells #[.int .i64 t.kind, .int .i64 t.num, s] 24) := ⟨_, rfl⟩
  have hb0 : Below w.heap.size w W := by rw [hW]; exact (Below.refl _ _).alloc (Nat.le_refl _) _
  have hz : W.heap.size = w.heap.size + 1 := by rw [hW]; simp
  have hcell : ∀ w', Below W.heap.size W w' → w'.cell? ⟨w.heap.size, 0, none⟩ = some (.int .i64 t.kind) ∧ w'.cell? ⟨w.heap.size, 1, none⟩ = some (.int .i64 t.num) ∧ w'.cell? ⟨w.heap.size, 2, none⟩ = some s := fun w' hb => by
    rw [hz, hW] at hb
    exact ⟨(cell_since rfl hb 0).1, (cell_since rfl hb 1).1, (cell_since rfl hb 2).1⟩
  have HR := Lib.hid (right_any t s W (h.below hb0))
  have HLG : Hid (t.right = true → ∀ w', Below W.heap.size W w' → Calls Try.prog 21 #[.agg #[.int .i64 t.kind, .int .i64 t.num, s]] w' fun e w'' => e = .returned (.int .i64 ((bytesT t).length : Nat)) ∧ Below w'.heap.size w' w'') := Lib.hid fun hr w' hb => by
    rw [bytesT_yes hr] at hl ⊢
    exact long_any t G s w' (h.below (hb0.trans (hb.mono (by omega)))) hr hf hl
  have HNO : Hid (t.right = false → (0 : Int) = ((bytesT t).length : Nat)) := Lib.hid fun hr => by rw [bytesT_no hr]; rfl
  obtain ⟨A, cap, rfl, _⟩ := h.form
  have HC := Lib.hid hcell
  have HB0 := Lib.hid hb0
  obtain ⟨N, hN⟩ : ∃ N, N = t.kids.length := ⟨_, rfl⟩
  rw [← hN] at HR HC HLG hW ⊢
  have HZ := Lib.hid hz
  generalize (bytesT t).length = L at HLG HNO ⊢
  clear h hf hl hcell hb0 hN hz
  go_enter Try.func10, Try.ntmps10
  go_wp2_with (fail)
  rw [← hW]
  refine HR.out.mono ?_
  rintro e w1 ⟨rfl, hb1⟩
  have HB1 := Lib.hid hb1
  obtain ⟨a0, a1, a2⟩ := HC.out w1 hb1
  clear hb1 hW
  cases hr : t.right
  · have HE := Lib.hid (HNO.out hr)
    clear hr
    go_wp2_with (fail)
    go_ret
    exact ⟨congrArg (fun x => Ending.returned (Value.int .i64 x)) HE.out, HB0.out.trans (HB1.out.mono HB0.out.size)⟩
  · have HE := Lib.hid (HLG.out hr w1 HB1.out)
    clear hr
    go_wp2_with (go_at_call 21; refine HE.out.mono ?_; rintro e w2 ⟨rfl, hb2⟩)
    go_ret
    exact ⟨rfl, (HB0.out.trans (HB1.out.mono HB0.out.size)).trans (hb2.mono (by have := HB0.out.size; have := HB1.out.size; omega))⟩
end Go.Proofs.Ytnjcapenkoemlaa.vt.ce

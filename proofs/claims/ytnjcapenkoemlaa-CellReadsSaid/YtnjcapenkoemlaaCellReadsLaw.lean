/- The law on what is read of any bytes. -/
import Derived.Test.YtnjcapenkoemlaaCellWorks
import Derived.Test.YtnjcapenkoemlaaCellRef
import Derived.Test.YtnjcapenkoemlaaValSame
namespace Go.Proofs.Ytnjcapenkoemlaa.vt.ce
open Go.RowKit mem vt

def LawHolds (w : World) (e : Ending) (w' : World) : Prop := e = .returned (.bool true) ∧ Below w.heap.size w w'
theorem elemBs : Try.prog.underlying 27 = some (.slice (Try.prog.elem 27)) := by kernel_rfl
theorem slice_toB (n D : Nat) (A : Option Addr) (c : Nat) (hn : n ≤ c) (w : World) :
    (Instr.slice 27 (.slice A D c) none (some (.int .i64 n)) none).run Try.prog w = .ok (.slice A n c) w := by
  have h := run_slice_h (P := Try.prog) (w := w) 27 A D c elemBs .i64 (n : Int) (by omega) (by omega)
  rw [h, sizeB, Int.toNat_natCast]
  show Result.ok (Value.slice (if c = 0 then A else A.map (·.add (0 * 1))) (n - 0) (c - 0)) w = _
  have e : (if c = 0 then A else A.map (·.add (0 * 1))) = A := by
    split
    · rfl
    · cases A with
      | none => rfl
      | some a => rfl
  rw [e]
  rfl
theorem bts_take {G : Nat → Prop} {w : World} {l : List UInt8} {A : Option Addr} {c : Nat} (h : Bts G w l (.slice A l.length c)) (n : Nat) (hn : n ≤ l.length) : Bts G w (l.take n) (.slice A n c) := by
  obtain ⟨A2, c2, e, ⟨h1, h2, h3⟩, hc⟩ := h
  injection e with e1 _ e2
  subst e1 e2
  have hl : (l.take n).length = n := by rw [List.length_take]; omega
  refine ⟨A, c, by rw [hl], ⟨by omega, h2, by omega⟩, fun h0 => ?_⟩
  obtain ⟨b, off, hA, hb, hc⟩ := hc (by omega)
  refine ⟨b, off, hA, hb, fun j hj => ?_⟩
  rw [hc j (by omega)]
  simp
theorem zero_same : eqB (VT.mk 0 0 []) (VT.mk 0 0 []) = true := by unfold eqB; simp
def ReadsRel (K : Nat) (w : World) (L : Nat) (i : Value) (wr : World) : Prop := ∃ k : Nat, i = .int .i64 k ∧ k ≤ L ∧ Below K w wr
theorem rlaw_bytes {l : List UInt8} {t : VT} {L : Nat} (h : readB l = some t) (hL : L = l.length) (hl : L ≤ 200) (_hi : I64 t.kind ∧ I64 t.num) (s : Value) (w : World) (hk : Kids (fun _ => True) w t.kids s) :
    Calls Try.prog 9 #[.agg #[.int .i64 t.kind, .int .i64 t.num, s]] w fun e w' => ∃ A c, e = .returned (.slice A L c) ∧ Bts (fun b => w.heap.size ≤ b) w' l (.slice A L c) ∧ Below w.heap.size w w' := by
  obtain ⟨⟨h1, h2⟩, h3⟩ := bytes_readB h
  have hb : bytesT t = l := by rw [bytesT_yes h1, ← h3]
  refine (rbytes_any t s w hk h2 (by rw [hb]; omega)).mono fun e w' ⟨s', he, hs, hb'⟩ => ?_
  rw [hb] at hs
  obtain ⟨A, c, rfl⟩ := hs.form
  rw [← hL] at he hs
  exact ⟨A, c, he, hs, hb'⟩
set_option maxHeartbeats 4000000 in
set_option maxRecDepth 100000 in
theorem reads_law (l : List UInt8) (s : Value) (w : World) (h : Bts (fun _ => True) w l s) :
    Calls Try.prog 4 #[s] w (LawHolds w) := by
  have HV : Hid (∀ w', Below w.heap.size w w' → Bts (fun _ => True) w' l s) := Lib.hid fun w' hb => h.below hb
  obtain ⟨A, c, rfl⟩ := h.form
  have hcap : l.length ≤ c ∧ l.length ≤ 9223372036854775807 := by
    obtain ⟨A2, c2, e, ⟨h1, h2, h3⟩, _⟩ := h
    injection e with _ _ e
    subst e
    exact ⟨h3, h1⟩
  obtain ⟨L, hL⟩ : ∃ L, L = l.length := ⟨_, rfl⟩
  rw [← hL] at HV hcap ⊢
  have HL := Lib.hid hL
  clear h hL
  go_enter Try.func4, Try.ntmps4
  go_wp2_with (fail)
  refine (works_any w).mono ?_
  rintro e w1 ⟨rfl, hb⟩
  have H1 := Lib.hid hb
  clear hb
  by_cases h200 : 200 < L
  · have h200' : (200 : Int) < (L : Int) := by omega
    go_wp2_with (fail)
    refine (works_any w1).mono ?_
    rintro e w2 ⟨rfl, hb⟩
    have H2 := Lib.hid (H1.out.trans (hb.mono H1.out.size))
    clear hb
    go_wp2_with (fail)
    go_ret
    exact ⟨rfl, H2.out⟩
  · have h200' : ¬ (200 : Int) < (L : Int) := by omega
    have hll : l.length ≤ 200 := by have := HL.out; omega
    go_wp2_with (fail)
    have hbl := HV.out w1 H1.out
    have hrd := read_any l _ w1 hbl (by omega)
    have HRD := Lib.hid hrd
    clear hbl hrd
    cases hr : readB l with
    | none =>
      refine HRD.out.mono ?_
      unfold ReadPost
      rw [hr]
      rintro e w2 ⟨rfl, hb⟩
      have H2 := Lib.hid (H1.out.trans (hb.mono H1.out.size))
      clear hb hr HRD
      go_wp2_with (fail)
      refine (rsame_any (G := fun _ => True) (.mk 0 0 []) (.mk 0 0 []) (.slice none 0 0) (.slice none 0 0) _ (Kids.nil_ _ _) (Kids.nil_ _ _)).mono ?_
      rw [zero_same]
      rintro e w3 ⟨rfl, hb⟩
      have H3 := Lib.hid ((H2.out.alloc H2.out.size _).trans (hb.mono (by have := H2.out.size; simp; omega)))
      clear hb
      go_wp2_with (fail)
      go_ret
      exact ⟨rfl, H3.out⟩
    | some t =>
      refine HRD.out.mono ?_
      unfold ReadPost
      rw [hr]
      rintro e w2 ⟨sk, rfl, hk, hb, hi⟩
      have H2 := Lib.hid (H1.out.trans (hb.mono H1.out.size))
      obtain ⟨A5, c5, rfl, _⟩ := hk.form
      obtain ⟨n5, hn5⟩ : ∃ n5, n5 = t.kids.length := ⟨_, rfl⟩
      rw [← hn5] at hk ⊢
      have HK := Lib.hid hk
      have HRB := Lib.hid hr
      clear hb hr HRD hk hn5
      go_wp2_with (fail)
      obtain ⟨X, hX⟩ : ∃ X, X = w2.alloc (.cells #[.int .i64 t.kind, .int .i64 t.num, .slice A5 n5 c5] 24) := ⟨_, rfl⟩
      have hbX : Below w2.heap.size w2 X := by rw [hX]; exact (Below.refl _ _).alloc (Nat.le_refl _) _
      have hVX : VarIs X w2.heap.size t (.slice A5 n5 c5) := by rw [hX]; exact VarIs.new _ rfl (HK.out.mono fun _ _ => trivial)
      have HVX : Hid (∀ w', Below X.heap.size X w' → VarIs w' w2.heap.size t (.slice A5 n5 c5)) := Lib.hid fun w' h => hVX.below h
      have HX := Lib.hid (H2.out.trans (hbX.mono H2.out.size))
      rw [← hX]
      clear hX hbX hVX
      obtain ⟨b1, hb1⟩ : ∃ b, b = w2.heap.size := ⟨_, rfl⟩
      rw [← hb1] at HVX ⊢
      clear hb1
      have hLl : L ≤ 200 := by omega
      have HWX : Hid (∀ w', Below X.heap.size X w' → Below w.heap.size w w') := Lib.hid fun w' h => HX.out.trans (h.mono HX.out.size)
      go_loopw [5] (fun i wr => ReadsRel X.heap.size X L i wr) (fun i _ => L - (intOf i).toNat)
      case atStart => unfold ReadsRel; exact ⟨0, rfl, Nat.zero_le _, Below.refl _ _⟩
      case round =>
        unfold ReadsRel at hrel
        obtain ⟨k, rfl, hk, hb⟩ := hrel
        have HBR := Lib.hid hb
        clear hb
        by_cases hlt : k < L
        · have hlt' : (k : Int) < (L : Int) := by omega
          have hsl := fun w' => slice_toB k L A c (by omega) w'
          have hbt := bts_take (by rw [← HL.out]; exact HV.out wr (HWX.out wr HBR.out)) k (by have := HL.out; omega)
          have HRD := Lib.hid (read_any (l.take k) _ wr hbt (by rw [List.length_take]; omega))
          have HNO : Hid (readB (l.take k) = none) := Lib.hid (readB_take HRB.out (by omega) (by have := HL.out; omega))
          clear hbt
          go_wp2_with (fail)
          refine HRD.out.mono ?_
          unfold ReadPost
          rw [HNO.out]
          rintro e w3 ⟨rfl, hb⟩
          have H3 := Lib.hid ((HBR.out.trans (hb.mono HBR.out.size)).alloc (by have := HBR.out.size; have := hb.size; omega) (.cells #[.int .i64 0, .int .i64 0, .slice none 0 0] 24))
          clear hb HRD
          go_wp2_with (fail)
          go_roundw
          case rel => unfold ReadsRel; exact ⟨k + 1, by go_num, by omega, H3.out⟩
          case measure => simp [intOf]; omega
        · have hlt' : ¬ (k : Int) < (L : Int) := by omega
          obtain ⟨⟨a0, a1, a2⟩, _, az⟩ := HVX.out wr HBR.out
          have HKX := HVX.out wr.drew HBR.out.drew
          have HBY := Lib.hid (fun hk => rlaw_bytes HRB.out HL.out (by omega) hi (.slice A5 n5 c5) wr.drew hk)
          have kb0 := bytes_conv (HV.out wr.drew (HWX.out _ HBR.out.drew))
          have HKY := Lib.hid HKX.2.1
          clear HKX
          go_wp2_with (fail)
          go_region_law (first
            | (go_simp; go_at_call 9; (with_reducible refine (HBY.out HKY.out).mono ?_); rintro e w5 ⟨A6, c6, rfl, hs5, hb5⟩; have hb6 := HBR.out.drew.trans (hb5.mono HBR.out.size); have k1 := bytes_conv hs5; have kb1 := bytes_conv (HV.out w5 (HWX.out _ hb6)); have HB6 := Lib.hid hb6; clear hs5 hb5 hb6))
          all_goals
            go_wp2_with (fail)
            go_ret
            exact ⟨rfl, HWX.out _ HB6.out⟩
end Go.Proofs.Ytnjcapenkoemlaa.vt.ce

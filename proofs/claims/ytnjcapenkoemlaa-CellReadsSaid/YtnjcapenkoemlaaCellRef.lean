/- The document's own bytes of a value. -/
import Derived.Test.YtnjcapenkoemlaaCellPack
namespace Go.Proofs.Ytnjcapenkoemlaa.vt.ce
open Go.RowKit mem vt

/-- the append of several bytes, met in a walk -/
theorem wpList_puts {G : Nat → Prop} {w wr : World} {ops : Array Oper} {rest : List Oper} {o : Oper} {a : Act} {Q : Exit → Act → World → Prop} (hgd : o.guard = none) (s x : Operand)
    (ho : o.op = .call { callee := .builtin .append, args := #[s, x], argTypes := #[27, 27] }) (B n m c : Nat) (acc new : List UInt8) (v0 v : Value) (A : Option Addr)
    (hs : a.eval s = v) (hx : a.eval x = .slice A m c) (hb : Bts G wr new (.slice A m c)) (hpos : 0 < new.length) (hp : Put B acc v0 w v wr) (hn : n = acc.length) (hl : n + m ≤ 2199023255552) (hB : B ≤ wr.heap.size)
    (h : ∀ A2 c2 w', Put B (acc ++ new) v0 w (.slice A2 (n + m) c2) w' → Put B (acc ++ new) v wr (.slice A2 (n + m) c2) w' → wpList Try.prog ops Q rest (a.put o.dst (.slice A2 (n + m) c2)) w') :
    wpList Try.prog ops Q (o :: rest) a wr := by
  obtain ⟨i0, hi, hz0, hz1, hz2⟩ := info_parts infoB
  have hown := hp.1
  rw [← hn] at hown
  obtain ⟨A', c', hA, _, hc⟩ := hb
  obtain ⟨b, off, rfl, _, hc⟩ := hc hpos
  injection hA with hA hm hcc
  subst hA
  subst hm
  refine wpList_append_mine hgd s x 27 ho B 5 i0 (.int .u8 0) 1 1 Try.underlying27 hi hz0 hz1 hz2 rfl (by decide) v n (byV acc) hs hown ⟨b, off, none⟩ new.length c (byV new) hx (by rw [byV_len]; omega) (fun j u hu => ?_) (byV_one new) (by unfold maxLen; omega) (by omega) hB ?_
  · obtain ⟨hj, rfl⟩ := byV_at new j u hu
    rw [cells_add]
    exact hc j hj
  · intro v' w' h1 h2 h3
    obtain ⟨A2, c2, rfl⟩ := own_form h1
    have hq : Put B (acc ++ new) v wr (.slice A2 (n + new.length) c2) w' := ⟨by rw [byV_append, List.length_append, ← hn]; exact h1, h2, h3⟩
    exact h A2 c2 w' (hp.trans hq) hq
def GrpRel (tot : List UInt8) (w : World) (a u : Value) (wr : World) : Prop := PutRel w.heap.size tot (.slice none 0 0) w a u wr
set_option maxRecDepth 100000 in
theorem groups_any (n : Int) (w : World) (hn : I64 n) :
    Calls Try.prog 19 #[.int .i64 n] w (BtsPost (grpN (zig n)) w) := by
  have hz := zig_lt hn
  obtain ⟨tot, htot⟩ : ∃ tot, tot = grpN (zig n) := ⟨_, rfl⟩
  have htl : tot.length ≤ 11 := by rw [htot]; exact grp_ten hz
  have HP : Hid (Put w.heap.size [] (.slice none 0 0) w (.slice none 0 0) w) := Lib.hid (Put.refl (World.ownsRow_nil _ _ _ _))
  have HT := Lib.hid htot
  rw [← htot]
  have HB : Hid (w.heap.size ≤ w.heap.size) := Lib.hid (Nat.le_refl _)
  obtain ⟨z, hzz⟩ : ∃ z, z = zig n := ⟨_, rfl⟩
  have HZ := Lib.hid hzz
  have hnn := hn
  unfold I64 at hn
  rw [← hzz] at HT hz
  by_cases h0 : 0 ≤ n
  · have HE : Hid (2 * n = (z : Int)) := Lib.hid (by rw [hzz]; unfold zig; rw [if_pos h0]; omega)
    clear htot hzz hnn
    go_enter Try.func19, Try.ntmps19
    go_wp2_with (fail)
    go_loopw [3, 4] (fun u a wr => GrpRel tot w a u wr) (fun u _ _ => (intOf u).toNat)
    case atStart => unfold GrpRel PutRel; exact ⟨[], z, congrArg (Value.int .u64) HE.out, hz, Lib.hid HT.out.symm, HP.out⟩
    case round =>
      unfold GrpRel at hrel
      obtain ⟨ac, x, rfl, hx, HE2, hp⟩ := hrel
      have hal : ac.length ≤ 11 := by have := congrArg List.length HE2.out; rw [List.length_append] at this; omega
      have HPP := Lib.hid hp
      have hBr : w.heap.size ≤ wr.heap.size := hp.2.1.size
      obtain ⟨A1, c1, rfl⟩ := own_form hp.1
      obtain ⟨M, hM⟩ : ∃ M, M = ac.length := ⟨_, rfl⟩
      have HM := Lib.hid hM
      rw [← hM] at HPP hal ⊢
      clear hp hM
      by_cases h128 : 128 ≤ x
      · have HS : Hid (ac ++ [UInt8.ofNat (x % 128 + 128)] ++ grpN (x / 128) = tot) := Lib.hid (by rw [← HE2.out, grpN_high (by omega : ¬ x ≤ 127), List.append_assoc]; rfl)
        have HC : Hid ((x : Int) % 128 + 128 = ((UInt8.ofNat (x % 128 + 128)).toNat : Int)) := Lib.hid (by rw [byte_nat (by omega)]; omega)
        go_wp2_with (at_builtin; refine wpList_put rfl (.tmp 17) (.tmp 22) rfl w.heap.size M ac (.slice none 0 0) (.slice A1 M c1) (UInt8.ofNat (x % 128 + 128)) ((x : Int) % 128 + 128) wr.heap.size rfl rfl rfl HPP.out HM.out HC.out (by omega) hBr ?_; intro A2 c2 w1 hq; have HQ := Lib.hid hq; clear hq)
        go_roundw
        case rel => unfold GrpRel PutRel; exact ⟨_, x / 128, by simp, by omega, HS, HQ.out⟩
        case measure => simp [intOf]; omega
      · have h127 : x < 128 := by omega
        have HS : Hid (ac ++ [UInt8.ofNat x] = tot) := Lib.hid (by rw [← HE2.out, grpN_low (by omega : x ≤ 127)])
        have HC : Hid ((x : Int) = ((UInt8.ofNat x).toNat : Int)) := Lib.hid (by rw [byte_nat (by omega)])
        go_wp2_with (at_builtin; refine wpList_put rfl (.tmp 26) (.tmp 29) rfl w.heap.size M ac (.slice none 0 0) (.slice A1 M c1) (UInt8.ofNat x) (x : Int) wr.heap.size rfl rfl rfl HPP.out HM.out HC.out (by omega) hBr ?_; intro A2 c2 w1 hq; rw [HS.out] at hq; have HQ := Lib.hid (put_bts hq); clear hq)
        go_ret
        exact HQ.out
  · have HE : Hid (IntKind.u64.wrap (IntKind.u64.wrap (2 * bits BinOp.xor IntKind.u64 IntKind.u64.max (IntKind.u64.wrap n)) + 1) = (z : Int)) := Lib.hid (by
      have e : IntKind.u64.wrap n = 18446744073709551616 + n := by
        show n % 18446744073709551616 = _
        omega
      rw [e, ones_u64 _ (by omega)]
      show ((2 * (18446744073709551615 - (18446744073709551616 + n))) % 18446744073709551616 + 1) % 18446744073709551616 = _
      rw [hzz]
      unfold zig
      rw [if_neg (by omega)]
      omega)
    have h0' : n < 0 := by omega
    clear htot hzz hnn
    go_enter Try.func19, Try.ntmps19
    go_wp2_with (fail)
    go_loopw [3, 4] (fun u a wr => GrpRel tot w a u wr) (fun u _ _ => (intOf u).toNat)
    case atStart => unfold GrpRel PutRel; exact ⟨[], z, congrArg (Value.int .u64) HE.out, hz, Lib.hid HT.out.symm, HP.out⟩
    case round =>
      unfold GrpRel at hrel
      obtain ⟨ac, x, rfl, hx, HE2, hp⟩ := hrel
      have hal : ac.length ≤ 11 := by have := congrArg List.length HE2.out; rw [List.length_append] at this; omega
      have HPP := Lib.hid hp
      have hBr : w.heap.size ≤ wr.heap.size := hp.2.1.size
      obtain ⟨A1, c1, rfl⟩ := own_form hp.1
      obtain ⟨M, hM⟩ : ∃ M, M = ac.length := ⟨_, rfl⟩
      have HM := Lib.hid hM
      rw [← hM] at HPP hal ⊢
      clear hp hM
      by_cases h128 : 128 ≤ x
      · have HS : Hid (ac ++ [UInt8.ofNat (x % 128 + 128)] ++ grpN (x / 128) = tot) := Lib.hid (by rw [← HE2.out, grpN_high (by omega : ¬ x ≤ 127), List.append_assoc]; rfl)
        have HC : Hid ((x : Int) % 128 + 128 = ((UInt8.ofNat (x % 128 + 128)).toNat : Int)) := Lib.hid (by rw [byte_nat (by omega)]; omega)
        go_wp2_with (at_builtin; refine wpList_put rfl (.tmp 17) (.tmp 22) rfl w.heap.size M ac (.slice none 0 0) (.slice A1 M c1) (UInt8.ofNat (x % 128 + 128)) ((x : Int) % 128 + 128) wr.heap.size rfl rfl rfl HPP.out HM.out HC.out (by omega) hBr ?_; intro A2 c2 w1 hq; have HQ := Lib.hid hq; clear hq)
        go_roundw
        case rel => unfold GrpRel PutRel; exact ⟨_, x / 128, by simp, by omega, HS, HQ.out⟩
        case measure => simp [intOf]; omega
      · have h127 : x < 128 := by omega
        have HS : Hid (ac ++ [UInt8.ofNat x] = tot) := Lib.hid (by rw [← HE2.out, grpN_low (by omega : x ≤ 127)])
        have HC : Hid ((x : Int) = ((UInt8.ofNat x).toNat : Int)) := Lib.hid (by rw [byte_nat (by omega)])
        go_wp2_with (at_builtin; refine wpList_put rfl (.tmp 26) (.tmp 29) rfl w.heap.size M ac (.slice none 0 0) (.slice A1 M c1) (UInt8.ofNat x) (x : Int) wr.heap.size rfl rfl rfl HPP.out HM.out HC.out (by omega) hBr ?_; intro A2 c2 w1 hq; rw [HS.out] at hq; have HQ := Lib.hid (put_bts hq); clear hq)
        go_ret
        exact HQ.out
theorem put_made {w w1 : World} {c : UInt8} {y : Int} (hb : Below w.heap.size w w1) (hy : y = (c.toNat : Int)) : Put w.heap.size [c] (.slice none 0 0) w (.slice (some ⟨w1.heap.size, 0, none⟩) 1 1) (w1.alloc (.cells #[.int .u8 y] 5)) := by
  refine ⟨⟨rfl, .inr ⟨w1.heap.size, 1, #[.int .u8 y], rfl, hb.size, heap_alloc_new w1 _, Nat.le_refl _, by decide, rfl, ?_⟩⟩, ?_, fun k hk => ?_⟩
  · rw [hy]; rfl
  · exact grown_below (hb.alloc hb.size _) (Nat.le_refl _)
  · injection hk with hk; subst hk; exact Or.inr hb.size
theorem At.on {B : Nat} {acc : List UInt8} {v a : Value} {w wr w2 : World} {H : Nat} {kd nm : Int} {s : Value} (h : At B acc v w H kd nm s a wr) (hb : Below wr.heap.size wr w2) : At B acc v w H kd nm s a w2 :=
  ⟨h.put.on hb, h.own, Nat.lt_of_lt_of_le h.lt hb.size, (hb.cell (p := ⟨H, 0, none⟩) h.lt).trans h.c0, (hb.cell (p := ⟨H, 1, none⟩) h.lt).trans h.c1, (hb.cell (p := ⟨H, 2, none⟩) h.lt).trans h.c2, h.low.trans (hb.mono h.big), Nat.le_trans h.big hb.size⟩
theorem at_made {w w1 : World} {kd nm : Int} {s : Value} {c : UInt8} {y : Int} (hb : Below (w.alloc (.cells #[.int .i64 kd, .int .i64 nm, s] 24)).heap.size (w.alloc (.cells #[.int .i64 kd, .int .i64 nm, s] 24)) w1) (hy : y = (c.toNat : Int)) :
    At w.heap.size [c] (.slice none 0 0) w w.heap.size kd nm s (.slice (some ⟨w1.heap.size, 0, none⟩) 1 1) (w1.alloc (.cells #[.int .u8 y] 5)) := by
  have hz := hb.size
  rw [World.size_alloc] at hz hb
  have hbw : Below w.heap.size w w1 := ((Below.refl w.heap.size w).alloc (Nat.le_refl _) _).trans (hb.mono (by omega))
  have hn : Below w1.heap.size w1 (w1.alloc (.cells #[.int .u8 y] 5)) := (Below.refl _ _).alloc (Nat.le_refl _) _
  have e := fun i => (hn.cell (p := ⟨w.heap.size, i, none⟩) (show w.heap.size < w1.heap.size by omega)).trans (cell_since (N := w.heap.size) rfl hb i).1
  exact ⟨put_made hbw hy, fun h => by injection h with h; dsimp only at h; omega, by rw [World.size_alloc]; omega, e 0, e 1, e 2, hbw.alloc hbw.size _, by rw [World.size_alloc]; omega⟩
def RefRel (N : Nat) (acc : List UInt8) (l : List VT) (w : World) (kd nm : Int) (s a i : Value) (wr : World) : Prop :=
  ∃ k : Nat, k ≤ N ∧ i = .int .i64 k ∧ At w.heap.size (acc ++ bytesL (l.take k)) (.slice none 0 0) w w.heap.size kd nm s a wr
def RBytes (G : Nat → Prop) (t : VT) : Prop := ∀ (s : Value) (w : World), Kids G w t.kids s → t.fits → (bytesT t).length ≤ 1099511627776 →
    Calls Try.prog 9 #[.agg #[.int .i64 t.kind, .int .i64 t.num, s]] w (BtsPost (bytesT t) w)
theorem bts_nil {w w' : World} (hb : Below w.heap.size w w') : BtsPost [] w (.returned (.slice none 0 0)) w' := ⟨_, rfl, Bts.nil_ _ _, hb⟩
set_option maxHeartbeats 2000000 in
set_option maxRecDepth 100000 in
theorem rbytes_any {G : Nat → Prop} (t : VT) : RBytes G t := by
  induction t using VT.ind with
  | h kd nm l ih =>
    intro s w hk hf hlen
    change Kids G w l s at hk
    have hb0 : Below w.heap.size w (w.alloc (.cells #[.int .i64 kd, .int .i64 nm, s] 24)) := (Below.refl _ _).alloc (Nat.le_refl _) _
    have HR := Lib.hid (rright_any (VT.mk kd nm l) s (w.alloc (.cells #[.int .i64 kd, .int .i64 nm, s] 24)) (hk.below hb0))
    have HMADE : Hid (∀ w1, Below (w.alloc (.cells #[.int .i64 kd, .int .i64 nm, s] 24)).heap.size (w.alloc (.cells #[.int .i64 kd, .int .i64 nm, s] 24)) w1 → ∀ (c : UInt8) (y : Int), y = (c.toNat : Int) → At w.heap.size [c] (.slice none 0 0) w w.heap.size kd nm s (.slice (some ⟨w1.heap.size, 0, none⟩) 1 1) (w1.alloc (.cells #[.int .u8 y] 5))) := Lib.hid fun w1 hb c y hy => at_made hb hy
    have HCS : Hid (∀ w1, Below (w.alloc (.cells #[.int .i64 kd, .int .i64 nm, s] 24)).heap.size (w.alloc (.cells #[.int .i64 kd, .int .i64 nm, s] 24)) w1 → w1.cell? ⟨w.heap.size, 0, none⟩ = some (.int .i64 kd) ∧ Below w.heap.size w w1) := Lib.hid fun w1 hb => ⟨by
      rw [World.size_alloc] at hb; exact (cell_since (N := w.heap.size) rfl hb 0).1, hb0.trans (hb.mono hb0.size)⟩
    obtain ⟨A, cap, rfl, hll⟩ := hk.form
    show Calls Try.prog 9 #[.agg #[.int .i64 kd, .int .i64 nm, .slice A l.length cap]] w _
    change Hid (Calls Try.prog 12 #[.agg #[.int .i64 kd, .int .i64 nm, .slice A l.length cap]] _ _) at HR
    obtain ⟨N, hN⟩ : ∃ N, N = l.length := ⟨_, rfl⟩
    rw [← hN] at HR HMADE HCS ⊢
    have HN := Lib.hid hN
    cases hr : (VT.mk kd nm l).right
    · rw [bytesT_no hr]
      rw [hr] at HR
      clear ih hk hf hlen hb0 HMADE hll hN hr
      go_enter Try.func9, Try.ntmps9
      go_wp2_with (go_at_call 12; refine HR.out.mono ?_; rintro e w1 ⟨rfl, hb1⟩; have HB1 := Lib.hid (HCS.out w1 hb1).2; clear hb1)
      go_ret
      exact bts_nil HB1.out
    · rw [bytesT_yes hr] at hlen ⊢
      rw [hr] at HR
      obtain ⟨tot, htot⟩ : ∃ tot, tot = (VT.mk kd nm l).bytes := ⟨_, rfl⟩
      rw [← htot] at hlen ⊢
      rw [bytes_mk] at htot
      rw [right_mk] at hr
      rw [fits_mk] at hf
      have hi64 : I64 nm := hf.1.2
      by_cases h0 : kd = 0
      · subst h0
        rw [if_pos rfl] at hr htot
        obtain rfl : l = [] := by simpa using hr
        have HC : Hid ((0 : Int) = ((kindB 0).toNat : Int)) := Lib.hid (kindB_nat 0 (by omega)).symm
        have HT : Hid ([kindB 0] ++ grpN (zig nm) = tot) := Lib.hid (by rw [htot]; rfl)
        have HGP := Lib.hid (grpN_pos (zig nm))
        have HGL := Lib.hid (grp_ten (zig_lt hi64))
        clear ih hr hf hk hlen hll htot hN hb0
        go_enter Try.func9, Try.ntmps9
        go_wp2_with (fail)
        refine HR.out.mono ?_
        rintro e w1 ⟨rfl, hb1⟩
        have HA1 := Lib.hid (HMADE.out w1 hb1 (kindB 0) 0 HC.out)
        obtain ⟨a0, hbw⟩ := HCS.out w1 hb1
        clear hb1 hbw
        have hA := HA1.out
        have b0 := hA.c0
        have b1 := hA.c1
        have HGR := Lib.hid (groups_any nm (w1.alloc (.cells #[.int .u8 0] 5)) hi64)
        clear hA
        go_wp2_with (first | (go_at_call 19; refine HGR.out.mono ?_; rintro e w2 ⟨s2, rfl, hs2, hb2⟩; obtain ⟨A2, c2, rfl⟩ := hs2.form; have hA2 := HA1.out.on hb2; have HA2 := Lib.hid hA2; have HS2 := Lib.hid hs2; clear hA2 hs2 hb2) | (at_builtin; refine wpList_puts rfl (.tmp 15) (.tmp 18) rfl w.heap.size 1 _ c2 [kindB 0] (grpN (zig nm)) (.slice none 0 0) (.slice (some ⟨w1.heap.size, 0, none⟩) 1 1) A2 rfl rfl HS2.out HGP.out HA2.out.put rfl (by have := HGL.out; omega) HA2.out.big ?_; intro A3 c3 w3 hq _; rw [HT.out] at hq; have HE := Lib.hid (put_bts hq); clear hq))
        go_ret
        exact HE.out
      · by_cases h1 : kd = 1
        · subst h1
          rw [if_neg (by omega), if_pos rfl] at hr htot
          simp only [Bool.and_eq_true, decide_eq_true_eq, List.isEmpty_iff] at hr
          obtain ⟨hnm, rfl⟩ := hr
          have HC : Hid ((1 : Int) = ((kindB 1).toNat : Int)) := Lib.hid (kindB_nat 1 (by omega)).symm
          have HT : Hid ([kindB 1] ++ [kindB nm] = tot) := Lib.hid (by rw [htot]; rfl)
          clear ih hf hk hlen hll htot hN hb0
          rcases hnm with rfl | rfl
          all_goals
            first | have HD : Hid ((0 : Int) = ((kindB 0).toNat : Int)) := Lib.hid (kindB_nat 0 (by omega)).symm | skip
            go_enter Try.func9, Try.ntmps9
            go_wp2_with (fail)
            refine HR.out.mono ?_
            rintro e w1 ⟨rfl, hb1⟩
            have HA1 := Lib.hid (HMADE.out w1 hb1 (kindB 1) 1 HC.out)
            obtain ⟨a0, hbw⟩ := HCS.out w1 hb1
            clear hb1 hbw
            have hA := HA1.out
            have b0 := hA.c0
            have b1 := hA.c1
            have hBB : Hid (w.heap.size ≤ (w1.alloc (.cells #[.int .u8 1] 5)).heap.size) := Lib.hid hA.big
            clear hA
            go_wp2_with (first | (at_builtin; refine wpList_put rfl (.tmp 23) (.tmp 27) rfl w.heap.size 1 [kindB 1] (.slice none 0 0) (.slice (some ⟨w1.heap.size, 0, none⟩) 1 1) (kindB 0) 0 (w1.heap.size + 1) (by simp) rfl rfl HA1.out.put rfl HD.out (by omega) hBB.out ?_; intro A3 c3 w3 hq; rw [HT.out] at hq; have HE := Lib.hid (put_bts hq); clear hq) | (at_builtin; refine wpList_put rfl (.tmp 23) (.tmp 27) rfl w.heap.size 1 [kindB 1] (.slice none 0 0) (.slice (some ⟨w1.heap.size, 0, none⟩) 1 1) (kindB 1) 1 (w1.heap.size + 1) (by simp) rfl rfl HA1.out.put rfl HC.out (by omega) hBB.out ?_; intro A3 c3 w3 hq; rw [HT.out] at hq; have HE := Lib.hid (put_bts hq); clear hq))
            go_ret
            exact HE.out
        · rw [if_neg h0, if_neg h1] at hr htot
          by_cases h2 : kd = 2 ∨ kd = 3
          · rw [if_pos h2] at hr
            simp only [Bool.and_eq_true, decide_eq_true_eq] at hr
            obtain ⟨rfl, hrl⟩ := hr
            have hN64 : N ≤ 9223372036854775807 := by omega
            have HT : Hid ([kindB kd] ++ grpN (2 * N) ++ bytesL l = tot) := Lib.hid (by rw [htot, hN]; rfl)
            have HGP := Lib.hid (grpN_pos (2 * N))
            have HGL : Hid ((grpN (2 * N)).length ≤ 11) := Lib.hid (grp_ten (by omega))
            have HPS : Hid (∀ k (hkl : k < l.length) (a : Value) (wr : World), At w.heap.size ([kindB kd] ++ grpN (2 * N) ++ bytesL (l.take k)) (.slice none 0 0) w w.heap.size kd 0 (.slice A N cap) a wr → ∃ b off cap' s', (Value.slice A N cap) = .slice (some ⟨b, off, none⟩) N cap' ∧ (wr.cell? ⟨b, off + k * 3, none⟩ = some (.int .i64 l[k].kind) ∧ wr.cell? ⟨b, off + k * 3 + 1, none⟩ = some (.int .i64 l[k].num) ∧ wr.cell? ⟨b, off + k * 3 + 2, none⟩ = some s') ∧ (∃ A' c', s' = .slice A' l[k].kids.length c') ∧ 0 < l[k].bytes.length ∧ ([kindB kd] ++ grpN (2 * N) ++ bytesL (l.take k)).length + l[k].bytes.length ≤ 1099511627776 ∧
                ([kindB kd] ++ grpN (2 * N) ++ bytesL (l.take k)) ++ l[k].bytes = [kindB kd] ++ grpN (2 * N) ++ bytesL (l.take (k + 1)) ∧ Calls Try.prog 9 #[.agg #[.int .i64 l[k].kind, .int .i64 l[k].num, s']] wr (BtsPost l[k].bytes wr)) := Lib.hid fun k hkl a wr hA => by
              obtain ⟨b, off, cap', s', hs, _, _, _, c0, c1, c2, h3⟩ := hk.kid hA.low k hkl
              have hrk := rightL_mem hrl (List.getElem_mem hkl)
              have hbl := bytesL_take l k hkl
              have hbt := bytesL_take_le l (k + 1)
              have htt := congrArg List.length HT.out
              simp only [List.length_append] at htt
              rw [hbl, List.length_append] at hbt
              refine ⟨b, off, cap', s', by rw [hN]; exact hs, ⟨c0, c1, c2⟩, ?_, bytes_pos _, by simp only [List.length_append]; omega, by rw [hbl]; simp [List.append_assoc], ?_⟩
              · obtain ⟨A', c', e, _⟩ := h3.form; exact ⟨A', c', e⟩
              · have h := ih _ (List.getElem_mem hkl) s' wr h3 (fitsL_mem hf.2 _ (List.getElem_mem hkl)) (by rw [bytesT_yes hrk]; omega)
                rw [bytesT_yes hrk] at h
                exact h
            clear ih hrl hf hk hlen hll htot hN hb0
            rcases h2 with rfl | rfl
            · have HC : Hid ((2 : Int) = ((kindB 2).toNat : Int)) := Lib.hid (kindB_nat 2 (by omega)).symm
              go_enter Try.func9, Try.ntmps9
              go_wp2_with (fail)
              refine HR.out.mono ?_
              rintro e w1 ⟨rfl, hb1⟩
              have HA1 := Lib.hid (HMADE.out w1 hb1 (kindB 2) 2 HC.out)
              obtain ⟨a0, hbw⟩ := HCS.out w1 hb1
              clear hb1 hbw
              have hA := HA1.out
              have b0 := hA.c0
              have b2 := hA.c2
              have HGR := Lib.hid (groups_any (N : Int) (w1.alloc (.cells #[.int .u8 2] 5)) (by unfold I64; omega))
              rw [zig_nat] at HGR
              clear hA
              go_wp2_with (first | (go_at_call 19; refine HGR.out.mono ?_; rintro e w2 ⟨s2, rfl, hs2, hb2⟩; obtain ⟨A2, c2, rfl⟩ := hs2.form; have hA2 := HA1.out.on hb2; have HA2 := Lib.hid hA2; have HS2 := Lib.hid hs2; clear hA2 hs2 hb2) | (at_builtin; refine wpList_puts rfl (.tmp 29) (.tmp 33) rfl w.heap.size 1 _ c2 [kindB 2] (grpN (2 * N)) (.slice none 0 0) (.slice (some ⟨w1.heap.size, 0, none⟩) 1 1) A2 rfl rfl HS2.out HGP.out HA2.out.put rfl (by have := HGL.out; omega) HA2.out.big ?_; intro A3 c3 w3 _ hq; have HA3 := Lib.hid (HA2.out.next hq); clear hq))
              go_loopw [3, 4] (fun a i wr => RefRel N ([kindB 2] ++ grpN (2 * N)) l w 2 0 (.slice A N cap) a i wr) (fun _ i _ => N - (intOf i).toNat)
              case atStart => unfold RefRel; exact ⟨0, Nat.zero_le _, rfl, by rw [List.take_zero, bytesL, List.append_nil]; exact HA3.out⟩
              case round =>
                obtain ⟨k, hk, rfl, hA⟩ := hrel
                have d2 := hA.c2
                by_cases hlt : k < N
                · have hkl : k < l.length := by have := HN.out; omega
                  obtain ⟨b, off, cap', s', hs, ⟨c0, c1, c2⟩, ⟨A', c', rfl⟩, hup, hul, hue, HI⟩ := HPS.out k hkl _ wr hA
                  injection hs with hA' hL hC
                  subst hA'
                  subst hC
                  clear hL
                  obtain ⟨Ar, cr, rfl⟩ := own_form hA.put.1
                  have HA := Lib.hid hA
                  have HUE := Lib.hid hue
                  clear hA hue
                  obtain ⟨u, hu⟩ : ∃ u, u = l[k] := ⟨_, rfl⟩
                  rw [← hu] at c0 c1 c2 HI hup hul HUE
                  obtain ⟨M, hM⟩ : ∃ M, M = u.kids.length := ⟨_, rfl⟩
                  rw [← hM] at c2 HI
                  obtain ⟨m4, hm4⟩ : ∃ m4, m4 = ([kindB 2] ++ grpN (2 * N) ++ bytesL (l.take k)).length := ⟨_, rfl⟩
                  have HM4 := Lib.hid hm4
                  rw [← hm4] at hul HA ⊢
                  have HI := Lib.hid HI
                  have HUP := Lib.hid hup
                  clear hM hu hm4 hup
                  go_wp2_with (first | (go_at_call 9; refine HI.out.mono ?_; rintro e w4 ⟨s4, rfl, hs4, hb4⟩; obtain ⟨A4, c4, rfl⟩ := hs4.form; have hA4 := HA.out.on hb4; have HA4 := Lib.hid hA4; have HS4 := Lib.hid hs4; clear hA4 hs4 hb4) | (at_builtin; refine wpList_puts rfl (.tmp 42) (.tmp 48) rfl w.heap.size m4 _ c4 _ u.bytes (.slice none 0 0) (.slice Ar m4 cr) A4 rfl rfl HS4.out HUP.out HA4.out.put HM4.out (by omega) HA4.out.big ?_; intro A5 c5 w5 _ hq; have hA5 := HA4.out.next hq; rw [HUE.out] at hA5; have HA5 := Lib.hid hA5; clear hq hA5))
                  go_roundw
                  case rel => unfold RefRel; exact ⟨k + 1, by omega, by go_num, HA5.out⟩
                  case measure => simp [intOf]; omega
                · have HE := Lib.hid (put_bts (show Put w.heap.size tot (.slice none 0 0) w _ wr by
                    have h := hA.put
                    rw [List.take_of_length_le (by have := HN.out; omega), HT.out] at h
                    exact h))
                  clear hA
                  go_wp2
                  go_ret
                  exact HE.out
            · have HC : Hid ((3 : Int) = ((kindB 3).toNat : Int)) := Lib.hid (kindB_nat 3 (by omega)).symm
              go_enter Try.func9, Try.ntmps9
              go_wp2_with (fail)
              refine HR.out.mono ?_
              rintro e w1 ⟨rfl, hb1⟩
              have HA1 := Lib.hid (HMADE.out w1 hb1 (kindB 3) 3 HC.out)
              obtain ⟨a0, hbw⟩ := HCS.out w1 hb1
              clear hb1 hbw
              have hA := HA1.out
              have b0 := hA.c0
              have b2 := hA.c2
              have HGR := Lib.hid (groups_any (N : Int) (w1.alloc (.cells #[.int .u8 3] 5)) (by unfold I64; omega))
              rw [zig_nat] at HGR
              clear hA
              go_wp2_with (first | (go_at_call 19; refine HGR.out.mono ?_; rintro e w2 ⟨s2, rfl, hs2, hb2⟩; obtain ⟨A2, c2, rfl⟩ := hs2.form; have hA2 := HA1.out.on hb2; have HA2 := Lib.hid hA2; have HS2 := Lib.hid hs2; clear hA2 hs2 hb2) | (at_builtin; refine wpList_puts rfl (.tmp 29) (.tmp 33) rfl w.heap.size 1 _ c2 [kindB 3] (grpN (2 * N)) (.slice none 0 0) (.slice (some ⟨w1.heap.size, 0, none⟩) 1 1) A2 rfl rfl HS2.out HGP.out HA2.out.put rfl (by have := HGL.out; omega) HA2.out.big ?_; intro A3 c3 w3 _ hq; have HA3 := Lib.hid (HA2.out.next hq); clear hq))
              go_loopw [3, 4] (fun a i wr => RefRel N ([kindB 3] ++ grpN (2 * N)) l w 3 0 (.slice A N cap) a i wr) (fun _ i _ => N - (intOf i).toNat)
              case atStart => unfold RefRel; exact ⟨0, Nat.zero_le _, rfl, by rw [List.take_zero, bytesL, List.append_nil]; exact HA3.out⟩
              case round =>
                obtain ⟨k, hk, rfl, hA⟩ := hrel
                have d2 := hA.c2
                by_cases hlt : k < N
                · have hkl : k < l.length := by have := HN.out; omega
                  obtain ⟨b, off, cap', s', hs, ⟨c0, c1, c2⟩, ⟨A', c', rfl⟩, hup, hul, hue, HI⟩ := HPS.out k hkl _ wr hA
                  injection hs with hA' hL hC
                  subst hA'
                  subst hC
                  clear hL
                  obtain ⟨Ar, cr, rfl⟩ := own_form hA.put.1
                  have HA := Lib.hid hA
                  have HUE := Lib.hid hue
                  clear hA hue
                  obtain ⟨u, hu⟩ : ∃ u, u = l[k] := ⟨_, rfl⟩
                  rw [← hu] at c0 c1 c2 HI hup hul HUE
                  obtain ⟨M, hM⟩ : ∃ M, M = u.kids.length := ⟨_, rfl⟩
                  rw [← hM] at c2 HI
                  obtain ⟨m4, hm4⟩ : ∃ m4, m4 = ([kindB 3] ++ grpN (2 * N) ++ bytesL (l.take k)).length := ⟨_, rfl⟩
                  have HM4 := Lib.hid hm4
                  rw [← hm4] at hul HA ⊢
                  have HI := Lib.hid HI
                  have HUP := Lib.hid hup
                  clear hM hu hm4 hup
                  go_wp2_with (first | (go_at_call 9; refine HI.out.mono ?_; rintro e w4 ⟨s4, rfl, hs4, hb4⟩; obtain ⟨A4, c4, rfl⟩ := hs4.form; have hA4 := HA.out.on hb4; have HA4 := Lib.hid hA4; have HS4 := Lib.hid hs4; clear hA4 hs4 hb4) | (at_builtin; refine wpList_puts rfl (.tmp 42) (.tmp 48) rfl w.heap.size m4 _ c4 _ u.bytes (.slice none 0 0) (.slice Ar m4 cr) A4 rfl rfl HS4.out HUP.out HA4.out.put HM4.out (by omega) HA4.out.big ?_; intro A5 c5 w5 _ hq; have hA5 := HA4.out.next hq; rw [HUE.out] at hA5; have HA5 := Lib.hid hA5; clear hq hA5))
                  go_roundw
                  case rel => unfold RefRel; exact ⟨k + 1, by omega, by go_num, HA5.out⟩
                  case measure => simp [intOf]; omega
                · have HE := Lib.hid (put_bts (show Put w.heap.size tot (.slice none 0 0) w _ wr by
                    have h := hA.put
                    rw [List.take_of_length_le (by have := HN.out; omega), HT.out] at h
                    exact h))
                  clear hA
                  go_wp2
                  go_ret
                  exact HE.out
          · rw [if_neg h2] at hr; cases hr
end Go.Proofs.Ytnjcapenkoemlaa.vt.ce

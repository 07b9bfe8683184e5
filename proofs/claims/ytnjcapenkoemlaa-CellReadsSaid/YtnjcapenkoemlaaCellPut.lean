/- The bytes of a right value, put behind others. -/
import Derived.Test.YtnjcapenkoemlaaCellMem
namespace Go.Proofs.Ytnjcapenkoemlaa.vt.ce
open Go.RowKit mem vt

theorem Put.cell {B : Nat} {a : List UInt8} {v v1 : Value} {w w1 : World} (h : Put B a v w v1 w1) {b o : Nat} {u : Value} (hc : w.cell? ⟨b, o, none⟩ = some u) (hb : v.ownBlock ≠ some b) : w1.cell? ⟨b, o, none⟩ = some u :=
  h.2.1.cell (a := ⟨b, o, none⟩) hc (fun e => hb e.symm)
theorem kids_low {B : Nat} {w w' : World} {l : List VT} {s : Value} (h : Kids (· < B) w l s) (hb : Below B w w') : Kids (· < B) w' l s :=
  h.keep fun b o hlt _ => hb.cell (p := ⟨b, o, none⟩) hlt
def kindB (k : Int) : UInt8 := UInt8.ofNat k.toNat
theorem kindB_nat (k : Int) (h : 0 ≤ k ∧ k ≤ 3) : ((kindB k).toNat : Int) = k := by unfold kindB; rw [byte_nat (by omega)]; omega
/-- a variable's block, and a row of bytes that is being made beside it -/
structure At (B : Nat) (acc : List UInt8) (v : Value) (w : World) (H : Nat) (kd nm : Int) (s : Value) (a : Value) (wr : World) : Prop where
  put : Put B acc v w a wr
  own : a.ownBlock ≠ some H
  lt : H < wr.heap.size
  c0 : wr.cell? ⟨H, 0, none⟩ = some (.int .i64 kd)
  c1 : wr.cell? ⟨H, 1, none⟩ = some (.int .i64 nm)
  c2 : wr.cell? ⟨H, 2, none⟩ = some s
  low : Below B w wr
  big : B ≤ wr.heap.size
theorem At.next {B : Nat} {acc acc' : List UInt8} {v a a' : Value} {w wr w1 : World} {H : Nat} {kd nm : Int} {s : Value} (h : At B acc v w H kd nm s a wr) (hw : Put B acc' a wr a' w1) : At B acc' v w H kd nm s a' w1 :=
  ⟨h.put.trans hw, fun e => by
    rcases hw.2.2 H e with e' | e'
    · exact h.own e'
    · have := h.lt; omega, Nat.lt_of_lt_of_le h.lt hw.2.1.size, hw.cell h.c0 h.own, hw.cell h.c1 h.own, hw.cell h.c2 h.own, h.low.trans (hw.below (fun k hk => (h.put.1.lt k hk).1) h.big), Nat.le_trans h.big hw.2.1.size⟩
theorem At.new {B : Nat} {acc acc' : List UInt8} {v a : Value} {w w1 : World} {kd nm : Int} {s : Value} (ho : w.ownsRow B 5 1 v acc'.length (byV acc')) (hB : B ≤ w.heap.size) (h : Put B acc v (w.alloc (.cells #[.int .i64 kd, .int .i64 nm, s] 24)) a w1) : At B acc v w w.heap.size kd nm s a w1 := by
  have hv : v.ownBlock ≠ some w.heap.size := fun e => by have := (ho.lt _ e).2; omega
  have e := cell_new w _ rfl #[.int .i64 kd, .int .i64 nm, s] 24
  have hz := h.2.1.size
  rw [World.size_alloc] at hz
  refine ⟨h.from_alloc, fun e => ?_, by omega, h.cell (e 0) hv, h.cell (e 1) hv, h.cell (e 2) hv, ?_, by omega⟩
  · rcases h.2.2 _ e with e' | e'
    · exact hv e'
    · rw [World.size_alloc] at e'; omega
  · exact ((Below.refl B w).alloc hB _).trans (h.below (fun k hk => (ho.lt k hk).1) (by rw [World.size_alloc]; omega))
/-- .. and one byte more -/
def PutsRel (B N : Nat) (acc : List UInt8) (l : List VT) (v : Value) (w : World) (kd nm : Int) (s a i : Value) (wr : World) : Prop :=
  ∃ k : Nat, k ≤ N ∧ i = .int .i64 k ∧ At B (acc ++ bytesL (l.take k)) v w w.heap.size kd nm s a wr
theorem bytesL_take (l : List VT) (k : Nat) (h : k < l.length) : bytesL (l.take (k + 1)) = bytesL (l.take k) ++ l[k].bytes := by
  rw [List.take_succ_eq_append_getElem h, bytesL_append]; simp [bytesL]
theorem bytesL_take_le (l : List VT) (k : Nat) : (bytesL (l.take k)).length ≤ (bytesL l).length := by
  conv => rhs; rw [← List.take_append_drop k l, bytesL_append, List.length_append]
  omega
def PutsAll (t : VT) : Prop := ∀ (B : Nat) (acc : List UInt8) (v s : Value) (w : World), t.right = true → t.fits → Kids (· < B) w t.kids s → w.ownsRow B 5 1 v acc.length (byV acc) → B ≤ w.heap.size → acc.length + t.bytes.length ≤ 1099511627776 →
    Calls Try.prog 23 #[v, .agg #[.int .i64 t.kind, .int .i64 t.num, s]] w (PutPost B (acc ++ t.bytes) v w)
theorem put_end {B : Nat} {tot : List UInt8} {v a : Value} {w wr : World} (h : Put B tot v w a wr) : PutPost B tot v w (.returned a) wr := ⟨a, rfl, h⟩
set_option maxHeartbeats 2000000 in
set_option maxRecDepth 100000 in
theorem put_any (t : VT) : PutsAll t := by
  induction t using VT.ind with
  | h kd nm l ih =>
    intro B acc v s w hr hf hk ho hB hlen
    change Kids (· < B) w l s at hk
    rw [right_mk] at hr
    rw [fits_mk] at hf
    have hi64 : I64 nm := hf.1.2
    obtain ⟨Av, cv, rfl⟩ := own_form ho
    obtain ⟨A, cap, rfl, hll⟩ := hk.form
    show Calls Try.prog 23 #[.slice Av acc.length cv, .agg #[.int .i64 kd, .int .i64 nm, .slice A l.length cap]] w _
    obtain ⟨N, hNN⟩ : ∃ N, N = l.length := ⟨_, rfl⟩
    rw [← hNN]
    obtain ⟨tot, htot⟩ : ∃ tot, tot = acc ++ (VT.mk kd nm l).bytes := ⟨_, rfl⟩
    obtain ⟨n, hn⟩ : ∃ n, n = acc.length := ⟨_, rfl⟩
    have htl : tot.length ≤ 1099511627776 := by rw [htot, List.length_append]; exact hlen
    rw [bytes_mk] at htot
    rw [show acc ++ (VT.mk kd nm l).bytes = tot by rw [htot, bytes_mk]]
    have HNEW : Hid (∀ ac a w1, Put B ac (.slice Av n cv) (w.alloc (.cells #[.int .i64 kd, .int .i64 nm, .slice A N cap] 24)) a w1 → At B ac (.slice Av n cv) w w.heap.size kd nm (.slice A N cap) a w1) := Lib.hid fun ac a w1 h => At.new (by rw [hn]; exact ho) hB h
    have HP0 : Hid (Put B acc (.slice Av n cv) (w.alloc (.cells #[.int .i64 kd, .int .i64 nm, .slice A N cap] 24)) (.slice Av n cv) (w.alloc (.cells #[.int .i64 kd, .int .i64 nm, .slice A N cap] 24))) := Lib.hid (Put.refl (by rw [hn]; exact ho.alloc _))
    have hBW : ∀ o, Hid (B ≤ (w.alloc o).heap.size) := fun o => Lib.hid (by rw [World.size_alloc]; omega)
    have HN := Lib.hid hn
    have hnl : n ≤ 1099511627776 := by omega
    have HNN := Lib.hid hNN
    have hn0 := hNN
    clear hNN
    by_cases h0 : kd = 0
    · subst h0
      rw [if_pos rfl] at hr htot
      obtain rfl : l = [] := by simpa using hr
      have HT : Hid (acc ++ [kindB 0] ++ grpN (zig nm) = tot) := Lib.hid (by rw [htot, List.append_assoc]; rfl)
      have HC : Hid ((0 : Int) = ((kindB 0).toNat : Int)) := Lib.hid (kindB_nat 0 (by omega)).symm
      have hl3 : (acc ++ [kindB 0]).length ≤ 1099511627776 := by have := congrArg List.length HT.out; rw [List.length_append] at this; omega
      rw [← hn]
      clear ih hr hf hk ho hlen hll htot hn hn0
      go_enter Try.func23, Try.ntmps23
      go_wp2_with (at_builtin; refine wpList_put rfl (.tmp 7) (.tmp 11) rfl B n acc (.slice Av n cv) (.slice Av n cv) (kindB 0) 0 (w.heap.size + 1) (by simp) rfl rfl HP0.out HN.out HC.out (by omega) (hBW _).out ?_; intro A2 c2 w1 hq; have hA := HNEW.out _ _ _ hq; have a0 := hA.c0; have a1 := hA.c1; have HA1 := Lib.hid hA; clear hq hA)
      have HPN := Lib.hid (putNumber_any B (acc ++ [kindB 0]) nm (.slice A2 (n + 1) c2) w1 hi64 HA1.out.put.1 HA1.out.big hl3)
      go_wp2_with (fail)
      refine HPN.out.mono ?_
      rintro e w2 ⟨v3, rfl, h3⟩
      rw [HT.out] at h3
      have HE := Lib.hid (put_end (HA1.out.put.trans h3))
      clear h3
      go_wp2_with (fail)
      go_ret
      exact HE.out
    · by_cases h1 : kd = 1
      · subst h1
        rw [if_neg (by omega), if_pos rfl] at hr htot
        simp only [Bool.and_eq_true, decide_eq_true_eq, List.isEmpty_iff] at hr
        obtain ⟨hnm, rfl⟩ := hr
        have HC : Hid ((1 : Int) = ((kindB 1).toNat : Int)) := Lib.hid (kindB_nat 1 (by omega)).symm
        have HT : Hid (acc ++ [kindB 1] ++ [kindB nm] = tot) := Lib.hid (by rw [htot, List.append_assoc]; rfl)
        have HL : Hid (n + 1 = (acc ++ [kindB 1]).length) := Lib.hid (by rw [hn]; simp)
        rw [← hn]
        clear ih hf hk ho hlen hll htot hn hn0
        rcases hnm with rfl | rfl
        all_goals
          first | have HD : Hid ((0 : Int) = ((kindB 0).toNat : Int)) := Lib.hid (kindB_nat 0 (by omega)).symm | skip
          go_enter Try.func23, Try.ntmps23
          go_wp2_with (first | (at_builtin; refine wpList_put rfl (.tmp 7) (.tmp 11) rfl B n acc (.slice Av n cv) (.slice Av n cv) (kindB 1) 1 (w.heap.size + 1) (by simp) rfl rfl HP0.out HN.out HC.out (by omega) (hBW _).out ?_; intro A2 c2 w1 hq; have hA := HNEW.out _ _ _ hq; have a0 := hA.c0; have a1 := hA.c1; have a2 := hA.c2; have HA1 := Lib.hid hA; clear hq hA) | (at_builtin; refine wpList_put rfl (.tmp 23) (.tmp 27) rfl B (n + 1) (acc ++ [kindB 1]) (.slice Av n cv) (.slice A2 (n + 1) c2) (kindB 0) 0 w1.heap.size rfl rfl rfl HA1.out.put HL.out HD.out (by omega) HA1.out.big ?_; intro A3 c3 w2 hq; rw [HT.out] at hq; have HE := Lib.hid (put_end hq); clear hq) | (at_builtin; refine wpList_put rfl (.tmp 23) (.tmp 27) rfl B (n + 1) (acc ++ [kindB 1]) (.slice Av n cv) (.slice A2 (n + 1) c2) (kindB 1) 1 w1.heap.size rfl rfl rfl HA1.out.put HL.out HC.out (by omega) HA1.out.big ?_; intro A3 c3 w2 hq; rw [HT.out] at hq; have HE := Lib.hid (put_end hq); clear hq))
          go_ret
          exact HE.out
      · rw [if_neg h0, if_neg h1] at hr htot
        by_cases h2 : kd = 2 ∨ kd = 3
        · rw [if_pos h2] at hr
          simp only [Bool.and_eq_true, decide_eq_true_eq] at hr
          obtain ⟨rfl, hrl⟩ := hr
          have HT : Hid (acc ++ [kindB kd] ++ grpN (2 * N) ++ bytesL l = tot) := Lib.hid (by rw [htot, hn0, List.append_assoc, List.append_assoc]; rfl)
          have hN64 : N ≤ 9223372036854775807 := by omega
          have hNl : I64 (N : Int) := by unfold I64; omega
          have HPS : Hid (∀ k (hk : k < l.length) (a : Value) (wr : World), At B (acc ++ [kindB kd] ++ grpN (2 * N) ++ bytesL (l.take k)) (.slice Av n cv) w w.heap.size kd 0 (.slice A N cap) a wr → ∃ b off cap' s', (Value.slice A N cap) = .slice (some ⟨b, off, none⟩) N cap' ∧ (wr.cell? ⟨b, off + k * 3, none⟩ = some (.int .i64 l[k].kind) ∧ wr.cell? ⟨b, off + k * 3 + 1, none⟩ = some (.int .i64 l[k].num) ∧ wr.cell? ⟨b, off + k * 3 + 2, none⟩ = some s') ∧ (∃ A' c', s' = .slice A' l[k].kids.length c') ∧
              ∀ o, Calls Try.prog 23 #[a, .agg #[.int .i64 l[k].kind, .int .i64 l[k].num, s']] (wr.alloc o) fun e w' => ∃ v', e = .returned v' ∧ At B (acc ++ [kindB kd] ++ grpN (2 * N) ++ bytesL (l.take (k + 1))) (.slice Av n cv) w w.heap.size kd 0 (.slice A N cap) v' w') := Lib.hid fun k hkl a wr hA => by
            have hkk := kids_low hk hA.low
            obtain ⟨b, off, cap', hs, hbB, i1, i2, c0, c1, s', c2, h3⟩ := hkk.at_ k hkl
            refine ⟨b, off, cap', s', by rw [hn0]; exact hs, ⟨c0, c1, c2⟩, ?_, fun o => ?_⟩
            · obtain ⟨A', c', e, _⟩ := h3.form; exact ⟨A', c', e⟩
            · have hbl := bytesL_take l k hkl
              have hbt := bytesL_take_le l (k + 1)
              have htt := congrArg List.length HT.out
              simp only [List.length_append] at htt
              rw [hbl, List.length_append] at hbt
              refine (ih _ (List.getElem_mem hkl) B _ a s' (wr.alloc o) (rightL_mem hrl (List.getElem_mem hkl)) (fitsL_mem hf.2 _ (List.getElem_mem hkl)) (kids_low h3 ((Below.refl B wr).alloc hA.big o)) (hA.put.1.alloc o) (by have := hA.big; rw [World.size_alloc]; omega) (by simp only [List.length_append]; omega)).mono ?_
              rintro e w' ⟨v', rfl, hp⟩
              rw [List.append_assoc, ← hbl] at hp
              exact ⟨v', rfl, hA.next hp.from_alloc⟩
          have hl3 : (acc ++ [kindB kd]).length ≤ 1099511627776 := by have := congrArg List.length HT.out; simp only [List.length_append] at this ⊢; omega
          rw [← hn]
          clear ih hrl hf hk ho hlen hll htot hn hn0
          rcases h2 with rfl | rfl
          · have HC : Hid ((2 : Int) = ((kindB 2).toNat : Int)) := Lib.hid (kindB_nat 2 (by omega)).symm
            go_enter Try.func23, Try.ntmps23
            go_wp2_with (at_builtin; refine wpList_put rfl (.tmp 7) (.tmp 11) rfl B n acc (.slice Av n cv) (.slice Av n cv) (kindB 2) 2 (w.heap.size + 1) (by simp) rfl rfl HP0.out HN.out HC.out (by omega) (hBW _).out ?_; intro A2 c2 w1 hq; have hA := HNEW.out _ _ _ hq; have a0 := hA.c0; have a1 := hA.c1; have a2 := hA.c2; have HA1 := Lib.hid hA; clear hq hA)
            have HPN := Lib.hid (putNumber_any B (acc ++ [kindB 2]) N (.slice A2 (n + 1) c2) w1 hNl HA1.out.put.1 HA1.out.big hl3)
            rw [zig_nat] at HPN
            go_wp2_with (fail)
            refine HPN.out.mono ?_
            rintro e w2 ⟨v3, rfl, h3⟩
            obtain ⟨A3, c3, rfl⟩ := own_form h3.1
            have hA2 := HA1.out.next h3
            generalize (acc ++ [kindB 2] ++ grpN (2 * N)).length = m3 at hA2 ⊢
            have b2 := hA2.c2
            have HA2 := Lib.hid hA2
            clear h3 hA2
            go_wp2_with (fail)
            go_loopw [0, 37] (fun a i wr => PutsRel B N (acc ++ [kindB 2] ++ grpN (2 * N)) l (.slice Av n cv) w 2 0 (.slice A N cap) a i wr) (fun _ i _ => N - (intOf i).toNat)
            case atStart => unfold PutsRel; exact ⟨0, Nat.zero_le _, rfl, by rw [List.take_zero, bytesL, List.append_nil]; exact HA2.out⟩
            case round =>
              obtain ⟨k, hk, rfl, hA⟩ := hrel
              by_cases hlt : k < N
              · have hkl : k < l.length := by have := HNN.out; omega
                obtain ⟨b, off, cap', s', hs, ⟨d0, d1, d2⟩, ⟨A', c', rfl⟩, HI⟩ := HPS.out k hkl _ wr hA
                injection hs with hA' hL hC
                subst hA'
                subst hC
                clear hL
                obtain ⟨Ar, cr, rfl⟩ := own_form hA.put.1
                clear hA
                obtain ⟨u, hu⟩ : ∃ u, u = l[k] := ⟨_, rfl⟩
                rw [← hu] at d0 d1 d2 HI
                obtain ⟨M, hM⟩ : ∃ M, M = u.kids.length := ⟨_, rfl⟩
                rw [← hM] at d2 HI
                generalize (acc ++ [kindB 2] ++ grpN (2 * N) ++ bytesL (l.take k)).length = m4 at HI ⊢
                have HI := Lib.hid HI
                clear hM hu
                go_wp2_with (go_at_call 23; refine (HI.out _).mono ?_; rintro e w3 ⟨v', rfl, hA3⟩; have HA3 := Lib.hid hA3; clear hA3)
                go_roundw
                case rel => unfold PutsRel; exact ⟨k + 1, by omega, by go_num, HA3.out⟩
                case measure => simp [intOf]; omega
              · have HE := Lib.hid (put_end (show Put B tot (.slice Av n cv) w _ wr by
                  have h := hA.put
                  rw [List.take_of_length_le (by have := HNN.out; omega), HT.out] at h
                  exact h))
                clear hA
                go_wp2
                go_ret
                exact HE.out
          · have HC : Hid ((3 : Int) = ((kindB 3).toNat : Int)) := Lib.hid (kindB_nat 3 (by omega)).symm
            go_enter Try.func23, Try.ntmps23
            go_wp2_with (at_builtin; refine wpList_put rfl (.tmp 7) (.tmp 11) rfl B n acc (.slice Av n cv) (.slice Av n cv) (kindB 3) 3 (w.heap.size + 1) (by simp) rfl rfl HP0.out HN.out HC.out (by omega) (hBW _).out ?_; intro A2 c2 w1 hq; have hA := HNEW.out _ _ _ hq; have a0 := hA.c0; have a1 := hA.c1; have a2 := hA.c2; have HA1 := Lib.hid hA; clear hq hA)
            have HPN := Lib.hid (putNumber_any B (acc ++ [kindB 3]) N (.slice A2 (n + 1) c2) w1 hNl HA1.out.put.1 HA1.out.big hl3)
            rw [zig_nat] at HPN
            go_wp2_with (fail)
            refine HPN.out.mono ?_
            rintro e w2 ⟨v3, rfl, h3⟩
            obtain ⟨A3, c3, rfl⟩ := own_form h3.1
            have hA2 := HA1.out.next h3
            generalize (acc ++ [kindB 3] ++ grpN (2 * N)).length = m3 at hA2 ⊢
            have b2 := hA2.c2
            have HA2 := Lib.hid hA2
            clear h3 hA2
            go_wp2_with (fail)
            go_loopw [0, 37] (fun a i wr => PutsRel B N (acc ++ [kindB 3] ++ grpN (2 * N)) l (.slice Av n cv) w 3 0 (.slice A N cap) a i wr) (fun _ i _ => N - (intOf i).toNat)
            case atStart => unfold PutsRel; exact ⟨0, Nat.zero_le _, rfl, by rw [List.take_zero, bytesL, List.append_nil]; exact HA2.out⟩
            case round =>
              obtain ⟨k, hk, rfl, hA⟩ := hrel
              by_cases hlt : k < N
              · have hkl : k < l.length := by have := HNN.out; omega
                obtain ⟨b, off, cap', s', hs, ⟨d0, d1, d2⟩, ⟨A', c', rfl⟩, HI⟩ := HPS.out k hkl _ wr hA
                injection hs with hA' hL hC
                subst hA'
                subst hC
                clear hL
                obtain ⟨Ar, cr, rfl⟩ := own_form hA.put.1
                clear hA
                obtain ⟨u, hu⟩ : ∃ u, u = l[k] := ⟨_, rfl⟩
                rw [← hu] at d0 d1 d2 HI
                obtain ⟨M, hM⟩ : ∃ M, M = u.kids.length := ⟨_, rfl⟩
                rw [← hM] at d2 HI
                generalize (acc ++ [kindB 3] ++ grpN (2 * N) ++ bytesL (l.take k)).length = m4 at HI ⊢
                have HI := Lib.hid HI
                clear hM hu
                go_wp2_with (go_at_call 23; refine (HI.out _).mono ?_; rintro e w3 ⟨v', rfl, hA3⟩; have HA3 := Lib.hid hA3; clear hA3)
                go_roundw
                case rel => unfold PutsRel; exact ⟨k + 1, by omega, by go_num, HA3.out⟩
                case measure => simp [intOf]; omega
              · have HE := Lib.hid (put_end (show Put B tot (.slice Av n cv) w _ wr by
                  have h := hA.put
                  rw [List.take_of_length_le (by have := HNN.out; omega), HT.out] at h
                  exact h))
                clear hA
                go_wp2
                go_ret
                exact HE.out
        · rw [if_neg h2] at hr; cases hr
end Go.Proofs.Ytnjcapenkoemlaa.vt.ce

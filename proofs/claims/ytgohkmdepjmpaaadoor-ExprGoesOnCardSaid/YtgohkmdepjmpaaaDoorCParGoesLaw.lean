/- The law on a beginning of tokens that can't go on. -/
import Derived.Test.YtgohkmdepjmpaaaDoorCParWorks
import Derived.Test.YtgohkmdepjmpaaaDoorCParPre
import Derived.Test.YtgohkmdepjmpaaaDoorCGNest
namespace Go.Proofs.YtgohkmdepjmpaaaDoor.pm
open Go.RowKit wd lx nt ne mem
open vt (I64 own_form wpList_append_mine)

/-- the append of a row of tokens, met in a walk -/
theorem wpList_toks {w wr : World} {ops : Array Oper} {rest : List Oper} {o : Oper} {a : Act} {Q : Exit → Act → World → Prop} (hgd : o.guard = none) (s x : Operand)
    (ho : o.op = .call { callee := .builtin .append, args := #[s, x], argTypes := #[23, 23] }) (B n : Nat) (acc new : List Tk) (v : Value) (b off m c : Nat)
    (hs : a.eval s = v) (hx : a.eval x = .slice (some ⟨b, off, none⟩) m c) (hg : Got B TkT 4 n (tksV acc) v w wr) (hm : m = new.length) (hpos : 0 < m) (hnew : ∀ j u, (tksV new)[j]? = some u → wr.cell? ⟨b, off + j, none⟩ = some u) (hl : n + m ≤ 1099511627776) (hB : B ≤ wr.heap.size)
    (n' : Nat) (hn' : n' = n + m) (h : ∀ v' w', Got B TkT 4 n' (tksV (acc ++ new)) v' w w' → Below B wr w' → wpList Tryd.prog ops Q rest (a.put o.dst v') w') :
    wpList Tryd.prog ops Q (o :: rest) a wr := by
  obtain ⟨i0, hi, hz0, hz1, hz2⟩ := info_parts infoTk
  refine wpList_append_mine hgd s x 23 ho B TkT i0 (.agg #[.int .i64 0, .int .i64 0, .int .i64 0, .string ⟨#[]⟩]) 4 40 Tryd.underlying23 hi hz0 hz1 hz2 rfl (by decide) v n (tksV acc) hs hg.1 ⟨b, off, none⟩ m c (tksV new) hx (by rw [tksV_len, hm]) (fun j u hu => by rw [vt.cells_add]; exact hnew j u hu) ?_ (by unfold maxLen; omega) (by omega) hB ?_
  · intro u hu
    unfold tksV at hu
    obtain ⟨t, _, hu⟩ := List.mem_flatMap.1 hu
    exact tkV_one t u hu
  intro v' w' h1 h2 h3
  have hrow := hg.1
  subst hn'
  refine h v' w' ⟨?_, hg.2.grown h2 hB (fun k hk => (hrow.lt k hk).1)⟩ ((Below.refl B wr).grown h2 hB (fun k hk => (hrow.lt k hk).1))
  rw [tksV_append]
  exact h1
theorem tok_app {a b : List Tk} {i : Int} (h : i < (a.length : Int)) : tokAt (a ++ b) i = tokAt a i := by
  unfold tokAt
  by_cases h0 : 0 ≤ i
  · rw [if_pos h0, if_pos h0, List.getD_eq_getElem?_getD, List.getD_eq_getElem?_getD, List.getElem?_append_left (by omega)]
  · rw [if_neg h0, if_neg h0]
theorem tok_take {a : List Tk} {k : Nat} {i : Int} (h : i < (k : Int)) : tokAt (a.take k) i = tokAt a i := by
  unfold tokAt
  by_cases h0 : 0 ≤ i
  · rw [if_pos h0, if_pos h0, List.getD_eq_getElem?_getD, List.getD_eq_getElem?_getD, List.getElem?_take, if_pos (by omega)]
  · rw [if_neg h0, if_neg h0]
theorem agree_app {a b : List Tk} {k : Nat} (hk : k ≤ a.length) : Agree a (a.take k ++ b) k := fun i hi => by
  rw [tok_app (by rw [List.length_take]; omega), tok_take hi]
theorem tks_cells {B : Nat} {w : World} {l : List Tk} {A : Option Addr} {n c : Nat} (h : TksS B w l (.slice A n c)) (h0 : 0 < l.length) : ∃ b off, A = some ⟨b, off, none⟩ ∧ b < B ∧ n = l.length ∧ ∀ j u, (tksV l)[j]? = some u → w.cell? ⟨b, off + j, none⟩ = some u := by
  obtain ⟨_, A', c', hv, hc⟩ := h
  injection hv with hA hn hcc
  subst hA
  obtain ⟨b, off, hA, hb, hcc⟩ := hc h0
  exact ⟨b, off, hA, hb, hn, hcc⟩
theorem tksV_take (l : List Tk) (k : Nat) {j : Nat} {u : Value} (h : (tksV (l.take k))[j]? = some u) : (tksV l)[j]? = some u := by
  have e : tksV l = tksV (l.take k) ++ tksV (l.drop k) := by rw [← tksV_append, List.take_append_drop]
  have hj : j < (tksV (l.take k)).length := by
    rcases Nat.lt_or_ge j (tksV (l.take k)).length with h1 | h1
    · exact h1
    · rw [List.getElem?_eq_none h1] at h; cases h
  rw [e, List.getElem?_append_left hj]
  exact h
theorem goes_long1 (s s2 : ByteArray) (w : World) (hs : 300 < s.size) (hm : s.size ≤ 9223372036854775807) (hm2 : s2.size ≤ 9223372036854775807) (hL : LD w) : Calls Tryd.prog 5 #[.string s, .string s2] w fun e w' => e = .returned (.bool true) ∧ Below w.heap.size w w' := by
  have h3 : (300 : Int) < (s.size : Int) := by omega
  have HWK := Lib.hid (fun w hL => works13_any w hL)
  have HL := Lib.hid hL
  clear hL
  go_enter Tryd.func5, Tryd.ntmps5
  go_wp2_with (fail)
  refine (HWK.out w HL.out).mono ?_
  rintro e w1 ⟨rfl, hb1⟩
  have HB1 := Lib.hid hb1
  clear hb1
  go_wp2_with (fail)
  refine (HWK.out w1 (HL.out.on HB1.out)).mono ?_
  rintro e w2 ⟨rfl, hb2⟩
  have HB2 := Lib.hid (HB1.out.trans (hb2.mono HB1.out.size))
  clear hb2
  go_wp2_with (fail)
  go_ret
  exact ⟨rfl, HB2.out⟩
theorem goes_long2 (s s2 : ByteArray) (w : World) (hs : s.size ≤ 300) (hs2 : 100 < s2.size) (hm : s.size ≤ 9223372036854775807) (hm2 : s2.size ≤ 9223372036854775807) (hL : LD w) : Calls Tryd.prog 5 #[.string s, .string s2] w fun e w' => e = .returned (.bool true) ∧ Below w.heap.size w w' := by
  have h3 : decide ((300 : Int) < (s.size : Int)) = false := by rw [decide_eq_false_iff_not]; omega
  have h1 : (100 : Int) < (s2.size : Int) := by omega
  have HWK := Lib.hid (fun w hL => works13_any w hL)
  have HL := Lib.hid hL
  clear hL
  go_enter Tryd.func5, Tryd.ntmps5
  go_wp2_with (fail)
  refine (HWK.out w HL.out).mono ?_
  rintro e w1 ⟨rfl, hb1⟩
  have HB1 := Lib.hid hb1
  clear hb1
  go_wp2_with (fail)
  refine (HWK.out w1 (HL.out.on HB1.out)).mono ?_
  rintro e w2 ⟨rfl, hb2⟩
  have HB2 := Lib.hid (HB1.out.trans (hb2.mono HB1.out.size))
  clear hb2
  go_wp2_with (fail)
  go_ret
  exact ⟨rfl, HB2.out⟩
set_option maxRecDepth 100000 in
set_option maxHeartbeats 4000000 in
theorem goes_short (s s2 : ByteArray) (w : World) (hs : s.size ≤ 300) (hs2 : s2.size ≤ 100) (hL : LD w) : Calls Tryd.prog 5 #[.string s, .string s2] w fun e w' => e = .returned (.bool true) ∧ Below w.heap.size w w' := by
  have h3 : decide ((300 : Int) < (s.size : Int)) = false := by rw [decide_eq_false_iff_not]; omega
  have h1 : decide ((100 : Int) < (s2.size : Int)) = false := by rw [decide_eq_false_iff_not]; omega
  have hm : s.size ≤ 9223372036854775807 := by omega
  have hm2 : s2.size ≤ 9223372036854775807 := by omega
  have HWK := Lib.hid (works13_any w hL)
  have HL := Lib.hid hL
  have HA := Lib.hid (fun w => rlall_any s w (by omega))
  have HA2 := Lib.hid (fun w => rlall_any s2 w (by omega))
  have hsz : s.data.toList.length ≤ 300 := by have e : s.data.toList.length = s.size := Array.length_toList; omega
  have hsz2 : s2.data.toList.length ≤ 100 := by have e : s2.data.toList.length = s2.size := Array.length_toList; omega
  have HCUT := Lib.hid (fun q ts => cut_of (q := q) (ts := ts) (show s.data.toList.length ≤ 16384 by omega))
  have HCUT2 := Lib.hid (fun q ts => cut_of (q := q) (ts := ts) (show s2.data.toList.length ≤ 16384 by omega))
  have HSZ := Lib.hid (And.intro hsz hsz2)
  obtain ⟨LL, hLL⟩ : ∃ LL, LL = s.data.toList := ⟨_, rfl⟩
  rw [← hLL] at HA HCUT HSZ
  obtain ⟨L2, hL2⟩ : ∃ LL, LL = s2.data.toList := ⟨_, rfl⟩
  rw [← hL2] at HA2 HCUT2 HSZ
  obtain ⟨⟨er, qq, ts⟩, htot⟩ : ∃ tot, tot = lexW LL 0 := ⟨_, rfl⟩
  rw [← htot] at HA HCUT
  obtain ⟨⟨er2, qq2, ms⟩, htot2⟩ : ∃ tot, tot = lexW L2 0 := ⟨_, rfl⟩
  rw [← htot2] at HA2 HCUT2
  clear htot htot2 hLL hL2 hsz hsz2 hL
  go_enter Tryd.func5, Tryd.ntmps5
  go_wp2_with (fail)
  refine HWK.out.mono ?_
  rintro e w1 ⟨rfl, hb1⟩
  have HB1 := Lib.hid hb1
  clear hb1 HWK
  go_wp2_with (fail)
  refine (HA.out w1).mono ?_
  rintro e w2 ⟨v, rfl, hg⟩
  have hg : Got w1.heap.size TokT 4 ts.length (toksV ts) v w1 w2 := hg
  obtain ⟨A, c, rfl⟩ := own_form hg.1
  have HG := Lib.hid hg
  have HB2 := Lib.hid (HB1.out.trans (hg.2.mono HB1.out.size))
  obtain ⟨N, hN⟩ : ∃ N, N = ts.length := ⟨_, rfl⟩
  rw [← hN] at HG ⊢
  have HN := Lib.hid hN
  clear hg hN HA
  go_wp2_with (fail)
  refine (HA2.out w2).mono ?_
  rintro e w3 ⟨v2, rfl, hg⟩
  have hg : Got w2.heap.size TokT 4 ms.length (toksV ms) v2 w2 w3 := hg
  obtain ⟨A2, c2, rfl⟩ := own_form hg.1
  have HG2 := Lib.hid hg
  have HB3 := Lib.hid (HB2.out.trans (hg.2.mono HB2.out.size))
  obtain ⟨M, hM⟩ : ∃ M, M = ms.length := ⟨_, rfl⟩
  rw [← hM] at HG2 ⊢
  have HMM := Lib.hid hM
  clear hg hM HA2
  by_cases her : er = 0
  · subst her
    by_cases her2 : er2 = 0
    · subst her2
      have hcut := HCUT.out qq ts rfl
      have hcut2 := HCUT2.out qq2 ms rfl
      have hN0 : 0 < N := by rw [HN.out]; exact (toks_last hcut.toks).1
      have hM0 : 0 < M := by rw [HMM.out]; exact (toks_last hcut2.toks).1
      have hN1 : N ≤ 301 := by have := hcut.len; have := HSZ.out.1; have := HN.out; omega
      have hM1 : M ≤ 101 := by have := hcut2.len; have := HSZ.out.2; have := HMM.out; omega
      have hsrc2 : Src (ts.map toTk) (.slice A N c) w2 := src_got hcut (by have := HSZ.out.1; omega) (by rw [← HN.out]; exact HG.out)
      have hsrc : Src (ts.map toTk) (.slice A N c) w3 := hsrc2.on HG2.out.2
      have hsrcm : Src (ms.map toTk) (.slice A2 M c2) w3 := src_got hcut2 (by have := HSZ.out.2; omega) (by rw [← HMM.out]; exact HG2.out)
      obtain ⟨bL, oL, rfl, hbL, hnl, hcL⟩ := tks_cells hsrc.lies (by rw [List.length_map, ← HN.out]; exact hN0)
      obtain ⟨bM, oM, rfl, hbM, hnl2, hcM⟩ := tks_cells hsrcm.lies (by rw [List.length_map, ← HMM.out]; exact hM0)
      have HCL : Hid (∀ w', Below w3.heap.size w3 w' → ∀ j u, (tksV (ts.map toTk))[j]? = some u → w'.cell? ⟨bL, oL + j, none⟩ = some u) := Lib.hid (fun w' hb j u hu => (hb.cell (p := ⟨bL, oL + j, none⟩) hbL).trans (hcL j u hu))
      have HCM : Hid (∀ w', Below w3.heap.size w3 w' → ∀ j u, (tksV (ms.map toTk))[j]? = some u → w'.cell? ⟨bM, oM + j, none⟩ = some u) := Lib.hid (fun w' hb j u hu => (hb.cell (p := ⟨bM, oM + j, none⟩) hbM).trans (hcM j u hu))
      clear hbL hcL hbM hcM hnl hnl2
      have HCAP : Hid (N ≤ c) := Lib.hid (by
        rcases HG.out.1.2 with ⟨_, h⟩ | ⟨g, cap, cur, hs, _, _, hcap, _⟩
        · omega
        · injection hs with _ _ hc
          omega)
      have HCC := Lib.hid hcut
      have HCC2 := Lib.hid hcut2
      have HSRC := Lib.hid hsrc
      have HSRCM := Lib.hid hsrcm
      clear hcut hcut2 hsrc2 hsrcm HCUT HCUT2 HG HG2
      obtain ⟨f, r, hr, hx⟩ := eexpr_any 0 hsrc HCC.out.fine (by unfold I64; omega) (HL.out.on HB3.out)
      have hen := run_ends _ _ _ _ _ hr
      have HX := Lib.hid hx
      have HR := Lib.hid hr
      clear hx hr hsrc
      have hNz : (N : Int) ≠ 0 := by omega
      cases r with
      | list _ _ => simp [Ends, Mode.lists] at hen
      | node n j =>
        clear hen
        go_wp2_with (fail)
        refine HX.out.mono ?_
        rintro e w4 ⟨s4, rfl, hk4, _, hb4⟩
        obtain ⟨A4, c4, rfl, _⟩ := hk4.form
        have HB4 := Lib.hid (HB3.out.trans (hb4.mono HB3.out.size))
        clear hk4 hb4 HX
        obtain ⟨V, hV⟩ : ∃ V, V = w4.alloc (.cells #[.int .i64 0, .int .i64 0, .int .i64 0, .string ⟨#[]⟩, .slice none 0 0] NodeT) := ⟨_, rfl⟩
        obtain ⟨O, hO⟩ : ∃ O, O = w4.heap.size := ⟨_, rfl⟩
        have hOw : w.heap.size ≤ O := by rw [hO]; exact HB4.out.size
        have hbV : Below w.heap.size w V := by rw [hV]; exact HB4.out.alloc HB4.out.size _
        have bO : Box V O NodeT #[.int .i64 0, .int .i64 0, .int .i64 0, .string ⟨#[]⟩, .slice none 0 0] := by rw [hV]; exact Box.new _ _ _ _ hO
        have HBU : Hid (Below w.heap.size w (((((V.setCell ⟨O, 0, none⟩ (.int .i64 n.kind)).setCell ⟨O, 1, none⟩ (.int .i64 n.at_)).setCell ⟨O, 2, none⟩ (.int .i64 n.num)).setCell ⟨O, 3, none⟩ (.string ⟨n.name.toArray⟩)).setCell ⟨O, 4, none⟩ (.slice A4 n.kids.length c4))) := Lib.hid (below_five hbV hOw _ _ _ _ _)
        have a0 := bO.cell 0
        have a1 := bO.cell 1
        have a2 := bO.cell 2
        have a3 := bO.cell 3
        have a4 := bO.cell 4
        have b0 := bO.frozen 0
        have b1 := bO.frozen 1
        have b2 := bO.frozen 2
        have b3 := bO.frozen 3
        have b4 := bO.frozen 4
        simp only [List.getElem?_toArray, List.getElem?_cons_zero, List.getElem?_cons_succ] at a0 a1 a2 a3 a4
        have HV := Lib.hid hV
        have HO := Lib.hid hO
        clear hV hO hOw hbV bO
        go_wp2_with (first | (rw [← HV.out, ← HO.out]))
        go_ret
        exact ⟨rfl, HBU.out⟩
      | no j =>
        have hj0 : 0 ≤ j := hen.1
        clear hen
        by_cases hjN : (N : Int) - 1 ≤ j
        · go_wp2_with (fail)
          refine HX.out.mono ?_
          rintro e w4 ⟨rfl, hb4⟩
          have HB4 := Lib.hid (HB3.out.trans (hb4.mono HB3.out.size))
          clear hb4 HX
          obtain ⟨V, hV⟩ : ∃ V, V = w4.alloc (.cells #[.int .i64 0, .int .i64 0, .int .i64 0, .string ⟨#[]⟩, .slice none 0 0] NodeT) := ⟨_, rfl⟩
          obtain ⟨O, hO⟩ : ∃ O, O = w4.heap.size := ⟨_, rfl⟩
          have hOw : w.heap.size ≤ O := by rw [hO]; exact HB4.out.size
          have hbV : Below w.heap.size w V := by rw [hV]; exact HB4.out.alloc HB4.out.size _
          have bO : Box V O NodeT #[.int .i64 0, .int .i64 0, .int .i64 0, .string ⟨#[]⟩, .slice none 0 0] := by rw [hV]; exact Box.new _ _ _ _ hO
          have HBU : Hid (Below w.heap.size w (((((V.setCell ⟨O, 0, none⟩ (.int .i64 0)).setCell ⟨O, 1, none⟩ (.int .i64 0)).setCell ⟨O, 2, none⟩ (.int .i64 0)).setCell ⟨O, 3, none⟩ (.string ⟨#[]⟩)).setCell ⟨O, 4, none⟩ (.slice none 0 0))) := Lib.hid (below_five hbV hOw _ _ _ _ _)
          have a0 := bO.cell 0
          have a1 := bO.cell 1
          have a2 := bO.cell 2
          have a3 := bO.cell 3
          have a4 := bO.cell 4
          have b0 := bO.frozen 0
          have b1 := bO.frozen 1
          have b2 := bO.frozen 2
          have b3 := bO.frozen 3
          have b4 := bO.frozen 4
          simp only [List.getElem?_toArray, List.getElem?_cons_zero, List.getElem?_cons_succ] at a0 a1 a2 a3 a4
          have HV := Lib.hid hV
          have HO := Lib.hid hO
          clear hV hO hOw hbV bO
          go_wp2_with (first | (rw [← HV.out, ← HO.out]))
          go_ret
          exact ⟨rfl, HBU.out⟩
        · have hjN' : decide ((N : Int) - 1 ≤ j) = false := decide_eq_false hjN
          go_wp2_with (fail)
          refine HX.out.mono ?_
          rintro e w4 ⟨rfl, hb4⟩
          have HB34 := Lib.hid hb4
          have HB4 := Lib.hid (HB3.out.trans (hb4.mono HB3.out.size))
          clear hb4 HX
          obtain ⟨V, hV⟩ : ∃ V, V = w4.alloc (.cells #[.int .i64 0, .int .i64 0, .int .i64 0, .string ⟨#[]⟩, .slice none 0 0] NodeT) := ⟨_, rfl⟩
          obtain ⟨O, hO⟩ : ∃ O, O = w4.heap.size := ⟨_, rfl⟩
          have hOw : w.heap.size ≤ O := by rw [hO]; exact HB4.out.size
          have hbV : Below w.heap.size w V := by rw [hV]; exact HB4.out.alloc HB4.out.size _
          have bO : Box V O NodeT #[.int .i64 0, .int .i64 0, .int .i64 0, .string ⟨#[]⟩, .slice none 0 0] := by rw [hV]; exact Box.new _ _ _ _ hO
          have HBU : Hid (Below w.heap.size w (((((V.setCell ⟨O, 0, none⟩ (.int .i64 0)).setCell ⟨O, 1, none⟩ (.int .i64 0)).setCell ⟨O, 2, none⟩ (.int .i64 0)).setCell ⟨O, 3, none⟩ (.string ⟨#[]⟩)).setCell ⟨O, 4, none⟩ (.slice none 0 0))) := Lib.hid (below_five hbV hOw _ _ _ _ _)
          have HBUW : Hid (Below w3.heap.size w3 (((((V.setCell ⟨O, 0, none⟩ (.int .i64 0)).setCell ⟨O, 1, none⟩ (.int .i64 0)).setCell ⟨O, 2, none⟩ (.int .i64 0)).setCell ⟨O, 3, none⟩ (.string ⟨#[]⟩)).setCell ⟨O, 4, none⟩ (.slice none 0 0))) := Lib.hid (HB34.out.trans ((below_five (by rw [hV]; exact (Below.refl w4.heap.size w4).alloc (Nat.le_refl _) _) (by rw [hO]; exact Nat.le_refl _) _ _ _ _ _ : Below w4.heap.size w4 (((((V.setCell ⟨O, 0, none⟩ (.int .i64 0)).setCell ⟨O, 1, none⟩ (.int .i64 0)).setCell ⟨O, 2, none⟩ (.int .i64 0)).setCell ⟨O, 3, none⟩ (.string ⟨#[]⟩)).setCell ⟨O, 4, none⟩ (.slice none 0 0))).mono HB34.out.size))
          obtain ⟨U, hU⟩ : ∃ U, U = ((((V.setCell ⟨O, 0, none⟩ (.int .i64 0)).setCell ⟨O, 1, none⟩ (.int .i64 0)).setCell ⟨O, 2, none⟩ (.int .i64 0)).setCell ⟨O, 3, none⟩ (.string ⟨#[]⟩)).setCell ⟨O, 4, none⟩ (.slice none 0 0) := ⟨_, rfl⟩
          rw [← hU] at HBU HBUW
          have HU := Lib.hid hU
          clear hU
          have a0 := bO.cell 0
          have a1 := bO.cell 1
          have a2 := bO.cell 2
          have a3 := bO.cell 3
          have a4 := bO.cell 4
          have b0 := bO.frozen 0
          have b1 := bO.frozen 1
          have b2 := bO.frozen 2
          have b3 := bO.frozen 3
          have b4 := bO.frozen 4
          simp only [List.getElem?_toArray, List.getElem?_cons_zero, List.getElem?_cons_succ] at a0 a1 a2 a3 a4
          have HV := Lib.hid hV
          have HO := Lib.hid hO
          clear hV hO hOw hbV bO
          obtain ⟨X, hX⟩ : ∃ X, X = U.alloc (.cells #[] TkT) := ⟨_, rfl⟩
          have HGX : Hid (Got U.heap.size TkT 4 0 (tksV []) (.slice (some ⟨U.heap.size, 0, none⟩) 0 0) U X) := Lib.hid (by
            rw [hX]
            exact ⟨⟨rfl, .inr ⟨U.heap.size, 0, #[], rfl, Nat.le_refl _, heap_alloc_new U _, Nat.le_refl _, by decide, rfl, rfl⟩⟩, (Below.refl _ _).alloc (Nat.le_refl _) _⟩)
          have HBXW : Hid (Below w3.heap.size w3 X) := Lib.hid (by rw [hX]; exact HBUW.out.alloc HBUW.out.size _)
          have HX := Lib.hid hX
          have HSX : Hid (U.heap.size ≤ X.heap.size ∧ w3.heap.size ≤ U.heap.size) := Lib.hid ⟨HGX.out.2.size, HBUW.out.size⟩
          clear hX
          obtain ⟨K, hK⟩ : ∃ K, K = N - 1 := ⟨_, rfl⟩
          have hNK : (N : Int) - 1 = (K : Int) := by omega
          have hK1 : 0 < K := by omega
          have hKN : K ≤ N := by omega
          have hlenT : K = ((ts.map toTk).take K).length := by rw [List.length_take, List.length_map, ← HN.out]; omega
          have hlenM : M = (ms.map toTk).length := by rw [List.length_map]; exact HMM.out
          have HLT := Lib.hid hlenT
          have HLM := Lib.hid hlenM
          have HKK := Lib.hid hK
          have HCT : Hid (∀ j u, (tksV ((ts.map toTk).take K))[j]? = some u → X.cell? ⟨bL, oL + j, none⟩ = some u) := Lib.hid (fun j u hu => HCL.out X HBXW.out j u (tksV_take _ _ hu))
          clear hlenT hlenM
          have hKc : (K : Int) ≤ (c : Int) := by have := HCAP.out; omega
          have hKc2 : K ≤ c := by have := HCAP.out; omega
          clear hK
          go_wp2_with (first | (rw [← HV.out, ← HO.out]) | (rw [← HU.out]) | (rw [← HX.out]) | (at_builtin; (refine wpList_toks (w := U) rfl (.tmp 69) (.tmp 74) rfl U.heap.size 0 [] ((ts.map toTk).take K) (.slice (some ⟨U.heap.size, 0, none⟩) 0 0) bL oL K c rfl rfl HGX.out HLT.out hK1 HCT.out (by omega) HSX.out.1 K (Nat.zero_add K).symm ?_); intro v5 w5 hg5 hb5; obtain ⟨A5, c5, rfl⟩ := own_form hg5.1; have HG5 := Lib.hid hg5; have HB5X := Lib.hid (HBXW.out.trans (hb5.mono HSX.out.2)); have HCM5 := Lib.hid (HCM.out w5 HB5X.out); clear hg5 hb5) | (at_builtin; (refine wpList_toks (w := U) rfl (.tmp 75) (.tmp 76) rfl U.heap.size K ([] ++ (ts.map toTk).take K) (ms.map toTk) (.slice A5 K c5) bM oM M c2 rfl rfl HG5.out HLM.out hM0 HCM5.out (by omega) HG5.out.2.size (K + M) rfl ?_); intro v6 w6 hg6 hb6; obtain ⟨A6, c6, rfl⟩ := own_form hg6.1; have HG6 := Lib.hid hg6; have HB6X := Lib.hid (HB5X.out.trans (hb6.mono HSX.out.2)); clear hg6 hb6))
          obtain ⟨l2, hl2⟩ : ∃ l2, l2 = ((ts.take K) ++ ms).map toTk := ⟨_, rfl⟩
          have hl3 : l2 = [] ++ (ts.map toTk).take K ++ ms.map toTk := by rw [hl2, List.map_append, List.map_take]; simp
          have hlen : K + M = l2.length := by rw [hl3, List.length_append, List.length_append, ← HLM.out, ← HLT.out]; simp
          have hraw : ∀ t ∈ (ts.take K) ++ ms, (0 ≤ t.n ∧ t.n ≤ 9223372036854775807) ∧ t.at_ + t.text.length ≤ 1048576 := fun t ht => by
            rcases List.mem_append.1 ht with h | h
            · exact HCC.out.raw t (List.mem_of_mem_take h)
            · exact HCC2.out.raw t h
          have hsrc2 : Src l2 (.slice A6 (K + M) c6) w6 := ⟨by
            have := HG6.out.sees
            unfold TksS
            rw [← hl3] at this
            rw [← hlen]
            exact this, by omega, by rw [hl2]; exact fair_of hraw⟩
          have hBw6 : Below w.heap.size w w6 := HB3.out.trans (HB6X.out.mono HB3.out.size)
          obtain ⟨f2, r2, hr2, hx2⟩ := eexpr_any 0 hsrc2 (by rw [hl2]; exact fine_join HCC.out HCC2.out) (by unfold I64; omega) (HL.out.on hBw6)
          have hag : Agree (ts.map toTk) l2 K := by
            rw [hl3]
            simp only [List.nil_append]
            exact agree_app (by rw [List.length_map, ← HN.out]; exact hKN)
          have hpre := run_pre (ts.map toTk) l2 K hag f (.lev 1) 0 (.no j) HR.out (show j < (K : Int) by omega)
          obtain rfl : r2 = .no j := run_one _ hr2 hpre
          have HX2 := Lib.hid hx2
          have HB6 := Lib.hid hBw6
          clear hx2 hr2 hpre hag hsrc2 hraw hlen hl3 hl2 hBw6 HG6 a0 a1 a2 a3 a4 b0 b1 b2 b3 b4
          refine HX2.out.mono ?_
          rintro e w7 ⟨rfl, hb7⟩
          have HB7 := Lib.hid (HB6.out.trans (hb7.mono HB6.out.size))
          clear hb7 HX2
          obtain ⟨V7, hV⟩ : ∃ V7, V7 = w7.alloc (.cells #[.int .i64 0, .int .i64 0, .int .i64 0, .string ⟨#[]⟩, .slice none 0 0] NodeT) := ⟨_, rfl⟩
          obtain ⟨O7, hO⟩ : ∃ O7, O7 = w7.heap.size := ⟨_, rfl⟩
          have hOw : w.heap.size ≤ O7 := by rw [hO]; exact HB7.out.size
          have hbV : Below w.heap.size w V7 := by rw [hV]; exact HB7.out.alloc HB7.out.size _
          have bO : Box V7 O7 NodeT #[.int .i64 0, .int .i64 0, .int .i64 0, .string ⟨#[]⟩, .slice none 0 0] := by rw [hV]; exact Box.new _ _ _ _ hO
          have HBU7 : Hid (Below w.heap.size w (((((V7.setCell ⟨O7, 0, none⟩ (.int .i64 0)).setCell ⟨O7, 1, none⟩ (.int .i64 0)).setCell ⟨O7, 2, none⟩ (.int .i64 0)).setCell ⟨O7, 3, none⟩ (.string ⟨#[]⟩)).setCell ⟨O7, 4, none⟩ (.slice none 0 0))) := Lib.hid (below_five hbV hOw _ _ _ _ _)
          have a0 := bO.cell 0
          have a1 := bO.cell 1
          have a2 := bO.cell 2
          have a3 := bO.cell 3
          have a4 := bO.cell 4
          have b0 := bO.frozen 0
          have b1 := bO.frozen 1
          have b2 := bO.frozen 2
          have b3 := bO.frozen 3
          have b4 := bO.frozen 4
          simp only [List.getElem?_toArray, List.getElem?_cons_zero, List.getElem?_cons_succ] at a0 a1 a2 a3 a4
          have HV7 := Lib.hid hV
          have HO7 := Lib.hid hO
          clear hV hO hOw hbV bO
          go_wp2_with (first | (rw [← HV7.out, ← HO7.out]))
          go_ret
          exact ⟨rfl, HBU7.out⟩
    · have her2' : (er2 == 0) = false := beq_eq_false_iff_ne.2 her2
      go_wp2_with (fail)
      go_ret
      exact ⟨rfl, HB3.out⟩
  · have her' : (er == 0) = false := beq_eq_false_iff_ne.2 her
    go_wp2_with (fail)
    go_ret
    exact ⟨rfl, HB3.out⟩
theorem goes_law (s s2 : ByteArray) (w : World) (hm : s.size ≤ 9223372036854775807) (hm2 : s2.size ≤ 9223372036854775807) (hL : LD w) : Calls Tryd.prog 5 #[.string s, .string s2] w fun e w' => e = .returned (.bool true) ∧ Below w.heap.size w w' := by
  by_cases hs : s.size ≤ 300
  · by_cases hs2 : s2.size ≤ 100
    · exact goes_short s s2 w hs hs2 hL
    · exact goes_long2 s s2 w hs (by omega) hm hm2 hL
  · exact goes_long1 s s2 w (by omega) hm hm2 hL
end Go.Proofs.YtgohkmdepjmpaaaDoor.pm

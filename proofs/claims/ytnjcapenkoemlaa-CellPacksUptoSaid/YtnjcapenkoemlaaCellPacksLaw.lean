/- The law on values one behind the other. -/
import Derived.Test.YtnjcapenkoemlaaCellRows
namespace Go.Proofs.Ytnjcapenkoemlaa.vt.ce
open Go.RowKit mem vt

def PacksRel (B N : Nat) (l : List VT) (w : World) (i a y : Value) (wr : World) : Prop :=
  ∃ (k : Nat) (vs : List Value), i = .int .i64 k ∧ k ≤ N ∧ PK B w (rts (l.take k)) (packB (l.take k)) a y vs wr ∧ Hid (sizeL (l.take k) ≤ 300 * k)
theorem sizeL_take (l : List VT) (k : Nat) (h : k < l.length) : sizeL (l.take (k + 1)) = sizeL (l.take k) + l[k].size := by
  rw [List.take_succ_eq_append_getElem h, sizeL_append]; simp [sizeL]
/-- one of the values, in a later world: its cells, and what the calls tell of it -/
theorem packs_kid {l : List VT} {A : Option Addr} {c N : Nat} {w : World} (h : Kids (fun _ => True) w l (.slice A N c)) (hst : sizeL l ≤ 1048576) (k : Nat) (hkl : k < l.length) :
    ∃ b off s', A = some ⟨b, off, none⟩ ∧ (∃ A' c', s' = .slice A' l[k].kids.length c') ∧ ∀ wr, Below w.heap.size w wr → (wr.cell? ⟨b, off + k * 3, none⟩ = some (.int .i64 l[k].kind) ∧ wr.cell? ⟨b, off + k * 3 + 1, none⟩ = some (.int .i64 l[k].num) ∧ wr.cell? ⟨b, off + k * 3 + 2, none⟩ = some s') ∧ b < w.heap.size ∧ Kids (· < w.heap.size) wr l[k].kids s' ∧ (I64 l[k].kind ∧ I64 l[k].num) ∧
      (Calls Try.prog 7 #[.agg #[.int .i64 l[k].kind, .int .i64 l[k].num, s']] wr fun e w' => e = .returned (.int .i64 (smallI l[k])) ∧ Below wr.heap.size wr w') ∧
      (Calls Try.prog 12 #[.agg #[.int .i64 l[k].kind, .int .i64 l[k].num, s']] wr fun e w' => e = .returned (.bool l[k].right) ∧ Below wr.heap.size wr w') ∧
      (Calls Try.prog 9 #[.agg #[.int .i64 l[k].kind, .int .i64 l[k].num, s']] wr (BtsPost (bytesT l[k]) wr)) := by
  have hf := h.fits
  have hs := size_mem (List.getElem_mem hkl)
  have hlow : Kids (· < w.heap.size) w l (.slice A N c) := h.lt.mono fun _ hb => hb.2
  obtain ⟨b, off, cap, s', e, hbz, i1, i2, c0, c1, c2, h3⟩ := hlow.kid (Below.refl _ _) k hkl
  injection e with e1 _ e2
  refine ⟨b, off, s', e1, ?_, fun wr hb => ?_⟩
  · obtain ⟨A', c', e, _⟩ := h3.form; exact ⟨A', c', e⟩
  · have h4 := h3.below hb
    have hfk := fitsL_mem hf _ (List.getElem_mem hkl)
    refine ⟨⟨(hb.cell (p := ⟨b, _, none⟩) hbz).trans c0, (hb.cell (p := ⟨b, _, none⟩) hbz).trans c1, (hb.cell (p := ⟨b, _, none⟩) hbz).trans c2⟩, hbz, h4, ⟨i1, i2⟩, small_any _ _ _ h4, rright_any _ _ _ h4, rbytes_any _ _ _ h4 hfk ?_⟩
    have := bytesT_le hfk (by omega)
    omega
set_option maxHeartbeats 4000000 in
set_option maxRecDepth 100000 in
theorem packs_law (l : List VT) (bb : List UInt8) (s sb : Value) (w : World) (h : Kids (fun _ => True) w l s) (hb : Bts (fun _ => True) w bb sb) (hst : sizeL l ≤ 1048576) :
    Calls Try.prog 5 #[s, sb] w (LawHolds w) := by
  obtain ⟨A, c, rfl, hle⟩ := h.form
  obtain ⟨Ab, cb, rfl⟩ := hb.form
  have hbl : bb.length ≤ 9223372036854775807 := by
    obtain ⟨A2, c2, e, ⟨h1, _⟩, _⟩ := hb
    exact h1
  have HK : Hid (Kids (fun _ => True) w l (.slice A l.length c)) := Lib.hid h
  have HBB : Hid (∀ w', Below w.heap.size w w' → Bts (fun _ => True) w' bb (.slice Ab bb.length cb)) := Lib.hid fun w' hb' => hb.below hb'
  obtain ⟨N, hN⟩ : ∃ N, N = l.length := ⟨_, rfl⟩
  obtain ⟨L, hL⟩ : ∃ L, L = bb.length := ⟨_, rfl⟩
  rw [← hN] at HK hle ⊢
  rw [← hL] at HBB hbl ⊢
  have HN := Lib.hid hN
  have HL := Lib.hid hL
  clear h hb hN hL
  go_enter Try.func5, Try.ntmps5
  go_wp2_with (fail)
  refine (works_any w).mono ?_
  rintro e w1 ⟨rfl, hb⟩
  have H1 := Lib.hid hb
  clear hb
  by_cases h30 : 30 < N
  · have h30' : (30 : Int) < (N : Int) := by omega
    go_wp2_with (fail)
    refine (works_any w1).mono ?_
    rintro e w2 ⟨rfl, hb⟩
    have H2 := Lib.hid (H1.out.trans (hb.mono H1.out.size))
    clear hb
    go_wp2_with (fail)
    go_ret
    exact ⟨rfl, H2.out⟩
  by_cases h200 : 200 < L
  · have h30' : ¬ (30 : Int) < (N : Int) := by omega
    have h200' : (200 : Int) < (L : Int) := by omega
    go_wp2_with (fail)
    refine (works_any w1).mono ?_
    rintro e w2 ⟨rfl, hb⟩
    have H2 := Lib.hid (H1.out.trans (hb.mono H1.out.size))
    clear hb
    go_wp2_with (fail)
    go_ret
    exact ⟨rfl, H2.out⟩
  have h30' : ¬ (30 : Int) < (N : Int) := by omega
  have h200' : ¬ (200 : Int) < (L : Int) := by omega
  have hfl : fitsL l := HK.out.fits
  have HPL := Lib.hid (packB_le l hfl hst)
  have HBW : Hid (w.heap.size ≤ w1.heap.size) := Lib.hid H1.out.size
  go_wp2_with (fail)
  go_loopw [5, 6, 7] (fun a y i wr => PacksRel w.heap.size N l w i a y wr) (fun _ _ i _ => N - (intOf i).toNat)
  case atStart => unfold PacksRel; exact ⟨0, [], rfl, Nat.zero_le _, ⟨by rw [List.take_zero]; show Vals _ _ [] []; rw [Vals], World.ownsRow_nil _ _ _ _, World.ownsRow_nil _ _ _ _, H1.out⟩, Lib.hid (by rw [List.take_zero]; show 0 ≤ _; omega)⟩
  case round =>
    unfold PacksRel at hrel
    obtain ⟨k, vs, rfl, hk, hp, HSZ⟩ := hrel
    have HP := Lib.hid hp
    obtain ⟨Aw, cw, rfl⟩ := own_form hp.own
    obtain ⟨Ay, cy, rfl⟩ := own_form hp.bts
    have hBr : w.heap.size ≤ wr.heap.size := hp.low.size
    have hrl : (rts (l.take k)).length ≤ 30 := by have := rts_len (l.take k); rw [List.length_take] at this; omega
    have hpl : (packB (l.take k)).length ≤ 12 * sizeL l := Nat.le_trans (packB_take_le l k) HPL.out
    obtain ⟨R, hR⟩ : ∃ R, R = (rts (l.take k)).length := ⟨_, rfl⟩
    obtain ⟨Y, hY⟩ : ∃ Y, Y = (packB (l.take k)).length := ⟨_, rfl⟩
    rw [← hR] at HP hrl ⊢
    rw [← hY] at HP hpl ⊢
    have HR := Lib.hid hR
    have HY := Lib.hid hY
    clear hp hR hY
    by_cases hlt : k < N
    · have hlt' : (k : Int) < (N : Int) := by omega
      have hk0 : (0 : Int) ≤ (k : Int) := by omega
      have hkl : k < l.length := by have := HN.out; omega
      obtain ⟨b, off, s', hA, ⟨A', c', rfl⟩, HE⟩ := packs_kid HK.out hst k hkl
      have HSK := Lib.hid (sizeL_take l k hkl)
      have HTK := Lib.hid (rts_take l k hkl)
      have HPT := Lib.hid (packB_take l k hkl)
      have hpl2 : (packB (l.take (k + 1))).length ≤ 12 * sizeL l := Nat.le_trans (packB_take_le l (k + 1)) HPL.out
      have hsz := size_mem (List.getElem_mem hkl)
      obtain ⟨u, hu⟩ : ∃ u, u = l[k] := ⟨_, rfl⟩
      rw [← hu] at HE HTK HPT HSK hsz
      obtain ⟨M, hM⟩ : ∃ M, M = u.kids.length := ⟨_, rfl⟩
      rw [← hM] at HE
      have HE := Lib.hid HE
      obtain ⟨⟨c0, c1, c2⟩, hbz, _⟩ := HE.out wr HP.out.low
      subst hA
      clear hu hM
      go_wp2_with (fail)
      refine ((HE.out wr HP.out.low).2.2.2.2.1).mono ?_
      rintro e w2 ⟨rfl, hb2⟩
      have HP2 := Lib.hid (HP.out.below hb2 hBr)
      have hB2 : w.heap.size ≤ w2.heap.size := by have := hb2.size; omega
      clear hb2 c0 c1 c2
      rcases smallI_cases u with hS | hS
      · rw [hS]
        go_wp2_with (fail)
        go_ret
        exact ⟨rfl, HP2.out.low⟩
      · have hst3 := small_size hS (by omega)
        rw [hS]
        have HSZ2 : Hid (sizeL (l.take (k + 1)) ≤ 300 * (k + 1)) := Lib.hid (by rw [HSK.out]; have := HSZ.out; omega)
        obtain ⟨⟨c0, c1, c2⟩, hbz2, _⟩ := HE.out w2 HP2.out.low
        go_wp2_with (fail)
        refine ((HE.out w2 HP2.out.low).2.2.2.2.2.1).mono ?_
        rintro e w3 ⟨rfl, hb3⟩
        have HP3 := Lib.hid (HP2.out.below hb3 hB2)
        have hB3 : w.heap.size ≤ w3.heap.size := by have := hb3.size; omega
        obtain ⟨⟨d0, d1, d2⟩, hbz3, hk3, hi3, _⟩ := HE.out w3 HP3.out.low
        have HK3 := Lib.hid hk3
        have HI3 := Lib.hid hi3
        clear hb3 c0 c1 c2 hk3 hi3
        cases hr : u.right with
        | false =>
          rw [hr, if_neg (by simp), List.append_nil] at HTK
          rw [bytesT_no hr, List.append_nil] at HPT
          go_wp2_with (fail)
          go_roundw
          case rel =>
            unfold PacksRel
            refine ⟨k + 1, vs, by go_num, by omega, ?_, HSZ2⟩
            rw [HTK.out, HPT.out]
            exact HP3.out
          case measure => simp [intOf]; omega
        | true =>
          rw [hr, if_pos rfl] at HTK
          rw [bytesT_yes hr] at HPT
          have hbu : 0 < u.bytes.length := bytes_pos u
          have HO3 := Lib.hid HP3.out.own
          rw [← HR.out] at HO3
          have HBU := Lib.hid (bytesT_yes hr)
          obtain ⟨U, hU⟩ : ∃ U, U = u.bytes.length := ⟨_, rfl⟩
          have HU := Lib.hid hU
          have hUl : U ≤ 12 * sizeL l := by have h := congrArg List.length HPT.out; rw [List.length_append] at h; omega
          clear hU
          go_wp2_with (first
            | (go_at_call 9; refine ((HE.out w4 HP4.out.low).2.2.2.2.2.2).mono ?_; rintro e w5 ⟨s5, rfl, hs5, hb5⟩; rw [HBU.out] at hs5; obtain ⟨A5, c5, rfl⟩ := hs5.form; rw [← HU.out] at hs5 ⊢; have HS5 := Lib.hid hs5; have HP5 := Lib.hid (HP4.out.below hb5 hB4); have hB5 : w.heap.size ≤ w5.heap.size := (by have := hb5.size; omega); have HPR := Lib.hid (Put.refl HP5.out.bts); clear hs5 hb5)
            | (at_builtin; refine wpList_val rfl (.tmp 43) (.tmp 48) rfl w.heap.size R vs (.slice Aw R cw) u.kind u.num A' M c' w3.heap.size rfl rfl rfl HO3.out (by omega) hB3 ?_; intro A2 c2 w4 h1 h2; have hp4 := HP3.out.want HI3.out HK3.out hB3 (by rw [← HR.out]; exact h1) h2; have HP4 := Lib.hid hp4; have hB4 : w.heap.size ≤ w4.heap.size := hp4.low.size; obtain ⟨⟨x0, x1, x2⟩, _, _⟩ := HE.out w4 hp4.low; clear h1 h2 hp4 d0 d1 d2)
            | (at_builtin; refine wpList_puts rfl (.tmp 50) (.tmp 55) rfl w.heap.size Y U c5 _ u.bytes (.slice Ay Y cy) (.slice Ay Y cy) A5 rfl rfl HS5.out hbu HPR.out HY.out (by omega) hB5 ?_; intro A6 c6 w6 _ hq; have HP6 := Lib.hid (HP5.out.put hq hB5); clear hq))
          go_roundw
          case rel =>
            unfold PacksRel
            refine ⟨k + 1, vs ++ [.int .i64 u.kind, .int .i64 u.num, .slice A' M c'], by go_num, by omega, ?_, HSZ2⟩
            rw [HTK.out, HPT.out]
            exact HP6.out
          case measure => simp [intOf]; omega
    · have hlt' : ¬ (k : Int) < (N : Int) := by omega
      have hkN : k = N := by omega
      have HTN : Hid (l.take k = l) := Lib.hid (List.take_of_length_le (by have := HN.out; omega))
      rw [HTN.out] at HP HR HY HSZ
      clear hkN
      have HPK := Lib.hid (fun w' (hb : Below w.heap.size w w') => pack_any l (.slice A N c) w' (HK.out.below hb) (by have := HPL.out; omega))
      have HV : Hid (∀ w', Below wr.heap.size wr w' → Bts (fun _ => True) w' (packB l) (.slice Ay Y cy) ∧ Kids (fun _ => True) w' (rts l) (.slice Aw R cw) ∧ Below w.heap.size w w') := Lib.hid (fun w' hb => by
        have h1 := Bts.of_own HP.out.bts
        have h2 : Kids (fun _ => True) wr (rts l) (.slice Aw R cw) := Own.kids (B := w.heap.size) (G := (· < w.heap.size)) ⟨vs, HP.out.vals, HP.out.own⟩ (fun _ _ => trivial) (fun _ _ => trivial)
        exact ⟨(h1.mono fun _ _ => trivial).below hb, h2.below hb, HP.out.low.trans (hb.mono hBr)⟩)
      have HRA : Hid (readAll (packB l).length (packB l) = some (rts l)) := Lib.hid (readAll_pack hfl hst)
      have hYl : (packB l).length ≤ 1048576 := by have := HPL.out; have := HSZ.out; omega
      go_wp2_with (fail)
      refine (HPK.out wr HP.out.low).mono ?_
      rintro e w2 ⟨s2, rfl, hs2, hb2⟩
      obtain ⟨Ap, cp, rfl⟩ := hs2.form
      rw [← HY.out] at hs2 ⊢
      have HB2 := Lib.hid hb2
      have HPS : Hid (∀ w', Below w2.heap.size w2 w' → Bts (fun _ => True) w' (packB l) (.slice Ap Y cp)) := Lib.hid fun w' hb => (hs2.mono fun _ _ => trivial).below hb
      clear hb2 hs2 HPK
      go_wp2_with (fail)
      refine (unpack_any (packB l) _ w2 (HPS.out w2 (Below.refl _ _)) hYl).mono ?_
      unfold UnpackPost
      rw [HRA.out]
      rintro e w3 ⟨s3, rfl, hk3, hb3⟩
      obtain ⟨Aq, cq, rfl, _⟩ := hk3.form
      rw [← HR.out] at hk3 ⊢
      have HKB : Hid (∀ w', Below w3.heap.size w3 w' → Kids (fun _ => True) w' (rts l) (.slice Aq R cq)) := Lib.hid fun w' hb => (hk3.mono fun _ _ => trivial).below hb
      have HB3 := Lib.hid hb3
      have HB23 := Lib.hid (HB2.out.trans (hb3.mono HB2.out.size))
      clear hb3 hk3
      go_wp2_with (fail)
      have HUB := Lib.hid (unpack_any bb _ w3 (HBB.out w3 (HV.out w3 HB23.out).2.2) (by have := HL.out; omega))
      cases hra : readAll bb.length bb with
      | none =>
        refine HUB.out.mono ?_
        unfold UnpackPost
        rw [hra]
        rintro e w4 ⟨rfl, hb4⟩
        have HB4 := Lib.hid hb4
        clear hb4 hra HUB
        go_wp2_with (fail)
        go_cut [91] (fun v wx => v = .bool false ∧ Below w4.heap.size w4 wx)
        case first =>
          refine wp_region_held_drew (S := fun _ => True) (by kernel_rfl) ?_ (fun hHeld => ?_)
          · trivial
          refine wpAnyH_take (i := 0) (v := .int .i64 1) rfl (by kernel_rfl) (by kernel_rfl) (by kernel_rfl) (fun _ _ _ h => h) (Or.inl ⟨by rfl, fun w hSw => ?_⟩) hHeld ?_
          · (try dsimp only at hSw)
            first | go_simp | rfl
          (try simp only [Act.put, List.getElem_toArray, List.getElem_cons_zero, List.setIfInBounds_toArray, List.set_cons_zero, List.set_cons_succ])
          refine wpAnyH_take (i := 1) (v := .bool false) rfl (by kernel_rfl) (by kernel_rfl) (by kernel_rfl) (fun _ _ _ h => h) (Or.inl ⟨by rfl, fun w hSw => ?_⟩) hHeld ?_
          · (try dsimp only at hSw)
            first | go_simp | rfl
          (try simp only [Act.put, List.getElem_toArray, List.getElem_cons_zero, List.getElem_cons_succ, List.setIfInBounds_toArray, List.set_cons_zero, List.set_cons_succ])
          refine wpAnyH_take (i := 2) (v := .bool false) rfl (by kernel_rfl) (by kernel_rfl) (by kernel_rfl) (fun _ _ _ h => h) (Or.inl ⟨by rfl, fun w hSw => ?_⟩) hHeld ?_
          · (try dsimp only at hSw)
            first | go_simp | rfl
          (try simp only [Act.put, List.getElem_toArray, List.getElem_cons_zero, List.getElem_cons_succ, List.setIfInBounds_toArray, List.set_cons_zero, List.set_cons_succ])
          refine wpAnyH_take (i := 3) (v := undef) rfl (by kernel_rfl) (by kernel_rfl) (by kernel_rfl) (fun _ _ _ h => h) (Or.inr ⟨by rfl, rfl⟩) hHeld ?_
          (try simp only [Act.put, List.getElem_toArray, List.getElem_cons_zero, List.getElem_cons_succ, List.setIfInBounds_toArray, List.set_cons_zero, List.set_cons_succ])
          refine wpAnyH_take (i := 4) (v := undef) rfl (by kernel_rfl) (by kernel_rfl) (by kernel_rfl) (fun _ _ _ h => h) (Or.inr ⟨by rfl, rfl⟩) hHeld ?_
          (try simp only [Act.put, List.getElem_toArray, List.getElem_cons_zero, List.getElem_cons_succ, List.setIfInBounds_toArray, List.set_cons_zero, List.set_cons_succ])
          refine wpAnyH_take (i := 5) (v := undef) rfl (by kernel_rfl) (by kernel_rfl) (by kernel_rfl) (fun _ _ _ h => h) (Or.inr ⟨by rfl, rfl⟩) hHeld ?_
          (try simp only [Act.put, List.getElem_toArray, List.getElem_cons_zero, List.getElem_cons_succ, List.setIfInBounds_toArray, List.set_cons_zero, List.set_cons_succ])
          refine wpAnyH_take (i := 6) (v := undef) rfl (by kernel_rfl) (by kernel_rfl) (by kernel_rfl) (fun _ _ _ h => h) (Or.inr ⟨by rfl, rfl⟩) hHeld ?_
          (try simp only [Act.put, List.getElem_toArray, List.getElem_cons_zero, List.getElem_cons_succ, List.setIfInBounds_toArray, List.set_cons_zero, List.set_cons_succ])
          refine wpAnyH_take (i := 7) (v := undef) rfl (by kernel_rfl) (by kernel_rfl) (by kernel_rfl) (fun _ _ _ h => h) (Or.inr ⟨by rfl, rfl⟩) hHeld ?_
          (try simp only [Act.put, List.getElem_toArray, List.getElem_cons_zero, List.getElem_cons_succ, List.setIfInBounds_toArray, List.set_cons_zero, List.set_cons_succ])
          refine wpAnyH_take (i := 8) (v := undef) rfl (by kernel_rfl) (by kernel_rfl) (by kernel_rfl) (fun _ _ _ h => h) (Or.inr ⟨by rfl, rfl⟩) hHeld ?_
          (try simp only [Act.put, List.getElem_toArray, List.getElem_cons_zero, List.getElem_cons_succ, List.setIfInBounds_toArray, List.set_cons_zero, List.set_cons_succ])
          refine wpAnyH_take (i := 9) (v := .bool false) rfl (by kernel_rfl) (by kernel_rfl) (by kernel_rfl) (fun _ _ _ h => h) (Or.inl ⟨by rfl, fun w hSw => ?_⟩) hHeld ?_
          · (try dsimp only at hSw)
            first | go_simp | rfl
          (try simp only [Act.put, List.getElem_toArray, List.getElem_cons_zero, List.getElem_cons_succ, List.setIfInBounds_toArray, List.set_cons_zero, List.set_cons_succ])
          refine wpAnyH_take (i := 10) (v := .bool false) rfl (by kernel_rfl) (by kernel_rfl) (by kernel_rfl) (fun _ _ _ h => h) (Or.inl ⟨by rfl, fun w hSw => ?_⟩) hHeld ?_
          · (try dsimp only at hSw)
            first | go_simp | rfl
          (try simp only [Act.put, List.getElem_toArray, List.getElem_cons_zero, List.getElem_cons_succ, List.setIfInBounds_toArray, List.set_cons_zero, List.set_cons_succ])
          refine wpAnyH_take (i := 11) (v := .int .i64 1) rfl (by kernel_rfl) (by kernel_rfl) (by kernel_rfl) (fun _ _ _ h => h) (Or.inl ⟨by rfl, fun w hSw => ?_⟩) hHeld ?_
          · (try dsimp only at hSw)
            first | go_simp | rfl
          (try simp only [Act.put, List.getElem_toArray, List.getElem_cons_zero, List.getElem_cons_succ, List.setIfInBounds_toArray, List.set_cons_zero, List.set_cons_succ])
          refine wpAnyH_take (i := 12) (v := .bool true) rfl (by kernel_rfl) (by kernel_rfl) (by kernel_rfl) (fun _ _ _ h => h) (Or.inl ⟨by rfl, fun w hSw => ?_⟩) hHeld ?_
          · (try dsimp only at hSw)
            first | go_simp | rfl
          (try simp only [Act.put, List.getElem_toArray, List.getElem_cons_zero, List.getElem_cons_succ, List.setIfInBounds_toArray, List.set_cons_zero, List.set_cons_succ])
          refine wpAnyH_take (i := 13) (v := .bool true) rfl (by kernel_rfl) (by kernel_rfl) (by kernel_rfl) (fun _ _ _ h => h) (Or.inl ⟨by rfl, fun w hSw => ?_⟩) hHeld ?_
          · (try dsimp only at hSw)
            first | go_simp | rfl
          (try simp only [Act.put, List.getElem_toArray, List.getElem_cons_zero, List.getElem_cons_succ, List.setIfInBounds_toArray, List.set_cons_zero, List.set_cons_succ])
          refine wpAnyH_take (i := 14) (v := .int .i64 1) rfl (by kernel_rfl) (by kernel_rfl) (by kernel_rfl) (fun _ _ _ h => h) (Or.inl ⟨by rfl, fun w hSw => ?_⟩) hHeld ?_
          · (try dsimp only at hSw)
            first | go_simp | rfl
          (try simp only [Act.put, List.getElem_toArray, List.getElem_cons_zero, List.getElem_cons_succ, List.setIfInBounds_toArray, List.set_cons_zero, List.set_cons_succ])
          refine wpAnyH_take (i := 15) (v := .bool false) rfl (by kernel_rfl) (by kernel_rfl) (by kernel_rfl) (fun _ _ _ h => h) (Or.inl ⟨by rfl, fun w hSw => ?_⟩) hHeld ?_
          · (try dsimp only at hSw)
            first | go_simp | rfl
          (try simp only [Act.put, List.getElem_toArray, List.getElem_cons_zero, List.getElem_cons_succ, List.setIfInBounds_toArray, List.set_cons_zero, List.set_cons_succ])
          refine wpAnyH_take (i := 16) (v := .bool false) rfl (by kernel_rfl) (by kernel_rfl) (by kernel_rfl) (fun _ _ _ h => h) (Or.inl ⟨by rfl, fun w hSw => ?_⟩) hHeld ?_
          · (try dsimp only at hSw)
            first | go_simp | rfl
          (try simp only [Act.put, List.getElem_toArray, List.getElem_cons_zero, List.getElem_cons_succ, List.setIfInBounds_toArray, List.set_cons_zero, List.set_cons_succ])
          refine wpAnyH_take (i := 17) (v := .slice none 0 0) rfl (by kernel_rfl) (by kernel_rfl) (by kernel_rfl) (fun _ _ _ h => h) (Or.inl ⟨by rfl, fun w hSw => ?_⟩) hHeld ?_
          · (try dsimp only at hSw)
            first | go_simp | rfl
          (try simp only [Act.put, List.getElem_toArray, List.getElem_cons_zero, List.getElem_cons_succ, List.setIfInBounds_toArray, List.set_cons_zero, List.set_cons_succ])
          refine wpAnyH_take (i := 18) (v := .int .i64 0) rfl (by kernel_rfl) (by kernel_rfl) (by kernel_rfl) (fun _ _ _ h => h) (Or.inl ⟨by rfl, fun w hSw => ?_⟩) hHeld ?_
          · (try dsimp only at hSw)
            first | go_simp | rfl
          (try simp only [Act.put, List.getElem_toArray, List.getElem_cons_zero, List.getElem_cons_succ, List.setIfInBounds_toArray, List.set_cons_zero, List.set_cons_succ])
          refine wpAnyH_take (i := 19) (v := .bool false) rfl (by kernel_rfl) (by kernel_rfl) (by kernel_rfl) (fun _ _ _ h => h) (Or.inl ⟨by rfl, fun w hSw => ?_⟩) hHeld ?_
          · (try dsimp only at hSw)
            first | go_simp | rfl
          (try simp only [Act.put, List.getElem_toArray, List.getElem_cons_zero, List.getElem_cons_succ, List.setIfInBounds_toArray, List.set_cons_zero, List.set_cons_succ])
          refine wpAnyH_take (i := 20) (v := .bool false) rfl (by kernel_rfl) (by kernel_rfl) (by kernel_rfl) (fun _ _ _ h => h) (Or.inl ⟨by rfl, fun w hSw => ?_⟩) hHeld ?_
          · (try dsimp only at hSw)
            first | go_simp | rfl
          (try simp only [Act.put, List.getElem_toArray, List.getElem_cons_zero, List.getElem_cons_succ, List.setIfInBounds_toArray, List.set_cons_zero, List.set_cons_succ])
          refine wpAnyH_take (i := 21) (v := .bool false) rfl (by kernel_rfl) (by kernel_rfl) (by kernel_rfl) (fun _ _ _ h => h) (Or.inl ⟨by rfl, fun w hSw => ?_⟩) hHeld ?_
          · (try dsimp only at hSw)
            first | go_simp | rfl
          (try simp only [Act.put, List.getElem_toArray, List.getElem_cons_zero, List.getElem_cons_succ, List.setIfInBounds_toArray, List.set_cons_zero, List.set_cons_succ])
          refine wpAnyH_take (i := 22) (v := .bool false) rfl (by kernel_rfl) (by kernel_rfl) (by kernel_rfl) (fun _ _ _ h => h) (Or.inl ⟨by rfl, fun w hSw => ?_⟩) hHeld ?_
          · (try dsimp only at hSw)
            first | go_simp | rfl
          (try simp only [Act.put, List.getElem_toArray, List.getElem_cons_zero, List.getElem_cons_succ, List.setIfInBounds_toArray, List.set_cons_zero, List.set_cons_succ])
          refine wpAnyH_done (by kernel_rfl) ?_ _
          go_wp2_with (fail)
          go_meet
          exact ⟨rfl, (Below.refl _ _).drew⟩
        case rest =>
          obtain ⟨rfl, hcut⟩ := hcut
          have HC := Lib.hid hcut
          have hc3 := HB4.out.trans (hcut.mono HB4.out.size)
          have hc2 := HB3.out.trans (hc3.mono HB3.out.size)
          have hcr := HB2.out.trans (hc2.mono HB2.out.size)
          have kp := bytes_conv (HPS.out wc hc2)
          have ky := bytes_conv (HV.out wc hcr).1
          have HSA : Hid (∀ w', Below wc.heap.size wc w' → Calls Try.prog 16 #[.slice Aq R cq, .slice Aw R cw] w' fun e w'' => e = .returned (.bool true) ∧ Below w'.heap.size w' w'') := Lib.hid (fun w' hb => by
            have h := rsameAll_any (G := fun _ => True) (rts l) (fun u _ => rsame_any u) (rts l) (.slice Aq R cq) (.slice Aw R cw) w' (HKB.out w' (hc3.trans (hb.mono hc3.size))) (HV.out w' (hcr.trans (hb.mono hcr.size))).2.1
            rw [eqB_self] at h
            exact h)
          have HLW : Hid (∀ w', Below wc.heap.size wc w' → Below w.heap.size w w') := Lib.hid fun w' hb => (HV.out w' (hcr.trans (hb.mono hcr.size))).2.2
          clear hcut hc3 hc2 hcr
          go_wp2_with (fail)
          refine (HSA.out wc (Below.refl _ _)).mono ?_
          rintro e w8 ⟨rfl, hb8⟩
          have HB8 := Lib.hid hb8
          clear hb8
          go_wp2_with (fail)
          go_ret
          exact ⟨rfl, HLW.out _ HB8.out⟩
      | some X =>
        refine HUB.out.mono ?_
        unfold UnpackPost
        rw [hra]
        rintro e w4 ⟨s4, rfl, hk4, hb4⟩
        obtain ⟨Ax, cx, rfl, _⟩ := hk4.form
        obtain ⟨Z, hZ⟩ : ∃ Z, Z = X.length := ⟨_, rfl⟩
        rw [← hZ] at hk4 ⊢
        have HKX : Hid (∀ w', Below w4.heap.size w4 w' → Kids (fun _ => True) w' X (.slice Ax Z cx)) := Lib.hid fun w' hb => (hk4.mono fun _ _ => trivial).below hb
        have HB4 := Lib.hid hb4
        have HPA := Lib.hid (packB_all hra)
        clear hb4 hk4 hZ hra HUB
        have HPX : Hid (∀ w', Below w4.heap.size w4 w' → Calls Try.prog 14 #[.slice Ax Z cx] w' fun e w'' => ∃ A' c', e = .returned (.slice A' L c') ∧ Bts (fun b => w'.heap.size ≤ b) w'' bb (.slice A' L c') ∧ Below w'.heap.size w' w'') := Lib.hid (fun w' hb => by
          refine (pack_any X (.slice Ax Z cx) w' (HKX.out w' hb) (by rw [HPA.out, ← HL.out]; omega)).mono fun e w'' ⟨s', he, hs, hb'⟩ => ?_
          rw [HPA.out] at hs
          obtain ⟨A', c', rfl⟩ := hs.form
          rw [← HL.out] at he hs
          exact ⟨A', c', he, hs, hb'⟩)
        have HBX : Hid (∀ w', Below w4.heap.size w4 w' → Bts (fun _ => True) w' bb (.slice Ab L cb)) := Lib.hid (fun w' hb => HBB.out w' (HV.out w' (HB23.out.trans ((HB4.out.trans (hb.mono HB4.out.size)).mono HB23.out.size))).2.2)
        have kb0 := bytes_conv (HBX.out w4.drew (Below.refl _ _).drew)
        go_wp2_with (fail)
        go_cut [91] (fun v wx => v = .bool false ∧ Below w4.heap.size w4 wx)
        case first =>
          refine wp_region_held_drew (S := fun w' => (convert 27 9 (.slice Ab L cb)).run Try.prog w' = .ok (.string ⟨bb.toArray⟩) w') (by kernel_rfl) ?_ (fun hHeld => ?_)
          · exact kb0
          refine wpAnyH_take (i := 0) (v := .int .i64 0) rfl (by kernel_rfl) (by kernel_rfl) (by kernel_rfl) (fun _ _ _ h => h) (Or.inl ⟨by rfl, fun w hSw => ?_⟩) hHeld ?_
          · (try dsimp only at hSw)
            first | go_simp | rfl
          (try simp only [Act.put, List.getElem_toArray, List.getElem_cons_zero, List.setIfInBounds_toArray, List.set_cons_zero, List.set_cons_succ])
          refine wpAnyH_take (i := 1) (v := .bool true) rfl (by kernel_rfl) (by kernel_rfl) (by kernel_rfl) (fun _ _ _ h => h) (Or.inl ⟨by rfl, fun w hSw => ?_⟩) hHeld ?_
          · (try dsimp only at hSw)
            first | go_simp | rfl
          (try simp only [Act.put, List.getElem_toArray, List.getElem_cons_zero, List.getElem_cons_succ, List.setIfInBounds_toArray, List.set_cons_zero, List.set_cons_succ])
          refine wpAnyH_take (i := 2) (v := .bool true) rfl (by kernel_rfl) (by kernel_rfl) (by kernel_rfl) (fun _ _ _ h => h) (Or.inl ⟨by rfl, fun w hSw => ?_⟩) hHeld ?_
          · (try dsimp only at hSw)
            first | go_simp | rfl
          (try simp only [Act.put, List.getElem_toArray, List.getElem_cons_zero, List.getElem_cons_succ, List.setIfInBounds_toArray, List.set_cons_zero, List.set_cons_succ])
          refine wpAnyH_take (i := 3) (v := .slice Ax Z cx) rfl (by kernel_rfl) (by kernel_rfl) (by kernel_rfl) (fun _ _ _ h => h) (Or.inl ⟨by rfl, fun w hSw => ?_⟩) hHeld ?_
          · (try dsimp only at hSw)
            first | go_simp | rfl
          (try simp only [Act.put, List.getElem_toArray, List.getElem_cons_zero, List.getElem_cons_succ, List.setIfInBounds_toArray, List.set_cons_zero, List.set_cons_succ])
          refine wpAnyH_take (i := 6) (v := .slice Ab L cb) rfl (by kernel_rfl) (by kernel_rfl) (by kernel_rfl) (fun _ _ _ h => h) (Or.inl ⟨by rfl, fun w hSw => ?_⟩) hHeld ?_
          · (try dsimp only at hSw)
            first | go_simp | rfl
          (try simp only [Act.put, List.getElem_toArray, List.getElem_cons_zero, List.getElem_cons_succ, List.setIfInBounds_toArray, List.set_cons_zero, List.set_cons_succ])
          refine wpAnyH_take (i := 7) (v := .string ⟨bb.toArray⟩) rfl (by kernel_rfl) (by kernel_rfl) (by kernel_rfl) (fun _ _ _ h => h) (Or.inl ⟨by rfl, fun w hSw => ?_⟩) hHeld ?_
          · (try dsimp only at hSw)
            first | go_simp | rfl
          (try simp only [Act.put, List.getElem_toArray, List.getElem_cons_zero, List.getElem_cons_succ, List.setIfInBounds_toArray, List.set_cons_zero, List.set_cons_succ])
          refine wpAnyH_ready (rs := [4]) (by kernel_rfl) (by simp) ?_
          refine AllReadyH.cons rfl (fun K' hK' => ?_) AllReadyH.nil
          go_simp
          go_at_call 14
          refine (HPX.out w4.drew (Below.refl _ _).drew).mono ?_
          rintro e w5 ⟨A5, c5, rfl, hs5, hb5⟩
          have hb6 := (Below.refl w4.heap.size w4).drew.trans hb5
          have k1 := bytes_conv hs5
          have kb1 := bytes_conv (HBX.out w5 hb6)
          have HB6 := Lib.hid hb6
          clear hs5 hb5 hb6
          refine hK'.out _ _ kb1 (fun hHeld => ?_)
          clear hK' K'
          (try simp only [Act.put, List.getElem_toArray, List.getElem_cons_zero, List.getElem_cons_succ, List.setIfInBounds_toArray, List.set_cons_zero, List.set_cons_succ])
          refine wpAnyH_ready (rs := [5]) (by kernel_rfl) (by simp) ?_
          refine AllReadyH.cons rfl (fun K' hK' => ?_) AllReadyH.nil
          go_simp
          refine hK'.out _ _ hHeld (fun hHeld => ?_)
          clear hK' K'
          (try simp only [Act.put, List.getElem_toArray, List.getElem_cons_zero, List.getElem_cons_succ, List.setIfInBounds_toArray, List.set_cons_zero, List.set_cons_succ])
          refine wpAnyH_take (i := 8) (v := .bool false) rfl (by kernel_rfl) (by kernel_rfl) (by kernel_rfl) (fun _ _ _ h => h) (Or.inl ⟨by rfl, fun w hSw => ?_⟩) hHeld ?_
          · (try dsimp only at hSw)
            first | go_simp | rfl
          (try simp only [Act.put, List.getElem_toArray, List.getElem_cons_zero, List.getElem_cons_succ, List.setIfInBounds_toArray, List.set_cons_zero, List.set_cons_succ])
          refine wpAnyH_take (i := 9) (v := .bool false) rfl (by kernel_rfl) (by kernel_rfl) (by kernel_rfl) (fun _ _ _ h => h) (Or.inl ⟨by rfl, fun w hSw => ?_⟩) hHeld ?_
          · (try dsimp only at hSw)
            first | go_simp | rfl
          (try simp only [Act.put, List.getElem_toArray, List.getElem_cons_zero, List.getElem_cons_succ, List.setIfInBounds_toArray, List.set_cons_zero, List.set_cons_succ])
          refine wpAnyH_take (i := 10) (v := .bool false) rfl (by kernel_rfl) (by kernel_rfl) (by kernel_rfl) (fun _ _ _ h => h) (Or.inl ⟨by rfl, fun w hSw => ?_⟩) hHeld ?_
          · (try dsimp only at hSw)
            first | go_simp | rfl
          (try simp only [Act.put, List.getElem_toArray, List.getElem_cons_zero, List.getElem_cons_succ, List.setIfInBounds_toArray, List.set_cons_zero, List.set_cons_succ])
          refine wpAnyH_take (i := 11) (v := .int .i64 0) rfl (by kernel_rfl) (by kernel_rfl) (by kernel_rfl) (fun _ _ _ h => h) (Or.inl ⟨by rfl, fun w hSw => ?_⟩) hHeld ?_
          · (try dsimp only at hSw)
            first | go_simp | rfl
          (try simp only [Act.put, List.getElem_toArray, List.getElem_cons_zero, List.getElem_cons_succ, List.setIfInBounds_toArray, List.set_cons_zero, List.set_cons_succ])
          refine wpAnyH_take (i := 12) (v := .bool false) rfl (by kernel_rfl) (by kernel_rfl) (by kernel_rfl) (fun _ _ _ h => h) (Or.inl ⟨by rfl, fun w hSw => ?_⟩) hHeld ?_
          · (try dsimp only at hSw)
            first | go_simp | rfl
          (try simp only [Act.put, List.getElem_toArray, List.getElem_cons_zero, List.getElem_cons_succ, List.setIfInBounds_toArray, List.set_cons_zero, List.set_cons_succ])
          refine wpAnyH_take (i := 13) (v := .bool false) rfl (by kernel_rfl) (by kernel_rfl) (by kernel_rfl) (fun _ _ _ h => h) (Or.inl ⟨by rfl, fun w hSw => ?_⟩) hHeld ?_
          · (try dsimp only at hSw)
            first | go_simp | rfl
          (try simp only [Act.put, List.getElem_toArray, List.getElem_cons_zero, List.getElem_cons_succ, List.setIfInBounds_toArray, List.set_cons_zero, List.set_cons_succ])
          refine wpAnyH_take (i := 14) (v := undef) rfl (by kernel_rfl) (by kernel_rfl) (by kernel_rfl) (fun _ _ _ h => h) (Or.inr ⟨by rfl, rfl⟩) hHeld ?_
          (try simp only [Act.put, List.getElem_toArray, List.getElem_cons_zero, List.getElem_cons_succ, List.setIfInBounds_toArray, List.set_cons_zero, List.set_cons_succ])
          refine wpAnyH_take (i := 15) (v := undef) rfl (by kernel_rfl) (by kernel_rfl) (by kernel_rfl) (fun _ _ _ h => h) (Or.inr ⟨by rfl, rfl⟩) hHeld ?_
          (try simp only [Act.put, List.getElem_toArray, List.getElem_cons_zero, List.getElem_cons_succ, List.setIfInBounds_toArray, List.set_cons_zero, List.set_cons_succ])
          refine wpAnyH_take (i := 16) (v := undef) rfl (by kernel_rfl) (by kernel_rfl) (by kernel_rfl) (fun _ _ _ h => h) (Or.inr ⟨by rfl, rfl⟩) hHeld ?_
          (try simp only [Act.put, List.getElem_toArray, List.getElem_cons_zero, List.getElem_cons_succ, List.setIfInBounds_toArray, List.set_cons_zero, List.set_cons_succ])
          refine wpAnyH_take (i := 17) (v := undef) rfl (by kernel_rfl) (by kernel_rfl) (by kernel_rfl) (fun _ _ _ h => h) (Or.inr ⟨by rfl, rfl⟩) hHeld ?_
          (try simp only [Act.put, List.getElem_toArray, List.getElem_cons_zero, List.getElem_cons_succ, List.setIfInBounds_toArray, List.set_cons_zero, List.set_cons_succ])
          refine wpAnyH_take (i := 18) (v := undef) rfl (by kernel_rfl) (by kernel_rfl) (by kernel_rfl) (fun _ _ _ h => h) (Or.inr ⟨by rfl, rfl⟩) hHeld ?_
          (try simp only [Act.put, List.getElem_toArray, List.getElem_cons_zero, List.getElem_cons_succ, List.setIfInBounds_toArray, List.set_cons_zero, List.set_cons_succ])
          refine wpAnyH_take (i := 19) (v := undef) rfl (by kernel_rfl) (by kernel_rfl) (by kernel_rfl) (fun _ _ _ h => h) (Or.inr ⟨by rfl, rfl⟩) hHeld ?_
          (try simp only [Act.put, List.getElem_toArray, List.getElem_cons_zero, List.getElem_cons_succ, List.setIfInBounds_toArray, List.set_cons_zero, List.set_cons_succ])
          refine wpAnyH_take (i := 20) (v := undef) rfl (by kernel_rfl) (by kernel_rfl) (by kernel_rfl) (fun _ _ _ h => h) (Or.inr ⟨by rfl, rfl⟩) hHeld ?_
          (try simp only [Act.put, List.getElem_toArray, List.getElem_cons_zero, List.getElem_cons_succ, List.setIfInBounds_toArray, List.set_cons_zero, List.set_cons_succ])
          refine wpAnyH_take (i := 21) (v := .bool false) rfl (by kernel_rfl) (by kernel_rfl) (by kernel_rfl) (fun _ _ _ h => h) (Or.inl ⟨by rfl, fun w hSw => ?_⟩) hHeld ?_
          · (try dsimp only at hSw)
            first | go_simp | rfl
          (try simp only [Act.put, List.getElem_toArray, List.getElem_cons_zero, List.getElem_cons_succ, List.setIfInBounds_toArray, List.set_cons_zero, List.set_cons_succ])
          refine wpAnyH_take (i := 22) (v := .bool false) rfl (by kernel_rfl) (by kernel_rfl) (by kernel_rfl) (fun _ _ _ h => h) (Or.inl ⟨by rfl, fun w hSw => ?_⟩) hHeld ?_
          · (try dsimp only at hSw)
            first | go_simp | rfl
          (try simp only [Act.put, List.getElem_toArray, List.getElem_cons_zero, List.getElem_cons_succ, List.setIfInBounds_toArray, List.set_cons_zero, List.set_cons_succ])
          refine wpAnyH_done (by kernel_rfl) ?_ _
          go_wp2_with (fail)
          go_meet
          exact ⟨rfl, HB6.out⟩
        case rest =>
          obtain ⟨rfl, hcut⟩ := hcut
          have HC := Lib.hid hcut
          have hc3 := HB4.out.trans (hcut.mono HB4.out.size)
          have hc2 := HB3.out.trans (hc3.mono HB3.out.size)
          have hcr := HB2.out.trans (hc2.mono HB2.out.size)
          have kp := bytes_conv (HPS.out wc hc2)
          have ky := bytes_conv (HV.out wc hcr).1
          have HSA : Hid (∀ w', Below wc.heap.size wc w' → Calls Try.prog 16 #[.slice Aq R cq, .slice Aw R cw] w' fun e w'' => e = .returned (.bool true) ∧ Below w'.heap.size w' w'') := Lib.hid (fun w' hb => by
            have h := rsameAll_any (G := fun _ => True) (rts l) (fun u _ => rsame_any u) (rts l) (.slice Aq R cq) (.slice Aw R cw) w' (HKB.out w' (hc3.trans (hb.mono hc3.size))) (HV.out w' (hcr.trans (hb.mono hcr.size))).2.1
            rw [eqB_self] at h
            exact h)
          have HLW : Hid (∀ w', Below wc.heap.size wc w' → Below w.heap.size w w') := Lib.hid fun w' hb => (HV.out w' (hcr.trans (hb.mono hcr.size))).2.2
          clear hcut hc3 hc2 hcr
          go_wp2_with (fail)
          refine (HSA.out wc (Below.refl _ _)).mono ?_
          rintro e w8 ⟨rfl, hb8⟩
          have HB8 := Lib.hid hb8
          clear hb8
          go_wp2_with (fail)
          go_ret
          exact ⟨rfl, HLW.out _ HB8.out⟩
end Go.Proofs.Ytnjcapenkoemlaa.vt.ce

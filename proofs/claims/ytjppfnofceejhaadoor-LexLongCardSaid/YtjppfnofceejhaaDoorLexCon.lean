/- The package's functions. -/
import Derived.Test.YtjppfnofceejhaaDoorLexFirst
import Derived.OneCell
namespace Go.Proofs.YtjppfnofceejhaaDoor.lx
open Go.RowKit mem vt wd

def AllPost (l : List UInt8) (w : World) (e : Ending) (w' : World) : Prop :=
  ∃ v, e = .returned (.tuple #[v, .int .i64 (lexA l).2.1, .int .i64 (lexA l).1]) ∧ Got w.heap.size TokT 4 (lexA l).2.2.length (toksV (lexA l).2.2) v w w'
def LRel (s : ByteArray) (w : World) (tot : Int × Nat × List Tok) (o i : Value) (wr : World) : Prop :=
  ∃ (a n : Nat) (acc : List Tok), i = .int .i64 a ∧ a ≤ s.size ∧ n ≤ a ∧ Hid (n = acc.length) ∧ Hid (Got w.heap.size TokT 4 n (toksV acc) o w wr) ∧ Hid (glue acc (lexW (s.data.toList.drop a) a) = tot) ∧ Hid (Head (s.data.toList.drop a))
theorem size_list (s : ByteArray) : s.data.toList.length = s.size := by simp
set_option maxHeartbeats 1000000 in
theorem lall_any (s : ByteArray) (w : World) (hs : s.size ≤ 32768) (hL : LD w) : Calls Tryd.prog 7 #[.string s] w (AllPost s.data.toList w) := by
  by_cases hlong : 16384 < s.size
  · have HA : Hid (lexA s.data.toList = (3, 16384, [])) := Lib.hid (lexA_out (by rw [size_list]; exact hlong))
    have hl' : (16384 : Int) < (s.size : Int) := by omega
    have HG0 : Hid (Got w.heap.size TokT 4 0 (toksV []) (.slice none 0 0) w w) := Lib.hid (Got.nil_ _ _ _ _)
    go_enter Tryd.func7, Tryd.ntmps7
    go_wp2_with (fail)
    go_ret3
    unfold AllPost
    rw [HA.out]
    exact ⟨_, rfl, HG0.out⟩
  have hl' : decide ((16384 : Int) < (s.size : Int)) = false := by rw [decide_eq_false_iff_not]; omega
  obtain ⟨tot, htot⟩ : ∃ tot, tot = lexA s.data.toList := ⟨_, rfl⟩
  have HT : Hid (glue [] (lexW (s.data.toList.drop (blankF s.data.toList)) (blankF s.data.toList)) = tot) := Lib.hid (by
    rw [htot, lexA_in (by rw [size_list]; omega)]
    have h := blank_lex s.data.toList 0
    rw [Nat.zero_add] at h
    rw [← h]
    exact glue_nil _ (lex_zero _ _ _ (Nat.le_refl _)))
  have HG0 : ∀ q, Hid (Got w.heap.size TokT 4 0 (toksV []) (.slice none 0 0) w (w.drewN q)) := fun q => Lib.hid ((Got.nil_ _ _ _ _).drewN q)
  have HBL := Lib.hid (blanks_any s w (by omega))
  have HH0 := Lib.hid (blank_head s.data.toList)
  have hle0 := blank_le s.data.toList
  rw [size_list] at hle0
  obtain ⟨a0, ha0⟩ : ∃ a, a = blankF s.data.toList := ⟨_, rfl⟩
  rw [← ha0] at HT HBL HH0 hle0
  have HP : Hid (∀ e w', (∃ v, e = .returned (.tuple #[v, .int .i64 tot.2.1, .int .i64 tot.1]) ∧ Got w.heap.size TokT 4 tot.2.2.length (toksV tot.2.2) v w w') → AllPost s.data.toList w e w') := Lib.hid (by
    intro e w' h
    unfold AllPost
    rw [← htot]
    exact h)
  have HLD := Lib.hid hL
  clear htot ha0 hlong hL
  go_enter Tryd.func7, Tryd.ntmps7
  go_wp2_with (fail)
  refine HBL.out.mono ?_
  rintro e w1 ⟨rfl, q0, rfl⟩
  go_wp2_with (fail)
  go_loopw [5, 6] (fun o i wr => LRel s w tot o i wr) (fun _ i _ => s.size - (intOf i).toNat)
  case atStart => unfold LRel; exact ⟨a0, 0, [], rfl, hle0, Nat.zero_le _, Lib.hid rfl, HG0 _, HT, HH0⟩
  case round =>
    unfold LRel at hrel
    clear HG0 HT HH0 HBL hle0
    obtain ⟨a, n, acc, rfl, ha, hn, HN, HG, HE, HH⟩ := hrel
    obtain ⟨A1, c1, rfl⟩ := own_form HG.out.1
    have hBr : w.heap.size ≤ wr.heap.size := HG.out.2.size
    by_cases hlt : a < s.size
    · have hsl := fun w => rest_cut s a ha w
      have HO := Lib.hid (first_any (restB s a) wr (by rw [restB_size]; omega) (by rw [restB_size]; omega) (HLD.out.on HG.out.2))
      rw [restB_list] at HO
      have HBAD : Hid ((headF (s.data.toList.drop a)).1 ≠ 0 → tot = ((headF (s.data.toList.drop a)).1, a, [])) := Lib.hid (fun h => head_bad (by rw [drop_cons s a hlt]; exact List.cons_ne_nil _ _) HH.out HE.out h)
      have HLEN : Hid ((headF (s.data.toList.drop a)).1 = 0 → 1 ≤ (headF (s.data.toList.drop a)).2.2.2.length ∧ a + (headF (s.data.toList.drop a)).2.2.2.length ≤ s.size) := Lib.hid (fun h => by
        have h1 := head_len h
        rw [List.length_drop, size_list] at h1
        omega)
      have HOK : Hid (∀ k m t, headF (s.data.toList.drop a) = (0, k, m, t) → glue (acc ++ [⟨k, a, m, t⟩]) (lexW ((s.data.toList.drop (a + t.length)).drop (blankF (s.data.toList.drop (a + t.length)))) (a + t.length + blankF (s.data.toList.drop (a + t.length)))) = tot) := Lib.hid (fun k m t h => by
        have h1 := head_step HE.out h
        have e : (s.data.toList.drop a).drop t.length = s.data.toList.drop (a + t.length) := List.drop_drop
        rw [e] at h1
        exact h1)
      obtain ⟨⟨er, k, m, t⟩, hr⟩ : ∃ r, r = headF (s.data.toList.drop a) := ⟨_, rfl⟩
      rw [← hr] at HO HBAD HLEN HOK
      simp only at HBAD HLEN
      unfold oneRes tokA at HO
      simp only [show ((0 : Nat) : Int) = 0 from rfl] at HO
      clear hr HE HH
      go_wp2_with (fail)
      refine HO.out.mono ?_
      rintro e1 w1 ⟨rfl, hb⟩
      have HG2 : Hid (Got w.heap.size TokT 4 n (toksV acc) (.slice A1 n c1) w w1) := Lib.hid ⟨own_below HG.out.1 hb, HG.out.2.trans (hb.mono hBr)⟩
      have hB1 : w.heap.size ≤ w1.heap.size := HG2.out.2.size
      clear hb HO HG
      by_cases he : er = 0
      · subst he
        have HOK2 := Lib.hid (HOK.out k m t rfl)
        obtain ⟨hl1, hl2⟩ := HLEN.out rfl
        clear HBAD HLEN HOK
        obtain ⟨w2, hw2⟩ : ∃ w2, w2 = w1.alloc (.cells #[.int .i64 k, .int .i64 0, .int .i64 m, .string ⟨t.toArray⟩] TokT) := ⟨_, rfl⟩
        have HW2 := Lib.hid hw2
        have BX : Box w2 w1.heap.size TokT #[.int .i64 k, .int .i64 0, .int .i64 m, .string ⟨t.toArray⟩] := by rw [hw2]; exact Box.new _ _ _ _ rfl
        obtain ⟨w3, hw3⟩ : ∃ w3, w3 = w2.setCell ⟨w1.heap.size, 1, none⟩ (.int .i64 a) := ⟨_, rfl⟩
        have HW3 := Lib.hid hw3
        have HX : Hid (Box w3 w1.heap.size TokT #[.int .i64 k, .int .i64 a, .int .i64 m, .string ⟨t.toArray⟩]) := Lib.hid (by rw [hw3]; exact BX.set 1 _)
        have HNE : Hid (some w1.heap.size ≠ (Value.slice A1 n c1).ownBlock) := Lib.hid (fun e => by have := (HG2.out.1.lt _ e.symm).2; omega)
        have HG3 : Hid (Got w.heap.size TokT 4 n (toksV acc) (.slice A1 n c1) w w3) := Lib.hid (by
          rw [hw3, hw2]
          exact ⟨ownsRow_setCell_other (HG2.out.1.alloc _) HNE.out.symm _, (HG2.out.2.alloc hB1 _).setCell (by dsimp only; omega) _⟩)
        have hB3 : w.heap.size ≤ w3.heap.size := HG3.out.2.size
        have f0 := BX.frozen 0
        have f1 := BX.frozen 1
        have f2 := BX.frozen 2
        have f3 := BX.frozen 3
        have y0 := HX.out.cell 0
        have y1 := HX.out.cell 1
        have y2 := HX.out.cell 2
        have y3 := HX.out.cell 3
        have z0 := BX.cell 0
        have z1 := BX.cell 1
        have z2 := BX.cell 2
        have z3 := BX.cell 3
        simp only [List.getElem?_toArray, List.getElem?_cons_zero, List.getElem?_cons_succ] at y0 y1 y2 y3 z0 z1 z2 z3
        have hsl2 := fun w => rest_cut s (a + t.length) hl2 w
        have hsl3 : ∀ w, (Instr.slice 9 (.string s) (some (.int .i64 ((a : Int) + (t.length : Int)))) none none).run Tryd.prog w = .ok (.string (restB s (a + t.length))) w := fun w => by
          have h := hsl2 w
          rw [show ((a + t.length : Nat) : Int) = (a : Int) + (t.length : Int) by omega] at h
          exact h
        have HBN := fun w => Lib.hid (blanks_any (restB s (a + t.length)) w (by rw [restB_size]; omega))
        rw [restB_list] at HBN
        have HNH := Lib.hid (blank_head (s.data.toList.drop (a + t.length)))
        have hbl := blank_le (s.data.toList.drop (a + t.length))
        rw [List.length_drop, size_list] at hbl
        have eDD : (s.data.toList.drop (a + t.length)).drop (blankF (s.data.toList.drop (a + t.length))) = s.data.toList.drop (a + t.length + blankF (s.data.toList.drop (a + t.length))) := List.drop_drop
        rw [eDD] at HNH HOK2
        obtain ⟨M, hM⟩ : ∃ M, M = blankF (s.data.toList.drop (a + t.length)) := ⟨_, rfl⟩
        rw [← hM] at HBN HNH HOK2 hbl
        have HSZ : Hid (w2.heap.size = w3.heap.size) := Lib.hid (by rw [hw3]; exact (World.size_setCell _ _ _).symm)
        clear hM eDD hsl2 HG2 BX hw2 hw3
        go_wp2_with (first | (at_builtin; (change wpList _ _ _ _ _ ((w2.setCell ⟨w1.heap.size, 1, none⟩ (.int .i64 a)).alloc (.cells (tokV ⟨k, a, m, t⟩).toArray TokT)); rw [← HW3.out]); refine wpList_tok rfl (.tmp 37) (.tmp 39) rfl w.heap.size n acc ⟨k, a, m, t⟩ (.slice A1 n c1) w2.heap.size rfl rfl HG3.out (by omega) hB3 HSZ.out ?_; intro v' w' hq hgr; have hx3 := ((HX.out.alloc _).grown hgr HNE.out).cell 3; have HQ := Lib.hid hq; clear hq hgr f0 f1 f2 f3 y0 y1 y2 y3 z0 z1 z2 z3; simp only [List.getElem?_toArray, List.getElem?_cons_zero, List.getElem?_cons_succ] at hx3) | (rw [← HW2.out]) | (go_at_call 11; refine (HBN _).out.mono ?_; rintro e2 w5 ⟨rfl, q5, rfl⟩; have HQ5 := Lib.hid (HQ.out.drewN q5); clear HQ hx3))
        go_roundw
        case rel => unfold LRel; exact ⟨a + t.length + M, n + 1, acc ++ [⟨k, a, m, t⟩], by go_num, by omega, by omega, Lib.hid (by rw [List.length_append, ← HN.out]; rfl), HQ5, HOK2, HNH⟩
        case measure => simp [intOf]; omega
      · have e0 : (er == 0) = false := by rw [beq_eq_false_iff_ne]; exact he
        have HB2 := Lib.hid (HBAD.out he)
        clear HBAD HOK HLEN
        go_wp2_with (fail)
        go_ret3
        exact HP.out _ _ ⟨_, by rw [HB2.out]; rfl, by rw [HB2.out]; exact ⟨World.ownsRow_nil _ _ _ _, HG2.out.2.alloc hB1 _⟩⟩
    · obtain rfl : a = s.size := by omega
      have HF : Hid (tot = (0, 0, acc ++ [⟨0, s.size, 0, []⟩])) := Lib.hid (by
        rw [← HE.out, List.drop_eq_nil_of_le (by simp), lex_nil]; rfl)
      clear HE HH
      go_wp2_with (at_builtin; refine wpList_tok rfl (.tmp 46) (.tmp 50) rfl w.heap.size n acc ⟨0, s.size, 0, []⟩ (.slice A1 n c1) wr.heap.size rfl rfl HG.out (by omega) hBr rfl ?_; intro v' w' hq _)
      go_ret3
      exact HP.out _ _ ⟨v', by rw [HF.out]; rfl, by rw [HF.out]; simp only [List.length_append, List.length_cons, List.length_nil, ← HN.out]; exact hq⟩
/-- a row of texts of the call's own, put together with a blank between any two -/
theorem join_row (T : List (List UInt8)) (v : Value) (w : World) (B : Nat) (n : Nat) (hn : n = T.length) (h : w.ownsRow B 9 1 v n (strV T)) (hT : T.length ≤ 1048576) (hl : (Lib.join T [32]).length ≤ 1048576) :
    Calls Tryd.prog 15 #[v, .string ⟨#[32]⟩] w fun e w' => e = .returned (.string ⟨(Lib.join T [32]).toArray⟩) ∧ Below w.heap.size w w' := by
  subst hn
  have hx : (T.map fun t => (⟨t.toArray⟩ : ByteArray)).map (·.data.toList) = T := by
    rw [List.map_map]
    conv => rhs; rw [← List.map_id T]
    apply List.map_congr_left
    intro t _
    simp
  have none_ : ∀ a c, T = [] → Calls Tryd.prog 15 #[.slice a 0 c, .string ⟨#[32]⟩] w fun e w' => e = .returned (.string ⟨(Lib.join T [32]).toArray⟩) ∧ Below w.heap.size w w' := fun a c h0 => by
    subst h0
    exact (Any.strings_Join_none Tryd.lays156 Tryd.Builder_Extra_156 a c ⟨#[32]⟩ w).mono fun e w' ⟨he, hw⟩ => ⟨he, by rw [hw]; exact Below.refl _ _⟩
  rcases h.2 with ⟨rfl, h0⟩ | ⟨g, cap, cur, rfl, hb, hg, hnc, hcm, hcs, htake⟩
  · have hT0 : T = [] := List.eq_nil_of_length_eq_zero h0
    exact none_ none 0 hT0
  · have hj := Tryd.strings_Join g 0 cap (T.map fun t => (⟨t.toArray⟩ : ByteArray)) ⟨#[32]⟩ w (fun j x hj => by
      rw [List.getElem?_map] at hj
      obtain ⟨t, ht, rfl⟩ := Option.map_eq_some_iff.1 hj
      rw [Nat.zero_add, cell_of_row w g j cur _ (0, 0) hg]
      have hu : (strV T)[j]? = some (.string ⟨t.toArray⟩) := by unfold strV; rw [List.getElem?_map, ht]; rfl
      rw [← htake, List.getElem?_take] at hu
      split at hu
      · simpa using hu
      · cases hu) (Array.getElem?_eq_some_iff.1 hg).1 (by rw [List.length_map]; omega) (by rw [List.length_map]; exact hnc) (by rw [hx]; show (Lib.join T [32]).length ≤ _; omega)
    rw [hx, List.length_map] at hj
    exact hj
def SRel (l : List Tok) (w : World) (o i : Value) (wr : World) : Prop :=
  ∃ k n : Nat, i = .int .i64 k ∧ k ≤ l.length ∧ n ≤ k ∧ Hid (n = (textsOf (l.take k)).length) ∧ Hid (Got w.heap.size 9 1 n (strV (textsOf (l.take k))) o w wr)
set_option maxHeartbeats 1000000 in
theorem lspell_any (l : List Tok) (v : Value) (w : World) (B : Nat) (h : TokS B w l v) (hB : B ≤ w.heap.size) (hl : (tailS l).length ≤ 32768) (hn : l.length ≤ 32768) : Calls Tryd.prog 10 #[v] w fun e w' => e = .returned (.string ⟨(spellL l).toArray⟩) ∧ Below w.heap.size w w' := by
  obtain ⟨i0, hi, hz0, hz1, hz2⟩ := info_parts infoStr
  obtain ⟨A, c, rfl⟩ := h.form
  have HS := Lib.hid h
  have HJ := fun v w1 n hn hr => Lib.hid (join_row (textsOf l) v w1 w.heap.size n hn hr (by have := texts_len l; omega) (by have := join_len l; omega))
  have HSP := Lib.hid (spell_join l)
  have HG0 : Hid (Got w.heap.size 9 1 0 (strV []) (.slice none 0 0) w w) := Lib.hid (Got.nil_ _ _ _ _)
  obtain ⟨N, hN⟩ : ∃ N, N = l.length := ⟨_, rfl⟩
  rw [← hN] at hn ⊢
  have HN := Lib.hid hN
  clear hN h hl
  go_enter Tryd.func10, Tryd.ntmps10
  go_wp2_with (fail)
  go_loopw [3, 8] (fun o i wr => SRel l w o i wr) (fun _ i _ => N - (intOf i).toNat)
  case atStart => unfold SRel; exact ⟨0, 0, rfl, Nat.zero_le _, Nat.le_refl _, Lib.hid rfl, HG0⟩
  case round =>
    unfold SRel at hrel
    clear HG0
    obtain ⟨k, n, rfl, hk, hnk, HL, HG⟩ := hrel
    rw [← HN.out] at hk
    obtain ⟨A2, c2, rfl⟩ := own_form HG.out.1
    by_cases hlt : k < N
    · have hlt' : (k : Int) < (N : Int) := by omega
      have hkl : k < l.length := by rw [← HN.out]; exact hlt
      have HST := Lib.hid (texts_take l k hkl)
      obtain ⟨b, off, rfl, _, x⟩ := TokS.cells (HS.out.below (HG.out.2.mono hB)) (by omega)
      obtain ⟨x0, x1, x2, x3⟩ := x k hkl
      obtain ⟨t, ht⟩ : ∃ t, t = l[k] := ⟨_, rfl⟩
      rw [← ht] at x0 x1 x2 x3 HST
      clear ht x
      obtain ⟨tk, tp, tn, tt⟩ := t
      simp only at x0 x1 x2 x3 HST
      obtain ⟨w2, hw2⟩ : ∃ w2, w2 = wr.alloc (.cells #[.int .i64 tk, .int .i64 tp, .int .i64 tn, .string ⟨tt.toArray⟩] TokT) := ⟨_, rfl⟩
      have HW2 := Lib.hid hw2
      have BX : Box w2 wr.heap.size TokT #[.int .i64 tk, .int .i64 tp, .int .i64 tn, .string ⟨tt.toArray⟩] := by rw [hw2]; exact Box.new _ _ _ _ rfl
      have hBr : w.heap.size ≤ wr.heap.size := HG.out.2.size
      have HG2 : Hid (Got w.heap.size 9 1 n (strV (textsOf (l.take k))) (.slice A2 n c2) w w2) := Lib.hid (by
        rw [hw2]
        exact ⟨HG.out.1.alloc _, HG.out.2.alloc hBr _⟩)
      have hB2 : w.heap.size ≤ w2.heap.size := HG2.out.2.size
      have y0 := BX.cell 0
      have y3 := BX.cell 3
      simp only [List.getElem?_toArray, List.getElem?_cons_zero, List.getElem?_cons_succ] at y0 y3
      clear hw2 BX
      by_cases hk0 : tk = 0
      · subst hk0
        rw [if_pos rfl, List.append_nil] at HST
        go_wp2_with (rw [← HW2.out])
        go_roundw
        case rel => unfold SRel; exact ⟨k + 1, n, by go_num, by rw [← HN.out]; omega, by omega, by rw [HST.out]; exact HL, by rw [HST.out]; exact HG2⟩
        case measure => simp [intOf]; omega
      · have k0 : (tk == 0) = false := by rw [beq_eq_false_iff_ne]; exact hk0
        rw [if_neg hk0] at HST
        have ho1 := HG2.out.1
        go_wp2_with (first | (at_builtin; refine wpList_append_own _ rfl _ _ 39 rfl w.heap.size 9 i0 (.string ⟨#[]⟩) 1 16 Tryd.underlying39 hi hz0 hz1 hz2 rfl (by decide) _ _ _ rfl (ho1.alloc _) ⟨w2.heap.size, 0, none⟩ 1 1 [.string ⟨tt.toArray⟩] rfl rfl (new_one _ _ _) (by intro u hu; simp at hu; subst hu; rfl) (by unfold maxLen; omega) (by omega) (by simp; omega) ?_; intro v' w3 hown' hgrow _) | (rw [← HW2.out]))
        have HG3 := Lib.hid (Got.app HG2.out hB2 hown' hgrow)
        clear hown' hgrow ho1
        go_roundw
        case rel => unfold SRel; exact ⟨k + 1, n + 1, by go_num, by rw [← HN.out]; omega, by omega, Lib.hid (by rw [HST.out, List.length_append, ← HL.out]; rfl), by rw [HST.out]; unfold strV; rw [List.map_append]; exact HG3⟩
        case measure => simp [intOf]; omega
    · obtain rfl : k = N := by omega
      rw [HN.out, List.take_length] at HG HL
      have HJ2 := HJ _ wr n HL.out HG.out.1
      have HB := Lib.hid HG.out.2
      clear HG
      go_wp2_with (fail)
      refine HJ2.out.mono ?_
      rintro e w2 ⟨rfl, hb⟩
      go_wp2_with (fail)
      go_ret
      exact ⟨by rw [HSP.out]; rfl, HB.out.trans (hb.mono HB.out.size)⟩
end Go.Proofs.YtjppfnofceejhaaDoor.lx

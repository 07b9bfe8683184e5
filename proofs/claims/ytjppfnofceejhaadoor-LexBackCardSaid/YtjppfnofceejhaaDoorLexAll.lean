/- The document's own list of tokens. -/
import Derived.Test.YtjppfnofceejhaaDoorLexOne
import Derived.Test.YtjppfnofceejhaaDoorMine
namespace Go.Proofs.YtjppfnofceejhaaDoor.lx
open Go.RowKit mem vt wd

def tokV (t : Tok) : List Value := [.int .i64 t.kind, .int .i64 t.at_, .int .i64 t.n, .string ⟨t.text.toArray⟩]
def toksV (l : List Tok) : List Value := l.flatMap tokV
theorem toksV_append (a b : List Tok) : toksV (a ++ b) = toksV a ++ toksV b := by unfold toksV; rw [List.flatMap_append]
theorem toksV_one (t : Tok) : toksV [t] = tokV t := by unfold toksV; simp
theorem toksV_len (l : List Tok) : (toksV l).length = l.length * 4 := by
  induction l with
  | nil => rfl
  | cons t l ih => rw [show toksV (t :: l) = tokV t ++ toksV l from rfl, List.length_append, ih, List.length_cons]; show 4 + _ = _; omega
theorem toksV_at : ∀ (l : List Tok) (k j : Nat) (h : k < l.length), j < 4 → (toksV l)[k * 4 + j]? = (tokV l[k])[j]?
  | t :: l, 0, j, _, hj => by
    rw [show toksV (t :: l) = tokV t ++ toksV l from rfl, List.getElem?_append_left (by show _ < 4; omega)]
    simp
  | t :: l, k + 1, j, h, hj => by
    rw [show toksV (t :: l) = tokV t ++ toksV l from rfl, List.getElem?_append_right (by show 4 ≤ _; omega), show (k + 1) * 4 + j - (tokV t).length = k * 4 + j by show _ - 4 = _; omega]
    exact toksV_at l k j (by simpa using h) hj
theorem infoTok : (Tryd.prog.info? 31).map (fun i => (i.zero, i.size, i.bytes)) = some (some (.agg #[.int .i64 0, .int .i64 0, .int .i64 0, .string ⟨#[]⟩]), 4, 40) := by kernel_rfl
theorem tok_one (t : Tok) : ∀ u ∈ tokV t, u.oneCell' = true := by
  intro u hu; simp [tokV] at hu; rcases hu with rfl | rfl | rfl | rfl <;> rfl
theorem tok_new (w : World) (t : Tok) (ty : TypeId) : ∀ j u, (tokV t)[j]? = some u → (w.alloc (.cells (tokV t).toArray ty)).cell? ((⟨w.heap.size, 0, none⟩ : Addr).add j) = some u := by
  intro j u hj
  have h := (Box.new w ty (tokV t).toArray w.heap.size rfl).cell j
  have e : (⟨w.heap.size, 0, none⟩ : Addr).add j = ⟨w.heap.size, j, none⟩ := by unfold Addr.add; simp; omega
  rw [e, h]
  simpa using hj
abbrev TokT : TypeId := 31
/-- the append of one token, met in a walk -/
theorem wpList_tok {w wr : World} {ops : Array Oper} {rest : List Oper} {o : Oper} {a : Act} {Q : Exit → Act → World → Prop} (hgd : o.guard = none) (s x : Operand)
    (ho : o.op = .call { callee := .builtin .append, args := #[s, x], argTypes := #[23, 23] }) (B n : Nat) (acc : List Tok) (t : Tok) (v : Value) (H : Nat)
    (hs : a.eval s = v) (hx : a.eval x = .slice (some ⟨H, 0, none⟩) 1 1) (hg : Got B TokT 4 n (toksV acc) v w wr) (hl : n ≤ 1099511627776) (hB : B ≤ wr.heap.size) (hH : H = wr.heap.size)
    (h : ∀ v' w', Got B TokT 4 (n + 1) (toksV (acc ++ [t])) v' w w' → (wr.alloc (.cells (tokV t).toArray TokT)).grownBy w' v.ownBlock → wpList Tryd.prog ops Q rest (a.put o.dst v') w') :
    wpList Tryd.prog ops Q (o :: rest) a (wr.alloc (.cells (tokV t).toArray TokT)) := by
  obtain ⟨i0, hi, hz0, hz1, hz2⟩ := info_parts infoTok
  subst hH
  refine wpList_append_mine hgd s x 23 ho B TokT i0 (.agg #[.int .i64 0, .int .i64 0, .int .i64 0, .string ⟨#[]⟩]) 4 40 Tryd.underlying23 hi hz0 hz1 hz2 rfl (by decide) v n (toksV acc) hs (hg.1.alloc _) ⟨wr.heap.size, 0, none⟩ 1 1 (tokV t) hx rfl (tok_new wr t TokT) (tok_one t) (by unfold maxLen; omega) (by omega) (by simp; omega) ?_
  intro v' w' h1 h2 h3
  refine h v' w' ?_ h2
  rw [toksV_append, toksV_one]
  exact hg.app hB h1 h2
theorem one_any (s : ByteArray) (p : Nat) (w : World) (hs : s.size ≤ 1048576) (hp : p < s.size) :
    Calls Tryd.prog 14 #[.string s, .int .i64 p] w fun e w' => e = .returned (oneRes p (oneF (s.data.toList.drop p))) ∧ Below w.heap.size w w' := by
  by_cases h1 : clsN s[p].toNat = 1
  · exact one_name s p w hs hp h1
  · by_cases h2 : clsN s[p].toNat = 2
    · exact one_num s p w hs hp h2
    · exact one_other s p w hs hp h1 h2
/-! ### the whole -/
def glue (acc : List Tok) (r : Int × Nat × List Tok) : Int × Nat × List Tok := if r.1 = 0 then (0, 0, acc ++ r.2.2) else r
def AllRel (s : ByteArray) (w : World) (tot : Int × Nat × List Tok) (o i : Value) (wr : World) : Prop :=
  ∃ (a n : Nat) (acc : List Tok), i = .int .i64 a ∧ a ≤ s.size ∧ n ≤ a ∧ Hid (n = acc.length) ∧ Hid (Got w.heap.size TokT 4 n (toksV acc) o w wr) ∧ Hid (glue acc (lexW (s.data.toList.drop a) a) = tot)
theorem glue_nil (r : Int × Nat × List Tok) (h : r.1 = 0 → r.2.1 = 0) : glue [] r = r := by
  unfold glue
  split
  · rename_i h0
    rw [List.nil_append]
    obtain ⟨x, y, z⟩ := r
    have h1 := h h0
    simp only at h0 h1
    rw [h0, h1]
  · rfl
theorem consR_zero (t : Tok) (r : Int × Nat × List Tok) : (consR t r).1 = 0 → (consR t r).2.1 = 0 := by
  unfold consR
  split
  · intro _; rfl
  · rename_i h; intro h0; exact absurd h0 h
theorem lex_zero : ∀ (N : Nat) (l : List UInt8) (p : Nat), l.length ≤ N → (lexW l p).1 = 0 → (lexW l p).2.1 = 0
  | N, [], p, _, _ => by rw [lex_nil]
  | 0, c :: l, p, h, _ => by simp at h
  | N + 1, c :: l, p, h, h0 => by
    by_cases h3 : cls c = 3
    · rw [lex_blank h3] at h0 ⊢; exact lex_zero N l _ (by simpa using h) h0
    · by_cases h4 : cls c = 4
      · rw [lex_rem h4] at h0 ⊢
        have := dropRem_len l
        exact lex_zero N _ _ (by simp at h; omega) h0
      · by_cases hb : (oneF (c :: l)).1 = 0
        · rw [lex_tok h3 h4 l p hb] at h0 ⊢; exact consR_zero _ _ h0
        · rw [lex_bad h3 h4 l p hb] at h0; exact absurd h0 hb
theorem tw_self (l : List UInt8) : l.takeWhile no10 = l.takeWhile no10 := rfl
theorem drop_rem (s : ByteArray) (a : Nat) (h : a < s.size) (h4 : cls s[a] = 4) : dropRem (s.data.toList.drop (a + 1)) = s.data.toList.drop (runE s no10 a) ∧ a + 1 + ((s.data.toList.drop (a + 1)).takeWhile no10).length = runE s no10 a := by
  have hn : no10 s[a] = true := by
    unfold no10
    rw [Bool.not_eq_true', beq_eq_false_iff_ne]
    intro e
    rw [e] at h4
    revert h4; decide
  have e : (s.data.toList.drop a).takeWhile no10 = s[a] :: (s.data.toList.drop (a + 1)).takeWhile no10 := by
    rw [drop_cons s a h, List.takeWhile_cons, if_pos hn]
  have e2 : runE s no10 a = a + 1 + ((s.data.toList.drop (a + 1)).takeWhile no10).length := by unfold runE; rw [e, List.length_cons]; omega
  refine ⟨?_, e2.symm⟩
  have hd : s.data.toList.drop (a + 1 + ((s.data.toList.drop (a + 1)).takeWhile no10).length) = (s.data.toList.drop (a + 1)).drop ((s.data.toList.drop (a + 1)).takeWhile no10).length := (List.drop_drop).symm
  rw [e2, hd]
  obtain ⟨D, hD⟩ : ∃ D, D = s.data.toList.drop (a + 1) := ⟨_, rfl⟩
  rw [← hD]
  have hl := dropRem_take D
  have : ∀ (A B : List UInt8), (A ++ B).drop A.length = B := fun A B => List.drop_left
  conv => rhs; arg 2; rw [hl]
  exact (this _ _).symm
theorem oneF_len {l : List UInt8} (h : (oneF l).1 = 0) : 1 ≤ (oneF l).2.2.2.length ∧ (oneF l).2.2.2.length ≤ l.length := by
  obtain ⟨e, k, n, t⟩ : ∃ r : Int × Int × Int × List UInt8, r = oneF l := ⟨_, rfl⟩
  have hh : oneF l = (0, (oneF l).2.1, (oneF l).2.2.1, (oneF l).2.2.2) := by rw [← h]
  obtain ⟨_, h2, ⟨c, r, ht, _⟩, _⟩ := one_tok hh
  exact ⟨by rw [ht]; simp, h2⟩
theorem glue_cons (acc : List Tok) (t : Tok) (r : Int × Nat × List Tok) : glue acc (consR t r) = glue (acc ++ [t]) r := by
  unfold glue consR
  by_cases h : r.1 = 0
  · simp [h]
  · simp [h]
/-- a token's place in the loop -/
theorem glue_step {s : ByteArray} {a : Nat} {acc : List Tok} {tot : Int × Nat × List Tok} (ha : a < s.size) (h3 : cls s[a] ≠ 3) (h4 : cls s[a] ≠ 4) (hE : glue acc (lexW (s.data.toList.drop a) a) = tot) {k n : Int} {t : List UInt8} (h : oneF (s.data.toList.drop a) = (0, k, n, t)) :
    glue (acc ++ [⟨k, a, n, t⟩]) (lexW (s.data.toList.drop (a + t.length)) (a + t.length)) = tot := by
  rw [← hE, lex_one h, glue_cons, List.drop_drop]
theorem glue_bad {s : ByteArray} {a : Nat} {acc : List Tok} {tot : Int × Nat × List Tok} (ha : a < s.size) (h3 : cls s[a] ≠ 3) (h4 : cls s[a] ≠ 4) (hE : glue acc (lexW (s.data.toList.drop a) a) = tot) {e k n : Int} {t : List UInt8} (h : oneF (s.data.toList.drop a) = (e, k, n, t)) (he : e ≠ 0) :
    tot = (e, a, []) := by
  rw [← hE]
  rw [drop_cons s a ha] at h ⊢
  rw [lex_bad h3 h4 _ _ (by rw [h]; exact he), h]
  unfold glue
  rw [if_neg he]
set_option maxHeartbeats 1000000 in
theorem rlall_any (s : ByteArray) (w : World) (hs : s.size ≤ 16384) :
    Calls Tryd.prog 8 #[.string s] w fun e w' => ∃ v, e = .returned (.tuple #[v, .int .i64 (lexW s.data.toList 0).2.1, .int .i64 (lexW s.data.toList 0).1]) ∧ Got w.heap.size TokT 4 (lexW s.data.toList 0).2.2.length (toksV (lexW s.data.toList 0).2.2) v w w' := by
  obtain ⟨tot, htot⟩ : ∃ tot, tot = lexW s.data.toList 0 := ⟨_, rfl⟩
  rw [← htot]
  have HT : Hid (glue [] (lexW (s.data.toList.drop 0) 0) = tot) := Lib.hid (by
    rw [htot, List.drop_zero]; exact glue_nil _ (lex_zero _ _ _ (Nat.le_refl _)))
  have HG0 : Hid (Got w.heap.size TokT 4 0 (toksV []) (.slice none 0 0) w w) := Lib.hid (Got.nil_ _ _ _ _)
  clear htot
  go_enter Tryd.func8, Tryd.ntmps8
  go_wp2_with (fail)
  go_loopw [5, 6] (fun o i wr => AllRel s w tot o i wr) (fun _ i _ => s.size - (intOf i).toNat)
  case atStart => unfold AllRel; exact ⟨0, 0, [], rfl, by omega, by omega, Lib.hid rfl, HG0, HT⟩
  case round =>
    unfold AllRel at hrel
    obtain ⟨a, n, acc, rfl, ha, hn, HN, HG, HE⟩ := hrel
    obtain ⟨A1, c1, rfl⟩ := own_form HG.out.1
    have hBr : w.heap.size ≤ wr.heap.size := HG.out.2.size
    by_cases hlt : a < s.size
    · obtain ⟨K, hKK⟩ : ∃ K, K = clsN s[a].toNat := ⟨_, rfl⟩
      have hcl : ∀ w, Hid (Calls Tryd.prog 13 #[.int .u8 s[a].toNat] w fun e w' => e = .returned (.int .i64 K) ∧ w = w') := fun w => Lib.hid (by
        have h := class_any s[a].toNat w (by have := s[a].toNat_lt; omega)
        rw [← hKK] at h; exact h)
      by_cases h3 : K = 3
      · subst h3
        have HN2 : Hid (glue acc (lexW (s.data.toList.drop (a + 1)) (a + 1)) = tot) := Lib.hid (by
          rw [← HE.out, drop_cons s a hlt, lex_blank (show cls s[a] = 3 from hKK.symm)])
        clear hKK
        go_wp2_with (first | (go_at_call 13; refine (hcl _).out.mono ?_; rintro e w1 ⟨rfl, rfl⟩))
        go_roundw
        case rel => unfold AllRel; exact ⟨a + 1, n, acc, by go_num, by omega, by omega, HN, HG, HN2⟩
        case measure => simp [intOf]; omega
      · have k3 : (K == 3) = false := by rw [beq_eq_false_iff_ne]; exact h3
        by_cases h4 : K = 4
        · subst h4
          obtain ⟨E, hE⟩ : ∃ E, E = runE s no10 a := ⟨_, rfl⟩
          obtain ⟨hE1, hE2⟩ := run_le s no10 a (by omega)
          obtain ⟨d1, d2⟩ := drop_rem s a hlt hKK.symm
          have HN2 : Hid (glue acc (lexW (s.data.toList.drop E) E) = tot) := Lib.hid (by
            rw [← HE.out, drop_cons s a hlt, lex_rem (show cls s[a] = 4 from hKK.symm), d1, d2, hE])
          rw [← hE] at hE1 hE2
          have hlt2 : a < E := by rw [hE, ← d2]; omega
          have HR := Lib.hid hE
          clear hKK d1 d2 hE
          go_wp2_with (first | (go_at_call 13; refine (hcl _).out.mono ?_; rintro e w1 ⟨rfl, rfl⟩))
          go_loop [6] (fun i => ∃ e : Nat, i = .int .i64 e ∧ a ≤ e ∧ e ≤ E) (fun i => s.size - (intOf i).toNat)
          case atStart => exact ⟨a, rfl, by omega, by omega⟩
          case round =>
            obtain ⟨e, rfl, he1, he2⟩ := hrel
            by_cases hle : e < E
            · obtain ⟨hes, hld⟩ := run_inside s no10 a e he1 (by rw [← HR.out]; exact hle)
              have hK : ((s[e].toNat : Int) == 10) = false := by
                unfold no10 at hld
                rw [Bool.not_eq_true', beq_eq_false_iff_ne] at hld
                rw [beq_eq_false_iff_ne]
                intro h
                apply hld
                apply UInt8.toNat_inj.1
                show _ = 10
                omega
              clear hld
              go_wp2_with (fail)
              go_round
              case rel => exact ⟨e + 1, by go_num, by omega, by omega⟩
              case measure => simp [intOf]; omega
            · obtain rfl : e = E := by omega
              by_cases hes : e < s.size
              · have hno := run_end s no10 a (by rw [← HR.out]; exact hes)
                simp only [← HR.out] at hno
                have hK : ((s[e].toNat : Int) == 10) = true := by
                  unfold no10 at hno
                  have : s[e] = 10 := by simpa using hno
                  rw [this]; rfl
                clear hno
                go_wp2_with (fail)
                go_roundw
                case rel => unfold AllRel; exact ⟨e, n, acc, rfl, by omega, by omega, HN, HG, HN2⟩
                case measure => simp [intOf]; omega
              · obtain rfl : e = s.size := by omega
                go_wp2_with (fail)
                go_roundw
                case rel => unfold AllRel; exact ⟨s.size, n, acc, rfl, by omega, by omega, HN, HG, HN2⟩
                case measure => simp [intOf]; omega
        · have k4 : (K == 4) = false := by rw [beq_eq_false_iff_ne]; exact h4
          have HO := Lib.hid (one_any s a wr (by omega) hlt)
          obtain ⟨⟨er, k, m, t⟩, hr⟩ : ∃ r, r = oneF (s.data.toList.drop a) := ⟨_, rfl⟩
          have HBAD : Hid (er ≠ 0 → tot = (er, a, [])) := Lib.hid (fun he => glue_bad hlt (by rw [show cls s[a] = K from hKK.symm]; exact h3) (by rw [show cls s[a] = K from hKK.symm]; exact h4) HE.out hr.symm he)
          have HOK : Hid (er = 0 → glue (acc ++ [⟨k, a, m, t⟩]) (lexW (s.data.toList.drop (a + t.length)) (a + t.length)) = tot) := Lib.hid (fun he => glue_step hlt (by rw [show cls s[a] = K from hKK.symm]; exact h3) (by rw [show cls s[a] = K from hKK.symm]; exact h4) HE.out (he ▸ hr.symm))
          have HL : Hid (er = 0 → 1 ≤ t.length ∧ a + t.length ≤ s.size) := Lib.hid (fun he => by
            have := oneF_len (l := s.data.toList.drop a) (by rw [← hr]; exact he)
            rw [← hr, List.length_drop] at this
            have e : s.data.toList.length = s.size := by simp
            rw [e] at this
            simp only at this
            omega)
          rw [← hr] at HO
          clear hr hKK
          unfold oneRes tokA at HO
          simp only at HO
          go_wp2_with (first | (go_at_call 13; refine (hcl _).out.mono ?_; rintro e w1 ⟨rfl, rfl⟩))
          refine HO.out.mono ?_
          rintro e1 w1 ⟨rfl, hb⟩
          have HG2 : Hid (Got w.heap.size TokT 4 n (toksV acc) (.slice A1 n c1) w w1) := Lib.hid ⟨own_below HG.out.1 hb, HG.out.2.trans (hb.mono hBr)⟩
          have hB1 : w.heap.size ≤ w1.heap.size := HG2.out.2.size
          clear hb HO HG hcl
          by_cases he : er = 0
          · subst he
            have HOK2 := Lib.hid (HOK.out rfl)
            obtain ⟨hl1, hl2⟩ := HL.out rfl
            clear HBAD HL HOK
            obtain ⟨w2, hw2⟩ : ∃ w2, w2 = w1.alloc (.cells #[.int .i64 k, .int .i64 a, .int .i64 m, .string ⟨t.toArray⟩] TokT) := ⟨_, rfl⟩
            have HW2 := Lib.hid hw2
            have HG3 : Hid (Got w.heap.size TokT 4 n (toksV acc) (.slice A1 n c1) w w2) := Lib.hid (by rw [hw2]; exact ⟨HG2.out.1.alloc _, HG2.out.2.alloc hB1 _⟩)
            have HX : Hid (Box w2 w1.heap.size TokT #[.int .i64 k, .int .i64 a, .int .i64 m, .string ⟨t.toArray⟩] ∧ some w1.heap.size ≠ (Value.slice A1 n c1).ownBlock) := Lib.hid (by
              rw [hw2]
              exact ⟨Box.new _ _ _ _ rfl, fun e => by have := (HG2.out.1.lt _ e.symm).2; omega⟩)
            have hB2 : w.heap.size ≤ w2.heap.size := HG3.out.2.size
            have hz := HX.out.1.cell 0
            have hz1 := HX.out.1.cell 1
            have hz2 := HX.out.1.cell 2
            have hz3 := HX.out.1.cell 3
            simp only [List.getElem?_toArray, List.getElem?_cons_zero, List.getElem?_cons_succ] at hz hz1 hz2 hz3
            have HSZ : Hid (w1.heap.size + 1 = w2.heap.size) := Lib.hid (by rw [hw2]; simp)
            clear hw2 HG2
            go_wp2_with (first | (at_builtin; (change wpList _ _ _ _ _ ((w1.alloc (.cells #[.int .i64 k, .int .i64 a, .int .i64 m, .string ⟨t.toArray⟩] TokT)).alloc (.cells (tokV ⟨k, a, m, t⟩).toArray TokT)); rw [← HW2.out]); refine wpList_tok rfl (.tmp 49) (.tmp 51) rfl w.heap.size n acc ⟨k, a, m, t⟩ (.slice A1 n c1) (w1.heap.size + 1) rfl rfl HG3.out (by omega) hB2 HSZ.out ?_; intro v' w' hq hgr; have hx3 := ((HX.out.1.alloc _).grown hgr HX.out.2).cell 3; have HQ := Lib.hid hq; clear hq hgr hz hz1 hz2 hz3; simp only [List.getElem?_toArray, List.getElem?_cons_zero, List.getElem?_cons_succ] at hx3))
            go_roundw
            case rel => unfold AllRel; exact ⟨a + t.length, n + 1, acc ++ [⟨k, a, m, t⟩], by go_num, by omega, by omega, Lib.hid (by rw [List.length_append, ← HN.out]; rfl), HQ, HOK2⟩
            case measure => simp [intOf]; omega
          · have e0 : (er == 0) = false := by rw [beq_eq_false_iff_ne]; exact he
            have HB2 := Lib.hid (HBAD.out he)
            clear HBAD HOK HL
            go_wp2_with (fail)
            go_ret3
            exact ⟨_, by rw [HB2.out]; rfl, by rw [HB2.out]; exact ⟨World.ownsRow_nil _ _ _ _, HG2.out.2.alloc hB1 _⟩⟩
    · obtain rfl : a = s.size := by omega
      have HF : Hid (tot = (0, 0, acc ++ [⟨0, s.size, 0, []⟩])) := Lib.hid (by
        rw [← HE.out, List.drop_eq_nil_of_le (by simp), lex_nil]; rfl)
      clear HE HT HG0
      go_wp2_with (at_builtin; refine wpList_tok rfl (.tmp 58) (.tmp 62) rfl w.heap.size n acc ⟨0, s.size, 0, []⟩ (.slice A1 n c1) wr.heap.size rfl rfl HG.out (by omega) hBr rfl ?_; intro v' w' hq _)
      go_ret3
      exact ⟨v', by rw [HF.out]; rfl, by rw [HF.out]; simp only [List.length_append, List.length_cons, List.length_nil, ← HN.out]; exact hq⟩
end Go.Proofs.YtjppfnofceejhaaDoor.lx

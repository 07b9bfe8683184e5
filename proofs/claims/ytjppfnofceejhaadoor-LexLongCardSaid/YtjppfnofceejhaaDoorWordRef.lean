/- The document's own words, spellings, bindings and marks. -/
import Derived.Test.YtjppfnofceejhaaDoorWordMath
import Derived.Test.YtjppfnofceejhaaDoorValOwn
import Derived.LoopTactic
import Derived.Outline
import Derived.BigQuiet
import Derived.Lib.Strings
import Derived.Test.YtjppfnofceejhaaDoorValClone
namespace Go.Proofs.YtjppfnofceejhaaDoor.wd
open Go.RowKit mem vt

/-- a row of texts, new -/
def Texts (w : World) (b : Nat) (l : List (List UInt8)) : Prop := w.heap[b]? = some (.cells (strV l).toArray 9 (0, 0))
theorem Texts.cell {w : World} {b : Nat} {l : List (List UInt8)} (h : Texts w b l) (k : Nat) (hk : k < l.length) : w.cell? ⟨b, k, none⟩ = some (.string ⟨l[k].toArray⟩) := by
  unfold World.cell?
  rw [h]
  have := strV_at l k hk
  simpa using this
theorem rall_any (w : World) : Calls Tryd.prog 33 #[] w fun e w' => e = .returned (.slice (some ⟨w.heap.size, 0, none⟩) 20 20) ∧ w.alloc (.cells (strV words20).toArray 9) = w' := by
  go_enter Tryd.func33, Tryd.ntmps33
  go_wp2
  go_ret
  exact ⟨rfl, rfl⟩
def IsRel (s : List UInt8) (W : World) (i : Value) (wr : World) : Prop := ∃ k : Nat, i = .int .i64 k ∧ k ≤ 20 ∧ Hid ((words20.take k).contains s = false) ∧ wr = W
theorem ris_any (s : List UInt8) (w : World) : Calls Tryd.prog 24 #[.string ⟨s.toArray⟩] w fun e w' => e = .returned (.bool (isW s)) ∧ Below w.heap.size w w' := by
  have HB := Lib.hid ((Below.refl w.heap.size w).alloc (Nat.le_refl _) (.cells (strV words20).toArray 9))
  have HT : Hid (Texts (w.alloc (.cells (strV words20).toArray 9)) w.heap.size words20) := Lib.hid (heap_alloc_new w _)
  have HA := Lib.hid (rall_any w)
  go_enter Tryd.func24, Tryd.ntmps24
  go_wp2_with (fail)
  refine HA.out.mono ?_
  rintro e w1 ⟨rfl, rfl⟩
  obtain ⟨W, hW⟩ : ∃ W, W = w.alloc (.cells (strV words20).toArray 9) := ⟨_, rfl⟩
  rw [← hW] at HB HT ⊢
  clear hW HA
  go_wp2_with (fail)
  go_loopw [4] (fun i wr => IsRel s W i wr) (fun i _ => 20 - (intOf i).toNat)
  case atStart => unfold IsRel; exact ⟨0, rfl, by omega, Lib.hid rfl, rfl⟩
  case round =>
    unfold IsRel at hrel
    obtain ⟨k, rfl, hk, HC, rfl⟩ := hrel
    by_cases hlt : k < 20
    · have hlt' : (k : Int) < 20 := by omega
      have hk0 : (0 : Int) ≤ (k : Int) := by omega
      have hkl : k < words20.length := hlt
      have c0 := HT.out.cell k hkl
      have HCN := Lib.hid (fun h1 => contains_take words20 s k hkl HC.out h1)
      have HCY := Lib.hid (fun h1 => contains_at words20 s k hkl h1)
      obtain ⟨m, hm⟩ : ∃ m, m = words20[k] := ⟨_, rfl⟩
      rw [← hm] at c0 HCN HCY
      clear hm
      go_wp2_with (fail)
      · go_ret
        exact ⟨by rw [show isW s = true from HCY.out (beq_iff_eq.1 (by assumption))]; rfl, HB.out⟩
      · go_roundw
        case rel => unfold IsRel; exact ⟨k + 1, by go_num, by omega, Lib.hid (HCN.out (beq_eq_false_iff_ne.1 (by assumption))), rfl⟩
        case measure => simp [intOf]; omega
    · obtain rfl : k = 20 := by omega
      go_wp2
      go_ret
      exact ⟨by rw [show isW s = false from HC.out]; rfl, HB.out⟩
/-! ### spellings -/
theorem rspell_any (k : Int) (w : World) (hk : I64 k) : Calls Tryd.prog 34 #[.int .i64 k] w fun e w' => e = .returned (.string ⟨(spellF k).toArray⟩) ∧ Below w.heap.size w w' := by
  have HB := Lib.hid ((Below.refl w.heap.size w).alloc (Nat.le_refl _) (.cells (strV signs14).toArray 9))
  have HT : Hid (Texts (w.alloc (.cells (strV signs14).toArray 9)) w.heap.size signs14) := Lib.hid (heap_alloc_new w _)
  unfold I64 at hk
  by_cases h1 : k < 1
  · rw [show spellF k = [] from if_pos (Or.inl h1)]
    go_enter Tryd.func34, Tryd.ntmps34
    go_wp2
    go_ret
    exact ⟨rfl, HB.out⟩
  by_cases h2 : 14 < k
  · rw [show spellF k = [] from if_pos (Or.inr h2)]
    go_enter Tryd.func34, Tryd.ntmps34
    go_wp2
    go_ret
    exact ⟨rfl, HB.out⟩
  obtain ⟨n, rfl⟩ : ∃ n : Nat, k = (n : Int) + 1 := ⟨(k - 1).toNat, by omega⟩
  have hn : n < signs14.length := by show n < 14; omega
  have hn2 : (n : Int) < 14 := by omega
  have hn0 : (0 : Int) ≤ n := by omega
  have hsp : spellF ((n : Int) + 1) = signs14[n] := by
    unfold spellF
    rw [if_neg (by omega), show ((n : Int) + 1 - 1).toNat = n by omega]
    rw [List.getD_eq_getElem?_getD, List.getElem?_eq_getElem hn]; rfl
  have c0 := HT.out.cell n hn
  rw [hsp]
  obtain ⟨W, hW⟩ : ∃ W, W = w.alloc (.cells (strV signs14).toArray 9) := ⟨_, rfl⟩
  obtain ⟨m, hm⟩ : ∃ m, m = signs14[n] := ⟨_, rfl⟩
  rw [← hm] at c0 ⊢
  rw [← hW] at HB c0
  have HW := Lib.hid hW
  clear hm hsp HT hW
  go_enter Tryd.func34, Tryd.ntmps34
  go_wp2_with (first | (change wpList _ _ _ _ _ (w.alloc (.cells (strV signs14).toArray 9)); rw [← HW.out]))
  go_ret
  exact ⟨rfl, HB.out⟩
/-! ### the marks -/
theorem infoStr : (Tryd.prog.info? 9).map (fun i => (i.zero, i.size, i.bytes)) = some (some (.string ⟨#[]⟩), 1, 16) := by kernel_rfl
def MarkRel (w : World) (l i : Value) (wr : World) : Prop :=
  ∃ k : Nat, i = .int .i64 ((k : Int) + 1) ∧ k ≤ 14 ∧ Hid (wr.ownsRow w.heap.size 9 1 l (10 + k) (strV (marks10 ++ signs14.take k))) ∧ Hid (Below w.heap.size w wr)
def BestRel (s : List UInt8) (W : World) (b i : Value) (wr : World) : Prop :=
  ∃ k : Nat, i = .int .i64 k ∧ k ≤ 24 ∧ b = .string ⟨((marks24.take k).foldl (stepM s) []).toArray⟩ ∧ ∃ q, wr = W.drewN q
theorem ext_take (s : List UInt8) (m : Nat) : (⟨s.toArray⟩ : ByteArray).extract 0 m = ⟨(s.take m).toArray⟩ := by
  apply ByteArray.ext
  apply Array.ext'
  rw [Lib.extract_data]
  simp
theorem slice_pre (s : List UInt8) (m : Nat) (h : m ≤ s.length) (w : World) :
    (Instr.slice 9 (.string ⟨s.toArray⟩) none (some (.int .i64 m)) none).run Tryd.prog w = .ok (.string ⟨(s.take m).toArray⟩) w := by
  rw [run_slice_string_to_if w 9 _ .i64 (m : Int) Tryd.underlying9, if_pos ⟨by omega, by show (m : Int) ≤ (s.length : Int); omega⟩, Int.toNat_natCast, ext_take]
theorem mark_at (k : Nat) (h : k < 24) : marks24[k]? = some (marks24.getD k []) := by
  have : k < marks24.length := h
  rw [List.getD_eq_getElem?_getD, List.getElem?_eq_getElem this]; rfl
theorem mark_len : ∀ k, (marks24.getD k []).length ≤ 2 := by
  intro k
  by_cases h : k < 24
  · exact (by decide +kernel : ∀ j : Fin 24, (marks24.getD j.val []).length ≤ 2) ⟨k, h⟩
  · rw [List.getD_eq_getElem?_getD, List.getElem?_eq_none (by show 24 ≤ k; omega)]; simp
theorem fold_len (s : List UInt8) (l : List (List UInt8)) (b : List UInt8) (hb : b.length ≤ 2) (hl : ∀ m ∈ l, m.length ≤ 2) : (l.foldl (stepM s) b).length ≤ 2 := by
  induction l generalizing b with
  | nil => exact hb
  | cons m l ih =>
    rw [List.foldl_cons]
    refine ih _ ?_ fun x hx => hl x (by simp [hx])
    unfold stepM
    split
    · exact hl m (by simp)
    · exact hb
theorem own_addr {w : World} {base size n : Nat} {e : TypeId} {v : Value} {xs : List Value} (h : w.ownsRow base e size v n xs) (hn : 0 < n) : ∃ g c, v = .slice (some ⟨g, 0, none⟩) n c := by
  rcases h.2 with ⟨_, h0⟩ | ⟨g, c, cur, hv, _⟩
  · omega
  · exact ⟨g, c, hv⟩
theorem spell_at (k : Nat) (h : k < 14) : ∃ hk : k < signs14.length, signs14[k] = spellF ((k : Int) + 1) := by
  refine ⟨h, ?_⟩
  unfold spellF
  rw [if_neg (by omega), show ((k : Int) + 1 - 1).toNat = k by omega, List.getD_eq_getElem?_getD, List.getElem?_eq_getElem (show k < signs14.length from h)]; rfl
theorem marks_step (k : Nat) (h : k < 14) : strV (marks10 ++ signs14.take k) ++ [.string ⟨(spellF ((k : Int) + 1)).toArray⟩] = strV (marks10 ++ signs14.take (k + 1)) := by
  obtain ⟨hk, e⟩ := spell_at k h
  rw [List.take_succ_eq_append_getElem hk, e]
  unfold strV
  simp
theorem step_yes {s b m : List UInt8} (h1 : m.length ≤ s.length) (h2 : s.take m.length = m) (h3 : b.length < m.length) : stepM s b m = m := if_pos ⟨h1, h2, h3⟩
theorem step_no {s b m : List UInt8} (h : ¬ (m.length ≤ s.length ∧ s.take m.length = m ∧ b.length < m.length)) : stepM s b m = b := if_neg h
set_option maxHeartbeats 400000 in
theorem rmark_any (s : List UInt8) (w : World) (hs : s.length ≤ 281474976710656) : Calls Tryd.prog 26 #[.string ⟨s.toArray⟩] w fun e w' => e = .returned (.string ⟨(markF s).toArray⟩) ∧ Below w.heap.size w w' := by
  obtain ⟨i0, hi, hz0, hz1, hz2⟩ := info_parts infoStr
  have H0 : Hid ((w.alloc (.cells (strV marks10).toArray 9)).ownsRow w.heap.size 9 1 (.slice (some ⟨w.heap.size, 0, none⟩) 10 10) 10 (strV (marks10 ++ signs14.take 0))) := Lib.hid (by
    have h := World.ownsRow_lit (size := 1) (e := 9) w (strV marks10).toArray 10 (base := w.heap.size) (by omega) (by decide) (by decide)
    exact h)
  have HB0 := Lib.hid ((Below.refl w.heap.size w).alloc (Nat.le_refl _) (.cells (strV marks10).toArray 9))
  go_enter Tryd.func26, Tryd.ntmps26
  go_wp2_with (fail)
  go_loopw [3, 4] (fun l i wr => MarkRel w l i wr) (fun _ i _ => 15 - (intOf i).toNat)
  case atStart => unfold MarkRel; exact ⟨0, rfl, by omega, H0, HB0⟩
  case round =>
    unfold MarkRel at hrel
    obtain ⟨k, rfl, hk, ho, hb⟩ := hrel
    obtain ⟨g1, c1, rfl⟩ := own_addr ho.out (by omega)
    by_cases hlt : k < 14
    · have hlt' : (k : Int) + 1 ≤ 14 := by omega
      have HS := Lib.hid (rspell_any ((k : Int) + 1) wr (by unfold I64; omega))
      go_wp2_with (fail)
      refine HS.out.mono ?_
      rintro e w1 ⟨rfl, hb1⟩
      have ho1 := own_below ho.out hb1
      have hb2 := hb.out.trans (hb1.mono hb.out.size)
      have hB : w.heap.size ≤ w1.heap.size := hb2.size
      have HB2 := Lib.hid hb2
      clear HS hb hb1 ho hb2
      go_wp2_with (at_builtin; refine wpList_append_own _ rfl _ _ 39 rfl w.heap.size 9 i0 (.string ⟨#[]⟩) 1 16 Tryd.underlying39 hi hz0 hz1 hz2 rfl (by decide) _ _ _ rfl (ho1.alloc _) ⟨w1.heap.size, 0, none⟩ 1 1 [.string ⟨(spellF ((k : Int) + 1)).toArray⟩] rfl rfl (new_one _ _ _) (by intro u hu; simp at hu; subst hu; rfl) (by unfold maxLen; omega) (by omega) (by simp; omega) ?_; intro v' w3 hown' hgrow _)
      have HG := Lib.hid (Got.app (⟨ho1, HB2.out⟩ : Got w.heap.size 9 1 (10 + k) (strV (marks10 ++ signs14.take k)) (.slice (some ⟨g1, 0, none⟩) (10 + k) c1) w w1) hB hown' hgrow)
      clear hown' hgrow ho1 HB2
      go_roundw
      case rel => unfold MarkRel; exact ⟨k + 1, by go_num, by omega, Lib.hid (by rw [← marks_step k hlt]; exact HG.out.1), Lib.hid HG.out.2⟩
      case measure => simp [intOf]; omega
    · obtain rfl : k = 14 := by omega
      clear hi hz0 hz1 hz2 H0 HB0
      rw [show 10 + 14 = 24 from rfl] at ho ⊢
      go_wp2_with (fail)
      go_loopw [5, 6] (fun b i w' => BestRel s wr b i w') (fun _ i _ => 24 - (intOf i).toNat)
      case atStart => unfold BestRel; exact ⟨0, rfl, by omega, rfl, 0, rfl⟩
      case round =>
        unfold BestRel at hrel
        obtain ⟨k, rfl, hk, rfl, q, rfl⟩ := hrel
        by_cases hlt : k < 24
        · have hlt' : (k : Int) < 24 := by omega
          have hk0 : (0 : Int) ≤ (k : Int) := by omega
          have hkl : k < marks24.length := hlt
          have c0 := ho.out.cellAt k (by omega)
          rw [show marks10 ++ signs14.take 14 = marks24 from rfl, strV_at marks24 k hkl] at c0
          have HST := Lib.hid (foldl_take (stepM s) [] marks24 k hkl)
          have hbl := fold_len s (marks24.take k) [] (by simp) (fun m hm => (by decide : ∀ m ∈ marks24, m.length ≤ 2) m (List.mem_of_mem_take hm))
          have hml : marks24[k].length ≤ 2 := (by decide : ∀ m ∈ marks24, m.length ≤ 2) _ (List.getElem_mem hkl)
          obtain ⟨b, hb⟩ : ∃ b, b = (marks24.take k).foldl (stepM s) [] := ⟨_, rfl⟩
          obtain ⟨m, hm⟩ : ∃ m, m = marks24[k] := ⟨_, rfl⟩
          rw [← hb, ← hm] at HST
          rw [← hb] at hbl ⊢
          rw [← hm] at c0 hml
          clear hb hm
          by_cases d1 : m.length ≤ s.length
          · have d1' : (m.length : Int) ≤ (s.length : Int) := by omega
            have hsl := slice_pre s m.length d1
            by_cases d2 : s.take m.length = m
            · have d2' : (s.take m.length == m) = true := by rw [beq_iff_eq]; exact d2
              have D2 := Lib.hid d2
              clear d2
              by_cases d3 : b.length < m.length
              · have d3' : (b.length : Int) < (m.length : Int) := by omega
                go_wp2_with (fail)
                go_quiet (fail)
                go_wp2_with (fail)
                go_roundw
                case rel => unfold BestRel; exact ⟨k + 1, by go_num, by omega, by rw [HST.out, step_yes d1 D2.out d3], _, rfl⟩
                case measure => simp [intOf]; omega
              · have d3' : decide ((b.length : Int) < (m.length : Int)) = false := by rw [decide_eq_false_iff_not]; omega
                go_wp2_with (fail)
                go_quiet (fail)
                go_wp2_with (fail)
                go_roundw
                case rel => unfold BestRel; exact ⟨k + 1, by go_num, by omega, by rw [HST.out, step_no (fun h => d3 h.2.2)], _, rfl⟩
                case measure => simp [intOf]; omega
            · have d2' : (s.take m.length == m) = false := by rw [beq_eq_false_iff_ne]; exact d2
              have D2 := Lib.hid d2
              clear d2
              go_wp2_with (fail)
              go_quiet (fail)
              go_wp2_with (fail)
              go_roundw
              case rel => unfold BestRel; exact ⟨k + 1, by go_num, by omega, by rw [HST.out, step_no (fun h => D2.out h.2.1)], _, rfl⟩
              case measure => simp [intOf]; omega
          · have d1' : decide ((m.length : Int) ≤ (s.length : Int)) = false := by rw [decide_eq_false_iff_not]; omega
            go_wp2_with (fail)
            go_quiet (fail)
            go_wp2_with (fail)
            go_roundw
            case rel => unfold BestRel; exact ⟨k + 1, by go_num, by omega, by rw [HST.out, step_no (fun h => d1 h.1)], _, rfl⟩
            case measure => simp [intOf]; omega
        · obtain rfl : k = 24 := by omega
          go_wp2_with (fail)
          go_ret
          exact ⟨rfl, below_drewN hb.out _⟩
end Go.Proofs.YtjppfnofceejhaaDoor.wd

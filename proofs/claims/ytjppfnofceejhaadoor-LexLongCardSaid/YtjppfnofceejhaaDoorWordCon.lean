/- The package's functions, over its two tables. -/
import Derived.Test.YtjppfnofceejhaaDoorWordRef
import Derived.Laws.Rows
import Derived.ChangeKeysEq
import Derived.Deep.MidRow
namespace Go.Proofs.YtjppfnofceejhaaDoor.wd
open Go.RowKit mem vt

/-- all spellings, at their places in the package's table -/
def spell25 : List (List UInt8) := [] :: signs14 ++ marks10
/-- a table of texts in the block g -/
def TabAt (w : World) (g : Nat) (l : List (List UInt8)) : Prop := ∃ t fr, w.heap[g]? = some (.cells (strV l).toArray t fr)
theorem TabAt.below {w w' : World} {g : Nat} {l : List (List UInt8)} (h : TabAt w g l) (hb : Below w.heap.size w w') : TabAt w' g l := by
  obtain ⟨t, fr, hg⟩ := h
  exact ⟨t, fr, by rw [hb.block g (Array.getElem?_eq_some_iff.1 hg).1]; exact hg⟩
theorem TabAt.cell {w : World} {g : Nat} {l : List (List UInt8)} (h : TabAt w g l) (k : Nat) (hk : k < l.length) : w.cell? ⟨g, k, none⟩ = some (.string ⟨l[k].toArray⟩) := by
  obtain ⟨t, fr, hg⟩ := h
  rw [cell_of_row w g k _ t fr hg]
  simpa using strV_at l k hk
theorem index_tab (ty : TypeId) (n : Nat) (l : List (List UInt8)) (k : Nat) (hu : Tryd.prog.underlying ty = some (.array n 9)) (hn : l.length = n) (hk : k < l.length) (w : World) :
    (Instr.index ty (.agg (strV l).toArray) (.int .i64 k)).run Tryd.prog w = .ok (.string ⟨l[k].toArray⟩) w := by
  have h : (strV l).toArray[k]? = some (.string ⟨l[k].toArray⟩) := by simpa using strV_at l k hk
  have hlt : (0 : Int) ≤ (k : Int) ∧ (k : Int) < (n : Int) := by omega
  have hp : Tryd.prog.plainKey 9 = true := by kernel_rfl
  obtain ⟨i0, hi, hz0, hz1, hz2⟩ := info_parts infoStr
  have hs : Tryd.prog.cellsOf 9 = 1 := by kernel_rfl
  have hkn : k < n := by omega
  simp [Instr.index, run_underlying hu, asIntOf, hkn, run_sizeOf w hi, hs, strV_at l k hk, go_sem]
/-- the table words20 as a letter; what is read at each index -/
theorem words_tab {w : World} {g : Nat} (h : TabAt w g words20) : ∃ ws : List Value, (w.rangeAt g 0 ws ∧ (Tryd.prog.info? 60).map (·.size) = some ws.length) ∧
    ∀ (k : Nat) (hk : k < words20.length) (w' : World), (Instr.index 60 (.agg ws.toArray) (.int .i64 k)).run Tryd.prog w' = .ok (.string ⟨words20[k].toArray⟩) w' := by
  refine ⟨strV words20, ⟨?_, ?_⟩, fun k hk w' => index_tab 60 20 words20 k Tryd.underlying60 rfl hk w'⟩
  · intro j v hv
    obtain ⟨t, fr, hg⟩ := h
    rw [Nat.zero_add, cell_of_row w g j _ t fr hg]
    simpa using hv
  · rw [strV_len]; kernel_rfl
/-- the table spell25 as a letter; what is read at each index -/
theorem spells_tab {w : World} {g : Nat} (h : TabAt w g spell25) : ∃ ws : List Value, (w.rangeAt g 0 ws ∧ (Tryd.prog.info? 54).map (·.size) = some ws.length) ∧
    ∀ (k : Nat) (hk : k < spell25.length) (w' : World), (Instr.index 54 (.agg ws.toArray) (.int .i64 k)).run Tryd.prog w' = .ok (.string ⟨spell25[k].toArray⟩) w' := by
  refine ⟨strV spell25, ⟨?_, ?_⟩, fun k hk w' => index_tab 54 25 spell25 k Tryd.underlying54 rfl hk w'⟩
  · intro j v hv
    obtain ⟨t, fr, hg⟩ := h
    rw [Nat.zero_add, cell_of_row w g j _ t fr hg]
    simpa using hv
  · rw [strV_len]; kernel_rfl
/-- what the call finds laid: the package's tables -/
def LD (w : World) : Prop := TabAt w 1 words20 ∧ TabAt w 0 spell25
theorem LD.on {w w' : World} (h : LD w) (hb : Below w.heap.size w w') : LD w' := ⟨h.1.below hb, h.2.below hb⟩
def AllRel (w : World) (l i : Value) (wr : World) : Prop :=
  ∃ k : Nat, i = .int .i64 k ∧ k ≤ 20 ∧ Hid (Got w.heap.size 9 1 k (strV (words20.take k)) l w wr)
theorem words_step (k : Nat) (h : k < words20.length) : strV (words20.take k) ++ [.string ⟨words20[k].toArray⟩] = strV (words20.take (k + 1)) := by
  rw [List.take_succ_eq_append_getElem h]
  unfold strV
  rw [List.map_append]; rfl
def IsRelC (s : List UInt8) (W : World) (i : Value) (wr : World) : Prop := ∃ k : Nat, i = .int .i64 k ∧ k ≤ 20 ∧ Hid ((words20.take k).contains s = false) ∧ wr = W
theorem is_any (s : List UInt8) (w : World) (hs : s.length ≤ 1048576) (hL : LD w) : Calls Tryd.prog 31 #[.string ⟨s.toArray⟩] w fun e w' => e = .returned (.bool (isW s)) ∧ Below w.heap.size w w' := by
  clear hs
  have HB := Lib.hid (Below.refl w.heap.size w)
  obtain ⟨ws, hl, HX0⟩ := words_tab hL.1
  have HL := Lib.hid hl
  have HX := Lib.hid HX0
  clear HX0 hL hl
  go_enter Tryd.func31, Tryd.ntmps31
  go_wp2_with (refine wpList_load_mid rfl _ _ rfl 1 0 rfl ws _ HL.out.1 Tryd.underlying60 rfl HL.out.2 ?_)
  go_loopw [6] (fun i wr => IsRelC s w i wr) (fun i _ => 20 - (intOf i).toNat)
  case atStart => unfold IsRelC; exact ⟨0, rfl, by omega, Lib.hid rfl, rfl⟩
  case round =>
    unfold IsRelC at hrel
    obtain ⟨k, rfl, hk, HC, rfl⟩ := hrel
    by_cases hlt : k < 20
    · have hlt' : (k : Int) < 20 := by omega
      have hkl : k < words20.length := hlt
      have hx := HX.out k hkl wr
      have HCN := Lib.hid (fun h1 => contains_take words20 s k hkl HC.out h1)
      have HCY := Lib.hid (fun h1 => contains_at words20 s k hkl h1)
      obtain ⟨m, hm⟩ : ∃ m, m = words20[k] := ⟨_, rfl⟩
      rw [← hm] at hx HCN HCY
      clear hm
      go_wp2_with (fail)
      · go_ret
        exact ⟨by rw [show isW s = true from HCY.out (beq_iff_eq.1 (by assumption))]; rfl, HB.out⟩
      · go_roundw
        case rel => unfold IsRelC; exact ⟨k + 1, by go_num, by omega, Lib.hid (HCN.out (beq_eq_false_iff_ne.1 (by assumption))), rfl⟩
        case measure => simp [intOf]; omega
    · obtain rfl : k = 20 := by omega
      go_wp2_with (fail)
      go_ret
      exact ⟨by rw [show isW s = false from HC.out]; rfl, HB.out⟩
theorem giv_len : givN nLen = 1 ∧ givB nLen = true := by decide +kernel
theorem giv_input : givN nInput = 1 ∧ givB nInput = true := by decide +kernel
theorem giv_fill : givN nFill = 2 ∧ givB nFill = true := by decide +kernel
theorem giv_inputs : givN nInputs = 0 ∧ givB nInputs = true := by decide +kernel
theorem giv_out {s : List UInt8} (h1 : s ≠ nLen) (h2 : s ≠ nInput) (h3 : s ≠ nFill) (h4 : s ≠ nInputs) : givN s = 0 ∧ givB s = false := by
  have h : givF s = -1 := by unfold givF; rw [if_neg (fun h => h.elim h1 h2), if_neg h3, if_neg h4]
  unfold givN givB
  rw [h]
  decide
/-! ### spellings -/
theorem spell25_at (n : Nat) (h : n < 14) : ∃ hk : n + 1 < spell25.length, spell25[n + 1] = spellF ((n : Int) + 1) := by
  have hk : n + 1 < spell25.length := by show n + 1 < 25; omega
  refine ⟨hk, ?_⟩
  obtain ⟨h1, e⟩ := spell_at n h
  rw [← e]
  have : spell25[n + 1]? = signs14[n]? := by
    show ([] :: signs14 ++ marks10)[n + 1]? = _
    rw [List.cons_append, List.getElem?_cons_succ, List.getElem?_append_left h1]
  rw [List.getElem?_eq_getElem hk, List.getElem?_eq_getElem h1] at this
  exact Option.some.inj this
/-! ### the sign of a text -/
theorem sign_at : ∀ n : Fin 14, signF (signs14.getD n.val []) = (n.val : Int) + 1 ∧ isS (signs14.getD n.val []) = true := by decide +kernel
theorem sign_hit {s : List UInt8} (n : Nat) (h : n < 14) (e : spellF ((n : Int) + 1) = s) : signF s = (n : Int) + 1 ∧ isS s = true := by
  obtain ⟨hk, e2⟩ := spell_at n h
  have h1 := sign_at ⟨n, h⟩
  rw [List.getD_eq_getElem?_getD, List.getElem?_eq_getElem hk, Option.getD_some, e2, e] at h1
  exact h1
theorem sign_miss {s : List UInt8} (n : Nat) (h : n < 14) (h0 : (signs14.take n).contains s = false) (e : spellF ((n : Int) + 1) ≠ s) : (signs14.take (n + 1)).contains s = false := by
  obtain ⟨hk, e2⟩ := spell_at n h
  exact contains_take signs14 s n hk h0 (by rw [e2]; exact e)
theorem sign_none {s : List UInt8} (h : (signs14.take 14).contains s = false) : signF s = 0 ∧ isS s = false := by
  refine sign_out (fun hm => ?_)
  have : signs14.contains s = true := List.contains_iff_mem.2 hm
  rw [show signs14.take 14 = signs14 from rfl, this] at h
  cases h
def SignRel (s : List UInt8) (W : World) (i : Value) (wr : World) : Prop := ∃ k : Nat, i = .int .i64 ((k : Int) + 1) ∧ k ≤ 14 ∧ Hid ((signs14.take k).contains s = false) ∧ wr = W
/-! ### the longest mark: in whatever order -/
/-- does the mark stand at the text's head -/
def isPre (s m : List UInt8) : Bool := decide (m.length ≤ s.length ∧ s.take m.length = m)
def lenM (s : List UInt8) (n : Nat) (m : List UInt8) : Nat := if isPre s m = true then max n m.length else n
theorem lens_any (s : List UInt8) : ∀ (l : List (List UInt8)) (n : Nat), l.foldl (lenM s) n = max n (l.foldl (lenM s) 0)
  | [], n => by simp
  | m :: l, n => by
    rw [List.foldl_cons, List.foldl_cons, lens_any s l (lenM s n m), lens_any s l (lenM s 0 m)]
    unfold lenM
    split <;> omega
theorem lens_swap (s : List UInt8) (a b : List (List UInt8)) : (a ++ b).foldl (lenM s) 0 = (b ++ a).foldl (lenM s) 0 := by
  rw [List.foldl_append, List.foldl_append, lens_any s b, lens_any s a (List.foldl _ _ _)]
  omega
theorem mark_len_of (s : List UInt8) : ∀ (l : List (List UInt8)) (b : List UInt8), b.length ≤ s.length → s.take b.length = b → l.foldl (stepM s) b = s.take (l.foldl (lenM s) b.length)
  | [], b, _, h => h.symm
  | m :: l, b, h1, h2 => by
    rw [List.foldl_cons, List.foldl_cons]
    by_cases h : m.length ≤ s.length ∧ s.take m.length = m
    · by_cases h3 : b.length < m.length
      · rw [step_yes h.1 h.2 h3, mark_len_of s l m h.1 h.2]
        congr 2
        unfold lenM
        rw [if_pos (by unfold isPre; exact decide_eq_true h)]
        omega
      · rw [step_no (fun x => h3 x.2.2), mark_len_of s l b h1 h2]
        congr 2
        unfold lenM
        rw [if_pos (by unfold isPre; exact decide_eq_true h)]
        omega
    · rw [step_no (fun x => h ⟨x.1, x.2.1⟩), mark_len_of s l b h1 h2]
      congr 2
      unfold lenM
      rw [if_neg (by unfold isPre; simpa using h)]
theorem mark_25 (s : List UInt8) : spell25.foldl (stepM s) [] = markF s := by
  unfold markF
  rw [mark_len_of s spell25 [] (by simp) (by simp), mark_len_of s marks24 [] (by simp) (by simp)]
  congr 1
  show ([] :: (signs14 ++ marks10)).foldl (lenM s) 0 = _
  rw [List.foldl_cons, show lenM s 0 [] = 0 from by unfold lenM; split <;> rfl]
  exact lens_swap s signs14 marks10
theorem pre_any (s m : List UInt8) (w : World) (hs : s.length ≤ 281474976710656) (hm : m.length ≤ 281474976710656) : Calls Tryd.prog 39 #[.string ⟨s.toArray⟩, .string ⟨m.toArray⟩] w fun e w' => e = .returned (.bool (isPre s m)) ∧ w' = w := by
  have hsl := fun h => slice_pre s m.length h
  by_cases d1 : m.length ≤ s.length
  · have d1' : (m.length : Int) ≤ (s.length : Int) := by omega
    have hsl1 := hsl d1
    have e : isPre s m = (s.take m.length == m) := by unfold isPre; rw [Bool.eq_iff_iff]; simp [d1]
    rw [e]
    obtain ⟨r, hr⟩ : ∃ r, r = s.take m.length := ⟨_, rfl⟩
    rw [← hr] at hsl1 ⊢
    clear hr e hsl
    go_enter Tryd.func39, Tryd.ntmps39
    go_wp2_with (fail)
    go_ret
    exact ⟨rfl, rfl⟩
  · have d1' : decide ((m.length : Int) ≤ (s.length : Int)) = false := by rw [decide_eq_false_iff_not]; omega
    rw [show isPre s m = false by unfold isPre; simp [d1]]
    clear hsl
    go_enter Tryd.func39, Tryd.ntmps39
    go_wp2_with (fail)
    go_ret
    exact ⟨rfl, rfl⟩
theorem prefix_any (s m : List UInt8) (w : World) (hs : s.length ≤ 281474976710656) (hm : m.length ≤ 281474976710656) : Calls Tryd.prog 32 #[.string ⟨s.toArray⟩, .string ⟨m.toArray⟩] w fun e w' => e = .returned (.bool (isPre s m)) ∧ w' = w := by
  have H := Lib.hid (pre_any s m w hs hm)
  obtain ⟨r, hr⟩ : ∃ r, r = isPre s m := ⟨_, rfl⟩
  rw [← hr] at H ⊢
  clear hr
  go_enter Tryd.func32, Tryd.ntmps32
  go_wp2_with (fail)
  refine H.out.mono ?_
  rintro e w1 ⟨rfl, rfl⟩
  go_wp2_with (fail)
  go_ret
  exact ⟨rfl, rfl⟩
theorem step_pre {s b m : List UInt8} (h1 : b.length < m.length) : stepM s b m = if isPre s m = true then m else b := by
  unfold stepM isPre
  by_cases h : m.length ≤ s.length ∧ s.take m.length = m
  · rw [if_pos ⟨h.1, h.2, h1⟩, if_pos (decide_eq_true h)]
  · rw [if_neg (fun x => h ⟨x.1, x.2.1⟩), if_neg (by simpa using h)]
def BestRelC (s : List UInt8) (W : World) (b i : Value) (wr : World) : Prop :=
  ∃ k : Nat, i = .int .i64 k ∧ k ≤ 25 ∧ b = .string ⟨((spell25.take k).foldl (stepM s) []).toArray⟩ ∧ ∃ q, wr = W.drewN q
theorem spell25_len : ∀ m ∈ spell25, m.length ≤ 2 := by decide
theorem mark_any (s : List UInt8) (w : World) (hs : s.length ≤ 1048576) (hL : LD w) : Calls Tryd.prog 23 #[.string ⟨s.toArray⟩] w fun e w' => e = .returned (.string ⟨(markF s).toArray⟩) ∧ Below w.heap.size w w' := by
  have HB := Lib.hid (Below.refl w.heap.size w)
  obtain ⟨ws, hl, HX0⟩ := spells_tab hL.2
  have HL := Lib.hid hl
  have HX := Lib.hid HX0
  have HP := Lib.hid (fun m hm w' => prefix_any s m w' (by omega) hm)
  have HM := Lib.hid (mark_25 s)
  clear HX0 hL hl
  go_enter Tryd.func23, Tryd.ntmps23
  go_wp2_with (refine wpList_load_mid rfl _ _ rfl 0 0 rfl ws _ HL.out.1 Tryd.underlying54 rfl HL.out.2 ?_)
  go_loopw [3, 7] (fun b i wr => BestRelC s w b i wr) (fun _ i _ => 25 - (intOf i).toNat)
  case atStart => unfold BestRelC; exact ⟨0, rfl, by omega, rfl, 0, rfl⟩
  case round =>
    unfold BestRelC at hrel
    obtain ⟨k, rfl, hk, rfl, q, rfl⟩ := hrel
    by_cases hlt : k < 25
    · have hlt' : (k : Int) < 25 := by omega
      have hkl : k < spell25.length := hlt
      have hx := HX.out k hkl (w.drewN q)
      have HST := Lib.hid (foldl_take (stepM s) [] spell25 k hkl)
      have hbl := fold_len s (spell25.take k) [] (by simp) (fun m hm => spell25_len m (List.mem_of_mem_take hm))
      have hml : spell25[k].length ≤ 2 := spell25_len _ (List.getElem_mem hkl)
      obtain ⟨b, hb⟩ : ∃ b, b = (spell25.take k).foldl (stepM s) [] := ⟨_, rfl⟩
      obtain ⟨m, hm⟩ : ∃ m, m = spell25[k] := ⟨_, rfl⟩
      rw [← hb, ← hm] at HST
      rw [← hb] at hbl ⊢
      rw [← hm] at hx hml
      clear hb hm
      by_cases d3 : b.length < m.length
      · have d3' : (b.length : Int) < (m.length : Int) := by omega
        have HP1 := Lib.hid (fun w' => HP.out m (by omega) w')
        have HS3 := Lib.hid (step_pre (s := s) d3)
        obtain ⟨r, hr⟩ : ∃ r, r = isPre s m := ⟨_, rfl⟩
        rw [← hr] at HP1 HS3
        clear hr
        cases r
        · go_wp2_with (fail)
          refine (HP1.out _).mono ?_
          rintro e w1 ⟨rfl, rfl⟩
          go_wp2_with (fail)
          go_roundw
          case rel => unfold BestRelC; exact ⟨k + 1, by go_num, by omega, by rw [HST.out, HS3.out]; rfl, _, rfl⟩
          case measure => simp [intOf]; omega
        · go_wp2_with (fail)
          refine (HP1.out _).mono ?_
          rintro e w1 ⟨rfl, rfl⟩
          go_wp2_with (fail)
          go_roundw
          case rel => unfold BestRelC; exact ⟨k + 1, by go_num, by omega, by rw [HST.out, HS3.out]; rfl, _, rfl⟩
          case measure => simp [intOf]; omega
      · have d3' : decide ((b.length : Int) < (m.length : Int)) = false := by rw [decide_eq_false_iff_not]; omega
        go_wp2_with (fail)
        go_roundw
        case rel => unfold BestRelC; exact ⟨k + 1, by go_num, by omega, by rw [HST.out, step_no (fun h => d3 h.2.2)], _, rfl⟩
        case measure => simp [intOf]; omega
    · obtain rfl : k = 25 := by omega
      go_wp2_with (fail)
      go_ret
      exact ⟨by rw [← HM.out]; rfl, below_drewN HB.out _⟩
end Go.Proofs.YtjppfnofceejhaaDoor.wd

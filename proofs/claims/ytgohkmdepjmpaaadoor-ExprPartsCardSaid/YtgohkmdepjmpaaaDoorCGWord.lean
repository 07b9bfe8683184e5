import Derived.Test.YtgohkmdepjmpaaaDoorProg
import Derived.Test.YtgohkmdepjmpaaaDoorCGVal
import Derived.LoopTactic
import Derived.Outline
import Derived.BigQuiet
import Derived.Lib.Strings
import Derived.Laws.Rows
import Derived.ChangeKeysEq
import Derived.Deep.MidRow
/- The words, signs and marks as plain lists. -/
namespace Go.Proofs.YtgohkmdepjmpaaaDoor.wd

def words20 : List (List UInt8) := [[114, 101, 99], [105, 115, 111], [102, 117, 110], [109, 101, 114, 103, 101], [109, 97, 105, 110], [118, 97, 114], [105, 102], [101, 108, 115, 101], [119, 104, 105, 108, 101], [114, 101, 116, 117, 114, 110], [102, 111, 114, 107], [106, 111, 105, 110], [112, 114, 105, 110, 116], [110, 101, 119], [98, 121], [105, 110, 116], [98, 111, 111, 108], [114, 101, 118], [116, 114, 117, 101], [102, 97, 108, 115, 101]]
def signs14 : List (List UInt8) := [[43], [45], [42], [47], [37], [61, 61], [33, 61], [60], [60, 61], [62], [62, 61], [38, 38], [124, 124], [33]]
def marks10 : List (List UInt8) := [[40], [41], [123], [125], [91], [93], [44], [59], [46], [61]]
def marks24 : List (List UInt8) := marks10 ++ signs14
/-- is it a word -/
def isW (s : List UInt8) : Bool := words20.contains s
/-- a sign's spelling -/
def spellF (k : Int) : List UInt8 := if k < 1 ∨ 14 < k then [] else signs14.getD (k - 1).toNat []
/-- how tightly a sign binds -/
def bindF (k : Int) : Int := if 1 ≤ k ∧ k ≤ 2 then 4 else if 3 ≤ k ∧ k ≤ 5 then 5 else if 6 ≤ k ∧ k ≤ 11 then 3 else if k = 12 then 2 else if k = 13 then 1 else 0
def stepM (s best m : List UInt8) : List UInt8 := if m.length ≤ s.length ∧ s.take m.length = m ∧ best.length < m.length then m else best
/-- the longest mark with which a text begins -/
def markF (s : List UInt8) : List UInt8 := marks24.foldl (stepM s) []
def strV (l : List (List UInt8)) : List Value := l.map fun s => .string ⟨s.toArray⟩
theorem strV_len (l : List (List UInt8)) : (strV l).length = l.length := by unfold strV; simp
theorem strV_at (l : List (List UInt8)) (k : Nat) (h : k < l.length) : (strV l)[k]? = some (.string ⟨l[k].toArray⟩) := by
  unfold strV; simp [List.getElem?_eq_getElem h]
theorem str_inj {a b : List UInt8} (h : (⟨a.toArray⟩ : ByteArray) = ⟨b.toArray⟩) : a = b := by
  injection h with h
  have := congrArg Array.toList h
  simpa using this
theorem foldl_take {α β : Type} (f : β → α → β) (b : β) (l : List α) (k : Nat) (h : k < l.length) : (l.take (k + 1)).foldl f b = f ((l.take k).foldl f b) l[k] := by
  rw [List.take_succ_eq_append_getElem h, List.foldl_append]; rfl
theorem contains_take (l : List (List UInt8)) (s : List UInt8) (k : Nat) (h : k < l.length) (h0 : (l.take k).contains s = false) (h1 : l[k] ≠ s) : (l.take (k + 1)).contains s = false := by
  rw [List.take_succ_eq_append_getElem h]
  simp only [List.contains_eq_any_beq, List.any_append, Bool.or_eq_false_iff] at h0 ⊢
  refine ⟨h0, ?_⟩
  simp
  exact fun e => h1 e.symm
theorem contains_at (l : List (List UInt8)) (s : List UInt8) (k : Nat) (h : k < l.length) (h1 : l[k] = s) : l.contains s = true := by
  rw [List.contains_iff_mem, ← h1]; exact List.getElem_mem h
/-! ### a mark has one or two bytes -/
theorem mark_nil : markF [] = [] := by decide +kernel
theorem fold_two (a b : UInt8) (r : List UInt8) : ∀ (l : List (List UInt8)) (best : List UInt8), (∀ m ∈ l, m.length ≤ 2) → l.foldl (stepM (a :: b :: r)) best = l.foldl (stepM [a, b]) best
  | [], best, _ => rfl
  | m :: l, best, h => by
    have hm := h m (by simp)
    have e : stepM (a :: b :: r) best m = stepM [a, b] best m := by
      unfold stepM
      have e1 : m.length ≤ (a :: b :: r).length ↔ m.length ≤ [a, b].length := by simp only [List.length_cons, List.length_nil]; omega
      have e2 : (a :: b :: r).take m.length = [a, b].take m.length := by
        rcases (show m.length = 0 ∨ m.length = 1 ∨ m.length = 2 by omega) with h | h | h <;> rw [h] <;> rfl
      simp only [e1, e2]
    rw [List.foldl_cons, List.foldl_cons, e]
    exact fold_two a b r l _ fun u hu => h u (by simp [hu])
theorem mark_two (a b : UInt8) (r : List UInt8) : markF (a :: b :: r) = markF [a, b] := fold_two a b r marks24 [] (by decide)
/-! ### given functions, signs of texts -/
def nLen : List UInt8 := [108, 101, 110]
def nFill : List UInt8 := [102, 105, 108, 108]
def nInput : List UInt8 := [105, 110, 112, 117, 116]
def nInputs : List UInt8 := [105, 110, 112, 117, 116, 115]
/-- how many arguments, or -1 -/
def givF (s : List UInt8) : Int := if s = nLen ∨ s = nInput then 1 else if s = nFill then 2 else if s = nInputs then 0 else -1
def givN (s : List UInt8) : Int := if 0 ≤ givF s then givF s else 0
def givB (s : List UInt8) : Bool := decide (0 ≤ givF s)
/-- the sign of a text, or 0 -/
def signF (s : List UInt8) : Int := if s ∈ signs14 then (signs14.idxOf s : Int) + 1 else 0
def isS (s : List UInt8) : Bool := decide (s ∈ signs14)
theorem spell_out {k : Int} (h : k < 1 ∨ 14 < k) : spellF k = [] := if_pos h
theorem spell_in {k : Int} (h1 : 1 ≤ k) (h2 : k ≤ 14) : spellF k ∈ signs14 ∧ signF (spellF k) = k ∧ spellF k ≠ [] := by
  obtain ⟨n, rfl⟩ : ∃ n : Nat, k = (n : Int) + 1 := ⟨(k - 1).toNat, by omega⟩
  have hn : n < 14 := by omega
  exact (by decide +kernel : ∀ n : Fin 14, spellF ((n.val : Int) + 1) ∈ signs14 ∧ signF (spellF ((n.val : Int) + 1)) = (n.val : Int) + 1 ∧ spellF ((n.val : Int) + 1) ≠ []) ⟨n, hn⟩
theorem sign_in {s : List UInt8} (h : s ∈ signs14) : 1 ≤ signF s ∧ signF s ≤ 14 ∧ spellF (signF s) = s ∧ s ≠ [] :=
  (by decide +kernel : ∀ s ∈ signs14, 1 ≤ signF s ∧ signF s ≤ 14 ∧ spellF (signF s) = s ∧ s ≠ []) s h
theorem sign_out {s : List UInt8} (h : s ∉ signs14) : signF s = 0 ∧ isS s = false := ⟨if_neg h, decide_eq_false h⟩
theorem spell_not {s : List UInt8} (h : s ∉ signs14) (_ : True) (k : Int) (h1 : 1 ≤ k) (h2 : k ≤ 14) : spellF k ≠ s := fun e => h (e ▸ (spell_in h1 h2).1)
theorem words_in : ∀ s ∈ words20, isW s = true := by decide +kernel
theorem spell_len (k : Int) : (spellF k).length ≤ 2 := by
  by_cases h : k < 1 ∨ 14 < k
  · rw [spell_out h]; simp
  · exact (by decide +kernel : ∀ s ∈ signs14, s.length ≤ 2) _ (spell_in (by omega) (by omega)).1
end Go.Proofs.YtgohkmdepjmpaaaDoor.wd

/- The document's own words, spellings, bindings and marks. -/
namespace Go.Proofs.YtgohkmdepjmpaaaDoor.wd
open Go.RowKit mem vt

/-- a row of texts, new -/
def Texts (w : World) (b : Nat) (l : List (List UInt8)) : Prop := w.heap[b]? = some (.cells (strV l).toArray 9 (0, 0))
theorem Texts.cell {w : World} {b : Nat} {l : List (List UInt8)} (h : Texts w b l) (k : Nat) (hk : k < l.length) : w.cell? ⟨b, k, none⟩ = some (.string ⟨l[k].toArray⟩) := by
  unfold World.cell?
  rw [h]
  have := strV_at l k hk
  simpa using this
theorem rall_any (w : World) : Calls Tryd.prog 42 #[] w fun e w' => e = .returned (.slice (some ⟨w.heap.size, 0, none⟩) 20 20) ∧ w.alloc (.cells (strV words20).toArray 9) = w' := by
  go_enter Tryd.func42, Tryd.ntmps42
  go_wp2
  go_ret
  exact ⟨rfl, rfl⟩
def IsRel (s : List UInt8) (W : World) (i : Value) (wr : World) : Prop := ∃ k : Nat, i = .int .i64 k ∧ k ≤ 20 ∧ Hid ((words20.take k).contains s = false) ∧ wr = W
theorem ris_any (s : List UInt8) (w : World) : Calls Tryd.prog 30 #[.string ⟨s.toArray⟩] w fun e w' => e = .returned (.bool (isW s)) ∧ Below w.heap.size w w' := by
  have HB := Lib.hid ((Below.refl w.heap.size w).alloc (Nat.le_refl _) (.cells (strV words20).toArray 9))
  have HT : Hid (Texts (w.alloc (.cells (strV words20).toArray 9)) w.heap.size words20) := Lib.hid (heap_alloc_new w _)
  have HA := Lib.hid (rall_any w)
  go_enter Tryd.func30, Tryd.ntmps30
  go_wp2_with (fail)
  refine HA.out.mono ?_
  rintro e w1 ⟨rfl, rfl⟩
  obtain ⟨W, hW⟩ : ∃ W, W = w.alloc (.cells (strV words20).toArray 9) := ⟨_, rfl⟩
  rw [← hW] at HB HT ⊢
  clear hW HA
  go_wp2_with (fail)
  go_loopw [4] (fun i wr => IsRel s W i wr) (fun i _ => 20 - (intOf i).toNat)
  case atStart => unfold IsRel; exact ⟨0, rfl, by omega, Lib.hid rfl, rfl⟩
  case round =>
    unfold IsRel at hrel
    obtain ⟨k, rfl, hk, HC, rfl⟩ := hrel
    by_cases hlt : k < 20
    · have hlt' : (k : Int) < 20 := by omega
      have hk0 : (0 : Int) ≤ (k : Int) := by omega
      have hkl : k < words20.length := hlt
      have c0 := HT.out.cell k hkl
      have HCN := Lib.hid (fun h1 => contains_take words20 s k hkl HC.out h1)
      have HCY := Lib.hid (fun h1 => contains_at words20 s k hkl h1)
      obtain ⟨m, hm⟩ : ∃ m, m = words20[k] := ⟨_, rfl⟩
      rw [← hm] at c0 HCN HCY
      clear hm
      go_wp2_with (fail)
      · go_ret
        exact ⟨by rw [show isW s = true from HCY.out (beq_iff_eq.1 (by assumption))]; rfl, HB.out⟩
      · go_roundw
        case rel => unfold IsRel; exact ⟨k + 1, by go_num, by omega, Lib.hid (HCN.out (beq_eq_false_iff_ne.1 (by assumption))), rfl⟩
        case measure => simp [intOf]; omega
    · obtain rfl : k = 20 := by omega
      go_wp2
      go_ret
      exact ⟨by rw [show isW s = false from HC.out]; rfl, HB.out⟩
/-! ### spellings -/
theorem rspell_any (k : Int) (w : World) (hk : I64 k) : Calls Tryd.prog 43 #[.int .i64 k] w fun e w' => e = .returned (.string ⟨(spellF k).toArray⟩) ∧ Below w.heap.size w w' := by
  have HB := Lib.hid ((Below.refl w.heap.size w).alloc (Nat.le_refl _) (.cells (strV signs14).toArray 9))
  have HT : Hid (Texts (w.alloc (.cells (strV signs14).toArray 9)) w.heap.size signs14) := Lib.hid (heap_alloc_new w _)
  unfold I64 at hk
  by_cases h1 : k < 1
  · rw [show spellF k = [] from if_pos (Or.inl h1)]
    go_enter Tryd.func43, Tryd.ntmps43
    go_wp2
    go_ret
    exact ⟨rfl, HB.out⟩
  by_cases h2 : 14 < k
  · rw [show spellF k = [] from if_pos (Or.inr h2)]
    go_enter Tryd.func43, Tryd.ntmps43
    go_wp2
    go_ret
    exact ⟨rfl, HB.out⟩
  obtain ⟨n, rfl⟩ : ∃ n : Nat, k = (n : Int) + 1 := ⟨(k - 1).toNat, by omega⟩
  have hn : n < signs14.length := by show n < 14; omega
  have hn2 : (n : Int) < 14 := by omega
  have hn0 : (0 : Int) ≤ n := by omega
  have hsp : spellF ((n : Int) + 1) = signs14[n] := by
    unfold spellF
    rw [if_neg (by omega), show ((n : Int) + 1 - 1).toNat = n by omega]
    rw [List.getD_eq_getElem?_getD, List.getElem?_eq_getElem hn]; rfl
  have c0 := HT.out.cell n hn
  rw [hsp]
  obtain ⟨W, hW⟩ : ∃ W, W = w.alloc (.cells (strV signs14).toArray 9) := ⟨_, rfl⟩
  obtain ⟨m, hm⟩ : ∃ m, m = signs14[n] := ⟨_, rfl⟩
  rw [← hm] at c0 ⊢
  rw [← hW] at HB c0
  have HW := Lib.hid hW
  clear hm hsp HT hW
  go_enter Tryd.func43, Tryd.ntmps43
  go_wp2_with (first | (change wpList _ _ _ _ _ (w.alloc (.cells (strV signs14).toArray 9)); rw [← HW.out]))
  go_ret
  exact ⟨rfl, HB.out⟩
theorem rbind_any (k : Int) (w : World) (_ : I64 k) : Calls Tryd.prog 23 #[.int .i64 k] w fun e w' => e = .returned (.int .i64 (bindF k)) ∧ w = w' := by
  obtain ⟨K, hK⟩ : ∃ K, K = bindF k := ⟨_, rfl⟩
  have HK := Lib.hid hK
  rw [← hK]
  clear hK
  go_enter Tryd.func23, Tryd.ntmps23
  go_wp2_with (fail)
  all_goals go_ret
  all_goals refine ⟨congrArg (fun x => Ending.returned (Value.int IntKind.i64 x)) ?_, rfl⟩
  all_goals have hk := HK.out
  all_goals unfold bindF at hk
  all_goals try simp only [beq_iff_eq, beq_eq_false_iff_ne] at *
  all_goals (repeat' split at hk) <;> omega
/-! ### the marks -/
theorem infoStr : (Tryd.prog.info? 9).map (fun i => (i.zero, i.size, i.bytes)) = some (some (.string ⟨#[]⟩), 1, 16) := by kernel_rfl
def MarkRel (w : World) (l i : Value) (wr : World) : Prop :=
  ∃ k : Nat, i = .int .i64 ((k : Int) + 1) ∧ k ≤ 14 ∧ Hid (wr.ownsRow w.heap.size 9 1 l (10 + k) (strV (marks10 ++ signs14.take k))) ∧ Hid (Below w.heap.size w wr)
def BestRel (s : List UInt8) (W : World) (b i : Value) (wr : World) : Prop :=
  ∃ k : Nat, i = .int .i64 k ∧ k ≤ 24 ∧ b = .string ⟨((marks24.take k).foldl (stepM s) []).toArray⟩ ∧ ∃ q, wr = W.drewN q
theorem ext_take (s : List UInt8) (m : Nat) : (⟨s.toArray⟩ : ByteArray).extract 0 m = ⟨(s.take m).toArray⟩ := by
  apply ByteArray.ext
  apply Array.ext'
  rw [Lib.extract_data]
  simp
theorem slice_pre (s : List UInt8) (m : Nat) (h : m ≤ s.length) (w : World) :
    (Instr.slice 9 (.string ⟨s.toArray⟩) none (some (.int .i64 m)) none).run Tryd.prog w = .ok (.string ⟨(s.take m).toArray⟩) w := by
  rw [run_slice_string_to_if w 9 _ .i64 (m : Int) Tryd.underlying9, if_pos ⟨by omega, by show (m : Int) ≤ (s.length : Int); omega⟩, Int.toNat_natCast, ext_take]
theorem mark_at (k : Nat) (h : k < 24) : marks24[k]? = some (marks24.getD k []) := by
  have : k < marks24.length := h
  rw [List.getD_eq_getElem?_getD, List.getElem?_eq_getElem this]; rfl
theorem mark_len : ∀ k, (marks24.getD k []).length ≤ 2 := by
  intro k
  by_cases h : k < 24
  · exact (by decide +kernel : ∀ j : Fin 24, (marks24.getD j.val []).length ≤ 2) ⟨k, h⟩
  · rw [List.getD_eq_getElem?_getD, List.getElem?_eq_none (by show 24 ≤ k; omega)]; simp
theorem fold_len (s : List UInt8) (l : List (List UInt8)) (b : List UInt8) (hb : b.length ≤ 2) (hl : ∀ m ∈ l, m.length ≤ 2) : (l.foldl (stepM s) b).length ≤ 2 := by
  induction l generalizing b with
  | nil => exact hb
  | cons m l ih =>
    rw [List.foldl_cons]
    refine ih _ ?_ fun x hx => hl x (by simp [hx])
    unfold stepM
    split
    · exact hl m (by simp)
    · exact hb
theorem own_addr {w : World} {base size n : Nat} {e : TypeId} {v : Value} {xs : List Value} (h : w.ownsRow base e size v n xs) (hn : 0 < n) : ∃ g c, v = .slice (some ⟨g, 0, none⟩) n c := by
  rcases h.2 with ⟨_, h0⟩ | ⟨g, c, cur, hv, _⟩
  · omega
  · exact ⟨g, c, hv⟩
theorem spell_at (k : Nat) (h : k < 14) : ∃ hk : k < signs14.length, signs14[k] = spellF ((k : Int) + 1) := by
  refine ⟨h, ?_⟩
  unfold spellF
  rw [if_neg (by omega), show ((k : Int) + 1 - 1).toNat = k by omega, List.getD_eq_getElem?_getD, List.getElem?_eq_getElem (show k < signs14.length from h)]; rfl
theorem marks_step (k : Nat) (h : k < 14) : strV (marks10 ++ signs14.take k) ++ [.string ⟨(spellF ((k : Int) + 1)).toArray⟩] = strV (marks10 ++ signs14.take (k + 1)) := by
  obtain ⟨hk, e⟩ := spell_at k h
  rw [List.take_succ_eq_append_getElem hk, e]
  unfold strV
  simp
theorem step_yes {s b m : List UInt8} (h1 : m.length ≤ s.length) (h2 : s.take m.length = m) (h3 : b.length < m.length) : stepM s b m = m := if_pos ⟨h1, h2, h3⟩
theorem step_no {s b m : List UInt8} (h : ¬ (m.length ≤ s.length ∧ s.take m.length = m ∧ b.length < m.length)) : stepM s b m = b := if_neg h
set_option maxHeartbeats 400000 in
theorem rmark_any (s : List UInt8) (w : World) (_ : s.length ≤ 281474976710656) : Calls Tryd.prog 32 #[.string ⟨s.toArray⟩] w fun e w' => e = .returned (.string ⟨(markF s).toArray⟩) ∧ Below w.heap.size w w' := by
  obtain ⟨i0, hi, hz0, hz1, hz2⟩ := info_parts infoStr
  have H0 : Hid ((w.alloc (.cells (strV marks10).toArray 9)).ownsRow w.heap.size 9 1 (.slice (some ⟨w.heap.size, 0, none⟩) 10 10) 10 (strV (marks10 ++ signs14.take 0))) := Lib.hid (by
    have h := World.ownsRow_lit (size := 1) (e := 9) w (strV marks10).toArray 10 (base := w.heap.size) (by omega) (by decide) (by decide)
    exact h)
  have HB0 := Lib.hid ((Below.refl w.heap.size w).alloc (Nat.le_refl _) (.cells (strV marks10).toArray 9))
  go_enter Tryd.func32, Tryd.ntmps32
  go_wp2_with (fail)
  go_loopw [3, 4] (fun l i wr => MarkRel w l i wr) (fun _ i _ => 15 - (intOf i).toNat)
  case atStart => unfold MarkRel; exact ⟨0, rfl, by omega, H0, HB0⟩
  case round =>
    unfold MarkRel at hrel
    obtain ⟨k, rfl, hk, ho, hb⟩ := hrel
    obtain ⟨g1, c1, rfl⟩ := own_addr ho.out (by omega)
    by_cases hlt : k < 14
    · have hlt' : (k : Int) + 1 ≤ 14 := by omega
      have HS := Lib.hid (rspell_any ((k : Int) + 1) wr (by unfold I64; omega))
      go_wp2_with (fail)
      refine HS.out.mono ?_
      rintro e w1 ⟨rfl, hb1⟩
      have ho1 := own_below ho.out hb1
      have hb2 := hb.out.trans (hb1.mono hb.out.size)
      have hB : w.heap.size ≤ w1.heap.size := hb2.size
      have HB2 := Lib.hid hb2
      clear HS hb hb1 ho hb2
      go_wp2_with (at_builtin; refine wpList_append_own _ rfl _ _ 72 rfl w.heap.size 9 i0 (.string ⟨#[]⟩) 1 16 Tryd.underlying72 hi hz0 hz1 hz2 rfl (by decide) _ _ _ rfl (ho1.alloc _) ⟨w1.heap.size, 0, none⟩ 1 1 [.string ⟨(spellF ((k : Int) + 1)).toArray⟩] rfl rfl (new_one _ _ _) (by intro u hu; simp at hu; subst hu; rfl) (by unfold maxLen; omega) (by omega) (by simp; omega) ?_; intro v' w3 hown' hgrow _)
      have HG := Lib.hid (Got.app (⟨ho1, HB2.out⟩ : Got w.heap.size 9 1 (10 + k) (strV (marks10 ++ signs14.take k)) (.slice (some ⟨g1, 0, none⟩) (10 + k) c1) w w1) hB hown' hgrow)
      clear hown' hgrow ho1 HB2
      go_roundw
      case rel => unfold MarkRel; exact ⟨k + 1, by go_num, by omega, Lib.hid (by rw [← marks_step k hlt]; exact HG.out.1), Lib.hid HG.out.2⟩
      case measure => simp [intOf]; omega
    · obtain rfl : k = 14 := by omega
      clear hi hz0 hz1 hz2 H0 HB0
      rw [show 10 + 14 = 24 from rfl] at ho ⊢
      go_wp2_with (fail)
      go_loopw [5, 6] (fun b i w' => BestRel s wr b i w') (fun _ i _ => 24 - (intOf i).toNat)
      case atStart => unfold BestRel; exact ⟨0, rfl, by omega, rfl, 0, rfl⟩
      case round =>
        unfold BestRel at hrel
        obtain ⟨k, rfl, hk, rfl, q, rfl⟩ := hrel
        by_cases hlt : k < 24
        · have hlt' : (k : Int) < 24 := by omega
          have hk0 : (0 : Int) ≤ (k : Int) := by omega
          have hkl : k < marks24.length := hlt
          have c0 := ho.out.cellAt k (by omega)
          rw [show marks10 ++ signs14.take 14 = marks24 from rfl, strV_at marks24 k hkl] at c0
          have HST := Lib.hid (foldl_take (stepM s) [] marks24 k hkl)
          have hbl := fold_len s (marks24.take k) [] (by simp) (fun m hm => (by decide : ∀ m ∈ marks24, m.length ≤ 2) m (List.mem_of_mem_take hm))
          have hml : marks24[k].length ≤ 2 := (by decide : ∀ m ∈ marks24, m.length ≤ 2) _ (List.getElem_mem hkl)
          obtain ⟨b, hb⟩ : ∃ b, b = (marks24.take k).foldl (stepM s) [] := ⟨_, rfl⟩
          obtain ⟨m, hm⟩ : ∃ m, m = marks24[k] := ⟨_, rfl⟩
          rw [← hb, ← hm] at HST
          rw [← hb] at hbl ⊢
          rw [← hm] at c0 hml
          clear hb hm
          by_cases d1 : m.length ≤ s.length
          · have d1' : (m.length : Int) ≤ (s.length : Int) := by omega
            have hsl := slice_pre s m.length d1
            by_cases d2 : s.take m.length = m
            · have d2' : (s.take m.length == m) = true := by rw [beq_iff_eq]; exact d2
              have D2 := Lib.hid d2
              clear d2
              by_cases d3 : b.length < m.length
              · have d3' : (b.length : Int) < (m.length : Int) := by omega
                go_wp2_with (fail)
                go_quiet (fail)
                go_wp2_with (fail)
                go_roundw
                case rel => unfold BestRel; exact ⟨k + 1, by go_num, by omega, by rw [HST.out, step_yes d1 D2.out d3], _, rfl⟩
                case measure => simp [intOf]; omega
              · have d3' : decide ((b.length : Int) < (m.length : Int)) = false := by rw [decide_eq_false_iff_not]; omega
                go_wp2_with (fail)
                go_quiet (fail)
                go_wp2_with (fail)
                go_roundw
                case rel => unfold BestRel; exact ⟨k + 1, by go_num, by omega, by rw [HST.out, step_no (fun h => d3 h.2.2)], _, rfl⟩
                case measure => simp [intOf]; omega
            · have d2' : (s.take m.length == m) = false := by rw [beq_eq_false_iff_ne]; exact d2
              have D2 := Lib.hid d2
              clear d2
              go_wp2_with (fail)
              go_quiet (fail)
              go_wp2_with (fail)
              go_roundw
              case rel => unfold BestRel; exact ⟨k + 1, by go_num, by omega, by rw [HST.out, step_no (fun h => D2.out h.2.1)], _, rfl⟩
              case measure => simp [intOf]; omega
          · have d1' : decide ((m.length : Int) ≤ (s.length : Int)) = false := by rw [decide_eq_false_iff_not]; omega
            go_wp2_with (fail)
            go_quiet (fail)
            go_wp2_with (fail)
            go_roundw
            case rel => unfold BestRel; exact ⟨k + 1, by go_num, by omega, by rw [HST.out, step_no (fun h => d1 h.1)], _, rfl⟩
            case measure => simp [intOf]; omega
        · obtain rfl : k = 24 := by omega
          go_wp2_with (fail)
          go_ret
          exact ⟨rfl, below_drewN hb.out _⟩
end Go.Proofs.YtgohkmdepjmpaaaDoor.wd

/- The package's functions, over its two tables. -/
namespace Go.Proofs.YtgohkmdepjmpaaaDoor.wd
open Go.RowKit mem vt

/-- all spellings, at their places in the package's table -/
def spell25 : List (List UInt8) := [] :: signs14 ++ marks10
/-- a table of texts in the block g -/
def TabAt (w : World) (g : Nat) (l : List (List UInt8)) : Prop := ∃ t fr, w.heap[g]? = some (.cells (strV l).toArray t fr)
theorem TabAt.below {w w' : World} {g : Nat} {l : List (List UInt8)} (h : TabAt w g l) (hb : Below w.heap.size w w') : TabAt w' g l := by
  obtain ⟨t, fr, hg⟩ := h
  exact ⟨t, fr, by rw [hb.block g (Array.getElem?_eq_some_iff.1 hg).1]; exact hg⟩
theorem TabAt.cell {w : World} {g : Nat} {l : List (List UInt8)} (h : TabAt w g l) (k : Nat) (hk : k < l.length) : w.cell? ⟨g, k, none⟩ = some (.string ⟨l[k].toArray⟩) := by
  obtain ⟨t, fr, hg⟩ := h
  rw [cell_of_row w g k _ t fr hg]
  simpa using strV_at l k hk
theorem index_tab (ty : TypeId) (n : Nat) (l : List (List UInt8)) (k : Nat) (hu : Tryd.prog.underlying ty = some (.array n 9)) (hn : l.length = n) (hk : k < l.length) (w : World) :
    (Instr.index ty (.agg (strV l).toArray) (.int .i64 k)).run Tryd.prog w = .ok (.string ⟨l[k].toArray⟩) w := by
  have h : (strV l).toArray[k]? = some (.string ⟨l[k].toArray⟩) := by simpa using strV_at l k hk
  have hlt : (0 : Int) ≤ (k : Int) ∧ (k : Int) < (n : Int) := by omega
  have hp : Tryd.prog.plainKey 9 = true := by kernel_rfl
  obtain ⟨i0, hi, hz0, hz1, hz2⟩ := info_parts infoStr
  have hs : Tryd.prog.cellsOf 9 = 1 := by kernel_rfl
  have hkn : k < n := by omega
  simp [Instr.index, run_underlying hu, asIntOf, hkn, run_sizeOf w hi, hs, strV_at l k hk, go_sem]
/-- the table words20 as a letter; what is read at each index -/
theorem words_tab {w : World} {g : Nat} (h : TabAt w g words20) : ∃ ws : List Value, (w.rangeAt g 0 ws ∧ (Tryd.prog.info? 98).map (·.size) = some ws.length) ∧
    ∀ (k : Nat) (hk : k < words20.length) (w' : World), (Instr.index 98 (.agg ws.toArray) (.int .i64 k)).run Tryd.prog w' = .ok (.string ⟨words20[k].toArray⟩) w' := by
  refine ⟨strV words20, ⟨?_, ?_⟩, fun k hk w' => index_tab 98 20 words20 k Tryd.underlying98 rfl hk w'⟩
  · intro j v hv
    obtain ⟨t, fr, hg⟩ := h
    rw [Nat.zero_add, cell_of_row w g j _ t fr hg]
    simpa using hv
  · rw [strV_len]; kernel_rfl
/-- the table spell25 as a letter; what is read at each index -/
theorem spells_tab {w : World} {g : Nat} (h : TabAt w g spell25) : ∃ ws : List Value, (w.rangeAt g 0 ws ∧ (Tryd.prog.info? 99).map (·.size) = some ws.length) ∧
    ∀ (k : Nat) (hk : k < spell25.length) (w' : World), (Instr.index 99 (.agg ws.toArray) (.int .i64 k)).run Tryd.prog w' = .ok (.string ⟨spell25[k].toArray⟩) w' := by
  refine ⟨strV spell25, ⟨?_, ?_⟩, fun k hk w' => index_tab 99 25 spell25 k Tryd.underlying99 rfl hk w'⟩
  · intro j v hv
    obtain ⟨t, fr, hg⟩ := h
    rw [Nat.zero_add, cell_of_row w g j _ t fr hg]
    simpa using hv
  · rw [strV_len]; kernel_rfl
/-- what the call finds laid: the package's tables -/
def LD (w : World) : Prop := TabAt w 0 words20 ∧ TabAt w 1 spell25
theorem LD.on {w w' : World} (h : LD w) (hb : Below w.heap.size w w') : LD w' := ⟨h.1.below hb, h.2.below hb⟩
def AllRel (w : World) (l i : Value) (wr : World) : Prop :=
  ∃ k : Nat, i = .int .i64 k ∧ k ≤ 20 ∧ Hid (Got w.heap.size 9 1 k (strV (words20.take k)) l w wr)
theorem words_step (k : Nat) (h : k < words20.length) : strV (words20.take k) ++ [.string ⟨words20[k].toArray⟩] = strV (words20.take (k + 1)) := by
  rw [List.take_succ_eq_append_getElem h]
  unfold strV
  rw [List.map_append]; rfl
def IsRelC (s : List UInt8) (W : World) (i : Value) (wr : World) : Prop := ∃ k : Nat, i = .int .i64 k ∧ k ≤ 20 ∧ Hid ((words20.take k).contains s = false) ∧ wr = W
set_option maxRecDepth 100000 in
theorem is_any (s : List UInt8) (w : World) (hs : s.length ≤ 1048576) (hL : LD w) : Calls Tryd.prog 65 #[.string ⟨s.toArray⟩] w fun e w' => e = .returned (.bool (isW s)) ∧ Below w.heap.size w w' := by
  clear hs
  have HB := Lib.hid (Below.refl w.heap.size w)
  obtain ⟨ws, hl, HX0⟩ := words_tab hL.1
  have HL := Lib.hid hl
  have HX := Lib.hid HX0
  clear HX0 hL hl
  go_enter Tryd.func65, Tryd.ntmps65
  go_wp2_with (refine wpList_load_mid rfl _ _ rfl 0 0 rfl ws _ HL.out.1 Tryd.underlying98 rfl HL.out.2 ?_)
  go_loopw [6] (fun i wr => IsRelC s w i wr) (fun i _ => 20 - (intOf i).toNat)
  case atStart => unfold IsRelC; exact ⟨0, rfl, by omega, Lib.hid rfl, rfl⟩
  case round =>
    unfold IsRelC at hrel
    obtain ⟨k, rfl, hk, HC, rfl⟩ := hrel
    by_cases hlt : k < 20
    · have hlt' : (k : Int) < 20 := by omega
      have hkl : k < words20.length := hlt
      have hx := HX.out k hkl wr
      have HCN := Lib.hid (fun h1 => contains_take words20 s k hkl HC.out h1)
      have HCY := Lib.hid (fun h1 => contains_at words20 s k hkl h1)
      obtain ⟨m, hm⟩ : ∃ m, m = words20[k] := ⟨_, rfl⟩
      rw [← hm] at hx HCN HCY
      clear hm
      go_wp2_with (fail)
      · go_ret
        exact ⟨by rw [show isW s = true from HCY.out (beq_iff_eq.1 (by assumption))]; rfl, HB.out⟩
      · go_roundw
        case rel => unfold IsRelC; exact ⟨k + 1, by go_num, by omega, Lib.hid (HCN.out (beq_eq_false_iff_ne.1 (by assumption))), rfl⟩
        case measure => simp [intOf]; omega
    · obtain rfl : k = 20 := by omega
      go_wp2_with (fail)
      go_ret
      exact ⟨by rw [show isW s = false from HC.out]; rfl, HB.out⟩
theorem giv_len : givN nLen = 1 ∧ givB nLen = true := by decide +kernel
theorem giv_input : givN nInput = 1 ∧ givB nInput = true := by decide +kernel
theorem giv_fill : givN nFill = 2 ∧ givB nFill = true := by decide +kernel
theorem giv_inputs : givN nInputs = 0 ∧ givB nInputs = true := by decide +kernel
theorem giv_out {s : List UInt8} (h1 : s ≠ nLen) (h2 : s ≠ nInput) (h3 : s ≠ nFill) (h4 : s ≠ nInputs) : givN s = 0 ∧ givB s = false := by
  have h : givF s = -1 := by unfold givF; rw [if_neg (fun h => h.elim h1 h2), if_neg h3, if_neg h4]
  unfold givN givB
  rw [h]
  decide
theorem bind_any (k : Int) (w : World) (hk : I64 k) (hL : LD w) : Calls Tryd.prog 60 #[.int .i64 k] w fun e w' => e = .returned (.int .i64 (bindF k)) ∧ Below w.heap.size w w' := by
  clear hL
  have HB := Lib.hid (Below.refl w.heap.size w)
  obtain ⟨K, hK⟩ : ∃ K, K = bindF k := ⟨_, rfl⟩
  have HK := Lib.hid hK
  rw [← hK]
  clear hK
  go_enter Tryd.func60, Tryd.ntmps60
  go_wp2_with (fail)
  all_goals go_ret
  all_goals refine ⟨congrArg (fun x => Ending.returned (Value.int IntKind.i64 x)) ?_, HB.out⟩
  all_goals have hk := HK.out
  all_goals unfold bindF at hk
  all_goals try simp only [beq_iff_eq, beq_eq_false_iff_ne] at *
  all_goals (repeat' split at hk) <;> omega
/-! ### spellings -/
theorem spell25_at (n : Nat) (h : n < 14) : ∃ hk : n + 1 < spell25.length, spell25[n + 1] = spellF ((n : Int) + 1) := by
  have hk : n + 1 < spell25.length := by show n + 1 < 25; omega
  refine ⟨hk, ?_⟩
  obtain ⟨h1, e⟩ := spell_at n h
  rw [← e]
  have : spell25[n + 1]? = signs14[n]? := by
    show ([] :: signs14 ++ marks10)[n + 1]? = _
    rw [List.cons_append, List.getElem?_cons_succ, List.getElem?_append_left h1]
  rw [List.getElem?_eq_getElem hk, List.getElem?_eq_getElem h1] at this
  exact Option.some.inj this
/-! ### the sign of a text -/
theorem sign_at : ∀ n : Fin 14, signF (signs14.getD n.val []) = (n.val : Int) + 1 ∧ isS (signs14.getD n.val []) = true := by decide +kernel
theorem sign_hit {s : List UInt8} (n : Nat) (h : n < 14) (e : spellF ((n : Int) + 1) = s) : signF s = (n : Int) + 1 ∧ isS s = true := by
  obtain ⟨hk, e2⟩ := spell_at n h
  have h1 := sign_at ⟨n, h⟩
  rw [List.getD_eq_getElem?_getD, List.getElem?_eq_getElem hk, Option.getD_some, e2, e] at h1
  exact h1
theorem sign_miss {s : List UInt8} (n : Nat) (h : n < 14) (h0 : (signs14.take n).contains s = false) (e : spellF ((n : Int) + 1) ≠ s) : (signs14.take (n + 1)).contains s = false := by
  obtain ⟨hk, e2⟩ := spell_at n h
  exact contains_take signs14 s n hk h0 (by rw [e2]; exact e)
theorem sign_none {s : List UInt8} (h : (signs14.take 14).contains s = false) : signF s = 0 ∧ isS s = false := by
  refine sign_out (fun hm => ?_)
  have : signs14.contains s = true := List.contains_iff_mem.2 hm
  rw [show signs14.take 14 = signs14 from rfl, this] at h
  cases h
def SignRel (s : List UInt8) (W : World) (i : Value) (wr : World) : Prop := ∃ k : Nat, i = .int .i64 ((k : Int) + 1) ∧ k ≤ 14 ∧ Hid ((signs14.take k).contains s = false) ∧ wr = W
theorem sign_any (s : List UInt8) (w : World) (hs : s.length ≤ 1048576) (hL : LD w) : Calls Tryd.prog 67 #[.string ⟨s.toArray⟩] w fun e w' => e = .returned (.tuple #[.int .i64 (signF s), .bool (isS s)]) ∧ Below w.heap.size w w' := by
  clear hs
  have HB := Lib.hid (Below.refl w.heap.size w)
  have HT : Hid (∀ n : Nat, n < 14 → w.cell? ⟨1, n + 1, none⟩ = some (.string ⟨(spellF ((n : Int) + 1)).toArray⟩)) := Lib.hid (fun n hn => by
    obtain ⟨hlt, e⟩ := spell25_at n hn
    rw [TabAt.cell hL.2 (n + 1) hlt, e])
  clear hL
  go_enter Tryd.func67, Tryd.ntmps67
  go_wp2_with (fail)
  go_loopw [4] (fun i wr => SignRel s w i wr) (fun i _ => 15 - (intOf i).toNat)
  case atStart => unfold SignRel; exact ⟨0, rfl, by omega, Lib.hid rfl, rfl⟩
  case round =>
    unfold SignRel at hrel
    obtain ⟨k, rfl, hk, HC, rfl⟩ := hrel
    by_cases hlt : k < 14
    · have hlt' : (k : Int) + 1 ≤ 14 := by omega
      have c0 := HT.out k hlt
      have HCN := Lib.hid (fun h1 => sign_miss k hlt HC.out h1)
      have HCY := Lib.hid (fun h1 => sign_hit (s := s) k hlt h1)
      obtain ⟨m, hm⟩ : ∃ m, m = spellF ((k : Int) + 1) := ⟨_, rfl⟩
      rw [← hm] at c0 HCN HCY
      clear hm HC
      go_wp2_with (fail)
      · have h := HCY.out (beq_iff_eq.1 (by assumption))
        go_ret2
        exact ⟨by rw [h.1, h.2]; rfl, HB.out⟩
      · go_roundw
        case rel => unfold SignRel; exact ⟨k + 1, by go_num, by omega, Lib.hid (HCN.out (beq_eq_false_iff_ne.1 (by assumption))), rfl⟩
        case measure => simp [intOf]; omega
    · obtain rfl : k = 14 := by omega
      have h := Lib.hid (sign_none HC.out)
      clear HC
      go_wp2_with (fail)
      go_ret2
      exact ⟨by rw [h.out.1, h.out.2]; rfl, HB.out⟩
/-! ### the longest mark: in whatever order -/
/-- does the mark stand at the text's head -/
def isPre (s m : List UInt8) : Bool := decide (m.length ≤ s.length ∧ s.take m.length = m)
def lenM (s : List UInt8) (n : Nat) (m : List UInt8) : Nat := if isPre s m = true then max n m.length else n
theorem lens_any (s : List UInt8) : ∀ (l : List (List UInt8)) (n : Nat), l.foldl (lenM s) n = max n (l.foldl (lenM s) 0)
  | [], n => by simp
  | m :: l, n => by
    rw [List.foldl_cons, List.foldl_cons, lens_any s l (lenM s n m), lens_any s l (lenM s 0 m)]
    unfold lenM
    split <;> omega
theorem lens_swap (s : List UInt8) (a b : List (List UInt8)) : (a ++ b).foldl (lenM s) 0 = (b ++ a).foldl (lenM s) 0 := by
  rw [List.foldl_append, List.foldl_append, lens_any s b, lens_any s a (List.foldl _ _ _)]
  omega
theorem mark_len_of (s : List UInt8) : ∀ (l : List (List UInt8)) (b : List UInt8), b.length ≤ s.length → s.take b.length = b → l.foldl (stepM s) b = s.take (l.foldl (lenM s) b.length)
  | [], b, _, h => h.symm
  | m :: l, b, h1, h2 => by
    rw [List.foldl_cons, List.foldl_cons]
    by_cases h : m.length ≤ s.length ∧ s.take m.length = m
    · by_cases h3 : b.length < m.length
      · rw [step_yes h.1 h.2 h3, mark_len_of s l m h.1 h.2]
        congr 2
        unfold lenM
        rw [if_pos (by unfold isPre; exact decide_eq_true h)]
        omega
      · rw [step_no (fun x => h3 x.2.2), mark_len_of s l b h1 h2]
        congr 2
        unfold lenM
        rw [if_pos (by unfold isPre; exact decide_eq_true h)]
        omega
    · rw [step_no (fun x => h ⟨x.1, x.2.1⟩), mark_len_of s l b h1 h2]
      congr 2
      unfold lenM
      rw [if_neg (by unfold isPre; simpa using h)]
theorem mark_25 (s : List UInt8) : spell25.foldl (stepM s) [] = markF s := by
  unfold markF
  rw [mark_len_of s spell25 [] (by simp) (by simp), mark_len_of s marks24 [] (by simp) (by simp)]
  congr 1
  show ([] :: (signs14 ++ marks10)).foldl (lenM s) 0 = _
  rw [List.foldl_cons, show lenM s 0 [] = 0 from by unfold lenM; split <;> rfl]
  exact lens_swap s signs14 marks10
theorem step_pre {s b m : List UInt8} (h1 : b.length < m.length) : stepM s b m = if isPre s m = true then m else b := by
  unfold stepM isPre
  by_cases h : m.length ≤ s.length ∧ s.take m.length = m
  · rw [if_pos ⟨h.1, h.2, h1⟩, if_pos (decide_eq_true h)]
  · rw [if_neg (fun x => h ⟨x.1, x.2.1⟩), if_neg (by simpa using h)]
def BestRelC (s : List UInt8) (W : World) (b i : Value) (wr : World) : Prop :=
  ∃ k : Nat, i = .int .i64 k ∧ k ≤ 25 ∧ b = .string ⟨((spell25.take k).foldl (stepM s) []).toArray⟩ ∧ ∃ q, wr = W.drewN q
theorem spell25_len : ∀ m ∈ spell25, m.length ≤ 2 := by decide
end Go.Proofs.YtgohkmdepjmpaaaDoor.wd

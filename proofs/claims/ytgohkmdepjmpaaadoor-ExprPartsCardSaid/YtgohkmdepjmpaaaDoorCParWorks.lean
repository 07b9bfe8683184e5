/- The layer's works() answers true. -/
import Derived.Test.YtgohkmdepjmpaaaDoorCParCon
import Derived.Test.YtgohkmdepjmpaaaDoorCParSrc
namespace Go.Proofs.YtgohkmdepjmpaaaDoor.pm
open Go.RowKit wd lx nt ne mem
open vt (I64 own_form)

theorem tok_case (ts : List Tok) (i : Int) : (∃ t ∈ ts, tokAt (ts.map toTk) i = toTk t) ∨ tokAt (ts.map toTk) i = ⟨0, 0, 0, []⟩ := by
  by_cases h0 : 0 ≤ i ∧ i.toNat < ts.length
  · refine Or.inl ⟨ts[i.toNat], List.getElem_mem h0.2, ?_⟩
    unfold tokAt
    rw [if_pos h0.1, List.getD_eq_getElem?_getD, List.getElem?_map, List.getElem?_eq_getElem h0.2]
    rfl
  · refine Or.inr ?_
    unfold tokAt
    by_cases h1 : 0 ≤ i
    · rw [if_pos h1, List.getD_eq_getElem?_getD, List.getElem?_eq_none (by rw [List.length_map]; omega)]
      rfl
    · rw [if_neg h1]
theorem tok_mem {ts : List Tok} {t : Tok} (h : t ∈ ts) : ∃ i, tokAt (ts.map toTk) i = toTk t := by
  obtain ⟨k, hk, e⟩ := List.getElem_of_mem h
  refine ⟨(k : Int), ?_⟩
  unfold tokAt
  rw [if_pos (by omega), List.getD_eq_getElem?_getD, List.getElem?_map, Int.toNat_natCast, List.getElem?_eq_getElem hk, e]
  rfl
theorem fine_each {ts : List Tok} (h : ∀ t ∈ ts, ∃ (s : List UInt8) (us : List Tok), Cut s us ∧ t ∈ us) : Fine (ts.map toTk) := by
  refine ⟨fun i => ?_, fun i => ?_⟩
  · rcases tok_case ts i with ⟨t, ht, e⟩ | e
    · obtain ⟨s, us, hc, hu⟩ := h t ht
      obtain ⟨k, hk⟩ := tok_mem hu
      rw [e, ← hk]
      exact hc.good k
    · rw [e]
      exact ⟨fun q => absurd q (by show ¬ (0 : Int) = 1; decide), fun q => absurd q (by show ¬ (0 : Int) = 2; decide)⟩
  · rcases tok_case ts i with ⟨t, ht, e⟩ | e
    · obtain ⟨s, us, hc, hu⟩ := h t ht
      have := (hc.raw t hu).2
      rw [e]
      show t.text.length ≤ 1048576
      omega
    · rw [e]
      exact Nat.zero_le _
theorem Cut.fine {s : List UInt8} {ts : List Tok} (h : Cut s ts) : Fine (ts.map toTk) := fine_each fun _ ht => ⟨s, ts, h, ht⟩
theorem fine_join {s s2 : List UInt8} {ts ms : List Tok} {K : Nat} (h : Cut s ts) (h2 : Cut s2 ms) : Fine (((ts.take K) ++ ms).map toTk) := fine_each fun t ht => (List.mem_append.1 ht).elim (fun q => ⟨s, ts, h, List.mem_of_mem_take q⟩) fun q => ⟨s2, ms, h2, q⟩
def ex13 : List UInt8 := [97, 32, 43, 32, 98, 32, 42, 32, 99, 32, 60, 32, 100, 32, 60, 32, 101]
def tk13 : List Tok := [⟨1, 0, 0, [97]⟩, ⟨4, 2, 0, [43]⟩, ⟨1, 4, 0, [98]⟩, ⟨4, 6, 0, [42]⟩, ⟨1, 8, 0, [99]⟩, ⟨4, 10, 0, [60]⟩, ⟨1, 12, 0, [100]⟩, ⟨4, 14, 0, [60]⟩, ⟨1, 16, 0, [101]⟩, ⟨0, 17, 0, []⟩]
def nd13 : NT := .mk 16 10 8 [] [.mk 16 2 1 [] [.mk 12 0 0 [97] [], .mk 16 6 3 [] [.mk 12 4 0 [98] [], .mk 12 8 0 [99] []]], .mk 12 12 0 [100] []]
theorem ex_lex13 : lexW ex13 0 = (0, 0, tk13) := by kernel_rfl
theorem ex_run13 : run (tk13.map toTk) 40 (.lev 1) 0 = some (.node nd13 7) := by kernel_rfl
set_option maxRecDepth 100000 in
set_option maxHeartbeats 2000000 in
theorem works13_any (w : World) (hL : LD w) : Calls Tryd.prog 6 #[] w fun e w' => e = .returned (.bool true) ∧ Below w.heap.size w w' := by
  have HA := rlall_any ⟨ex13.toArray⟩ w (by decide)
  have e13 : (⟨ex13.toArray⟩ : ByteArray).data.toList = ex13 := by simp
  rw [e13, ex_lex13] at HA
  have HA := Lib.hid HA
  have HC := Lib.hid (cut_of (by decide) ex_lex13)
  have HL := Lib.hid hL
  clear hL
  go_enter Tryd.func6, Tryd.ntmps6
  go_wp2_with (fail)
  refine HA.out.mono ?_
  rintro e w1 ⟨v, rfl, hg⟩
  have hb1 : Below w.heap.size w w1 := hg.2
  obtain ⟨f, r, hr, hx⟩ := eexpr_any 0 (src_got HC.out (by decide) hg) HC.out.fine (by unfold I64; omega) (HL.out.on hb1)
  obtain rfl : r = .node nd13 7 := run_one _ hr ex_run13
  have hx2 : Calls Tryd.prog 8 #[v, .int .i64 0] w1 fun e w' => ∃ s, e = .returned (.tuple #[.agg #[.int .i64 16, .int .i64 10, .int .i64 8, .string ⟨#[]⟩, s], .int .i64 7, .int .i64 0]) ∧ nt.Kids (fun _ => True) w' nd13.kids s ∧ Hd nd13 ∧ Below w1.heap.size w1 w' := hx
  have HX := Lib.hid hx2
  have HB1 := Lib.hid hb1
  clear hx hx2 hr hg hb1 HA
  go_wp2_with (fail)
  refine HX.out.mono ?_
  rintro e w2 ⟨s, rfl, hk, hd, hb2⟩
  obtain ⟨b, off, cq, q, hsl, _, _, _, _, c2, _, _, _⟩ := hk.kid (Below.refl _ _) 0 (by decide)
  change s = .slice (some ⟨b, off, none⟩) 2 cq at hsl
  change w2.cell? _ = some (.int .i64 1) at c2
  subst hsl
  have hB2 := HB1.out.trans (hb2.mono HB1.out.size)
  obtain ⟨V, hV⟩ : ∃ V, V = w2.alloc (.cells #[.int .i64 0, .int .i64 0, .int .i64 0, .string ⟨#[]⟩, .slice none 0 0] NodeT) := ⟨_, rfl⟩
  obtain ⟨O, hO⟩ : ∃ O, O = w2.heap.size := ⟨_, rfl⟩
  have hbV : Below w.heap.size w V := by rw [hV]; exact hB2.alloc hB2.size _
  have bO : Box V O NodeT #[.int .i64 0, .int .i64 0, .int .i64 0, .string ⟨#[]⟩, .slice none 0 0] := by rw [hV]; exact Box.new _ _ _ _ hO
  have hbU := below_five (R := O) hbV (by rw [hO]; exact hB2.size) (.int .i64 16) (.int .i64 10) (.int .i64 8) (.string ⟨#[]⟩) (.slice (some ⟨b, off, none⟩) 2 cq)
  have hlt : b < w2.heap.size := World.block_lt_of_cell? _ _ c2
  have hne : b ≠ O := by omega
  have c3 : (five V O (.int .i64 16) (.int .i64 10) (.int .i64 8) (.string ⟨#[]⟩) (.slice (some ⟨b, off, none⟩) 2 cq)).cell? ⟨b, off + 0 * 5 + 2, none⟩ = some (.int .i64 1) := (five_cell V O (.int .i64 16) (.int .i64 10) (.int .i64 8) (.string ⟨#[]⟩) (.slice (some ⟨b, off, none⟩) 2 cq) b _ hne).trans (by rw [hV]; exact (World.cell?_alloc_lt _ _ _ hlt).trans c2)
  rw [Nat.zero_mul, Nat.add_zero] at c3
  have o0 := bO.cell 0
  have o1 := bO.cell 1
  have o2 := bO.cell 2
  have o3 := bO.cell 3
  have o4 := bO.cell 4
  have og0 := bO.frozen 0
  have og1 := bO.frozen 1
  have og2 := bO.frozen 2
  have og3 := bO.frozen 3
  have og4 := bO.frozen 4
  simp only [List.getElem?_toArray, List.getElem?_cons_zero, List.getElem?_cons_succ] at o0 o1 o2 o3 o4
  have HV := Lib.hid hV
  have HO := Lib.hid hO
  have HB := Lib.hid hbU
  clear hV hO hbV bO hbU hlt hB2 hb2 hk hd c2 HX
  go_wp2_with (first | (rw [← HV.out, ← HO.out]))
  go_ret
  exact ⟨rfl, HB.out⟩
end Go.Proofs.YtgohkmdepjmpaaaDoor.pm

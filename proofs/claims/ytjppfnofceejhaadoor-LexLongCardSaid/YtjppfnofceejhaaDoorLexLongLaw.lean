/- LexLong's law: a source of just as many bytes as may be is cut; one of more is refused. -/
import Derived.Test.YtjppfnofceejhaaDoorLexCutsLaw
import Derived.Laws.BytesArg
import Derived.Laws.IdiomStrings
namespace Go.Proofs.YtjppfnofceejhaaDoor.lx
open Go.RowKit mem vt wd

def byU (l : List UInt8) : List Value := l.map fun c => .int .u8 (c.toNat : Int)
theorem infoU : (Tryd.prog.info? 5).map (fun i => (i.zero, i.size, i.bytes)) = some (some (.int .u8 0), 1, 1) := by kernel_rfl
theorem conv_row {B : Nat} {w : World} {g c : Nat} {l : List UInt8} (h : w.ownsRow B 5 1 (.slice (some ⟨g, 0, none⟩) l.length c) l.length (byU l)) : (convert 32 9 (.slice (some ⟨g, 0, none⟩) l.length c)).run Tryd.prog w = .ok (.string ⟨l.toArray⟩) w := by
  refine run_convert_bytes_back (P := Tryd.prog) w 32 9 5 ⟨g, 0, none⟩ c l Tryd.underlying32 Tryd.underlying5 Tryd.underlying9 fun j hj => ?_
  have e : (⟨g, 0, none⟩ : Addr).add j = ⟨g, j, none⟩ := by unfold Addr.add; simp; omega
  rw [e, h.cellAt j (by omega)]
  unfold byU; simp [List.getElem?_eq_getElem hj]
/-- the source so far: blanks, and bytes that are nought -/
def fillL (n k : Nat) : List UInt8 := List.replicate k 32 ++ List.replicate (n - k) 0
theorem fillL_len {n k : Nat} (h : k ≤ n) : (fillL n k).length = n := by unfold fillL; simp; omega
theorem fillL_all (n : Nat) : fillL n n = List.replicate n 32 := by unfold fillL; simp
theorem fillL_set {n k : Nat} (h : k < n) : (byU (fillL n k)).set k (.int .u8 32) = byU (fillL n (k + 1)) := by
  obtain ⟨d, rfl⟩ : ∃ d, n = k + (d + 1) := ⟨n - k - 1, by omega⟩
  unfold byU fillL
  rw [show k + (d + 1) - k = d + 1 by omega, show k + (d + 1) - (k + 1) = d by omega]
  rw [List.map_append, List.map_append, List.map_replicate, List.map_replicate, List.map_replicate, List.map_replicate, List.replicate_succ, List.replicate_succ', List.set_append_right _ _ (by simp)]
  simp
theorem made_zero (n : Nat) : (madeCells (Value.int .u8 0).cells (n * 1)).toList = byU (fillL n 0) := by
  have e : byU (fillL n 0) = List.replicate n (.int .u8 0) := by unfold byU fillL; simp
  rw [e]
  apply List.ext_getElem?
  intro j
  rw [List.getElem?_replicate]
  unfold madeCells
  rw [Nat.mul_one]
  by_cases h : j < n
  · rw [if_pos h]
    have hz : ((Value.int .u8 0).cells)[j % ((Value.int .u8 0).cells).size]! = .int .u8 0 := by
      show (#[Value.int .u8 0])[j % 1]! = _
      rw [Nat.mod_one]; rfl
    simp [Array.getElem?_eq_getElem, h, hz]
  · rw [if_neg h]
    simp [h]
def LgRel (w : World) (n g c : Nat) (i : Value) (wr : World) : Prop :=
  ∃ k : Nat, i = .int .i64 k ∧ k ≤ n ∧ Hid (wr.ownsRow w.heap.size 5 1 (.slice (some ⟨g, 0, none⟩) n c) n (byU (fillL n k))) ∧ Hid (Below w.heap.size w wr)
set_option maxRecDepth 100000 in
set_option maxHeartbeats 400000 in
theorem long_any (m : Nat) (w : World) (hm : m < 256) (hL : LD w) : Calls Tryd.prog 5 #[.int .u8 m] w fun e w' => e = .returned (.bool true) ∧ Below w.heap.size w w' := by
  have HW := Lib.hid (fun w' hb => from_b (w := w) (w1 := w') (works_any w' (hL.on hb)) hb)
  have hb0 : Below w.heap.size w w := Below.refl _ _
  obtain ⟨i0, hi, hz0, hz1, hz2⟩ := info_parts infoU
  go_enter Tryd.func5, Tryd.ntmps5
  go_wp2_with (fail)
  refine (HW.out _ hb0).mono ?_
  rintro e w1 ⟨rfl, hb1⟩
  obtain ⟨n, hn⟩ : ∃ n, n = 16384 + m := ⟨_, rfl⟩
  have hnm : (16384 : Int) + (m : Int) = (n : Int) := by omega
  have HN := Lib.hid hn
  have hn1 : (n : Int) ≤ 16639 := by omega
  clear hn
  have hB1 : w.heap.size ≤ w1.heap.size := hb1.size
  have HB1 := Lib.hid hb1
  clear hb0 hb1
  go_wp2_with (at_make; refine wpList_make_full _ rfl _ _ 32 rfl w.heap.size 5 i0 (.int .u8 0) 1 Tryd.underlying32 hi hz0 hz1 _ _ _ _ n rfl rfl rfl rfl (by rw [hz2]; omega) (by unfold maxLen; omega) hB1 ?_; intro w2 ho hg)
  have HO : Hid (w2.ownsRow w.heap.size 5 1 (.slice (some ⟨w1.heap.size, 0, none⟩) n n) n (byU (fillL n 0))) := Lib.hid (by rw [← made_zero]; exact ho)
  have HB2 : Hid (Below w.heap.size w w2) := Lib.hid (HB1.out.grown hg hB1 (fun k hk => by cases hk))
  obtain ⟨g, hgg⟩ : ∃ g, g = w1.heap.size := ⟨_, rfl⟩
  rw [← hgg] at HO ⊢
  clear ho hg hi hz0 hz1 hz2 HB1 hB1 hgg
  go_loopw [4] (fun i wr => LgRel w n g n i wr) (fun i _ => n - (intOf i).toNat)
  case atStart => unfold LgRel; exact ⟨0, rfl, by omega, HO, HB2⟩
  case round =>
    unfold LgRel at hrel
    obtain ⟨k, rfl, hk, HR, HB⟩ := hrel
    by_cases hlt : k < n
    · have hlt' : (k : Int) < (n : Int) := by omega
      have hk0 : (0 : Int) ≤ (k : Int) := by omega
      have hcell : ∃ u, wr.cell? ⟨g, k, none⟩ = some u := by
        have h := HR.out.cellAt k (by omega)
        have : k < (byU (fillL n k)).length := by unfold byU; rw [List.length_map, fillL_len hk]; exact hlt
        rw [List.getElem?_eq_getElem this] at h
        exact ⟨_, h⟩
      obtain ⟨u0, hcell⟩ := hcell
      have hfro := HR.out.frozenAt k
      obtain ⟨q1, q2⟩ := HR.out.stored k (.int .u8 32)
      have HR2 : Hid ((wr.setCell ⟨g, k, none⟩ (.int .u8 32)).ownsRow w.heap.size 5 1 (.slice (some ⟨g, 0, none⟩) n n) n (byU (fillL n (k + 1)))) := Lib.hid (by rw [← fillL_set hlt]; exact q1)
      have HB3 : Hid (Below w.heap.size w (wr.setCell ⟨g, k, none⟩ (.int .u8 32))) := Lib.hid (HB.out.setCell (by have := (HR.out.lt g rfl).1; dsimp only; omega) _)
      clear q1 q2
      go_wp2_with (fail)
      go_roundw
      case rel => unfold LgRel; exact ⟨k + 1, by go_num, by omega, HR2, HB3⟩
      case measure => simp [intOf]; omega
    · obtain rfl : k = n := by omega
      have hlen := fillL_len (Nat.le_refl k)
      have hcv : (convert 32 9 (.slice (some ⟨g, 0, none⟩) k k)).run Tryd.prog wr = .ok (.string ⟨(List.replicate k 32).toArray⟩) wr := by
        have h := HR.out
        have x := conv_row (B := w.heap.size) (w := wr) (g := g) (c := k) (l := fillL k k) (by rw [hlen]; exact h)
        rw [hlen, fillL_all] at x
        exact x
      have HA := Lib.hid (lall_any ⟨(List.replicate k 32).toArray⟩ wr (by show (List.replicate k 32).length ≤ _; rw [List.length_replicate]; omega) (hL.on HB.out))
      by_cases h0 : m = 0
      · subst h0
        have HP : Hid (∀ e w', AllPost (List.replicate k 32) wr e w' → ∃ A c, e = .returned (.tuple #[.slice A 1 c, .int .i64 0, .int .i64 0]) ∧ TokS w'.heap.size w' [⟨0, k, 0, []⟩] (.slice A 1 c) ∧ Below wr.heap.size wr w') := Lib.hid (fun e w' h => all_ok (ts := [⟨0, k, 0, []⟩]) (q := 0) h (by
          rw [lexA_in (by rw [List.length_replicate]; omega), lex_blanks, Nat.zero_add]))
        have hkk : (k : Int) = 16384 := by omega
        clear hlen hnm
        go_wp2_with (fail)
        refine HA.out.mono ?_
        intro e w3 hp
        obtain ⟨A, c, rfl, ht, hb⟩ := HP.out _ _ hp
        obtain ⟨b, off, rfl, _, hc⟩ := TokS.cells ht (Nat.zero_lt_succ _)
        obtain ⟨_, y1, _, _⟩ := hc 0 (Nat.zero_lt_succ _)
        change w3.cell? ⟨b, off + 0 + 1, none⟩ = some (.int .i64 (k : Nat)) at y1
        rw [Nat.add_zero] at y1
        have HB4 := Lib.hid (HB.out.trans (hb.mono HB.out.size))
        clear hp ht hb hc HA HP
        go_wp2_with (fail)
        go_ret
        exact ⟨rfl, HB4.out⟩
      · have HP : Hid (∀ e w', AllPost (List.replicate k 32) wr e w' → ∃ A c, e = .returned (.tuple #[.slice A 0 c, .int .i64 16384, .int .i64 3]) ∧ Below wr.heap.size wr w') := Lib.hid (fun e w' h => by
          unfold AllPost at h
          rw [lexA_out (by rw [List.length_replicate]; omega)] at h
          obtain ⟨v, h1, h2⟩ := h
          obtain ⟨A, c, rfl⟩ := own_form h2.1
          exact ⟨A, c, h1, h2.2⟩)
        have hm0 : ((m : Int) == 0) = false := by rw [beq_eq_false_iff_ne]; omega
        clear hlen hnm
        go_wp2_with (fail)
        refine HA.out.mono ?_
        intro e w3 hp
        obtain ⟨A, c, rfl, hb⟩ := HP.out _ _ hp
        have HB4 := Lib.hid (HB.out.trans (hb.mono HB.out.size))
        clear hp hb HA HP
        go_wp2_with (fail)
        go_ret
        exact ⟨rfl, HB4.out⟩
theorem long_int (k : Int) (w : World) (h : 0 ≤ k ∧ k ≤ 255) (hL : LD w) : Calls Tryd.prog 5 #[.int .u8 k] w fun e w' => e = .returned (.bool true) ∧ Below w.heap.size w w' := by
  obtain ⟨m, rfl⟩ : ∃ m : Nat, k = m := ⟨k.toNat, by omega⟩
  exact long_any m w (by omega) hL
end Go.Proofs.YtjppfnofceejhaaDoor.lx

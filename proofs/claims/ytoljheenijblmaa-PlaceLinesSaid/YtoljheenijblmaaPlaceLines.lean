/- PlaceLines, walked: it returns true, and of what was there nothing has turned. -/
import Derived.Test.YtoljheenijblmaaPlaceTells
namespace Go.Proofs.Ytoljheenijblmaa.place
open Go.RowKit pl mem

/-- the first k lines, with line feeds between -/
def upL (l : List UInt8) (n : Nat) : Nat → List UInt8
  | 0 => []
  | k + 1 => l.take (endT l n k)
theorem upL_len (l : List UInt8) (n k : Nat) : (upL l n k).length ≤ n := by
  cases k with
  | zero => simp [upL]
  | succ k => have := endT_le l n k; simp [upL]; omega
/-- the document's lines, read back -/
theorem rows_sees {B : Nat} {s : ByteArray} {v : Value} {w0 w : World} (h : Rows B w0 (linesS s.data.toList) v w) :
    ∃ rg cap, v = .slice (some ⟨rg, 0, none⟩) (cnt s) cap ∧ ∀ i, i < cnt s → w.cell? ⟨rg, i, none⟩ = some (strV (segT s.data.toList s.size i)) := by
  obtain ⟨g, cap, hv, ho, hb⟩ := h
  obtain ⟨h1, h2⟩ := lines_segT s.data.toList s.size (by simp)
  rw [show s.data.toList.take s.size = s.data.toList from List.take_of_length_le (by simp)] at h1 h2
  refine ⟨g, cap, by rw [hv, h1]; rfl, fun i hi => ?_⟩
  rw [hv] at ho
  rw [ho.cellAt i (by rw [h1, Nat.mul_one]; exact hi), List.getElem?_map]
  rw [← h2 i hi, List.getD_eq_getElem?_getD, List.getElem?_eq_getElem (by rw [h1]; exact hi)]
  rfl
theorem cat_first (s : ByteArray) : (⟨(upL s.data.toList s.size 0).toArray⟩ : ByteArray) ++ ⟨(segT s.data.toList s.size 0).toArray⟩ = ⟨(upL s.data.toList s.size 1).toArray⟩ := by
  apply ByteArray.ext
  rw [upto_first]
  simp [upL]
theorem cat_more (s : ByteArray) (k : Nat) (h : k + 1 < cnt s) : (⟨(upL s.data.toList s.size (k + 1)).toArray⟩ : ByteArray) ++ { data := #[10] } ++ ⟨(segT s.data.toList s.size (k + 1)).toArray⟩ = ⟨(upL s.data.toList s.size (k + 1 + 1)).toArray⟩ := by
  have := upto_more s.data.toList s.size k (by simp) h
  apply ByteArray.ext
  simp only [upL]
  rw [← this]
  simp
theorem cat_all (s : ByteArray) : (⟨(upL s.data.toList s.size (cnt s)).toArray⟩ : ByteArray) = s := by
  obtain ⟨c, hc⟩ : ∃ c, cnt s = c + 1 := ⟨_, (Nat.sub_add_cancel (begT_pos s.data.toList s.size)).symm⟩
  have h := upto_last s.data.toList s.size
  have e : (begT s.data.toList s.size).length - 1 = c := by unfold cnt at hc; omega
  rw [e] at h
  rw [hc]
  apply ByteArray.ext
  simp only [upL]
  rw [h, List.take_of_length_le (by simp)]
set_option maxRecDepth 100000 in
theorem lines_long (s : ByteArray) (n c : Int) (w : World) (hl : 400 < s.size) (hs : s.size ≤ 9223372036854775807) :
    Calls Try.prog 4 #[.string s, .int .i64 n, .int .i64 c] w fun e w' => e = .returned (.bool true) ∧ Below w.heap.size w w' := by
  go_enter Try.func4, Try.ntmps4
  go_wp2_with (fail)
  refine (works_any _).mono ?_
  rintro e w1 ⟨rfl, hb1⟩
  have hb1 := Lib.hid hb1
  go_wp2_with (fail)
  refine (works_any _).mono ?_
  rintro e w2 ⟨rfl, hb2⟩
  have hb2 := Lib.hid hb2
  go_wp2_with (fail)
  go_ret
  exact ⟨rfl, hb1.out.trans (hb2.out.mono hb1.out.size)⟩
set_option maxRecDepth 100000 in
set_option maxHeartbeats 4000000 in
theorem lines_short (s : ByteArray) (n c : Int) (w : World) (hl : s.size ≤ 400) :
    Calls Try.prog 4 #[.string s, .int .i64 n, .int .i64 c] w fun e w' => e = .returned (.bool true) ∧ Below w.heap.size w w' := by
  have cW := Lib.hid (fun w => works_any w)
  have cO := Lib.hid (fun w => of_any s w (by omega))
  have cR := Lib.hid (fun w => rlines_any s w (by omega))
  have hcn : cnt s ≤ 401 := by have h : cnt s ≤ s.size + 1 := begT_len _ _; omega
  have hcp : 0 < cnt s := begT_pos _ _
  go_enter Try.func4, Try.ntmps4
  go_wp2_with (fail)
  refine (cW.out _).mono ?_
  rintro e w1 ⟨rfl, hb1⟩
  have hb1 := Lib.hid hb1
  go_wp2_with (fail)
  refine (cO.out _).mono ?_
  rintro e w2 ⟨g, rfl, hb2, hl2⟩
  have hl2 := Lib.hid hl2
  have hb2 := Lib.hid (hb1.out.trans (hb2.mono hb1.out.size))
  go_wp2_with (fail)
  refine (cR.out _).mono ?_
  rintro e w3 ⟨v, rfl, hr⟩
  obtain ⟨rg, cap, rfl, hrc⟩ := rows_sees hr
  have HC := Lib.hid hrc
  have hb3 := hr.choose_spec.choose_spec.2.2
  have HL := Lib.hid (hl2.out.below hb3)
  have hzl := Lib.hid hb3.size
  have hb3 := Lib.hid (hb2.out.trans (hb3.mono hb2.out.size))
  clear hr hrc
  go_wp2_with (fail)
  go_loopw [9, 10] (fun all i wr => ∃ (k q : Nat) (A : ByteArray), k ≤ cnt s ∧ A.size ≤ 400 ∧ i = .int .i64 k ∧ all = .string A ∧ wr = w3.drewN q ∧ Hid (A = ⟨(upL s.data.toList s.size k).toArray⟩)) (fun _ i _ => cnt s - (intOf i).toNat)
  case atStart => exact ⟨0, 0, ⟨#[]⟩, Nat.zero_le _, by decide, rfl, rfl, rfl, Lib.hid rfl⟩
  case round =>
    obtain ⟨k, q, A, hk, hA, rfl, rfl, rfl, HA⟩ := hrel
    by_cases hlt : k < cnt s
    · have hcl := Lib.hid (fun q => line_in _ g s k (w3.drewN q) (HL.out.below (below_drewN (Below.refl _ _) q)) (by omega) hlt)
      have hce := HC.out k hlt
      have hsl : (segT s.data.toList s.size k).length ≤ 400 := by
        have := segT_len s.data.toList s.size k (by simp)
        have := endT_le s.data.toList s.size k
        omega
      obtain ⟨t, ht⟩ : ∃ t : ByteArray, t = ⟨(segT s.data.toList s.size k).toArray⟩ := ⟨_, rfl⟩
      have htl : t.size ≤ 400 := by rw [ht]; exact hsl
      have hst : strV (segT s.data.toList s.size k) = .string t := by rw [ht]; rfl
      rw [hst] at hcl hce
      have HT := Lib.hid ht
      clear ht hst hsl
      have hki : (k : Int) < (cnt s : Int) := by omega
      by_cases h0 : k = 0
      · subst h0
        go_wp2_with (fail)
        refine (hcl.out _).mono ?_
        rintro e w' ⟨rfl, q2, rfl⟩
        go_wp2_with (fail)
        go_roundw
        case rel =>
          have hcat : A ++ t = ⟨(upL s.data.toList s.size (0 + 1)).toArray⟩ := by rw [HA.out, HT.out]; exact cat_first s
          exact ⟨0 + 1, q + q2, A ++ t, by omega, by rw [hcat]; have := upL_len s.data.toList s.size (0 + 1); show (upL _ _ (0 + 1)).toArray.size ≤ 400; rw [List.size_toArray]; omega, by go_num, rfl, rfl, Lib.hid hcat⟩
        case measure => simp [intOf]; omega
      · have h0 : 0 < k := by omega
        go_wp2_with (fail)
        refine (hcl.out _).mono ?_
        rintro e w' ⟨rfl, q2, rfl⟩
        go_wp2_with (fail)
        go_roundw
        case rel =>
          obtain ⟨m, rfl⟩ : ∃ m, k = m + 1 := ⟨k - 1, by omega⟩
          have hcat : A ++ { data := #[10] } ++ t = ⟨(upL s.data.toList s.size (m + 1 + 1)).toArray⟩ := by rw [HA.out, HT.out]; exact cat_more s m hlt
          exact ⟨m + 1 + 1, q + q2, A ++ { data := #[10] } ++ t, by omega, by rw [hcat]; have := upL_len s.data.toList s.size (m + 1 + 1); show (upL _ _ (m + 1 + 1)).toArray.size ≤ 400; rw [List.size_toArray]; omega, by go_num, rfl, rfl, Lib.hid hcat⟩
        case measure => simp [intOf]; omega
    · obtain rfl : k = cnt s := by omega
      have hAs : A = s := by rw [HA.out]; exact cat_all s
      subst hAs
      have hbq := below_drewN hb3.out q
      have HLq := Lib.hid (HL.out.below (below_drewN (Below.refl _ _) q))
      have hzq : (w3.drewN q).heap.size = w3.heap.size := rfl
      have HCq := Lib.hid (fun i hi => (show (w3.drewN q).cell? ⟨rg, i, none⟩ = some (strV (segT A.data.toList A.size i)) from HC.out i hi))
      generalize hWq : w3.drewN q = Wq at hbq HLq hzq HCq
      have hWq := Lib.hid hWq
      have hzq := Lib.hid hzq
      have hbq := Lib.hid hbq
      have cC := Lib.hid (count_any _ g A Wq HLq.out)
      clear HA hA HL hb3 HC
      by_cases hno : n < 1 ∨ (cnt A : Int) < n
      · have c1 := Lib.hid (line_no _ g A n Wq HLq.out hno)
        have c2 := Lib.hid (off_no _ g A n c Wq HLq.out hno)
        go_wp2_with (fail)
        refine c1.out.mono ?_
        rintro e w' ⟨rfl, rfl⟩
        go_wp2_with (fail)
        refine c2.out.mono ?_
        rintro e w' ⟨rfl, rfl⟩
        by_cases hn1 : n < 1
        · have hn1' : ¬ 1 ≤ n := by omega
          clear hno
          go_wp2_with (fail)
          refine cC.out.mono ?_
          rintro e w' ⟨rfl, rfl⟩
          go_wp2_with (fail)
          go_ret
          exact ⟨rfl, hbq.out⟩
        · have hn2 : 1 ≤ n := by omega
          have hn3 : (cnt A : Int) < n := by omega
          have hn4 : decide (n ≤ (cnt A : Int)) = false := by simp; omega
          clear hno
          go_wp2_with (fail)
          refine cC.out.mono ?_
          rintro e w' ⟨rfl, rfl⟩
          go_wp2_with (fail)
          go_ret
          exact ⟨rfl, hbq.out⟩
      · obtain ⟨i, rfl⟩ : ∃ i : Nat, n = (i : Int) + 1 := ⟨(n - 1).toNat, by omega⟩
        have hi : i < cnt A := by omega
        have hii : (i : Int) < (cnt A : Int) := by omega
        have hix : decide ((i : Int) + 1 ≤ (cnt A : Int)) = true := by simp; omega
        have hce := HCq.out i hi
        have hsl : (segT A.data.toList A.size i).length ≤ 400 := by
          have := segT_len A.data.toList A.size i (by simp)
          have := endT_le A.data.toList A.size i
          omega
        obtain ⟨t, ht⟩ : ∃ t : ByteArray, t = ⟨(segT A.data.toList A.size i).toArray⟩ := ⟨_, rfl⟩
        have htl : t.size ≤ 400 := by rw [ht]; exact hsl
        have htm : t.size = (segT A.data.toList A.size i).length := by rw [ht]; rfl
        have hst : strV (segT A.data.toList A.size i) = .string t := by rw [ht]; rfl
        have c1 := line_in _ g A i Wq HLq.out (by omega) hi
        rw [hst] at c1 hce
        have c1 := Lib.hid c1
        have x5 := IntWalk.i64_in (i : Int) (by omega)
        have x6 := IntWalk.i64_in ((t.size : Int) + 1) (by omega)
        have hzl := Lib.hid (show w2.heap.size ≤ Wq.heap.size by rw [hzq.out]; exact hzl.out)
        clear hno ht hst hsl
        by_cases hout : c < 1 ∨ (t.size : Int) + 1 < c
        · have c2 := Lib.hid (fun q => off_out _ g A i c (Wq.drewN q) (HLq.out.below (below_drewN (Below.refl _ _) q)) (by omega) hi _ _ rfl rfl (by rw [← htm]; exact hout))
          obtain ⟨a, b, c4⟩ : ∃ a b : Int, ∀ q, Calls Try.prog 7 #[.pointer (some ⟨g, 0, none⟩), .int .i64 0] (Wq.drewN q) fun e w' => e = .returned (.tuple #[.int .i64 a, .int .i64 b]) ∧ Below (Wq.drewN q).heap.size (Wq.drewN q) w' :=
            ⟨_, _, fun q => at_lit _ g A 0 (Wq.drewN q) (HLq.out.below (below_drewN (Below.refl _ _) q)) hzl.out (by omega) 0 (by omega) (by omega) _ _ rfl rfl⟩
          clear htm
          have c4 := Lib.hid c4
          by_cases hc1 : c < 1
          · have hc2 : decide (1 ≤ c) = false := by simp; omega
            clear hout
            go_wp2_with (fail)
            refine c1.out.mono ?_
            rintro e w' ⟨rfl, q1, rfl⟩
            go_wp2_with (fail)
            refine (c2.out q1).mono ?_
            rintro e w' ⟨rfl, q2, rfl⟩
            go_wp2_with (fail)
            refine (c4.out (q1 + q2)).mono ?_
            rintro e w4 ⟨rfl, hb4⟩
            have HL4 := Lib.hid ((HLq.out.below (below_drewN (Below.refl _ _) (q1 + q2))).below (hb4.mono hzl.out))
            have hb4 := Lib.hid ((below_drewN hbq.out (q1 + q2)).trans (hb4.mono (below_drewN hbq.out (q1 + q2)).size))
            go_wp2_with (fail)
            refine (count_any _ g A w4 HL4.out).mono ?_
            rintro e w' ⟨rfl, rfl⟩
            go_wp2_with (fail)
            go_ret
            exact ⟨rfl, hb4.out⟩
          · have hc2 : 1 ≤ c := by omega
            have hc3 : (t.size : Int) + 1 < c := by omega
            have hc4 : decide (c ≤ (t.size : Int) + 1) = false := by simp; omega
            clear hout
            go_wp2_with (fail)
            refine c1.out.mono ?_
            rintro e w' ⟨rfl, q1, rfl⟩
            go_wp2_with (fail)
            refine (c2.out q1).mono ?_
            rintro e w' ⟨rfl, q2, rfl⟩
            go_wp2_with (fail)
            refine (c4.out (q1 + q2)).mono ?_
            rintro e w4 ⟨rfl, hb4⟩
            have HL4 := Lib.hid ((HLq.out.below (below_drewN (Below.refl _ _) (q1 + q2))).below (hb4.mono hzl.out))
            have hb4 := Lib.hid ((below_drewN hbq.out (q1 + q2)).trans (hb4.mono (below_drewN hbq.out (q1 + q2)).size))
            go_wp2_with (fail)
            refine (count_any _ g A w4 HL4.out).mono ?_
            rintro e w' ⟨rfl, rfl⟩
            go_wp2_with (fail)
            go_ret
            exact ⟨rfl, hb4.out⟩
        · obtain ⟨d, rfl⟩ : ∃ d : Nat, c = (d : Int) + 1 := ⟨(c - 1).toNat, by omega⟩
          have hsn := segT_len A.data.toList A.size i (by simp)
          have hen := endT_le A.data.toList A.size i
          have hbe := beg_end A.data.toList A.size i
          have hll : A.data.toList.length = A.size := by simp
          have hpb := place_back A.data.toList i ((begT A.data.toList A.size).getD i 0 + d) (by rw [hll]; exact hi) (by rw [hll]; omega) (by rw [hll]; omega)
          rw [hll] at hpb
          have c2 := Lib.hid (fun q => off_lit _ g A i ((i : Int) + 1) ((d : Int) + 1) (((begT A.data.toList A.size).getD i 0 + d : Nat) : Int) (Wq.drewN q) (HLq.out.below (below_drewN (Below.refl _ _) q)) (by omega) hi rfl (by omega) (by omega) (by omega))
          have c4 := Lib.hid (fun q => at_lit _ g A (((begT A.data.toList A.size).getD i 0 + d : Nat) : Int) (Wq.drewN q) (HLq.out.below (below_drewN (Below.refl _ _) q)) hzl.out (by omega) ((begT A.data.toList A.size).getD i 0 + d) (by omega) (by omega) ((i : Int) + 1) ((d : Int) + 1) (by rw [hpb.1]; simp) (by rw [hpb.2]; omega))
          generalize (begT A.data.toList A.size).getD i 0 + d = r at c2 c4
          have hd : (d : Int) ≤ (t.size : Int) := by omega
          clear htm
          clear hout hsn hen hbe hpb hll
          go_wp2_with (fail)
          refine c1.out.mono ?_
          rintro e w' ⟨rfl, q1, rfl⟩
          go_wp2_with (fail)
          refine (c2.out q1).mono ?_
          rintro e w' ⟨rfl, q2, rfl⟩
          go_wp2_with (fail)
          refine (c4.out (q1 + q2)).mono ?_
          rintro e w4 ⟨rfl, hb4⟩
          have HL4 := Lib.hid ((HLq.out.below (below_drewN (Below.refl _ _) (q1 + q2))).below (hb4.mono hzl.out))
          have hb4 := Lib.hid ((below_drewN hbq.out (q1 + q2)).trans (hb4.mono (below_drewN hbq.out (q1 + q2)).size))
          go_wp2_with (fail)
          refine (count_any _ g A w4 HL4.out).mono ?_
          rintro e w' ⟨rfl, rfl⟩
          go_wp2_with (fail)
          go_ret
          exact ⟨rfl, hb4.out⟩
/-- PlaceLines, whatever the input. -/
theorem lines_any (s : ByteArray) (n c : Int) (w : World) (hs : s.size ≤ 9223372036854775807) :
    Calls Try.prog 4 #[.string s, .int .i64 n, .int .i64 c] w fun e w' => e = .returned (.bool true) ∧ Below w.heap.size w w' := by
  by_cases hl : s.size ≤ 400
  · exact lines_short s n c w hl
  · exact lines_long s n c w (by omega) hs
end Go.Proofs.Ytoljheenijblmaa.place

/- The document's own Put of layer 4: pairs by rising keys, with one more. -/
import Derived.Test.YtjlbchkdiaomjaaDoorTrieRef
namespace Go.Proofs.YtjlbchkdiaomjaaDoor.trie
open Go.RowKit mem

/-- what is still to come of pairs, with one more, if it is not laid yet -/
def putR (key v : Int) : Bool → List (Int × Int) → List (Int × Int)
  | laid, [] => if laid = true then [] else [(key, v)]
  | laid, p :: r => if laid = false ∧ key ≤ p.1 then (key, v) :: ((if p.1 = key then [] else [p]) ++ putR key v true r) else (if p.1 = key then [] else [p]) ++ putR key v laid r
def putS (l : List (Int × Int)) (key v : Int) : List (Int × Int) := putR key v false l
theorem putR_drop (l : List (Int × Int)) (key v : Int) (b : Bool) (k : Nat) (h : k < l.length) :
    putR key v b (l.drop k) = if b = false ∧ key ≤ l[k].1 then (key, v) :: ((if l[k].1 = key then [] else [l[k]]) ++ putR key v true (l.drop (k + 1))) else (if l[k].1 = key then [] else [l[k]]) ++ putR key v b (l.drop (k + 1)) := by
  rw [List.drop_eq_getElem_cons h, putR]
/-- the loop: so many are gone through, this is laid -/
def PutRel (B n : Nat) (l : List (Int × Int)) (key v : Int) (w : World) (o f i : Value) (wr : World) : Prop :=
  ∃ (k m : Nat) (b : Bool) (acc : List (Int × Int)), k ≤ n ∧ m ≤ k + b.toNat ∧ i = .int .i64 k ∧ f = .bool b ∧ Hid (m = acc.length) ∧ Hid (acc ++ putR key v b (l.drop k) = putS l key v) ∧ Got B 40 2 m (pairV acc) o w wr
/-- what an append of one pair asks, and gives -/
theorem got_pair {B m : Nat} {acc : List (Int × Int)} {p : Int × Int} {o v' : Value} {w wr w1 : World} {ob : Obj} (h : Got B 40 2 m (pairV acc) o w wr) (hB : B ≤ wr.heap.size)
    (ho : w1.ownsRow B 40 2 v' (m + 1) (pairV acc ++ [.int .i64 p.1, .int .i64 p.2])) (hg : (wr.alloc ob).grownBy w1 o.ownBlock) :
    Hid (Got B 40 2 (m + 1) (pairV (acc ++ [p])) v' w w1) := by
  show Got _ _ _ _ _ _ _ _
  rw [pairV_snoc]; exact h.app hB ho hg

set_option maxHeartbeats 1000000 in
set_option maxRecDepth 100000 in
theorem rput_any (l : List (Int × Int)) (key y0 : Int) (v : Value) (w : World) (hl : l.length ≤ 1048576) (h : Sees w.heap.size 2 w v l.length (pairV l)) :
    Calls Tryd.prog 20 #[v, .int .i64 key, .int .i64 y0] w fun e w' => ∃ r, e = .returned r ∧ Got w.heap.size 40 2 (putS l key y0).length (pairV (putS l key y0)) r w w' := by
  obtain ⟨i0, hi, hz0, hz1, hz2⟩ := info_parts infoPair
  obtain ⟨A, cap, rfl⟩ := h.form
  generalize hB : w.heap.size = B at h ⊢
  have HB := Lib.hid hB
  have HS := Lib.hid h
  have hBw : B ≤ w.heap.size := by omega
  obtain ⟨n, hn⟩ : ∃ n, n = l.length := ⟨_, rfl⟩
  rw [← hn] at hl ⊢
  have HN := Lib.hid hn
  clear hB h hn
  go_enter Tryd.func20, Tryd.ntmps20
  go_wp2
  go_loopw [7, 8, 9] (fun o f i wr => PutRel B n l key y0 w o f i wr) (fun _ _ i _ => n - (intOf i).toNat)
  case atStart => unfold PutRel; exact ⟨0, 0, false, [], Nat.zero_le _, Nat.le_refl _, rfl, rfl, Lib.hid rfl, Lib.hid rfl, Got.nil_ _ _ _ _⟩
  case round =>
    obtain ⟨k, m, b, acc, hk, hm, rfl, rfl, HM, HP, hgot⟩ := hrel
    have hsz := hgot.2.size
    by_cases hlt : k < n
    · have hkl : k < l.length := by have := HN.out; omega
      obtain ⟨g, off, cap', hv, hb, hc1, hc2⟩ := (HS.out.below hgot.2).pair k hkl
      have hT := putR_drop l key y0 b k hkl
      injection hv with hA hL hC
      subst hA
      subst hC
      clear hL
      obtain ⟨p, hp⟩ : ∃ p, p = l[k] := ⟨_, rfl⟩
      obtain ⟨x, y⟩ := p
      rw [← hp] at hc1 hc2 hT
      have HT := Lib.hid hT
      clear hp hT hkl
      cases b
      · change m ≤ k + 0 at hm
        by_cases hge : key ≤ x
        · by_cases he : x = key
          · have hne : (x != key) = false := by rw [bne_eq_false_iff_eq]; exact he
            have HF : Hid (putR key y0 false (l.drop k) = (key, y0) :: putR key y0 true (l.drop (k + 1))) := by
              show _ = _
              rw [HT.out, if_pos ⟨rfl, hge⟩, if_pos he]; rfl
            clear he
            go_wp2_with (at_builtin; refine wpList_append_own _ rfl (.tmp 27) (.tmp 31) 28 rfl B 40 i0 (.agg #[.int .i64 0, .int .i64 0]) 2 16 Tryd.underlying28 hi hz0 hz1 hz2 rfl (by decide) _ _ _ rfl (hgot.1.alloc _) ⟨wr.heap.size, 0, none⟩ 1 1 [.int .i64 key, .int .i64 y0] rfl rfl (pair_new _ _ _ _) (two_int _ _ _) (by unfold maxLen; omega) (by omega) (by simp; omega) ?_; intro v' w1 hown' hgrow _; have hgot1 := got_pair (p := (key, y0)) hgot (by omega) hown' hgrow; clear hown' hgrow; have hs1 := hgot1.out.2.size; have hd1 := hgot1.out.2.cell (p := ⟨g, off + k * 2, none⟩) hb; have hd2 := hgot1.out.2.cell (p := ⟨g, off + k * 2 + 1, none⟩) hb; have hd3 := hgot.2.cell (p := ⟨g, off + k * 2, none⟩) hb; have hd4 := hgot.2.cell (p := ⟨g, off + k * 2 + 1, none⟩) hb; have hf1 := (hd1.trans hd3.symm).trans hc1; have hf2 := (hd2.trans hd4.symm).trans hc2; clear hd1 hd2 hd3 hd4)
            go_roundw
            case rel =>
              unfold PutRel
              exact ⟨k + 1, m + 1, true, acc ++ [(key, y0)], by omega, (by show _ ≤ k + 1 + 1; omega), by go_num, rfl, Lib.hid (by rw [List.length_append, ← HM.out]; rfl), Lib.hid (by rw [← HP.out, HF.out, List.append_assoc]; rfl), hgot1.out⟩
            case measure => simp [intOf]; omega
          · have hne : (x != key) = true := by rw [bne_iff_ne]; exact he
            have HF : Hid (putR key y0 false (l.drop k) = (key, y0) :: (x, y) :: putR key y0 true (l.drop (k + 1))) := by
              show _ = _
              rw [HT.out, if_pos ⟨rfl, hge⟩, if_neg he]; rfl
            clear he
            go_wp2_with (first | (at_builtin; refine wpList_append_own _ rfl (.tmp 27) (.tmp 31) 28 rfl B 40 i0 (.agg #[.int .i64 0, .int .i64 0]) 2 16 Tryd.underlying28 hi hz0 hz1 hz2 rfl (by decide) _ _ _ rfl (hgot.1.alloc _) ⟨wr.heap.size, 0, none⟩ 1 1 [.int .i64 key, .int .i64 y0] rfl rfl (pair_new _ _ _ _) (two_int _ _ _) (by unfold maxLen; omega) (by omega) (by simp; omega) ?_; intro v' w1 hown' hgrow _; have hgot1 := got_pair (p := (key, y0)) hgot (by omega) hown' hgrow; clear hown' hgrow; have hs1 := hgot1.out.2.size; have hd1 := hgot1.out.2.cell (p := ⟨g, off + k * 2, none⟩) hb; have hd2 := hgot1.out.2.cell (p := ⟨g, off + k * 2 + 1, none⟩) hb; have hd3 := hgot.2.cell (p := ⟨g, off + k * 2, none⟩) hb; have hd4 := hgot.2.cell (p := ⟨g, off + k * 2 + 1, none⟩) hb; have hf1 := (hd1.trans hd3.symm).trans hc1; have hf2 := (hd2.trans hd4.symm).trans hc2; clear hd1 hd2 hd3 hd4) | (at_builtin; refine wpList_append_own _ rfl (.tmp 40) (.tmp 45) 28 rfl B 40 i0 (.agg #[.int .i64 0, .int .i64 0]) 2 16 Tryd.underlying28 hi hz0 hz1 hz2 rfl (by decide) _ _ _ rfl (hgot1.out.1.alloc _) ⟨w1.heap.size, 0, none⟩ 1 1 [.int .i64 x, .int .i64 y] rfl rfl (pair_new _ _ _ _) (two_int _ _ _) (by unfold maxLen; omega) (by omega) (by simp; omega) ?_; intro v' w2 hown' hgrow _; have hgot' := got_pair (p := (x, y)) hgot1.out (by omega) hown' hgrow; clear hown' hgrow))
            go_roundw
            case rel =>
              unfold PutRel
              exact ⟨k + 1, m + 1 + 1, true, acc ++ [(key, y0)] ++ [(x, y)], by omega, (by show _ ≤ k + 1 + 1; omega), by go_num, rfl, Lib.hid (by rw [List.length_append, List.length_append, ← HM.out]; rfl), Lib.hid (by rw [← HP.out, HF.out, List.append_assoc, List.append_assoc]; rfl), hgot'.out⟩
            case measure => simp [intOf]; omega
        · have hne : (x != key) = true := by rw [bne_iff_ne]; omega
          have HF : Hid (putR key y0 false (l.drop k) = (x, y) :: putR key y0 false (l.drop (k + 1))) := by
            show _ = _
            rw [HT.out, if_neg (by simp [hge]), if_neg (by simpa using hne)]; rfl
          go_wp2_with (at_builtin; refine wpList_append_own _ rfl (.tmp 40) (.tmp 45) 28 rfl B 40 i0 (.agg #[.int .i64 0, .int .i64 0]) 2 16 Tryd.underlying28 hi hz0 hz1 hz2 rfl (by decide) _ _ _ rfl (hgot.1.alloc _) ⟨wr.heap.size, 0, none⟩ 1 1 [.int .i64 x, .int .i64 y] rfl rfl (pair_new _ _ _ _) (two_int _ _ _) (by unfold maxLen; omega) (by omega) (by simp; omega) ?_; intro v' w1 hown' hgrow _; have hgot' := got_pair (p := (x, y)) hgot (by omega) hown' hgrow; clear hown' hgrow)
          go_roundw
          case rel =>
            unfold PutRel
            exact ⟨k + 1, m + 1, false, acc ++ [(x, y)], by omega, (by show _ ≤ k + 1 + 0; omega), by go_num, rfl, Lib.hid (by rw [List.length_append, ← HM.out]; rfl), Lib.hid (by rw [← HP.out, HF.out, List.append_assoc]; rfl), hgot'.out⟩
          case measure => simp [intOf]; omega
      · change m ≤ k + 1 at hm
        by_cases he : x = key
        · have hne : (x != key) = false := by rw [bne_eq_false_iff_eq]; exact he
          have HF : Hid (putR key y0 true (l.drop k) = putR key y0 true (l.drop (k + 1))) := by
            show _ = _
            rw [HT.out, if_neg (by simp), if_pos he]; rfl
          clear he
          go_wp2
          go_roundw
          case rel =>
            unfold PutRel
            exact ⟨k + 1, m, true, acc, by omega, (by show _ ≤ k + 1 + 1; omega), by go_num, rfl, Lib.hid (by exact HM.out), Lib.hid (by rw [← HP.out, HF.out]), hgot⟩
          case measure => simp [intOf]; omega
        · have hne : (x != key) = true := by rw [bne_iff_ne]; exact he
          have HF : Hid (putR key y0 true (l.drop k) = (x, y) :: putR key y0 true (l.drop (k + 1))) := by
            show _ = _
            rw [HT.out, if_neg (by simp), if_neg he]; rfl
          clear he
          go_wp2_with (at_builtin; refine wpList_append_own _ rfl (.tmp 40) (.tmp 45) 28 rfl B 40 i0 (.agg #[.int .i64 0, .int .i64 0]) 2 16 Tryd.underlying28 hi hz0 hz1 hz2 rfl (by decide) _ _ _ rfl (hgot.1.alloc _) ⟨wr.heap.size, 0, none⟩ 1 1 [.int .i64 x, .int .i64 y] rfl rfl (pair_new _ _ _ _) (two_int _ _ _) (by unfold maxLen; omega) (by omega) (by simp; omega) ?_; intro v' w1 hown' hgrow _; have hgot' := got_pair (p := (x, y)) hgot (by omega) hown' hgrow; clear hown' hgrow)
          go_roundw
          case rel =>
            unfold PutRel
            exact ⟨k + 1, m + 1, true, acc ++ [(x, y)], by omega, (by show _ ≤ k + 1 + 1; omega), by go_num, rfl, Lib.hid (by rw [List.length_append, ← HM.out]; rfl), Lib.hid (by rw [← HP.out, HF.out, List.append_assoc]; rfl), hgot'.out⟩
          case measure => simp [intOf]; omega
    · have hkn : Hid (l.drop k = []) := by
        show _ = _
        exact List.drop_eq_nil_of_le (by have := HN.out; omega)
      cases b
      · change m ≤ k + 0 at hm
        have HF : Hid (acc ++ [(key, y0)] = putS l key y0) := by
          show _ = _
          rw [← HP.out, hkn.out]; rfl
        go_wp2_with (at_builtin; refine wpList_append_own _ rfl (.tmp 49) (.tmp 53) 28 rfl B 40 i0 (.agg #[.int .i64 0, .int .i64 0]) 2 16 Tryd.underlying28 hi hz0 hz1 hz2 rfl (by decide) _ _ _ rfl (hgot.1.alloc _) ⟨wr.heap.size, 0, none⟩ 1 1 [.int .i64 key, .int .i64 y0] rfl rfl (pair_new _ _ _ _) (two_int _ _ _) (by unfold maxLen; omega) (by omega) (by simp; omega) ?_; intro v' w1 hown' hgrow _; have hgot' := got_pair (p := (key, y0)) hgot (by omega) hown' hgrow; clear hown' hgrow)
        go_ret
        exact ⟨_, rfl, by rw [← HF.out, List.length_append, ← HM.out]; exact hgot'.out⟩
      · change m ≤ k + 1 at hm
        have HF : Hid (acc = putS l key y0) := by
          show _ = _
          rw [← HP.out, hkn.out, putR, if_pos rfl, List.append_nil]
        go_wp2
        go_ret
        exact ⟨_, rfl, by rw [← HF.out, ← HM.out]; exact hgot⟩
end Go.Proofs.YtjlbchkdiaomjaaDoor.trie

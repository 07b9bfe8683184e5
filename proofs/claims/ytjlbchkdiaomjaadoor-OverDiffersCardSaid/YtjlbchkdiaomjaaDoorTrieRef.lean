/- What the document's own answers of layer 4 return: lists of pairs by rising keys. -/
import Derived.Test.YtjlbchkdiaomjaaDoorMem
import Derived.LoopTactic
import Derived.BigQuiet
import Derived.Deep.QuietTactic
import Derived.Outline
namespace Go.Proofs.YtjlbchkdiaomjaaDoor.trie
open Go.RowKit mem

theorem infoInt : (Tryd.prog.info? 3).map (fun i => (i.zero, i.size, i.bytes)) = some (some (.int .i64 0), 1, 8) := by kernel_rfl
/-- the keys of pairs, as values -/
def keyV (l : List (Int × Int)) : List Value := l.map fun p => Value.int .i64 p.1
theorem keyV_take (l : List (Int × Int)) (k : Nat) (h : k < l.length) : keyV (l.take (k + 1)) = keyV (l.take k) ++ [.int .i64 l[k].1] := by
  unfold keyV; rw [List.take_succ_eq_append_getElem h, List.map_append]; rfl

set_option maxHeartbeats 1000000 in
set_option maxRecDepth 100000 in
theorem rkeys_any (l : List (Int × Int)) (v : Value) (w : World) (hl : l.length ≤ 1048576) (h : Sees w.heap.size 2 w v l.length (pairV l)) :
    Calls Tryd.prog 39 #[v] w fun e w' => ∃ r, e = .returned r ∧ Got w.heap.size 3 1 l.length (keyV l) r w w' := by
  obtain ⟨i0, hi, hz0, hz1, hz2⟩ := info_parts infoInt
  obtain ⟨A, cap, rfl⟩ := h.form
  generalize hB : w.heap.size = B at h ⊢
  have HB := Lib.hid hB
  have HS := Lib.hid h
  have hBw : B ≤ w.heap.size := by omega
  obtain ⟨n, hn⟩ : ∃ n, n = l.length := ⟨_, rfl⟩
  rw [← hn] at hl ⊢
  have HN := Lib.hid hn
  clear hB h hn
  go_enter Tryd.func39, Tryd.ntmps39
  go_wp2
  go_loopw [3, 4] (fun o i wr => ∃ k : Nat, k ≤ n ∧ i = .int .i64 k ∧ Got B 3 1 k (keyV (l.take k)) o w wr) (fun _ i _ => n - (intOf i).toNat)
  case atStart => exact ⟨0, Nat.zero_le _, rfl, Got.nil_ _ _ _ _⟩
  case round =>
    obtain ⟨k, hk, rfl, hgot⟩ := hrel
    have hsz := hgot.2.size
    by_cases hlt : k < n
    · have hkl : k < l.length := by have := HN.out; omega
      obtain ⟨b, off, cap', hv, hb, hc1, hc2⟩ := (HS.out.below hgot.2).pair k hkl
      have hT := Lib.hid (keyV_take l k hkl)
      injection hv with hA hL hC
      subst hA
      subst hC
      clear hL
      obtain ⟨x, hx⟩ : ∃ x, x = l[k].1 := ⟨_, rfl⟩
      rw [← hx] at hc1 hT
      clear hx hc2 hkl
      go_wp2_with (at_builtin; refine wpList_append_own _ rfl _ _ 42 rfl B 3 i0 (.int .i64 0) 1 8 Tryd.underlying42 hi hz0 hz1 hz2 rfl (by decide) _ _ _ rfl (hgot.1.alloc _) ⟨wr.heap.size, 0, none⟩ 1 1 [.int .i64 x] rfl rfl (new_one _ _ _) (one_int _ _) (by unfold maxLen; omega) (by omega) (by simp; omega) ?_; intro v' w1 hown' hgrow _; have hgot' := Lib.hid (hgot.app (by omega) hown' hgrow); clear hown' hgrow)
      go_roundw
      case rel =>
        exact ⟨k + 1, by omega, by go_num, by rw [hT.out]; exact hgot'.out⟩
      case measure => simp [intOf]; omega
    · have hkn : Hid (keyV (l.take k) = keyV l ∧ k = n) := by
        have h1 : k = n := by omega
        refine ⟨?_, h1⟩
        rw [List.take_of_length_le (by rw [h1, HN.out]; exact Nat.le_refl _)]
      go_wp2
      go_ret
      exact ⟨_, rfl, by have h := hgot; rw [hkn.out.1, hkn.out.2] at h; exact h⟩
theorem infoPair : (Tryd.prog.info? 40).map (fun i => (i.zero, i.size, i.bytes)) = some (some (.agg #[.int .i64 0, .int .i64 0]), 2, 16) := by kernel_rfl

/-- pairs without a key -/
def dropS (l : List (Int × Int)) (key : Int) : List (Int × Int) := l.filter fun p => p.1 != key
theorem dropS_take (l : List (Int × Int)) (key : Int) (k : Nat) (h : k < l.length) : dropS (l.take (k + 1)) key = if l[k].1 = key then dropS (l.take k) key else dropS (l.take k) key ++ [l[k]] := by
  unfold dropS; rw [List.take_succ_eq_append_getElem h, List.filter_append]
  by_cases hk : l[k].1 = key <;> simp [hk]
theorem dropS_len (l : List (Int × Int)) (key : Int) : (dropS l key).length ≤ l.length := List.length_filter_le _ _
theorem pair_new (w : World) (x y : Value) (t : TypeId) : ∀ j u, [x, y][j]? = some u → (w.alloc (.cells #[x, y] t)).cell? ((⟨w.heap.size, 0, none⟩ : Addr).add j) = some u := cell_two_new w x y t
theorem pairV_snoc (l : List (Int × Int)) (p : Int × Int) : pairV (l ++ [p]) = pairV l ++ [.int .i64 p.1, .int .i64 p.2] := by rw [pairV_append]; rfl

def DropRel (B n : Nat) (l : List (Int × Int)) (key : Int) (w : World) (o i : Value) (wr : World) : Prop :=
  ∃ k m : Nat, k ≤ n ∧ m ≤ k ∧ i = .int .i64 k ∧ Hid (m = (dropS (l.take k) key).length) ∧ Got B 40 2 m (pairV (dropS (l.take k) key)) o w wr
set_option maxHeartbeats 1000000 in
set_option maxRecDepth 100000 in
theorem rdrop_any (l : List (Int × Int)) (key : Int) (v : Value) (w : World) (hl : l.length ≤ 1048576) (h : Sees w.heap.size 2 w v l.length (pairV l)) :
    Calls Tryd.prog 27 #[v, .int .i64 key] w fun e w' => ∃ r, e = .returned r ∧ Got w.heap.size 40 2 (dropS l key).length (pairV (dropS l key)) r w w' := by
  obtain ⟨i0, hi, hz0, hz1, hz2⟩ := info_parts infoPair
  obtain ⟨A, cap, rfl⟩ := h.form
  generalize hB : w.heap.size = B at h ⊢
  have HB := Lib.hid hB
  have HS := Lib.hid h
  have hBw : B ≤ w.heap.size := by omega
  obtain ⟨n, hn⟩ : ∃ n, n = l.length := ⟨_, rfl⟩
  rw [← hn] at hl ⊢
  have HN := Lib.hid hn
  clear hB h hn
  go_enter Tryd.func27, Tryd.ntmps27
  go_wp2
  go_loopw [5, 6] (fun o i wr => DropRel B n l key w o i wr) (fun _ i _ => n - (intOf i).toNat)
  case atStart => unfold DropRel; exact ⟨0, 0, Nat.zero_le _, Nat.zero_le _, rfl, Lib.hid rfl, Got.nil_ _ _ _ _⟩
  case round =>
    obtain ⟨k, m, hk, hm, rfl, HM, hgot⟩ := hrel
    have hsz := hgot.2.size
    by_cases hlt : k < n
    · have hkl : k < l.length := by have := HN.out; omega
      obtain ⟨b, off, cap', hv, hb, hc1, hc2⟩ := (HS.out.below hgot.2).pair k hkl
      have hT := dropS_take l key k hkl
      injection hv with hA hL hC
      subst hA
      subst hC
      clear hL
      obtain ⟨p, hp⟩ : ∃ p, p = l[k] := ⟨_, rfl⟩
      obtain ⟨x, y⟩ := p
      rw [← hp] at hc1 hc2 hT
      have HY : Hid ((x != key) = true → dropS (l.take (k + 1)) key = dropS (l.take k) key ++ [(x, y)]) := by
        intro e; rw [hT, if_neg (by simpa using e)]
      have HZ : Hid ((x != key) = false → dropS (l.take (k + 1)) key = dropS (l.take k) key) := by
        intro e; rw [hT, if_pos (by simpa using e)]
      clear hp hT hkl
      go_wp2_with (at_builtin; refine wpList_append_own _ rfl _ _ 28 rfl B 40 i0 (.agg #[.int .i64 0, .int .i64 0]) 2 16 Tryd.underlying28 hi hz0 hz1 hz2 rfl (by decide) _ _ _ rfl (hgot.1.alloc _) ⟨wr.heap.size, 0, none⟩ 1 1 [.int .i64 x, .int .i64 y] rfl rfl (pair_new _ _ _ _) (two_int _ _ _) (by unfold maxLen; omega) (by omega) (by simp; omega) ?_; intro v' w1 hown' hgrow _; have hgot' := Lib.hid (hgot.app (by omega) hown' hgrow); clear hown' hgrow)
      · go_roundw
        case rel =>
          have e := HY.out (by assumption)
          unfold DropRel
          exact ⟨k + 1, m + 1, by omega, by omega, by go_num, Lib.hid (by rw [e, List.length_append, ← HM.out]; rfl), by rw [e, pairV_snoc]; exact hgot'.out⟩
        case measure => simp [intOf]; omega
      · go_roundw
        case rel =>
          have e := HZ.out (by assumption)
          unfold DropRel
          exact ⟨k + 1, m, by omega, by omega, by go_num, Lib.hid (by rw [e]; exact HM.out), by rw [e]; exact hgot⟩
        case measure => simp [intOf]; omega
    · have hkn : Hid (l.take k = l) := by
        have h1 : k = n := by omega
        show _ = _
        rw [List.take_of_length_le (by rw [h1, HN.out]; exact Nat.le_refl _)]
      go_wp2
      go_ret
      exact ⟨_, rfl, by have h := hgot; rw [hkn.out] at h; have h2 := HM.out; rw [hkn.out] at h2; rw [← h2]; exact h⟩

/-- a key's value -/
def getS : List (Int × Int) → Int → Int × Bool
  | [], _ => (0, false)
  | p :: r, key => if p.1 = key then (p.2, true) else getS r key
theorem getS_drop (l : List (Int × Int)) (key : Int) (k : Nat) (h : k < l.length) : getS (l.drop k) key = if l[k].1 = key then (l[k].2, true) else getS (l.drop (k + 1)) key := by
  rw [List.drop_eq_getElem_cons h, getS]
def GetRel (n : Nat) (l : List (Int × Int)) (key : Int) (w : World) (i : Value) (wr : World) : Prop :=
  ∃ k : Nat, k ≤ n ∧ i = .int .i64 k ∧ Hid (getS (l.drop k) key = getS l key) ∧ w = wr
set_option maxRecDepth 100000 in
theorem rget_any (l : List (Int × Int)) (key : Int) (v : Value) (B : Nat) (w : World) (hl : l.length ≤ 1048576) (h : Sees B 2 w v l.length (pairV l)) :
    Calls Tryd.prog 14 #[v, .int .i64 key] w fun e w' => e = .returned (.tuple #[.int .i64 (getS l key).1, .bool (getS l key).2]) ∧ w = w' := by
  obtain ⟨A, cap, rfl⟩ := h.form
  have HS := Lib.hid h
  obtain ⟨n, hn⟩ : ∃ n, n = l.length := ⟨_, rfl⟩
  rw [← hn] at hl ⊢
  have HN := Lib.hid hn
  clear h hn
  go_enter Tryd.func14, Tryd.ntmps14
  go_wp2
  go_loopw [6] (fun i wr => GetRel n l key w i wr) (fun i _ => n - (intOf i).toNat)
  case atStart => unfold GetRel; exact ⟨0, Nat.zero_le _, rfl, Lib.hid rfl, rfl⟩
  case round =>
    obtain ⟨k, hk, rfl, HG, rfl⟩ := hrel
    by_cases hlt : k < n
    · have hkl : k < l.length := by have := HN.out; omega
      obtain ⟨b, off, cap', hv, hb, hc1, hc2⟩ := HS.out.pair k hkl
      have hT := getS_drop l key k hkl
      injection hv with hA hL hC
      subst hA
      subst hC
      clear hL
      obtain ⟨p, hp⟩ : ∃ p, p = l[k] := ⟨_, rfl⟩
      obtain ⟨x, y⟩ := p
      rw [← hp] at hc1 hc2 hT
      have HY : Hid ((x == key) = true → getS l key = (y, true)) := by
        intro e; rw [← HG.out, hT, if_pos (by simpa using e)]
      have HZ : Hid ((x == key) = false → getS (l.drop (k + 1)) key = getS l key) := by
        intro e; rw [← HG.out, hT, if_neg (by simpa using e)]
      clear hp hT hkl
      go_wp2
      · go_ret2
        exact ⟨by rw [HY.out (by assumption)]; rfl, rfl⟩
      · go_roundw
        case rel =>
          unfold GetRel
          exact ⟨k + 1, by omega, by go_num, Lib.hid (HZ.out (by assumption)), rfl⟩
        case measure => simp [intOf]; omega
    · have hfin : Hid (getS l key = (0, false)) := by
        have h1 : k = l.length := by have := HN.out; omega
        show _ = _
        rw [← HG.out, List.drop_eq_nil_of_le (by omega)]; rfl
      go_wp2
      go_ret2
      exact ⟨by rw [hfin.out]; rfl, rfl⟩
def intV (l : List Int) : List Value := l.map (Value.int .i64)
theorem Sees_int {B : Nat} {w : World} {v : Value} {l : List Int} (h : Sees B 1 w v l.length (intV l)) (k : Nat) (hk : k < l.length) :
    ∃ b off cap, v = .slice (some ⟨b, off, none⟩) l.length cap ∧ b < B ∧ w.cell? ⟨b, off + k, none⟩ = some (.int .i64 l[k]) := by
  obtain ⟨_, A, cap, hv, hc⟩ := h
  obtain ⟨b, off, rfl, hb, hc⟩ := hc (by omega)
  exact ⟨b, off, cap, hv, hb, hc _ _ (by unfold intV; rw [List.getElem?_map, List.getElem?_eq_getElem hk]; rfl)⟩
def IntsRel (n : Nat) (a b : List Int) (w : World) (i : Value) (wr : World) : Prop :=
  ∃ k q : Nat, k ≤ n ∧ i = .int .i64 k ∧ Hid (a.take k = b.take k) ∧ wr = w.drewN q
theorem take_same {a b : List Int} {k : Nat} (ha : k < a.length) (hb : k < b.length) (h : a.take k = b.take k) (he : a[k] = b[k]) : a.take (k + 1) = b.take (k + 1) := by
  rw [List.take_succ_eq_append_getElem ha, List.take_succ_eq_append_getElem hb, h, he]
set_option maxRecDepth 100000 in
theorem rints_any (a b : List Int) (u v : Value) (B : Nat) (w : World) (ha : a.length ≤ 1048576) (h1 : Sees B 1 w u a.length (intV a)) (h2 : Sees B 1 w v b.length (intV b)) :
    Calls Tryd.prog 32 #[u, v] w fun e w' => e = .returned (.bool (a == b)) ∧ ∃ n, w' = w.drewN n := by
  obtain ⟨A1, cap1, rfl⟩ := h1.form
  obtain ⟨A2, cap2, rfl⟩ := h2.form
  have HS1 := Lib.hid h1
  have HS2 := Lib.hid h2
  by_cases hne : a.length = b.length
  · obtain ⟨n, hn⟩ : ∃ n, n = a.length := ⟨_, rfl⟩
    have hn2 : n = b.length := by omega
    rw [← hn, ← hn2]
    rw [← hn] at ha
    have HN := Lib.hid hn
    have HN2 := Lib.hid hn2
    clear h1 h2 hne hn hn2
    go_enter Tryd.func32, Tryd.ntmps32
    go_wp2
    go_loopw [5] (fun i wr => IntsRel n a b w i wr) (fun i _ => n - (intOf i).toNat)
    case atStart => unfold IntsRel; exact ⟨0, 0, Nat.zero_le _, rfl, Lib.hid rfl, rfl⟩
    case round =>
      obtain ⟨k, q, hk, rfl, HT, rfl⟩ := hrel
      by_cases hlt : k < n
      · have ka : k < a.length := by have := HN.out; omega
        have kb : k < b.length := by have := HN2.out; omega
        obtain ⟨b1, o1, c1, hv1, hb1, hx⟩ := Sees_int HS1.out k ka
        obtain ⟨b2, o2, c2, hv2, hb2, hy⟩ := Sees_int HS2.out k kb
        injection hv1 with hA1 hL1 hC1
        injection hv2 with hA2 hL2 hC2
        subst hA1
        subst hA2
        subst hC1
        subst hC2
        clear hL1 hL2
        obtain ⟨x, hxe⟩ : ∃ x, x = a[k] := ⟨_, rfl⟩
        obtain ⟨y, hye⟩ : ∃ y, y = b[k] := ⟨_, rfl⟩
        rw [← hxe] at hx
        rw [← hye] at hy
        have HE : Hid ((x != y) = false → a.take (k + 1) = b.take (k + 1)) := by
          intro e; exact take_same ka kb HT.out (by rw [← hxe, ← hye]; simpa using e)
        have HD : Hid ((x != y) = true → (a == b) = false) := by
          intro e
          rw [beq_eq_false_iff_ne]; intro hab; subst hab
          rw [hxe, hye] at e; simp at e
        clear hxe hye ka kb
        go_wp2
        go_quiet (fail)
        go_wp2
        · go_ret
          exact ⟨by rw [HD.out (by assumption)]; rfl, by first | exact ⟨_, rfl⟩ | exact ⟨_, World.drewN_drewN _ _ _⟩⟩
        · go_roundw
          case rel =>
            unfold IntsRel
            exact ⟨k + 1, _, by omega, by go_num, Lib.hid (HE.out (by assumption)), by first | rfl | exact World.drewN_drewN _ _ _⟩
          case measure => simp [intOf]; omega
      · have hfin : Hid ((a == b) = true) := by
          show _ = _
          have h := HT.out
          have h1 := HN.out
          have h2 := HN2.out
          rw [List.take_of_length_le (by omega), List.take_of_length_le (by omega)] at h
          rw [h]; simp
        go_wp2
        go_ret
        exact ⟨by rw [hfin.out]; rfl, _, rfl⟩
  · have hfin : Hid ((a == b) = false) := by
      show _ = _
      rw [beq_eq_false_iff_ne]; intro hab; exact hne (congrArg List.length hab)
    go_enter Tryd.func32, Tryd.ntmps32
    go_wp2
    go_ret
    exact ⟨by rw [hfin.out]; rfl, 0, rfl⟩
end Go.Proofs.YtjlbchkdiaomjaaDoor.trie

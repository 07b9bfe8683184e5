/- What the document's own answers of layer 5 return: one map over another one; the keys between two numbers. -/
import Derived.Test.YtjlbchkdiaomjaaDoorTriePut
import Derived.StillTailTactics
namespace Go.Proofs.YtjlbchkdiaomjaaDoor.trie
open Go.RowKit mem

theorem putR_le1 (key v : Int) : ∀ (b : Bool) (l : List (Int × Int)), (putR key v b l).length ≤ l.length + 1
  | b, [] => by unfold putR; split <;> simp
  | b, p :: r => by
    unfold putR
    split
    · have h : ∀ (b : Bool) (l : List (Int × Int)), b = true → (putR key v b l).length ≤ l.length := by
        intro b l hb
        subst hb
        induction l with
        | nil => simp [putR]
        | cons q s ih => unfold putR; rw [if_neg (by simp)]; split <;> simp <;> omega
      have := h true r rfl
      split <;> simp <;> omega
    · have := putR_le1 key v b r
      split <;> simp <;> omega
theorem putS_le1 (l : List (Int × Int)) (key v : Int) : (putS l key v).length ≤ l.length + 1 := putR_le1 key v false l
/-- one list of pairs over another one -/
def overS (a b : List (Int × Int)) : List (Int × Int) := b.foldl (fun l p => putS l p.1 p.2) a
theorem overS_take (a b : List (Int × Int)) (k : Nat) (h : k < b.length) : overS a (b.take (k + 1)) = putS (overS a (b.take k)) b[k].1 b[k].2 := by
  unfold overS; rw [List.take_succ_eq_append_getElem h, List.foldl_append]; rfl
theorem overS_len : ∀ (b a : List (Int × Int)), (overS a b).length ≤ a.length + b.length
  | [], a => by simp [overS]
  | p :: r, a => by
    have h1 := overS_len r (putS a p.1 p.2)
    have h2 := putS_le1 a p.1 p.2
    show (overS (putS a p.1 p.2) r).length ≤ _
    simp only [List.length_cons]; omega
def OverRel (B n : Nat) (a b : List (Int × Int)) (w : World) (o i : Value) (wr : World) : Prop :=
  ∃ (k : Nat) (acc : List (Int × Int)), k ≤ n ∧ acc.length ≤ a.length + k ∧ i = .int .i64 k ∧ Hid (acc = overS a (b.take k)) ∧ Sees wr.heap.size 2 wr o acc.length (pairV acc) ∧ Below B w wr
set_option maxRecDepth 100000 in
set_option maxHeartbeats 1000000 in
theorem rover_any (a b : List (Int × Int)) (u v : Value) (w : World) (hl : a.length + b.length ≤ 1048000) (h1 : Sees w.heap.size 2 w u a.length (pairV a)) (h2 : Sees w.heap.size 2 w v b.length (pairV b)) :
    Calls Tryd.prog 24 #[u, v] w fun e w' => ∃ r, e = .returned r ∧ Sees w'.heap.size 2 w' r (overS a b).length (pairV (overS a b)) ∧ Below w.heap.size w w' := by
  obtain ⟨A, cap, rfl⟩ := h2.form
  generalize hB : w.heap.size = B at h1 h2 ⊢
  have HB := Lib.hid hB
  have H1 := Lib.hid (show Sees w.heap.size 2 w u a.length (pairV a) by rw [hB]; exact h1)
  have HS := Lib.hid h2
  have hBw : B ≤ w.heap.size := by omega
  obtain ⟨n, hn⟩ : ∃ n, n = b.length := ⟨_, rfl⟩
  rw [← hn] at hl ⊢
  have HN := Lib.hid hn
  clear hB h1 h2 hn
  go_enter Tryd.func24, Tryd.ntmps24
  go_wp2
  go_loopw [5, 6] (fun o i wr => OverRel B n a b w o i wr) (fun _ i _ => n - (intOf i).toNat)
  case atStart => unfold OverRel; exact ⟨0, a, Nat.zero_le _, Nat.le_refl _, rfl, Lib.hid rfl, H1.out, Below.refl _ _⟩
  case round =>
    obtain ⟨k, acc, hk, hal, rfl, HA, hsee, hbel⟩ := hrel
    have HSe := Lib.hid hsee
    have HBe := Lib.hid hbel
    have hsz := hbel.size
    by_cases hlt : k < n
    · have hkl : k < b.length := by have := HN.out; omega
      obtain ⟨g, off, cap', hv, hb, hc1, hc2⟩ := (HS.out.below hbel).pair k hkl
      have hT := overS_take a b k hkl
      injection hv with hA hL hC
      subst hA
      subst hC
      clear hL
      obtain ⟨p, hp⟩ : ∃ p, p = b[k] := ⟨_, rfl⟩
      obtain ⟨x, y⟩ := p
      rw [← hp, ← HA.out] at hT
      rw [← hp] at hc1 hc2
      have HT := Lib.hid hT
      have hpl := putS_le1 acc x y
      clear hp hT hkl hsee hbel
      have x1 : (k : Int) < (n : Int) := by omega
      have x2 : (0 : Int) ≤ (k : Int) := by omega
      go_wp2_with (fail)
      go_still_tail 11, (by kernel_rfl)
      change wpList _ _ _ _ _ wr.drew
      have HSd : Hid (Sees wr.drew.heap.size 2 wr.drew u5 acc.length (pairV acc)) := HSe
      go_wp2_with (go_at_call 20; refine (rput_any acc x y _ _ (by omega) HSd.out).mono ?_; rintro e w1 ⟨r, rfl, hg⟩; have hgot := Lib.hid hg; clear hg)
      go_roundw
      case rel =>
        unfold OverRel
        have hb1 : Below B w w1 := (HBe.out.drew).trans (hgot.out.2.mono (by show B ≤ wr.heap.size; omega))
        refine ⟨k + 1, putS acc x y, by omega, by omega, by go_num, Lib.hid HT.out.symm, hgot.out.sees, hb1⟩
      case measure => simp [intOf]; omega
    · have hkn : Hid (b.take k = b) := by
        have h1 : k = n := by omega
        show _ = _
        rw [List.take_of_length_le (by rw [h1, HN.out]; exact Nat.le_refl _)]
      go_wp2
      go_ret
      exact ⟨_, rfl, by have h := HA.out; rw [hkn.out] at h; rw [← h]; exact HSe.out, HBe.out⟩
/-- the keys from one number to below another one -/
def betweenS (l : List (Int × Int)) (lo hi : Int) : List (Int × Int) := l.filter fun p => decide (lo ≤ p.1) && decide (p.1 < hi)
theorem betweenS_take (l : List (Int × Int)) (lo hi : Int) (k : Nat) (h : k < l.length) :
    betweenS (l.take (k + 1)) lo hi = if lo ≤ l[k].1 ∧ l[k].1 < hi then betweenS (l.take k) lo hi ++ [l[k]] else betweenS (l.take k) lo hi := by
  unfold betweenS; rw [List.take_succ_eq_append_getElem h, List.filter_append]
  by_cases h1 : lo ≤ l[k].1 <;> by_cases h2 : l[k].1 < hi <;> simp [h1, h2]
theorem keyV_snoc (l : List (Int × Int)) (p : Int × Int) : keyV (l ++ [p]) = keyV l ++ [.int .i64 p.1] := by unfold keyV; rw [List.map_append]; rfl
def BetweenRel (B n : Nat) (l : List (Int × Int)) (lo hi : Int) (w : World) (o i : Value) (wr : World) : Prop :=
  ∃ (k m : Nat), k ≤ n ∧ m ≤ k ∧ i = .int .i64 k ∧ Hid (m = (betweenS (l.take k) lo hi).length) ∧ Got B 3 1 m (keyV (betweenS (l.take k) lo hi)) o w wr
set_option maxRecDepth 100000 in
set_option maxHeartbeats 1000000 in
theorem rbetween_any (l : List (Int × Int)) (lo hi : Int) (v : Value) (w : World) (hl : l.length ≤ 1048576) (h : Sees w.heap.size 2 w v l.length (pairV l)) :
    Calls Tryd.prog 35 #[v, .int .i64 lo, .int .i64 hi] w fun e w' => ∃ r, e = .returned r ∧ Got w.heap.size 3 1 (betweenS l lo hi).length (keyV (betweenS l lo hi)) r w w' := by
  obtain ⟨i0, hi0, hz0, hz1, hz2⟩ := info_parts infoInt
  obtain ⟨A, cap, rfl⟩ := h.form
  generalize hB : w.heap.size = B at h ⊢
  have HB := Lib.hid hB
  have HS := Lib.hid h
  have hBw : B ≤ w.heap.size := by omega
  obtain ⟨n, hn⟩ : ∃ n, n = l.length := ⟨_, rfl⟩
  rw [← hn] at hl ⊢
  have HN := Lib.hid hn
  clear hB h hn
  go_enter Tryd.func35, Tryd.ntmps35
  go_wp2
  go_loopw [7, 8] (fun o i wr => BetweenRel B n l lo hi w o i wr) (fun _ i _ => n - (intOf i).toNat)
  case atStart => unfold BetweenRel; exact ⟨0, 0, Nat.zero_le _, Nat.zero_le _, rfl, Lib.hid rfl, Got.nil_ _ _ _ _⟩
  case round =>
    obtain ⟨k, m, hk, hm, rfl, HM, hgot⟩ := hrel
    have hsz := hgot.2.size
    by_cases hlt : k < n
    · have hkl : k < l.length := by have := HN.out; omega
      obtain ⟨b, off, cap', hv, hb, hc1, hc2⟩ := (HS.out.below hgot.2).pair k hkl
      have hT := betweenS_take l lo hi k hkl
      injection hv with hA hL hC
      subst hA
      subst hC
      clear hL
      obtain ⟨p, hp⟩ : ∃ p, p = l[k] := ⟨_, rfl⟩
      obtain ⟨x, y⟩ := p
      rw [← hp] at hc1 hT
      clear hp hkl hc2
      by_cases hin : lo ≤ x ∧ x < hi
      · have HY : Hid (betweenS (l.take (k + 1)) lo hi = betweenS (l.take k) lo hi ++ [(x, y)]) := by
          show _ = _
          rw [hT, if_pos hin]
        obtain ⟨g1, g2⟩ := hin
        clear hT
        go_wp2_with (at_builtin; refine wpList_append_own _ rfl _ _ 42 rfl B 3 i0 (.int .i64 0) 1 8 Tryd.underlying42 hi0 hz0 hz1 hz2 rfl (by decide) _ _ _ rfl (hgot.1.alloc _) ⟨wr.heap.size, 0, none⟩ 1 1 [.int .i64 x] rfl rfl (new_one _ _ _) (one_int _ _) (by unfold maxLen; omega) (by omega) (by simp; omega) ?_; intro v' w1 hown' hgrow _; have hgot' := Lib.hid (hgot.app (by omega) hown' hgrow); clear hown' hgrow)
        go_roundw
        case rel =>
          unfold BetweenRel
          have e := HY.out
          exact ⟨k + 1, m + 1, by omega, by omega, by go_num, Lib.hid (by rw [e, List.length_append, ← HM.out]; rfl), by rw [e, keyV_snoc]; exact hgot'.out⟩
        case measure => simp [intOf]; omega
      · have HZ : Hid (betweenS (l.take (k + 1)) lo hi = betweenS (l.take k) lo hi) := by
          show _ = _
          rw [hT, if_neg hin]
        clear hT
        by_cases g1 : lo ≤ x
        · have g2 : ¬ x < hi := fun h => hin ⟨g1, h⟩
          clear hin
          go_wp2
          go_roundw
          case rel =>
            unfold BetweenRel
            have e := HZ.out
            exact ⟨k + 1, m, by omega, by omega, by go_num, Lib.hid (by rw [e]; exact HM.out), by rw [e]; exact hgot⟩
          case measure => simp [intOf]; omega
        · clear hin
          go_wp2
          go_roundw
          case rel =>
            unfold BetweenRel
            have e := HZ.out
            exact ⟨k + 1, m, by omega, by omega, by go_num, Lib.hid (by rw [e]; exact HM.out), by rw [e]; exact hgot⟩
          case measure => simp [intOf]; omega
    · have hkn : Hid (l.take k = l) := by
        have h1 : k = n := by omega
        show _ = _
        rw [List.take_of_length_le (by rw [h1, HN.out]; exact Nat.le_refl _)]
      go_wp2
      go_ret
      exact ⟨_, rfl, by have h := hgot; rw [hkn.out] at h; have h2 := HM.out; rw [hkn.out] at h2; rw [← h2]; exact h⟩
end Go.Proofs.YtjlbchkdiaomjaaDoor.trie

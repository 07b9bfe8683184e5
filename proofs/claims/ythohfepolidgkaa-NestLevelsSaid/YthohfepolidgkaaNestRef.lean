/- The document's own answers on how deep tokens are nested. -/
import Derived.Test.YthohfepolidgkaaNestMath
import Derived.Test.YthohfepolidgkaaBox
import Derived.Test.YthohfepolidgkaaMine
import Derived.Test.YthohfepolidgkaaValClone
namespace Go.Proofs.Ythohfepolidgkaa.ne
open Go.RowKit mem
open vt (wpList_append_mine own_form)

abbrev TkT : TypeId := 35
def tkA (t : Tk) : Value := .agg #[.int .i64 t.kind, .int .i64 t.at_, .int .i64 t.n, .string ⟨t.text.toArray⟩]
theorem mark_other {t : Tk} (hk : t.kind = 4) (h1 : t.text ≠ [40]) (h2 : t.text ≠ [91]) (h3 : t.text ≠ [123]) (h4 : t.text ≠ [41]) (h5 : t.text ≠ [93]) (h6 : t.text ≠ [125]) (h7 : t.text ≠ [45]) (h8 : t.text ≠ [33]) : markN t = 0 := by
  unfold markN
  rw [if_neg (by simp [hk]), if_neg (by simp [h1, h2, h3]), if_neg (by simp [h4, h5, h6]), if_neg (by simp [h7, h8])]
set_option maxHeartbeats 1000000 in
theorem rmark_any (t : Tk) (w : World) : Calls Try.prog 10 #[tkA t] w fun e w' => e = .returned (.int .i64 (markN t : Nat)) ∧ Below w.heap.size w w' := by
  obtain ⟨k, a, n, s⟩ := t
  unfold tkA
  simp only
  obtain ⟨W, hW⟩ : ∃ W, W = w.alloc (.cells #[.int .i64 k, .int .i64 a, .int .i64 n, .string ⟨s.toArray⟩] TkT) := ⟨_, rfl⟩
  obtain ⟨K, hK⟩ : ∃ K, K = w.heap.size := ⟨_, rfl⟩
  have hbW : Below w.heap.size w W := by rw [hW]; exact (Below.refl _ _).alloc (Nat.le_refl _) _
  have bx : Box W K TkT #[.int .i64 k, .int .i64 a, .int .i64 n, .string ⟨s.toArray⟩] := by rw [hW]; exact Box.new _ _ _ _ hK
  have x0 := bx.cell 0
  have x3 := bx.cell 3
  simp only [List.getElem?_toArray, List.getElem?_cons_zero, List.getElem?_cons_succ] at x0 x3
  have HB := Lib.hid hbW
  have HW := Lib.hid hW
  have HKK := Lib.hid hK
  obtain ⟨R, hR⟩ : ∃ R, R = markN ⟨k, a, n, s⟩ := ⟨_, rfl⟩
  rw [← hR]
  have HR := Lib.hid hR
  clear bx hbW hW hK hR
  by_cases hk : k = 4
  · subst hk
    by_cases h1 : s = [40]
    · subst h1
      go_enter Try.func10, Try.ntmps10
      go_wp2_with (first | (rw [← HW.out, ← HKK.out]))
      go_ret
      exact ⟨by rw [HR.out]; rfl, HB.out⟩
    by_cases h2 : s = [91]
    · subst h2
      go_enter Try.func10, Try.ntmps10
      go_wp2_with (first | (rw [← HW.out, ← HKK.out]))
      go_ret
      exact ⟨by rw [HR.out]; rfl, HB.out⟩
    by_cases h3 : s = [123]
    · subst h3
      go_enter Try.func10, Try.ntmps10
      go_wp2_with (first | (rw [← HW.out, ← HKK.out]))
      go_ret
      exact ⟨by rw [HR.out]; rfl, HB.out⟩
    by_cases h4 : s = [41]
    · subst h4
      go_enter Try.func10, Try.ntmps10
      go_wp2_with (first | (rw [← HW.out, ← HKK.out]))
      go_ret
      exact ⟨by rw [HR.out]; rfl, HB.out⟩
    by_cases h5 : s = [93]
    · subst h5
      go_enter Try.func10, Try.ntmps10
      go_wp2_with (first | (rw [← HW.out, ← HKK.out]))
      go_ret
      exact ⟨by rw [HR.out]; rfl, HB.out⟩
    by_cases h6 : s = [125]
    · subst h6
      go_enter Try.func10, Try.ntmps10
      go_wp2_with (first | (rw [← HW.out, ← HKK.out]))
      go_ret
      exact ⟨by rw [HR.out]; rfl, HB.out⟩
    by_cases h7 : s = [45]
    · subst h7
      go_enter Try.func10, Try.ntmps10
      go_wp2_with (first | (rw [← HW.out, ← HKK.out]))
      go_ret
      exact ⟨by rw [HR.out]; rfl, HB.out⟩
    by_cases h8 : s = [33]
    · subst h8
      go_enter Try.func10, Try.ntmps10
      go_wp2_with (first | (rw [← HW.out, ← HKK.out]))
      go_ret
      exact ⟨by rw [HR.out]; rfl, HB.out⟩
    have HR0 : Hid (R = 0) := Lib.hid (HR.out.trans (mark_other rfl h1 h2 h3 h4 h5 h6 h7 h8))
    have e1 : (s == [40]) = false := beq_eq_false_iff_ne.2 h1
    have e2 : (s == [91]) = false := beq_eq_false_iff_ne.2 h2
    have e3 : (s == [123]) = false := beq_eq_false_iff_ne.2 h3
    have e4 : (s == [41]) = false := beq_eq_false_iff_ne.2 h4
    have e5 : (s == [93]) = false := beq_eq_false_iff_ne.2 h5
    have e6 : (s == [125]) = false := beq_eq_false_iff_ne.2 h6
    have e7 : (s == [45]) = false := beq_eq_false_iff_ne.2 h7
    have e8 : (s == [33]) = false := beq_eq_false_iff_ne.2 h8
    clear h1 h2 h3 h4 h5 h6 h7 h8 HR
    go_enter Try.func10, Try.ntmps10
    go_wp2_with (first | (rw [← HW.out, ← HKK.out]))
    go_ret
    exact ⟨by rw [HR0.out]; rfl, HB.out⟩
  · have hk' : (k == 4) = false := beq_eq_false_iff_ne.2 hk
    have HR0 : Hid (R = 0) := Lib.hid (by rw [HR.out]; unfold markN; rw [if_pos hk])
    clear HR
    go_enter Try.func10, Try.ntmps10
    go_wp2_with (first | (rw [← HW.out, ← HKK.out]))
    go_ret
    exact ⟨by rw [HR0.out]; rfl, HB.out⟩
/-! ### the row of pairs -/
abbrev PairT : TypeId := 26
def prV (l : List (Nat × Nat)) : List Value := l.flatMap fun p => [.int .i64 p.1, .int .i64 p.2]
theorem prV_append (a b : List (Nat × Nat)) : prV (a ++ b) = prV a ++ prV b := by unfold prV; rw [List.flatMap_append]
theorem prV_len (l : List (Nat × Nat)) : (prV l).length = l.length * 2 := by
  induction l with
  | nil => rfl
  | cons p l ih => rw [show prV (p :: l) = [.int .i64 p.1, .int .i64 p.2] ++ prV l from rfl, List.length_append, ih]; simp only [List.length_cons, List.length_nil]; omega
theorem prV_at : ∀ (l : List (Nat × Nat)) (k : Nat) (h : k < l.length), (prV l)[k * 2]? = some (.int .i64 l[k].1) ∧ (prV l)[k * 2 + 1]? = some (.int .i64 l[k].2)
  | p :: l, 0, _ => ⟨rfl, rfl⟩
  | p :: l, k + 1, h => by
    have ih := prV_at l k (by simpa using h)
    rw [show prV (p :: l) = .int .i64 p.1 :: .int .i64 p.2 :: prV l from rfl, show (k + 1) * 2 = k * 2 + 1 + 1 by omega, show k * 2 + 1 + 1 + 1 = (k * 2 + 1) + 1 + 1 by omega]
    simp only [List.getElem?_cons_succ, List.getElem_cons_succ]
    exact ih
/-- all states behind the first k tokens -/
def sts (l : List Tk) (k : Nat) : List (Nat × Nat) := (List.range k).map fun j => stN l (j + 1)
theorem sts_len (l : List Tk) (k : Nat) : (sts l k).length = k := by unfold sts; simp
theorem sts_succ (l : List Tk) (k : Nat) : sts l (k + 1) = sts l k ++ [stN l (k + 1)] := by unfold sts; rw [List.range_succ, List.map_append]; rfl
theorem sts_at (l : List Tk) (k j : Nat) (h : j < (sts l k).length) : (sts l k)[j] = stN l (j + 1) := by
  have h2 : j < k := by rw [sts_len] at h; exact h
  have e : (sts l k)[j]? = some (stN l (j + 1)) := by unfold sts; rw [List.getElem?_map, List.getElem?_range h2]; rfl
  rw [List.getElem?_eq_getElem h] at e
  exact Option.some.inj e
theorem infoPr : (Try.prog.info? 26).map (fun i => (i.zero, i.size, i.bytes)) = some (some (.agg #[.int .i64 0, .int .i64 0]), 2, 16) := by kernel_rfl
/-- the append of one pair, met in a walk -/
theorem wpList_pair {w wr : World} {ops : Array Oper} {rest : List Oper} {o : Oper} {a : Act} {Q : Exit → Act → World → Prop} (hgd : o.guard = none) (s x : Operand)
    (ho : o.op = .call { callee := .builtin .append, args := #[s, x], argTypes := #[24, 24] }) (B n : Nat) (acc : List (Nat × Nat)) (p : Nat × Nat) (v : Value) (H : Nat)
    (hs : a.eval s = v) (hx : a.eval x = .slice (some ⟨H, 0, none⟩) 1 1) (hg : Got B PairT 2 n (prV acc) v w wr) (hl : n ≤ 1099511627776) (hB : B ≤ wr.heap.size) (hH : H = wr.heap.size)
    (h : ∀ v' w', Got B PairT 2 (n + 1) (prV (acc ++ [p])) v' w w' → wpList Try.prog ops Q rest (a.put o.dst v') w') :
    wpList Try.prog ops Q (o :: rest) a (wr.alloc (.cells #[.int .i64 p.1, .int .i64 p.2] PairT)) := by
  obtain ⟨i0, hi, hz0, hz1, hz2⟩ := info_parts infoPr
  subst hH
  have hbx : Box (wr.alloc (.cells #[.int .i64 p.1, .int .i64 p.2] PairT)) wr.heap.size PairT _ := Box.new _ _ _ _ rfl
  refine wpList_append_mine hgd s x 24 ho B PairT i0 (.agg #[.int .i64 0, .int .i64 0]) 2 16 Try.underlying24 hi hz0 hz1 hz2 rfl (by decide) v n (prV acc) hs (hg.1.alloc _) ⟨wr.heap.size, 0, none⟩ 1 1 [.int .i64 p.1, .int .i64 p.2] hx rfl (fun j u hu => ?_) (fun u hu => by simp at hu; rcases hu with rfl | rfl <;> rfl) (by unfold maxLen; omega) (by omega) (by simp; omega) ?_
  · rw [vt.cells_add, Nat.zero_add, hbx.cell j]; simpa using hu
  · intro v' w' h1 h2 h3
    refine h v' w' ?_
    rw [prV_append]
    exact hg.app hB h1 h2
def AtRel (l : List Tk) (w : World) (o a b i : Value) (wr : World) : Prop :=
  ∃ k : Nat, k ≤ l.length ∧ i = .int .i64 k ∧ a = .int .i64 (stN l k).1 ∧ b = .int .i64 (stN l k).2 ∧ Hid (Got w.heap.size PairT 2 k (prV (sts l k)) o w wr)
set_option maxHeartbeats 2000000 in
theorem rat_any (l : List Tk) (v : Value) (w : World) (B : Nat) (h : TksS B w l v) (hB : B ≤ w.heap.size) (hl : l.length ≤ 1048576) :
    Calls Try.prog 6 #[v] w fun e w' => ∃ o, e = .returned o ∧ Got w.heap.size PairT 2 l.length (prV (sts l l.length)) o w w' := by
  obtain ⟨A, c, rfl⟩ := h.form
  have HS := Lib.hid h
  have HG0 : Hid (Got w.heap.size PairT 2 0 (prV (sts l 0)) (.slice none 0 0) w w) := Lib.hid (Got.nil_ _ _ _ _)
  have HZ : Hid (stN l 0 = (0, 0)) := Lib.hid (st_zero l)
  obtain ⟨N, hN⟩ : ∃ N, N = l.length := ⟨_, rfl⟩
  rw [← hN] at hl ⊢
  have HN := Lib.hid hN
  clear hN h
  go_enter Try.func6, Try.ntmps6
  go_wp2_with (fail)
  go_loopw [3, 4, 5, 6] (fun o a b i wr => AtRel l w o a b i wr) (fun _ _ _ i _ => N - (intOf i).toNat)
  case atStart => unfold AtRel; exact ⟨0, Nat.zero_le _, rfl, by rw [HZ.out]; rfl, by rw [HZ.out]; rfl, HG0⟩
  case round =>
    unfold AtRel at hrel
    clear HG0 HZ
    obtain ⟨k, hk, rfl, rfl, rfl, HG⟩ := hrel
    rw [← HN.out] at hk
    obtain ⟨A2, c2, rfl⟩ := own_form HG.out.1
    by_cases hlt : k < N
    · have hlt' : (k : Int) < (N : Int) := by omega
      have hk0 : (0 : Int) ≤ (k : Int) := by omega
      have hkl : k < l.length := by rw [← HN.out]; exact hlt
      obtain ⟨b, off, rfl, _, x⟩ := TksS.cells (HS.out.below (HG.out.2.mono hB)) (by omega)
      obtain ⟨x0, x1, x2, x3⟩ := x k hkl
      have hle := st_le l k (by omega)
      have HST := Lib.hid (st_succ l k hkl)
      have HSS := Lib.hid (sts_succ l k)
      have hBr : w.heap.size ≤ wr.heap.size := HG.out.2.size
      have HMK := Lib.hid (rmark_any l[k] wr)
      unfold tkA at HMK
      obtain ⟨⟨p, q⟩, hpq⟩ : ∃ s, s = stN l k := ⟨_, rfl⟩
      obtain ⟨t, ht⟩ : ∃ t, t = l[k] := ⟨_, rfl⟩
      rw [← ht] at x0 x1 x2 x3 HMK HST
      rw [← hpq] at hle HST ⊢
      simp only at hle
      obtain ⟨⟨p', q'⟩, hpq'⟩ : ∃ s, s = stN l (k + 1) := ⟨_, rfl⟩
      rw [← hpq'] at HST HSS
      have HQ := Lib.hid hpq'
      have HM : Hid (p' = (if markN t = 1 then p + 1 else if markN t = 2 then p - 1 else p) ∧ q' = if markN t = 3 then q + 1 else 0) := Lib.hid (by
        have h := HST.out
        unfold stepN at h
        injection h with h1 h2
        exact ⟨h1, h2⟩)
      obtain ⟨m, hm⟩ : ∃ m, m = markN t := ⟨_, rfl⟩
      rw [← hm] at HMK HM
      clear ht hpq hpq' hm HST x
      go_wp2_with (fail)
      refine HMK.out.mono ?_
      rintro e w1 ⟨rfl, hb⟩
      have HG1 : Hid (Got w.heap.size PairT 2 k (prV (sts l k)) (.slice A2 k c2) w w1) := Lib.hid ⟨vt.own_below HG.out.1 hb, HG.out.2.trans (hb.mono hBr)⟩
      have hB1 : w.heap.size ≤ w1.heap.size := HG1.out.2.size
      clear hb HG HMK
      by_cases m1 : m = 1
      · subst m1
        obtain ⟨e1, e2⟩ := HM.out
        rw [if_pos rfl] at e1
        rw [if_neg (by decide)] at e2
        subst e1
        subst e2
        go_wp2_with (at_builtin; refine wpList_pair rfl _ _ rfl w.heap.size k (sts l k) (p + 1, 0) (.slice A2 k c2) w1.heap.size rfl rfl HG1.out (by omega) hB1 rfl ?_; intro v' w' hq; have HG2 := Lib.hid hq; clear hq)
        go_roundw
        case rel => unfold AtRel; exact ⟨k + 1, by rw [← HN.out]; omega, by go_num, by rw [← HQ.out] <;> first | done | rfl | go_num, by rw [← HQ.out] <;> first | done | rfl | go_num, by rw [HSS.out]; exact HG2⟩
        case measure => simp [intOf]; omega
      have k1 : ((m : Int) == 1) = false := by rw [beq_eq_false_iff_ne]; omega
      by_cases m2 : m = 2
      · subst m2
        obtain ⟨e1, e2⟩ := HM.out
        rw [if_neg (by decide), if_pos rfl] at e1
        rw [if_neg (by decide)] at e2
        subst e2
        by_cases p0 : p = 0
        · subst p0
          obtain rfl : p' = 0 := e1
          go_wp2_with (at_builtin; refine wpList_pair rfl _ _ rfl w.heap.size k (sts l k) (0, 0) (.slice A2 k c2) w1.heap.size rfl rfl HG1.out (by omega) hB1 rfl ?_; intro v' w' hq; have HG2 := Lib.hid hq; clear hq)
          go_roundw
          case rel => unfold AtRel; exact ⟨k + 1, by rw [← HN.out]; omega, by go_num, by rw [← HQ.out] <;> first | done | rfl | go_num, by rw [← HQ.out] <;> first | done | rfl | go_num, by rw [HSS.out]; exact HG2⟩
          case measure => simp [intOf]; omega
        · obtain ⟨r, rfl⟩ : ∃ r, p = r + 1 := ⟨p - 1, by omega⟩
          obtain rfl : p' = r := e1
          have hp0 : (0 : Int) < (p' : Int) + 1 := by omega
          go_wp2_with (at_builtin; refine wpList_pair rfl _ _ rfl w.heap.size k (sts l k) (p', 0) (.slice A2 k c2) w1.heap.size rfl rfl HG1.out (by omega) hB1 rfl ?_; intro v' w' hq; have HG2 := Lib.hid hq; clear hq)
          go_roundw
          case rel => unfold AtRel; exact ⟨k + 1, by rw [← HN.out]; omega, by go_num, by rw [← HQ.out] <;> first | done | rfl | go_num, by rw [← HQ.out] <;> first | done | rfl | go_num, by rw [HSS.out]; exact HG2⟩
          case measure => simp [intOf]; omega
      have k2 : ((m : Int) == 2) = false := by rw [beq_eq_false_iff_ne]; omega
      by_cases m3 : m = 3
      · subst m3
        obtain ⟨e1, e2⟩ := HM.out
        rw [if_neg (by decide), if_neg (by decide)] at e1
        rw [if_pos rfl] at e2
        subst e1
        subst e2
        go_wp2_with (at_builtin; refine wpList_pair rfl _ _ rfl w.heap.size k (sts l k) (p', q + 1) (.slice A2 k c2) w1.heap.size rfl rfl HG1.out (by omega) hB1 rfl ?_; intro v' w' hq; have HG2 := Lib.hid hq; clear hq)
        go_roundw
        case rel => unfold AtRel; exact ⟨k + 1, by rw [← HN.out]; omega, by go_num, by rw [← HQ.out] <;> first | done | rfl | go_num, by rw [← HQ.out] <;> first | done | rfl | go_num, by rw [HSS.out]; exact HG2⟩
        case measure => simp [intOf]; omega
      have k3 : ((m : Int) == 3) = false := by rw [beq_eq_false_iff_ne]; omega
      obtain ⟨e1, e2⟩ := HM.out
      rw [if_neg m1, if_neg m2] at e1
      rw [if_neg m3] at e2
      subst e1
      subst e2
      go_wp2_with (at_builtin; refine wpList_pair rfl _ _ rfl w.heap.size k (sts l k) (p', 0) (.slice A2 k c2) w1.heap.size rfl rfl HG1.out (by omega) hB1 rfl ?_; intro v' w' hq; have HG2 := Lib.hid hq; clear hq)
      go_roundw
      case rel => unfold AtRel; exact ⟨k + 1, by rw [← HN.out]; omega, by go_num, by rw [← HQ.out] <;> first | done | rfl | go_num, by rw [← HQ.out] <;> first | done | rfl | go_num, by rw [HSS.out]; exact HG2⟩
      case measure => simp [intOf]; omega
    · obtain rfl : k = N := by omega
      have hlt' : ¬ (k : Int) < (k : Int) := by omega
      clear hlt hk
      go_wp2_with (fail)
      go_ret
      exact ⟨_, rfl, HG.out⟩
end Go.Proofs.Ythohfepolidgkaa.ne

/- The law on so many brackets, or signs, one behind the other. -/
import Derived.Test.YthohfepolidgkaaNestWorks
import Derived.Test.YthohfepolidgkaaWordRef
namespace Go.Proofs.Ythohfepolidgkaa.ne
open Go.RowKit mem
open vt (own_form wpList_append_mine)

/-- the tokens: n times a mark, and a name behind -/
def lev (n : Nat) (a : Int) (m : List UInt8) : List Tk := List.replicate n ⟨4, a, 0, m⟩
def levs (n : Nat) (a : Int) (m : List UInt8) : List Tk := lev n a m ++ [⟨1, a, 0, [40]⟩]
def five5 : List (List UInt8) := [[40], [91], [123], [45], [33]]
theorem lev_st (n : Nat) (a : Int) (m : List UInt8) (b : List Tk) (mk : Nat) (hm : markN ⟨4, a, 0, m⟩ = mk) : ∀ k, k ≤ n → stN (lev n a m ++ b) k = (if mk = 1 then k else 0, if mk = 3 then k else 0)
  | 0, _ => by rw [st_zero]; simp
  | k + 1, h => by
    have hlt : k < (lev n a m ++ b).length := by rw [List.length_append]; unfold lev; simp; omega
    have hg : (lev n a m ++ b)[k] = ⟨4, a, 0, m⟩ := by
      rw [List.getElem_append_left (by unfold lev; simp; omega)]
      unfold lev
      rw [List.getElem_replicate]
    rw [st_succ _ k hlt, lev_st n a m b mk hm k (by omega), hg]
    unfold stepN
    rw [hm]
    by_cases h1 : mk = 1
    · subst h1; simp
    · by_cases h3 : mk = 3
      · subst h3; simp
      · simp [h1, h3]
theorem levs_check (n : Nat) (a : Int) (m : List UInt8) (hm : m ∈ five5) : checkN (levs n a m) = if 60 < n then (a, 4) else (0, 0) := by
  have hmk : markN ⟨4, a, 0, m⟩ = 1 ∨ markN ⟨4, a, 0, m⟩ = 3 := by
    simp only [five5, List.mem_cons, List.mem_nil_iff, or_false] at hm
    rcases hm with rfl | rfl | rfl | rfl | rfl <;> simp [markN]
  obtain ⟨mk, hmk2⟩ : ∃ mk, mk = markN ⟨4, a, 0, m⟩ := ⟨_, rfl⟩
  rw [← hmk2] at hmk
  have hst := lev_st n a m [⟨1, a, 0, [40]⟩] mk hmk2.symm
  have hlen : (levs n a m).length = n + 1 := by unfold levs lev; simp
  have hlast : stN (levs n a m) (n + 1) = (if mk = 1 then n else 0, 0) := by
    have hg : (levs n a m)[n]'(by omega) = ⟨1, a, 0, [40]⟩ := by
      unfold levs
      rw [List.getElem_append_right (by unfold lev; simp)]
      unfold lev
      simp
    rw [st_succ _ n (by omega), hg]
    show stepN (stN (lev n a m ++ [⟨1, a, 0, [40]⟩]) n) _ = _
    rw [hst n (Nat.le_refl _)]
    unfold stepN
    simp [markN]
  by_cases h : 60 < n
  · rw [if_pos h]
    have hf : fineN (levs n a m) 60 := fun i hi => by
      show (stN (lev n a m ++ [⟨1, a, 0, [40]⟩]) (i + 1)).1 ≤ 60 ∧ (stN (lev n a m ++ [⟨1, a, 0, [40]⟩]) (i + 1)).2 ≤ 60
      rw [hst (i + 1) (by omega)]
      constructor <;> (dsimp only; split <;> omega)
    have hd : 60 < (stN (levs n a m) (60 + 1)).1 ∨ 60 < (stN (levs n a m) (60 + 1)).2 := by
      show 60 < (stN (lev n a m ++ [⟨1, a, 0, [40]⟩]) (60 + 1)).1 ∨ 60 < (stN (lev n a m ++ [⟨1, a, 0, [40]⟩]) (60 + 1)).2
      rw [hst (60 + 1) (by omega)]
      rcases hmk with rfl | rfl
      · left; simp
      · right; simp
    rw [check_deep (by omega) hf hd]
    have hg : (levs n a m)[60]'(by omega) = ⟨4, a, 0, m⟩ := by
      unfold levs
      rw [List.getElem_append_left (by unfold lev; simp; omega)]
      unfold lev
      rw [List.getElem_replicate]
    rw [hg]
  · rw [if_neg h]
    apply check_fine
    rw [hlen]
    intro i hi
    by_cases hin : i = n
    · subst hin
      rw [hlast]
      constructor
      · dsimp only; split <;> omega
      · exact Nat.zero_le _
    · show (stN (lev n a m ++ [⟨1, a, 0, [40]⟩]) (i + 1)).1 ≤ 60 ∧ (stN (lev n a m ++ [⟨1, a, 0, [40]⟩]) (i + 1)).2 ≤ 60
      rw [hst (i + 1) (by omega)]
      constructor <;> (dsimp only; split <;> omega)
theorem lev_succ (n : Nat) (a : Int) (m : List UInt8) : lev (n + 1) a m = lev n a m ++ [⟨4, a, 0, m⟩] := by unfold lev; rw [List.replicate_succ']
theorem infoTk : (Try.prog.info? 35).map (fun i => (i.zero, i.size, i.bytes)) = some (some (.agg #[.int .i64 0, .int .i64 0, .int .i64 0, .string ⟨#[]⟩]), 4, 40) := by kernel_rfl
theorem tkV_one (t : Tk) : ∀ u ∈ tkV t, u.oneCell' = true := by
  intro u hu; simp [tkV] at hu; rcases hu with rfl | rfl | rfl | rfl <;> rfl
/-- the append of one token, met in a walk -/
theorem wpList_tk {w wr : World} {ops : Array Oper} {rest : List Oper} {o : Oper} {a : Act} {Q : Exit → Act → World → Prop} (hgd : o.guard = none) (s x : Operand)
    (ho : o.op = .call { callee := .builtin .append, args := #[s, x], argTypes := #[22, 22] }) (B n : Nat) (acc : List Tk) (t : Tk) (v : Value) (H : Nat)
    (hs : a.eval s = v) (hx : a.eval x = .slice (some ⟨H, 0, none⟩) 1 1) (hg : Got B TkT 4 n (tksV acc) v w wr) (hl : n ≤ 1099511627776) (hB : B ≤ wr.heap.size) (hH : H = wr.heap.size)
    (h : ∀ v' w', Got B TkT 4 (n + 1) (tksV (acc ++ [t])) v' w w' → (wr.alloc (.cells (tkV t).toArray TkT)).grownBy w' v.ownBlock → wpList Try.prog ops Q rest (a.put o.dst v') w') :
    wpList Try.prog ops Q (o :: rest) a (wr.alloc (.cells (tkV t).toArray TkT)) := by
  obtain ⟨i0, hi, hz0, hz1, hz2⟩ := info_parts infoTk
  subst hH
  have hbx : Box (wr.alloc (.cells (tkV t).toArray TkT)) wr.heap.size TkT _ := Box.new _ _ _ _ rfl
  refine wpList_append_mine hgd s x 22 ho B TkT i0 (.agg #[.int .i64 0, .int .i64 0, .int .i64 0, .string ⟨#[]⟩]) 4 40 Try.underlying22 hi hz0 hz1 hz2 rfl (by decide) v n (tksV acc) hs (hg.1.alloc _) ⟨wr.heap.size, 0, none⟩ 1 1 (tkV t) hx rfl (fun j u hu => ?_) (tkV_one t) (by unfold maxLen; omega) (by omega) (by simp; omega) ?_
  · rw [vt.cells_add, Nat.zero_add, hbx.cell j]; simpa using hu
  intro v' w' h1 h2 h3
  refine h v' w' ?_ h2
  rw [tksV_append, tksV_one]
  exact hg.app hB h1 h2
def NlRel (N M : Nat) (a : Int) (m : List UInt8) (w w1 : World) (o i : Value) (wr : World) : Prop :=
  ∃ k : Nat, k ≤ N ∧ i = .int .i64 k ∧ Hid (Got w1.heap.size TkT 4 k (tksV (lev k a m)) o w1 wr)
set_option maxHeartbeats 4000000 in
theorem nlevels_law (n wh : Nat) (a : Int) (w : World) (hn : n < 256) (hwh : wh < 256) (ha : vt.I64 a) :
    Calls Try.prog 4 #[.int .u8 n, .int .u8 wh, .int .i64 a] w fun e w' => e = .returned (.bool true) ∧ Below w.heap.size w w' := by
  have HWK := Lib.hid (nworks_any w)
  go_enter Try.func4, Try.ntmps4
  go_wp2_with (fail)
  refine HWK.out.mono ?_
  rintro e w0 ⟨rfl, hb0⟩
  obtain ⟨w1, hw1⟩ : ∃ W, W = w0.alloc (.cells (wd.strV five5).toArray 9) := ⟨_, rfl⟩
  obtain ⟨K, hK⟩ : ∃ K, K = w0.heap.size := ⟨_, rfl⟩
  have hB1 : Below w.heap.size w w1 := by rw [hw1]; exact hb0.alloc hb0.size _
  have bx : Box w1 K 9 (wd.strV five5).toArray := by rw [hw1]; exact Box.new _ _ _ _ hK
  obtain ⟨j, hj⟩ : ∃ j, j = wh % 5 := ⟨_, rfl⟩
  have hj5 : j < five5.length := by show j < 5; omega
  have hcell : w1.cell? ⟨K, j, none⟩ = some (.string ⟨five5[j].toArray⟩) := by rw [bx.cell j]; simpa using wd.strV_at five5 j hj5
  have HCH := Lib.hid (levs_check n a five5[j] (List.getElem_mem hj5))
  obtain ⟨m, hm⟩ : ∃ m, m = five5[j] := ⟨_, rfl⟩
  rw [← hm] at hcell HCH
  have htm : (wh : Int).tmod 5 = (j : Int) := by rw [hj]; exact_mod_cast (Int.ofNat_tmod wh 5).symm
  have HB1 := Lib.hid hB1
  have HW1 := Lib.hid hw1
  have HKK := Lib.hid hK
  have hKlt : K < w1.heap.size := bx.lt
  have HG0 : Hid (Got w1.heap.size TkT 4 0 (tksV (lev 0 a m)) (.slice none 0 0) w1 w1) := Lib.hid (Got.nil_ _ _ _ _)
  clear hb0 hw1 hK hB1 bx hj hm HWK
  go_wp2_with (first | (change Code.wp _ _ _ _ (w0.alloc (.cells (wd.strV five5).toArray 9)); rw [← HW1.out, ← HKK.out]))
  go_loopw [8, 9] (fun o i wr => NlRel n 0 a m w w1 o i wr) (fun _ i _ => n - (intOf i).toNat)
  case atStart => unfold NlRel; exact ⟨0, Nat.zero_le _, rfl, HG0⟩
  case round =>
    unfold NlRel at hrel
    clear HG0
    obtain ⟨k, hk, rfl, HG⟩ := hrel
    obtain ⟨A2, c2, rfl⟩ := own_form HG.out.1
    have hBr : w1.heap.size ≤ wr.heap.size := HG.out.2.size
    by_cases hlt : k < n
    · have hlt' : (k : Int) < (n : Int) := by omega
      have hc : wr.cell? ⟨K, j, none⟩ = some (.string ⟨m.toArray⟩) := (HG.out.2.cell (p := ⟨K, j, none⟩) hKlt).trans hcell
      have hj5' : (j : Int) < 5 := by have : j < 5 := hj5; omega
      have hj0 : (0 : Int) ≤ (j : Int) := by omega
      have HL := Lib.hid (lev_succ k a m)
      clear hcell
      go_wp2_with (at_builtin; refine wpList_tk rfl (.tmp 21) (.tmp 30) rfl w1.heap.size k (lev k a m) ⟨4, a, 0, m⟩ (.slice A2 k c2) wr.heap.size rfl rfl HG.out (by omega) hBr rfl ?_; intro v' w' hq _; have HQ := Lib.hid hq; clear hq)
      go_roundw
      case rel => unfold NlRel; exact ⟨k + 1, by omega, by go_num, by rw [HL.out]; exact HQ⟩
      case measure => simp [intOf]; omega
    · obtain rfl : k = n := by omega
      have hlt' : ¬ (k : Int) < (k : Int) := by omega
      unfold vt.I64 at ha
      clear hcell hlt hk
      go_wp2_with (at_builtin; refine wpList_tk rfl (.tmp 32) (.tmp 35) rfl w1.heap.size k (lev k a m) ⟨1, a, 0, [40]⟩ (.slice A2 k c2) wr.heap.size rfl rfl HG.out (by omega) hBr rfl ?_; intro v' w' hq _; have HQ := Lib.hid hq; (obtain ⟨A3, c3, hv3⟩ := own_form hq.1); subst hv3; clear hq)
      have hs : TksS w'.heap.size w' (levs k a m) (.slice A3 (k + 1) c3) := by
        have h := HQ.out.sees
        have hl : (levs k a m).length = k + 1 := by unfold levs lev; simp
        unfold TksS
        rw [hl]
        exact h
      have HC := Lib.hid (ncheck_any (levs k a m) _ w' w'.heap.size hs (Nat.le_refl _) (by unfold levs lev; simp; omega))
      unfold CheckPost at HC
      have HBE := Lib.hid (HB1.out.trans (HQ.out.2.mono HB1.out.size))
      rw [HCH.out] at HC
      clear hs HG
      refine HC.out.mono ?_
      rintro e w3 ⟨rfl, hb3⟩
      have HE := Lib.hid (HBE.out.trans (hb3.mono HBE.out.size))
      clear hb3
      by_cases h60 : 60 < k
      · have h60' : (60 : Int) < (k : Int) := by omega
        rw [if_pos h60]
        go_wp2_with (fail)
        go_ret
        exact ⟨rfl, HE.out⟩
      · have h60' : decide ((60 : Int) < (k : Int)) = false := by rw [decide_eq_false_iff_not]; omega
        rw [if_neg h60]
        go_wp2_with (fail)
        go_ret
        exact ⟨rfl, HE.out⟩
end Go.Proofs.Ythohfepolidgkaa.ne

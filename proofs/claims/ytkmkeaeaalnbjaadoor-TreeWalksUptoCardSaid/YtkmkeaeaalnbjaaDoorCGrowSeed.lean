/- Seeds, of which the document's own trees grow: the next number, the next name. -/
import Derived.Test.YtkmkeaeaalnbjaaDoorCGNode
import Derived.Test.YtkmkeaeaalnbjaaDoorCGVal
import Derived.BigQuiet
import Derived.Test.YtkmkeaeaalnbjaaDoorCGLex
import Derived.Test.YtkmkeaeaalnbjaaDoorCGWord
namespace Go.Proofs.YtkmkeaeaalnbjaaDoor.nt
open Go.RowKit mem wd lx
open vt (I64 own_base own_form own_below)

abbrev SeedsT : TypeId := 47
/-- a list of numbers that is read alone, apart from block p -/
def IntsAt (w : World) (sl : Value) (p : Nat) : Prop :=
  ∃ A n cap, sl = .slice A n cap ∧ n ≤ 4611686018427387904 ∧ ∀ i, i < n → ∃ b off x, A = some ⟨b, off, none⟩ ∧ b ≠ p ∧ w.cell? ⟨b, off + i, none⟩ = some (.int .i64 x) ∧ I64 x
/-- seeds in block p, of which u were used -/
def Sd (w : World) (p : Nat) (sl : Value) (u : Nat) : Prop := Box w p SeedsT #[sl, .int .i64 u] ∧ IntsAt w sl p
theorem grow_trans {w w1 w2 : World} {p : Nat} (h : w.grownBy w1 (some p)) (h1 : w1.grownBy w2 (some p)) : w.grownBy w2 (some p) :=
  ⟨h1.os.trans h.os, h1.tape.trans h.tape, h1.output.trans h.output, Nat.le_trans h.size h1.size, fun k hk hn => (h1.block k (Nat.lt_of_lt_of_le hk h.size) hn).trans (h.block k hk hn)⟩
theorem grow_refl (w : World) (p : Nat) : w.grownBy w (some p) := ⟨rfl, rfl, rfl, Nat.le_refl _, fun _ _ _ => rfl⟩
theorem grow_below {w w1 w2 : World} {p : Nat} (h : w.grownBy w1 (some p)) (hb : Below w1.heap.size w1 w2) : w.grownBy w2 (some p) :=
  grow_trans h ⟨hb.os, hb.tape, hb.output, hb.size, fun k hk _ => hb.block k hk⟩
theorem grow_alloc (w : World) (p : Nat) (o : Obj) : w.grownBy (w.alloc o) (some p) := grow_below (grow_refl w p) ((Below.refl _ _).alloc (Nat.le_refl _) _)
theorem grow_drewN {w w1 : World} {p : Nat} (h : w.grownBy w1 (some p)) (q : Nat) : w.grownBy (w1.drewN q) (some p) := grow_below h (below_drewN (Below.refl _ _) q)
/-- a store to the seeds' own cell, or to a block that is new -/
theorem grow_set {w w1 : World} {p b i : Nat} (h : w.grownBy w1 (some p)) (hb : b = p ∨ w.heap.size ≤ b) (v : Value) : w.grownBy (w1.setCell ⟨b, i, none⟩ v) (some p) := by
  refine ⟨h.os, h.tape, h.output, by rw [World.size_setCell]; exact h.size, fun k hk hn => ?_⟩
  rw [Below.heap_setCell w1 ⟨b, i, none⟩ v k (by
    show k ≠ b
    rcases hb with rfl | hb
    · exact fun e => hn (by rw [e])
    · omega)]
  exact h.block k hk hn
theorem ints_keep {w w' : World} {sl : Value} {p : Nat} (h : IntsAt w sl p) (hg : w.grownBy w' (some p)) : IntsAt w' sl p := by
  obtain ⟨A, n, cap, hs, hn, hc⟩ := h
  refine ⟨A, n, cap, hs, hn, fun i hi => ?_⟩
  obtain ⟨b, off, x, hA, hb, hcell, hx⟩ := hc i hi
  refine ⟨b, off, x, hA, hb, ?_, hx⟩
  exact hg.cell (a := ⟨b, off + i, none⟩) hcell (by simpa using hb)
theorem Sd.keep {w w' : World} {p u u' : Nat} {sl : Value} (h : Sd w p sl u) (hg : w.grownBy w' (some p)) (hb : Box w' p SeedsT #[sl, .int .i64 u']) : Sd w' p sl u' := ⟨hb, ints_keep h.2 hg⟩
theorem Sd.below {w w' : World} {p u : Nat} {sl : Value} (h : Sd w p sl u) (hb : Below w.heap.size w w') : Sd w' p sl u :=
  ⟨h.1.on hb, ints_keep h.2 (grow_below (grow_refl w p) hb)⟩
def NextPost (n : Int) (p u : Nat) (sl : Value) (w : World) (e : Ending) (w' : World) : Prop :=
  ∃ x : Int, e = .returned (.int .i64 x) ∧ (0 ≤ x ∧ x < n) ∧ Sd w' p sl (u + 1) ∧ w.grownBy w' (some p)
theorem rem_in (x n : Int) (hn : 1 ≤ n ∧ n ≤ 1000) : 0 ≤ wrap64 ((IntKind.u64.wrap x).tmod n) ∧ wrap64 ((IntKind.u64.wrap x).tmod n) < n := by
  have h0 : 0 ≤ IntKind.u64.wrap x := by show 0 ≤ x % 18446744073709551616; omega
  rw [Int.tmod_eq_emod_of_nonneg h0]
  have h1 := Int.emod_nonneg (IntKind.u64.wrap x) (show n ≠ 0 by omega)
  have h2 := Int.emod_lt_of_pos (IntKind.u64.wrap x) (show 0 < n by omega)
  unfold wrap64
  omega
theorem next_end {w : World} {p u q : Nat} {sl : Value} (h : Sd w p sl u) : Sd ((w.drewN q).setCell ⟨p, 1, none⟩ (.int .i64 ((u : Int) + 1))) p sl (u + 1) ∧ w.grownBy ((w.drewN q).setCell ⟨p, 1, none⟩ (.int .i64 ((u : Int) + 1))) (some p) := by
  have hg : w.grownBy ((w.drewN q).setCell ⟨p, 1, none⟩ (.int .i64 ((u : Int) + 1))) (some p) := grow_set (grow_drewN (grow_refl w p) q) (Or.inl rfl) _
  refine ⟨h.keep hg ?_, hg⟩
  have hb : Box (w.drewN q) p SeedsT #[sl, .int .i64 u] := h.1
  exact hb.set 1 _
set_option maxHeartbeats 400000 in
theorem next_any (n : Int) (p u : Nat) (sl : Value) (w : World) (hn : 1 ≤ n ∧ n ≤ 1000) (h : Sd w p sl u) (hu : u ≤ 1099511627776) : Calls Tryd.prog 37 #[.pointer (some ⟨p, 0, none⟩), .int .i64 n] w (NextPost n p u sl w) := by
  have HS := Lib.hid h
  obtain ⟨hbx, A, N, cap, rfl, hN, hc⟩ := h
  have x0 := hbx.cell 0
  have x1 := hbx.cell 1
  have f1 := hbx.frozen 1
  simp only [List.getElem?_toArray, List.getElem?_cons_zero, List.getElem?_cons_succ] at x0 x1
  have HBX := Lib.hid hbx
  have hw1 := IntWalk.i64_in ((u : Int) + 1) (by omega)
  clear hbx
  by_cases hlt : u < N
  · have hlt' : (u : Int) < (N : Int) := by omega
    have hltn : decide (u < N) = true := decide_eq_true hlt
    have hu0 : (0 : Int) ≤ (u : Int) := by omega
    obtain ⟨b, off, x, rfl, hb, c0, hx⟩ := hc u hlt
    clear hc
    unfold I64 at hx
    go_enter Tryd.func37, Tryd.ntmps37
    go_wp2_with (fail)
    go_quiet (fail)
    go_wp2_with (fail)
    go_quiet (fail)
    go_wp2_with (fail)
    go_ret
    unfold NextPost
    exact ⟨_, rfl, rem_in x n hn, next_end HS.out⟩
  · have hlt' : ¬ (u : Int) < (N : Int) := by omega
    have hltn : decide (u < N) = false := decide_eq_false hlt
    clear hc
    go_enter Tryd.func37, Tryd.ntmps37
    go_wp2_with (fail)
    go_quiet (fail)
    go_wp2_with (fail)
    go_ret
    unfold NextPost
    exact ⟨_, rfl, by omega, next_end HS.out⟩
/-! ### names -/
def tenW : List (List UInt8) := [[97], [98], [99, 49], [95, 120], [108, 101, 110], [102], [103], [80], [109], [81]]
theorem ten_named : ∀ s ∈ tenW, named s = true := by
  intro s hs
  have key : ∀ s ∈ tenW, (lexN 4 s 0) = (0, 0, [⟨1, 0, 0, s⟩, ⟨0, s.length, 0, []⟩]) := by
    intro s hs
    simp only [tenW, List.mem_cons, List.mem_nil_iff, or_false] at hs
    rcases hs with rfl | rfl | rfl | rfl | rfl | rfl | rfl | rfl | rfl | rfl <;> kernel_rfl
  have hl : s.length ≤ 4 := (by decide : ∀ s ∈ tenW, s.length ≤ 4) s hs
  have e : lexA s = (0, 0, [⟨1, 0, 0, s⟩, ⟨0, s.length, 0, []⟩]) := by
    rw [lexA_in (by omega), ← lexN_eq 4 s 0 hl]; exact key s hs
  unfold named
  rw [e]; simp
theorem ten_len : ∀ s ∈ tenW, s.length ≤ 3 := by decide
def WordPost (p u : Nat) (sl : Value) (w : World) (e : Ending) (w' : World) : Prop :=
  ∃ s : List UInt8, e = .returned (.string ⟨s.toArray⟩) ∧ (named s = true ∧ s.length ≤ 3) ∧ Sd w' p sl (u + 1) ∧ w.grownBy w' (some p)
theorem word_any (p u : Nat) (sl : Value) (w : World) (h : Sd w p sl u) (hu : u ≤ 1099511627776) : Calls Tryd.prog 58 #[.pointer (some ⟨p, 0, none⟩)] w (WordPost p u sl w) := by
  have hp := h.1.lt
  obtain ⟨W, hW⟩ : ∃ W, W = w.alloc (.cells (strV tenW).toArray 9) := ⟨_, rfl⟩
  obtain ⟨H, hH⟩ : ∃ H, H = w.heap.size := ⟨_, rfl⟩
  have hbW : Below w.heap.size w W := by rw [hW]; exact (Below.refl _ _).alloc (Nat.le_refl _) _
  have hS : Sd W p sl u := h.below hbW
  have HT : Hid (W.heap[H]? = some (.cells (strV tenW).toArray 9 (0, 0))) := Lib.hid (by rw [hW, hH]; exact heap_alloc_new _ _)
  have HN := Lib.hid (next_any 10 p u sl W (by decide) hS hu)
  have HGW : Hid (w.grownBy W (some p)) := Lib.hid (by rw [hW]; exact grow_alloc w p _)
  have HHp : Hid (H ≠ p ∧ H < W.heap.size) := Lib.hid ⟨by omega, (Array.getElem?_eq_some_iff.1 HT.out).1⟩
  have HW := Lib.hid hW
  have HHH := Lib.hid hH
  clear hW hH hbW hS h hp
  go_enter Tryd.func58, Tryd.ntmps58
  go_wp2_with (first | (change wpList _ _ _ _ _ (w.alloc (.cells (strV tenW).toArray 9)); rw [← HW.out, ← HHH.out]))
  refine HN.out.mono ?_
  intro e w1 hp1
  unfold NextPost at hp1
  obtain ⟨x, rfl, hx, hs1, hg1⟩ := hp1
  obtain ⟨j, rfl⟩ : ∃ j : Nat, x = (j : Int) := ⟨x.toNat, by omega⟩
  have hj : j < tenW.length := by show j < 10; omega
  have c0 : w1.cell? ⟨H, j, none⟩ = some (.string ⟨tenW[j].toArray⟩) := by
    have hh : w1.heap[H]? = some (.cells (strV tenW).toArray 9 (0, 0)) := (hg1.block H HHp.out.2 (by simpa using HHp.out.1)).trans HT.out
    have : (⟨w1, rfl⟩ : {v : World // v = w1}).1.cell? ⟨H, j, none⟩ = some (.string ⟨tenW[j].toArray⟩) := Texts.cell (w := w1) (b := H) (l := tenW) hh j hj
    exact this
  have HMM := Lib.hid (And.intro (ten_named _ (List.getElem_mem hj)) (ten_len _ (List.getElem_mem hj)))
  obtain ⟨t, ht⟩ : ∃ t, t = tenW[j] := ⟨_, rfl⟩
  rw [← ht] at c0 HMM
  have HE : Hid (Sd w1 p sl (u + 1) ∧ w.grownBy w1 (some p)) := Lib.hid ⟨hs1, grow_trans HGW.out hg1⟩
  have hj2 : (j : Int) < 10 := by omega
  have hj0 : (0 : Int) ≤ j := by omega
  clear ht hs1 hg1 hx hj
  go_wp2_with (fail)
  go_ret
  unfold WordPost
  exact ⟨t, rfl, HMM.out, HE.out⟩
end Go.Proofs.YtkmkeaeaalnbjaaDoor.nt

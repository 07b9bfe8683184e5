import Derived.Test.YtgohkmdepjmpaaaDoorCNestMath
import Derived.Test.YtgohkmdepjmpaaaDoorCGVal
import Derived.BigQuiet
import Derived.Test.YtgohkmdepjmpaaaDoorCGWord
/- The document's own answers on how deep tokens are nested. -/
namespace Go.Proofs.YtgohkmdepjmpaaaDoor.ne
open Go.RowKit mem
open vt (wpList_append_mine own_form)

abbrev TkT : TypeId := 44
def tkA (t : Tk) : Value := .agg #[.int .i64 t.kind, .int .i64 t.at_, .int .i64 t.n, .string ⟨t.text.toArray⟩]
theorem mark_other {t : Tk} (hk : t.kind = 4) (h1 : t.text ≠ [40]) (h2 : t.text ≠ [91]) (h3 : t.text ≠ [123]) (h4 : t.text ≠ [41]) (h5 : t.text ≠ [93]) (h6 : t.text ≠ [125]) (h7 : t.text ≠ [45]) (h8 : t.text ≠ [33]) : markN t = 0 := by
  unfold markN
  rw [if_neg (by simp [hk]), if_neg (by simp [h1, h2, h3]), if_neg (by simp [h4, h5, h6]), if_neg (by simp [h7, h8])]
/-! ### the row of pairs -/
def prV (l : List (Nat × Nat)) : List Value := l.flatMap fun p => [.int .i64 p.1, .int .i64 p.2]
theorem prV_append (a b : List (Nat × Nat)) : prV (a ++ b) = prV a ++ prV b := by unfold prV; rw [List.flatMap_append]
theorem prV_len (l : List (Nat × Nat)) : (prV l).length = l.length * 2 := by
  induction l with
  | nil => rfl
  | cons p l ih => rw [show prV (p :: l) = [.int .i64 p.1, .int .i64 p.2] ++ prV l from rfl, List.length_append, ih]; simp only [List.length_cons, List.length_nil]; omega
theorem prV_at : ∀ (l : List (Nat × Nat)) (k : Nat) (h : k < l.length), (prV l)[k * 2]? = some (.int .i64 l[k].1) ∧ (prV l)[k * 2 + 1]? = some (.int .i64 l[k].2)
  | p :: l, 0, _ => ⟨rfl, rfl⟩
  | p :: l, k + 1, h => by
    have ih := prV_at l k (by simpa using h)
    rw [show prV (p :: l) = .int .i64 p.1 :: .int .i64 p.2 :: prV l from rfl, show (k + 1) * 2 = k * 2 + 1 + 1 by omega, show k * 2 + 1 + 1 + 1 = (k * 2 + 1) + 1 + 1 by omega]
    simp only [List.getElem?_cons_succ, List.getElem_cons_succ]
    exact ih
/-- all states behind the first k tokens -/
def sts (l : List Tk) (k : Nat) : List (Nat × Nat) := (List.range k).map fun j => stN l (j + 1)
theorem sts_len (l : List Tk) (k : Nat) : (sts l k).length = k := by unfold sts; simp
theorem sts_succ (l : List Tk) (k : Nat) : sts l (k + 1) = sts l k ++ [stN l (k + 1)] := by unfold sts; rw [List.range_succ, List.map_append]; rfl
theorem sts_at (l : List Tk) (k j : Nat) (h : j < (sts l k).length) : (sts l k)[j] = stN l (j + 1) := by
  have h2 : j < k := by rw [sts_len] at h; exact h
  have e : (sts l k)[j]? = some (stN l (j + 1)) := by unfold sts; rw [List.getElem?_map, List.getElem?_range h2]; rfl
  rw [List.getElem?_eq_getElem h] at e
  exact Option.some.inj e
end Go.Proofs.YtgohkmdepjmpaaaDoor.ne

/- The document's own Check; what the package's functions tell; the layer's works() answers true. -/
namespace Go.Proofs.YtgohkmdepjmpaaaDoor.ne
open Go.RowKit mem
open vt (wpList_append_mine own_form)

def CkRel (l : List Tk) (W : World) (i : Value) (wr : World) : Prop := ∃ k : Nat, k ≤ l.length ∧ i = .int .i64 k ∧ Hid (fineN l k) ∧ wr = W
def CheckPost (l : List Tk) (w : World) (e : Ending) (w' : World) : Prop := e = .returned (.tuple #[.int .i64 (checkN l).1, .int .i64 (checkN l).2]) ∧ Below w.heap.size w w'
end Go.Proofs.YtgohkmdepjmpaaaDoor.ne

/- The package's step: how deep a token is, told of the depth at the one ahead of it. -/
namespace Go.Proofs.YtgohkmdepjmpaaaDoor.ne
open Go.RowKit mem

theorem below_three (w : World) (a b c : Obj) : Below w.heap.size w (((w.alloc a).alloc b).alloc c) := by
  have h1 := (Below.refl w.heap.size w).alloc (Nat.le_refl _) a
  have h2 := h1.alloc h1.size b
  exact h2.alloc h2.size c
end Go.Proofs.YtgohkmdepjmpaaaDoor.ne

/- The package's functions. -/
namespace Go.Proofs.YtgohkmdepjmpaaaDoor.ne
open Go.RowKit mem

/-- the world behind a token's own block, filled -/
def fill4 (w : World) (P : Nat) (t : Tk) : World := (((w.setCell ⟨P, 0, none⟩ (.int .i64 t.kind)).setCell ⟨P, 1, none⟩ (.int .i64 t.at_)).setCell ⟨P, 2, none⟩ (.int .i64 t.n)).setCell ⟨P, 3, none⟩ (.string ⟨t.text.toArray⟩)
end Go.Proofs.YtgohkmdepjmpaaaDoor.ne

/- The layer's works() answers true. -/
namespace Go.Proofs.YtgohkmdepjmpaaaDoor.ne
open Go.RowKit mem

def ex4 : List Tk := [⟨4, 0, 0, [40]⟩, ⟨4, 0, 0, [40]⟩, ⟨4, 0, 0, [41]⟩, ⟨4, 0, 0, [45]⟩]
theorem ex4_most : mostN ex4 ex4.length = (2, 1) := by decide +kernel
theorem nil_check : checkN [] = (0, 0) := by decide +kernel
end Go.Proofs.YtgohkmdepjmpaaaDoor.ne

/- The law on so many brackets, or signs, one behind the other. -/
namespace Go.Proofs.YtgohkmdepjmpaaaDoor.ne
open Go.RowKit mem
open vt (own_form wpList_append_mine)

/-- the tokens: n times a mark, and a name behind -/
def lev (n : Nat) (a : Int) (m : List UInt8) : List Tk := List.replicate n ⟨4, a, 0, m⟩
def levs (n : Nat) (a : Int) (m : List UInt8) : List Tk := lev n a m ++ [⟨1, a, 0, [40]⟩]
def five5 : List (List UInt8) := [[40], [91], [123], [45], [33]]
theorem lev_st (n : Nat) (a : Int) (m : List UInt8) (b : List Tk) (mk : Nat) (hm : markN ⟨4, a, 0, m⟩ = mk) : ∀ k, k ≤ n → stN (lev n a m ++ b) k = (if mk = 1 then k else 0, if mk = 3 then k else 0)
  | 0, _ => by rw [st_zero]; simp
  | k + 1, h => by
    have hlt : k < (lev n a m ++ b).length := by rw [List.length_append]; unfold lev; simp; omega
    have hg : (lev n a m ++ b)[k] = ⟨4, a, 0, m⟩ := by
      rw [List.getElem_append_left (by unfold lev; simp; omega)]
      unfold lev
      rw [List.getElem_replicate]
    rw [st_succ _ k hlt, lev_st n a m b mk hm k (by omega), hg]
    unfold stepN
    rw [hm]
    by_cases h1 : mk = 1
    · subst h1; simp
    · by_cases h3 : mk = 3
      · subst h3; simp
      · simp [h1, h3]
theorem levs_check (n : Nat) (a : Int) (m : List UInt8) (hm : m ∈ five5) : checkN (levs n a m) = if 60 < n then (a, 4) else (0, 0) := by
  have hmk : markN ⟨4, a, 0, m⟩ = 1 ∨ markN ⟨4, a, 0, m⟩ = 3 := by
    simp only [five5, List.mem_cons, List.mem_nil_iff, or_false] at hm
    rcases hm with rfl | rfl | rfl | rfl | rfl <;> simp [markN]
  obtain ⟨mk, hmk2⟩ : ∃ mk, mk = markN ⟨4, a, 0, m⟩ := ⟨_, rfl⟩
  rw [← hmk2] at hmk
  have hst := lev_st n a m [⟨1, a, 0, [40]⟩] mk hmk2.symm
  have hlen : (levs n a m).length = n + 1 := by unfold levs lev; simp
  have hlast : stN (levs n a m) (n + 1) = (if mk = 1 then n else 0, 0) := by
    have hg : (levs n a m)[n]'(by omega) = ⟨1, a, 0, [40]⟩ := by
      unfold levs
      rw [List.getElem_append_right (by unfold lev; simp)]
      unfold lev
      simp
    rw [st_succ _ n (by omega), hg]
    show stepN (stN (lev n a m ++ [⟨1, a, 0, [40]⟩]) n) _ = _
    rw [hst n (Nat.le_refl _)]
    unfold stepN
    simp [markN]
  by_cases h : 60 < n
  · rw [if_pos h]
    have hf : fineN (levs n a m) 60 := fun i hi => by
      show (stN (lev n a m ++ [⟨1, a, 0, [40]⟩]) (i + 1)).1 ≤ 60 ∧ (stN (lev n a m ++ [⟨1, a, 0, [40]⟩]) (i + 1)).2 ≤ 60
      rw [hst (i + 1) (by omega)]
      constructor <;> (dsimp only; split <;> omega)
    have hd : 60 < (stN (levs n a m) (60 + 1)).1 ∨ 60 < (stN (levs n a m) (60 + 1)).2 := by
      show 60 < (stN (lev n a m ++ [⟨1, a, 0, [40]⟩]) (60 + 1)).1 ∨ 60 < (stN (lev n a m ++ [⟨1, a, 0, [40]⟩]) (60 + 1)).2
      rw [hst (60 + 1) (by omega)]
      rcases hmk with rfl | rfl
      · left; simp
      · right; simp
    rw [check_deep (by omega) hf hd]
    have hg : (levs n a m)[60]'(by omega) = ⟨4, a, 0, m⟩ := by
      unfold levs
      rw [List.getElem_append_left (by unfold lev; simp; omega)]
      unfold lev
      rw [List.getElem_replicate]
    rw [hg]
  · rw [if_neg h]
    apply check_fine
    rw [hlen]
    intro i hi
    by_cases hin : i = n
    · subst hin
      rw [hlast]
      constructor
      · dsimp only; split <;> omega
      · exact Nat.zero_le _
    · show (stN (lev n a m ++ [⟨1, a, 0, [40]⟩]) (i + 1)).1 ≤ 60 ∧ (stN (lev n a m ++ [⟨1, a, 0, [40]⟩]) (i + 1)).2 ≤ 60
      rw [hst (i + 1) (by omega)]
      constructor <;> (dsimp only; split <;> omega)
theorem lev_succ (n : Nat) (a : Int) (m : List UInt8) : lev (n + 1) a m = lev n a m ++ [⟨4, a, 0, m⟩] := by unfold lev; rw [List.replicate_succ']
theorem infoTk : (Tryd.prog.info? 44).map (fun i => (i.zero, i.size, i.bytes)) = some (some (.agg #[.int .i64 0, .int .i64 0, .int .i64 0, .string ⟨#[]⟩]), 4, 40) := by kernel_rfl
theorem tkV_one (t : Tk) : ∀ u ∈ tkV t, u.oneCell' = true := by
  intro u hu; simp [tkV] at hu; rcases hu with rfl | rfl | rfl | rfl <;> rfl
/-- the append of one token, met in a walk -/
theorem wpList_tk {w wr : World} {ops : Array Oper} {rest : List Oper} {o : Oper} {a : Act} {Q : Exit → Act → World → Prop} (hgd : o.guard = none) (s x : Operand)
    (ho : o.op = .call { callee := .builtin .append, args := #[s, x], argTypes := #[23, 23] }) (B n : Nat) (acc : List Tk) (t : Tk) (v : Value) (H : Nat)
    (hs : a.eval s = v) (hx : a.eval x = .slice (some ⟨H, 0, none⟩) 1 1) (hg : Got B TkT 4 n (tksV acc) v w wr) (hl : n ≤ 1099511627776) (hB : B ≤ wr.heap.size) (hH : H = wr.heap.size)
    (h : ∀ v' w', Got B TkT 4 (n + 1) (tksV (acc ++ [t])) v' w w' → (wr.alloc (.cells (tkV t).toArray TkT)).grownBy w' v.ownBlock → wpList Tryd.prog ops Q rest (a.put o.dst v') w') :
    wpList Tryd.prog ops Q (o :: rest) a (wr.alloc (.cells (tkV t).toArray TkT)) := by
  obtain ⟨i0, hi, hz0, hz1, hz2⟩ := info_parts infoTk
  subst hH
  have hbx : Box (wr.alloc (.cells (tkV t).toArray TkT)) wr.heap.size TkT _ := Box.new _ _ _ _ rfl
  refine wpList_append_mine hgd s x 23 ho B TkT i0 (.agg #[.int .i64 0, .int .i64 0, .int .i64 0, .string ⟨#[]⟩]) 4 40 Tryd.underlying23 hi hz0 hz1 hz2 rfl (by decide) v n (tksV acc) hs (hg.1.alloc _) ⟨wr.heap.size, 0, none⟩ 1 1 (tkV t) hx rfl (fun j u hu => ?_) (tkV_one t) (by unfold maxLen; omega) (by omega) (by simp; omega) ?_
  · rw [vt.cells_add, Nat.zero_add, hbx.cell j]; simpa using hu
  intro v' w' h1 h2 h3
  refine h v' w' ?_ h2
  rw [tksV_append, tksV_one]
  exact hg.app hB h1 h2
def NlRel (N M : Nat) (a : Int) (m : List UInt8) (w w1 : World) (o i : Value) (wr : World) : Prop :=
  ∃ k : Nat, k ≤ N ∧ i = .int .i64 k ∧ Hid (Got w1.heap.size TkT 4 k (tksV (lev k a m)) o w1 wr)
end Go.Proofs.YtgohkmdepjmpaaaDoor.ne

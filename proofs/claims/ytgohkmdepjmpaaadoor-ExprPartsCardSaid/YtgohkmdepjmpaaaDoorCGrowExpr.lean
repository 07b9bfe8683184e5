/- What grows of seeds: expressions. -/
import Derived.Test.YtgohkmdepjmpaaaDoorCGrowRow
import Derived.Test.YtgohkmdepjmpaaaDoorCNodeExpr
namespace Go.Proofs.YtgohkmdepjmpaaaDoor.nt
open Go.RowKit mem wd lx
open vt (I64 own_base own_form own_below wpList_append_mine)

theorem kids_grow {G : Nat → Prop} {w w' : World} {p : Nat} {l : List NT} {s : Value} (h : Kids G w l s) (hg : w.grownBy w' (some p)) (hp : ∀ b, G b → b ≠ p) : Kids G w' l s :=
  h.keep fun b o hG hlt => World.cell?_of_block (hg.block b hlt (by simpa using hp b hG))
theorem box_grow {w w' : World} {p R : Nat} {cs : Array Value} (h : Box w R NodeT cs) (hg : w.grownBy w' (some p)) (hp : p ≠ R) : Box w' R NodeT cs := (hg.block R h.lt (by simpa using hp.symm)).trans h
/-- two nodes in a row of two, which is new -/
theorem row_two {w : World} {G : Nat → Prop} {t u : NT} {s r : Value} {N : Nat} (hN : N = w.heap.size) (hd : Hd t) (hd2 : Hd u) (hk : Kids G w t.kids s) (hk2 : Kids G w u.kids r) (hG : G N) :
    Kids G (w.alloc (.cells #[.int .i64 t.kind, .int .i64 t.at_, .int .i64 t.num, .string ⟨t.name.toArray⟩, s, .int .i64 u.kind, .int .i64 u.at_, .int .i64 u.num, .string ⟨u.name.toArray⟩, r] NodeT)) [t, u] (.slice (some ⟨N, 0, none⟩) 2 2) := by
  have hbx : Box (w.alloc (.cells #[.int .i64 t.kind, .int .i64 t.at_, .int .i64 t.num, .string ⟨t.name.toArray⟩, s, .int .i64 u.kind, .int .i64 u.at_, .int .i64 u.num, .string ⟨u.name.toArray⟩, r] NodeT)) N NodeT _ := Box.new _ _ _ _ hN
  have hb : ∀ o, Below w.heap.size w (w.alloc o) := fun o => (Below.refl _ _).alloc (Nat.le_refl _) _
  refine ⟨_, _, rfl, ⟨by simp, (fun h => by cases h), by simp⟩, fun _ => ⟨N, 0, rfl, hG, row_of fun k hk3 => ?_⟩⟩
  match k, hk3 with
  | 0, _ => exact ⟨hd, hbx.cell 0, hbx.cell 1, hbx.cell 2, hbx.cell 3, s, hbx.cell 4, hk.below (hb _)⟩
  | 1, _ => exact ⟨hd2, hbx.cell 5, hbx.cell 6, hbx.cell 7, hbx.cell 8, r, hbx.cell 9, hk2.below (hb _)⟩
  | k + 2, h => simp at h; omega
/-- the append of a row of nodes to a new one, met in a walk -/
theorem wpList_more {p : Nat} {w0 wr : World} {ops : Array Oper} {rest : List Oper} {o : Oper} {a : Act} {Q : Exit → Act → World → Prop} (hgd : o.guard = none) (s x : Operand)
    (ho : o.op = .call { callee := .builtin .append, args := #[s, x], argTypes := #[27, 27] }) (B C n m : Nat) (l k : List NT) (v : Value) (Ak : Option Addr) (ck : Nat)
    (hs : a.eval s = v) (hx : a.eval x = .slice Ak m ck) (hl : Own2 B wr l v) (hk : Own2 C wr k (.slice Ak m ck)) (hC : ∀ b, v.ownBlock = some b → b < C) (hBC : B ≤ C) (hpos : 0 < k.length) (hm : m = k.length) (hg : w0.grownBy wr (some p)) (hB : w0.heap.size ≤ B) (hBr : B ≤ wr.heap.size) (hn : n = l.length) (hlen : n + m ≤ 1099511627776)
    (h : ∀ A' c' w', Own2 B w' (l ++ k) (.slice A' (n + m) c') → w0.grownBy w' (some p) → (∀ b, b < wr.heap.size → some b ≠ v.ownBlock → w'.heap[b]? = wr.heap[b]?) → wpList Tryd.prog ops Q rest (a.put o.dst (.slice A' (n + m) c')) w') :
    wpList Tryd.prog ops Q (o :: rest) a wr := by
  obtain ⟨i0, hi, hz0, hz1, hz2⟩ := info_parts infoN
  obtain ⟨vs, hv, hown⟩ := hl
  obtain ⟨ms, hms, hmo⟩ := hk
  subst hn
  obtain ⟨g, hgA⟩ : ∃ g, Ak = some ⟨g, 0, none⟩ := by
    rcases hmo.2 with ⟨_, h0⟩ | ⟨g, cap, cur, hs', _⟩
    · omega
    · injection hs' with h1 _ _; exact ⟨g, h1⟩
  subst hgA
  have hcell : ∀ j u, ms[j]? = some u → wr.cell? ⟨g, j, none⟩ = some u := by
    intro j u hu
    have hj : j < m * 5 := by
      have := (List.getElem?_eq_some_iff.1 hu).1
      rw [hms.len, ← hm] at this; exact this
    rw [← hm] at hmo
    rw [hmo.cellAt j hj]; exact hu
  refine wpList_append_mine hgd s x 27 ho B NodeT i0 (.agg #[.int .i64 0, .int .i64 0, .int .i64 0, .string ⟨#[]⟩, .slice none 0 0]) 5 64 Tryd.underlying27 hi hz0 hz1 hz2 rfl (by decide) v l.length vs hs hown ⟨g, 0, none⟩ m ck ms hx (by rw [hms.len, hm]) (fun j u hu => ?_) hms.one (by unfold maxLen; omega) (by omega) hBr ?_
  · rw [vt.cells_add, Nat.zero_add]; exact hcell j u hu
  · intro v' w' h1 h2 h3
    obtain ⟨A2, c2, rfl⟩ := own_form h1
    have hkeep : ∀ b, b < wr.heap.size → some b ≠ v.ownBlock → w'.heap[b]? = wr.heap[b]? := fun b hb1 hb2 => h2.block b hb1 hb2
    refine h A2 c2 w' ⟨vs ++ ms, ?_, by rw [List.length_append, ← hm]; exact h1⟩ ?_ hkeep
    · have hms2 : Nods (fun b => B ≤ b ∧ some b ≠ v.ownBlock) wr k ms := hms.mono fun b hb => ⟨by omega, fun e => by have := hC b e.symm; omega⟩
      refine (hv.append hms2).carry fun b o' u hb hc => ?_
      have hlt : b < wr.heap.size := World.block_lt_of_cell? _ _ hc
      refine ⟨⟨hb.1, fun e => ?_⟩, (World.cell?_of_block (hkeep b hlt hb.2)).trans hc⟩
      rcases h3 b e.symm with e2 | e2
      · exact hb.2 e2.symm
      · omega
    · refine ⟨h2.os.trans hg.os, h2.tape.trans hg.tape, h2.output.trans hg.output, Nat.le_trans hg.size h2.size, fun b hb1 hb2 => ?_⟩
      refine (hkeep b (Nat.lt_of_lt_of_le hb1 hg.size) fun e => ?_).trans (hg.block b hb1 hb2)
      have := (hown.lt b e.symm).1
      omega
/-- a row of one, as a row of the call's own -/
theorem own_one {w : World} {B N : Nat} {t : NT} {s : Value} (hN : N = w.heap.size) (hB : B ≤ w.heap.size) (hd : Hd t) (hk : Kids (fun b => B ≤ b) w t.kids s) :
    Own2 B (w.alloc (.cells #[.int .i64 t.kind, .int .i64 t.at_, .int .i64 t.num, .string ⟨t.name.toArray⟩, s] NodeT)) [t] (.slice (some ⟨N, 0, none⟩) 1 1) := by
  subst hN
  refine ⟨[.int .i64 t.kind, .int .i64 t.at_, .int .i64 t.num, .string ⟨t.name.toArray⟩, s], ?_, ?_⟩
  · rw [Nods]
    refine ⟨s, [], rfl, hd, ?_, by rw [Nods]⟩
    exact (hk.lt.below ((Below.refl _ _).alloc (Nat.le_refl _) _)).mono fun b hb => ⟨hb.1, fun e => by
      injection e with e
      have e3 : b = w.heap.size := e
      have h2 : b < w.heap.size := hb.2
      omega⟩
  · exact World.ownsRow_lit (size := 5) (e := NodeT) w #[.int .i64 t.kind, .int .i64 t.at_, .int .i64 t.num, .string ⟨t.name.toArray⟩, s] 1 (base := B) hB (by decide) (by simp)
theorem wpList_more0 {p : Nat} {w0 wr : World} {ops : Array Oper} {rest : List Oper} {o : Oper} {a : Act} {Q : Exit → Act → World → Prop} (hgd : o.guard = none) (s x : Operand)
    (ho : o.op = .call { callee := .builtin .append, args := #[s, x], argTypes := #[27, 27] }) (B C n m : Nat) (l k : List NT) (v : Value) (Ak : Option Addr) (ck : Nat)
    (hs : a.eval s = v) (hx : a.eval x = .slice Ak m ck) (hl : Own2 B wr l v) (hk : Own2 C wr k (.slice Ak m ck)) (hC : ∀ b, v.ownBlock = some b → b < C) (hBC : B ≤ C) (hnil : k = [] → Value.slice Ak m ck = .slice none 0 0) (hm : m = k.length) (hg : w0.grownBy wr (some p)) (hB : w0.heap.size ≤ B) (hBr : B ≤ wr.heap.size) (hn : n = l.length) (hlen : n + m ≤ 1099511627776)
    (h : ∀ A' c' w', Own2 B w' (l ++ k) (.slice A' (n + m) c') → w0.grownBy w' (some p) → (∀ b, b < wr.heap.size → some b ≠ v.ownBlock → w'.heap[b]? = wr.heap[b]?) → wpList Tryd.prog ops Q rest (a.put o.dst (.slice A' (n + m) c')) w') :
    wpList Tryd.prog ops Q (o :: rest) a wr := by
  by_cases hpos : 0 < k.length
  · exact wpList_more hgd s x ho B C n m l k v Ak ck hs hx hl hk hC hBC hpos hm hg hB hBr hn hlen h
  · have hk0 : k = [] := List.eq_nil_of_length_eq_zero (by omega)
    have e0 := hnil hk0
    subst hk0
    obtain rfl : m = 0 := hm
    obtain ⟨i0, hi, hz0, hz1, hz2⟩ := info_parts infoN
    obtain ⟨A2, c2, hv⟩ := hl.form
    rw [← hn] at hv
    subst hv
    obtain ⟨vs, hvs, hown⟩ := hl
    refine Go.wpList_append_own_none hgd s x 27 ho B NodeT i0 5 Tryd.underlying27 hi (.slice A2 n c2) l.length vs hs hown (by rw [hx, e0]) ?_
    refine h A2 c2 wr ?_ hg fun b _ _ => rfl
    rw [List.append_nil]
    exact ⟨vs, hvs, hown⟩
theorem expr_num {n : Int} (h : 0 ≤ n) : (NT.mk 10 0 n [] []).expr = true := by rw [expr_mk]; simp [exprL, exprHead, h]
theorem expr_flag {n : Int} (h : 0 ≤ n) (h2 : n ≤ 1) : (NT.mk 11 0 n [] []).expr = true := by rw [expr_mk]; simp [exprL, exprHead, h, h2]
theorem expr_name {s : List UInt8} (h : named s = true) : (NT.mk 12 0 0 s []).expr = true := by rw [expr_mk]; simp [exprL, exprHead, h]
theorem expr_index {t u : NT} (h : t.expr = true) (h2 : u.expr = true) : (NT.mk 13 0 0 [] [t, u]).expr = true := by rw [expr_mk]; simp [exprL, exprHead, h, h2, aloneN]
theorem expr_field {s : List UInt8} {t : NT} (h : t.expr = true) (h2 : named s = true) : (NT.mk 14 0 0 s [t]).expr = true := by rw [expr_mk]; simp [exprL, exprHead, h, h2]
theorem expr_un {t : NT} {n : Int} (h : t.expr = true) (h2 : n = 2 ∨ n = 14) : (NT.mk 15 0 n [] [t]).expr = true := by rw [expr_mk]; simp [exprL, exprHead, h]; exact h2
theorem expr_call {k : Int} {s : List UInt8} {l : List NT} (hk : k = 17 ∨ k = 18) (h : ∀ t ∈ l, t.expr = true) (h2 : named s = true) : (NT.mk k 0 0 s l).expr = true := by
  have h3 : exprL l = true := by rw [exprL_all, List.all_eq_true]; exact h
  rw [expr_mk, h3]
  rcases hk with rfl | rfl <;> simp [exprHead, h2]
theorem expr_new {t : NT} {l : List NT} (h : t.typ = true) (h2 : ∀ t ∈ l, t.expr = true) : (NT.mk 19 0 0 [] (t :: l)).expr = true := by
  have h3 : exprL l = true := by rw [exprL_all, List.all_eq_true]; exact h2
  rw [expr_mk, if_pos rfl, newL_cons, h, h3]; rfl
theorem bind_in {n : Int} (h1 : 1 ≤ n) (h2 : n ≤ 13) : 0 < bindF n := by
  unfold bindF
  split
  · omega
  · split
    · omega
    · split
      · omega
      · split
        · omega
        · split
          · omega
          · omega
theorem expr_bin {t u : NT} {n : Int} (h : t.expr = true) (h2 : u.expr = true) (h3 : 1 ≤ n) (h4 : n ≤ 13) : (NT.mk 16 0 n [] [t, u]).expr = true := by
  rw [expr_mk]; simp [exprL, exprHead, h, h2, bind_in h3 h4]

theorem gE_succ (d : Nat) : gE (d + 1) = 12 + 2 * gE d := rfl
end Go.Proofs.YtgohkmdepjmpaaaDoor.nt

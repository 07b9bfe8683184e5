/- The append of one node to a row of the call's own, where nothing below is stored into. -/
import Derived.Test.YtgohkmdepjmpaaaDoorCParFac
import Derived.Deep.AppendLies
namespace Go.Proofs.YtgohkmdepjmpaaaDoor.pm
open Go.RowKit wd lx nt ne mem
open vt (I64 own_base own_form own_below wpList_append_mine)

theorem wpList_nodeB {w0 wr : World} {ops : Array Oper} {rest : List Oper} {o : Oper} {a : Act} {Q : Exit → Act → World → Prop} (hgd : o.guard = none) (s x : Operand)
    (ho : o.op = .call { callee := .builtin .append, args := #[s, x], argTypes := #[27, 27] }) (n : Nat) (l : List NT) (t : NT) (v sk : Value) (H : Nat)
    (hs : a.eval s = v) (hx : a.eval x = .slice (some ⟨H, 0, none⟩) 1 1) (hl : nt.Own2 w0.heap.size wr l v) (hd : Hd t) (hk : nt.Kids (fun b => w0.heap.size ≤ b ∧ some b ≠ v.ownBlock) wr t.kids sk) (hg : Below w0.heap.size w0 wr) (hn : n = l.length) (hlen : n ≤ 1099511627776) (hH : H = wr.heap.size)
    (h : ∀ A' c' w', nt.Own2 w0.heap.size w' (l ++ [t]) (.slice A' (n + 1) c') → Below w0.heap.size w0 w' → wpList Tryd.prog ops Q rest (a.put o.dst (.slice A' (n + 1) c')) w') :
    wpList Tryd.prog ops Q (o :: rest) a (wr.alloc (.cells #[.int .i64 t.kind, .int .i64 t.at_, .int .i64 t.num, .string ⟨t.name.toArray⟩, sk] NodeT)) := by
  obtain ⟨i0, hi, hz0, hz1, hz2⟩ := info_parts infoN
  obtain ⟨vs, hv, hown⟩ := hl
  subst hH
  obtain ⟨Ak, ck, hsk, _⟩ := hk.form
  have hbx : Box (wr.alloc (.cells #[.int .i64 t.kind, .int .i64 t.at_, .int .i64 t.num, .string ⟨t.name.toArray⟩, sk] NodeT)) wr.heap.size NodeT _ := Box.new _ _ _ _ rfl
  have hba : Below wr.heap.size wr (wr.alloc (.cells #[.int .i64 t.kind, .int .i64 t.at_, .int .i64 t.num, .string ⟨t.name.toArray⟩, sk] NodeT)) := (Below.refl _ _).alloc (Nat.le_refl _) _
  have hgs := hg.size
  refine wpList_append_mine hgd s x 27 ho w0.heap.size NodeT i0 (.agg #[.int .i64 0, .int .i64 0, .int .i64 0, .string ⟨#[]⟩, .slice none 0 0]) 5 64 Tryd.underlying27 hi hz0 hz1 hz2 rfl (by decide) v l.length vs hs (hown.alloc _) ⟨wr.heap.size, 0, none⟩ 1 1 [.int .i64 t.kind, .int .i64 t.at_, .int .i64 t.num, .string ⟨t.name.toArray⟩, sk] hx rfl (fun j u hu => ?_) ?_ (by unfold maxLen; omega) (by omega) (by simp; omega) ?_
  · rw [vt.cells_add, Nat.zero_add, hbx.cell j]; simpa using hu
  · intro u hu
    simp only [List.mem_cons, List.mem_nil_iff, or_false] at hu
    rcases hu with rfl | rfl | rfl | rfl | rfl
    · rfl
    · rfl
    · rfl
    · rfl
    · rw [hsk]; rfl
  · intro v' w' h1 h2 h3
    obtain ⟨A2, c2, rfl⟩ := own_form h1
    subst hn
    have hkeep : ∀ k, k < wr.heap.size → some k ≠ v.ownBlock → w'.heap[k]? = wr.heap[k]? := fun k hk1 hk2 => (h2.block k (by simp; omega) hk2).trans (hba.block k hk1)
    refine h A2 c2 w' ⟨vs ++ [.int .i64 t.kind, .int .i64 t.at_, .int .i64 t.num, .string ⟨t.name.toArray⟩, sk], ?_, by rw [List.length_append]; exact h1⟩ ?_
    · have hv2 : Nods (fun b => w0.heap.size ≤ b ∧ some b ≠ v.ownBlock) wr (l ++ [t]) (vs ++ [.int .i64 t.kind, .int .i64 t.at_, .int .i64 t.num, .string ⟨t.name.toArray⟩, sk]) := hv.append (by rw [Nods]; exact ⟨sk, [], rfl, hd, hk, by rw [Nods]⟩)
      refine hv2.carry fun b o' u hb hc => ?_
      have hlt : b < wr.heap.size := World.block_lt_of_cell? _ _ hc
      refine ⟨⟨hb.1, fun e => ?_⟩, (World.cell?_of_block (hkeep b hlt hb.2)).trans hc⟩
      rcases h3 b e.symm with e2 | e2
      · exact hb.2 e2.symm
      · simp at e2; omega
    · exact (hg.trans (hba.mono hgs)).grown h2 (Nat.le_trans hgs hba.size) (fun k hk => (hown.lt k hk).1)
theorem own2_base {B B' : Nat} {w : World} {l : List NT} {v : Value} (h : nt.Own2 B w l v) (hB : B' ≤ B) : nt.Own2 B' w l v := by
  obtain ⟨vs, hv, ho⟩ := h
  exact ⟨vs, hv.mono fun b hb => ⟨by have := hb.1; omega, hb.2⟩, own_base ho hB⟩
/-- the append of a row of the call's own to a row of one new node, where a region draws -/
theorem step_nodesB {B : Nat} {wr : World} {ops : Array Oper} {o : Oper} {a : Act} {K : Act → World → Prop} {Q : Exit → Act → World → Prop} {E : Prop} (hgd : o.guard = none) (s x : Operand)
    (ho : o.op = .call { callee := .builtin .append, args := #[s, x], argTypes := #[27, 27] }) (t : NT) (sk : Value) (ns : List NT) (A : Option Addr) (n c : Nat) (N : Nat)
    (hs : a.eval s = .slice (some ⟨N, 0, none⟩) 1 1) (hx : a.eval x = .slice A n c) (hn : n = ns.length) (hpos : 0 < n) (hl : nt.Own2 B wr ns (.slice A n c)) (hd : Hd t) (hk : nt.Kids (fun b => B ≤ b) wr t.kids sk) (hB : B ≤ wr.heap.size) (hlen : n ≤ 1099511627776) (hN : N = wr.heap.size)
    (h : ∀ A' c' w', nt.Kids (fun b => B ≤ b) w' (t :: ns) (.slice A' (1 + n) c') → Below wr.heap.size wr w' → K (a.put o.dst (.slice A' (1 + n) c')) w') :
    if Region.wanted o (yielded ops a.tmps) = true then Oper.wp Tryd.prog o a (wr.alloc (.cells #[.int .i64 t.kind, .int .i64 t.at_, .int .i64 t.num, .string ⟨t.name.toArray⟩, sk] NodeT)) K Q else E := by
  obtain ⟨i0, hi, hz0, hz1, hz2⟩ := info_parts infoN
  subst hN
  obtain ⟨vs, hv, hown⟩ := hl
  subst hn
  have hba : Below wr.heap.size wr (wr.alloc (.cells #[.int .i64 t.kind, .int .i64 t.at_, .int .i64 t.num, .string ⟨t.name.toArray⟩, sk] NodeT)) := (Below.refl _ _).alloc (Nat.le_refl _) _
  obtain ⟨Ak, ck, hsk, _⟩ := hk.form
  have hrow : (wr.alloc (.cells #[.int .i64 t.kind, .int .i64 t.at_, .int .i64 t.num, .string ⟨t.name.toArray⟩, sk] NodeT)).ownsRow wr.heap.size NodeT 5 (.slice (some ⟨wr.heap.size, 0, none⟩) 1 1) 1 [.int .i64 t.kind, .int .i64 t.at_, .int .i64 t.num, .string ⟨t.name.toArray⟩, sk] :=
    ⟨rfl, .inr ⟨wr.heap.size, 1, _, rfl, Nat.le_refl _, heap_alloc_new wr _, Nat.le_refl _, by decide, rfl, rfl⟩⟩
  rcases hown.2 with ⟨_, h0⟩ | ⟨g, cap, cur, hs2, hb, hg', _, _, _, htake⟩
  · omega
  · injection hs2 with hs2 _ _
    subst hs2
    have hglt : g < wr.heap.size := (Array.getElem?_eq_some_iff.1 hg').1
    have hlv := hv.len
    refine step_append_lies _ hgd s x 27 ho wr.heap.size NodeT i0 (.agg #[.int .i64 0, .int .i64 0, .int .i64 0, .string ⟨#[]⟩, .slice none 0 0]) 5 64 Tryd.underlying27 hi hz0 hz1 hz2 rfl (by decide) _ 1 _ hs hrow ⟨g, 0, none⟩ ns.length c vs hx (by rw [hlv]) (fun j u hu => ?_) hv.one hpos (by unfold maxLen; omega) (by omega) (by simp) (wr.heap.size + 1) (by simp) ?_
    · rw [vt.cells_add, Nat.zero_add, hba.cell (p := ⟨g, j, none⟩) hglt, cell_of_row wr g j cur NodeT (0, 0) hg']
      rw [← htake, List.getElem?_take] at hu
      split at hu
      · simpa using hu
      · cases hu
    · intro g2 cap2 w' h1 h2 h3 h4
      have hb2 : Below wr.heap.size wr w' := hba.grown h2 hba.size (fun k hk => by simp [Value.ownBlock] at hk; omega)
      refine h (some ⟨g2, 0, none⟩) cap2 w' ?_ hb2
      have hg2w : B ≤ g2 := by
        rcases h3 with e | e
        · simp [Value.ownBlock] at e; omega
        · omega
      have hnods : Nods (fun b => B ≤ b) wr (t :: ns) ([.int .i64 t.kind, .int .i64 t.at_, .int .i64 t.num, .string ⟨t.name.toArray⟩, sk] ++ vs) := by
        have h5 : Nods (fun b => B ≤ b) wr ([t] ++ ns) _ := Nods.append (xs := [.int .i64 t.kind, .int .i64 t.at_, .int .i64 t.num, .string ⟨t.name.toArray⟩, sk]) (by rw [Nods]; exact ⟨sk, [], rfl, hd, hk, by rw [Nods]⟩) (hv.mono fun b hb => hb.1)
        exact h5
      have hl5 : (t :: ns).length = 1 + ns.length := by simp [Nat.add_comm]
      rw [← hl5] at h1 ⊢
      exact rows_kids _ (hnods.below hb2) (own_base h1 hB)
end Go.Proofs.YtgohkmdepjmpaaaDoor.pm

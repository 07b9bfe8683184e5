/- Rows of nodes that grow: each with its own new memory. -/
import Derived.Test.YtgohkmdepjmpaaaDoorCGrowType
namespace Go.Proofs.YtgohkmdepjmpaaaDoor.nt
open Go.RowKit mem wd lx
open vt (I64 own_base own_form own_below wpList_append_mine)

/-- a row of the call's own, from block B on; what its nodes' kids lie in is new too, and not the row itself -/
def Own2 (B : Nat) (w : World) (l : List NT) (v : Value) : Prop := ∃ vs, Nods (fun b => B ≤ b ∧ some b ≠ v.ownBlock) w l vs ∧ w.ownsRow B NodeT 5 v l.length vs
theorem Own2.nil_ (B : Nat) (w : World) : Own2 B w [] (.slice none 0 0) := ⟨[], by rw [Nods], World.ownsRow_nil _ _ _ _⟩
theorem Own2.form {B : Nat} {w : World} {l : List NT} {v : Value} (h : Own2 B w l v) : ∃ A c, v = .slice A l.length c := own_form h.choose_spec.2
theorem owns_keep {w w' : World} {base size n : Nat} {e : TypeId} {v : Value} {xs : List Value} (h : w.ownsRow base e size v n xs) (hk : ∀ k, v.ownBlock = some k → w'.heap[k]? = w.heap[k]?) : w'.ownsRow base e size v n xs := by
  refine ⟨h.1, ?_⟩
  rcases h.2 with h' | ⟨g, cap, cur, hv, hg, hh, r⟩
  · exact .inl h'
  · exact .inr ⟨g, cap, cur, hv, hg, by rw [hk g (by rw [hv]; rfl)]; exact hh, r⟩
theorem Own2.grow {B p : Nat} {w w' : World} {l : List NT} {v : Value} (h : Own2 B w l v) (hg : w.grownBy w' (some p)) (hp : p < B) : Own2 B w' l v := by
  obtain ⟨vs, hv, ho⟩ := h
  refine ⟨vs, hv.keep fun b o hb hlt => ?_, owns_keep ho fun k hk => ?_⟩
  · exact World.cell?_of_block (hg.block b hlt (by simpa using (by omega : b ≠ p)))
  · have := ho.lt k hk
    exact hg.block k this.2 (by simpa using (by omega : k ≠ p))
theorem Own2.below {B : Nat} {w w' : World} {l : List NT} {v : Value} (h : Own2 B w l v) (hb : Below w.heap.size w w') : Own2 B w' l v := by
  obtain ⟨vs, hv, ho⟩ := h
  exact ⟨vs, hv.below hb, own_below ho hb⟩
theorem Own2.kids {B : Nat} {w : World} {l : List NT} {v : Value} (h : Own2 B w l v) : Kids (fun b => B ≤ b) w l v := by
  obtain ⟨vs, hv, ho⟩ := h
  exact rows_kids vs (hv.mono fun b hb => hb.1) ho
theorem Own2.lt {B : Nat} {w : World} {l : List NT} {v : Value} (h : Own2 B w l v) : ∀ k, v.ownBlock = some k → B ≤ k ∧ k < w.heap.size := fun k hk => h.choose_spec.2.lt k hk
/-- the append of one node, met in a walk -/
theorem wpList_node {p : Nat} {w0 wr : World} {ops : Array Oper} {rest : List Oper} {o : Oper} {a : Act} {Q : Exit → Act → World → Prop} (hgd : o.guard = none) (s x : Operand)
    (ho : o.op = .call { callee := .builtin .append, args := #[s, x], argTypes := #[27, 27] }) (B n : Nat) (l : List NT) (t : NT) (v sk : Value) (H : Nat)
    (hs : a.eval s = v) (hx : a.eval x = .slice (some ⟨H, 0, none⟩) 1 1) (hl : Own2 B wr l v) (hd : Hd t) (hk : Kids (fun b => B ≤ b ∧ some b ≠ v.ownBlock) wr t.kids sk) (hg : w0.grownBy wr (some p)) (hB : w0.heap.size ≤ B) (hBr : B ≤ wr.heap.size) (hn : n = l.length) (hlen : n ≤ 1099511627776) (hH : H = wr.heap.size)
    (h : ∀ A' c' w', Own2 B w' (l ++ [t]) (.slice A' (n + 1) c') → w0.grownBy w' (some p) → (∀ k, k < wr.heap.size → some k ≠ v.ownBlock → w'.heap[k]? = wr.heap[k]?) → wpList Tryd.prog ops Q rest (a.put o.dst (.slice A' (n + 1) c')) w') :
    wpList Tryd.prog ops Q (o :: rest) a (wr.alloc (.cells #[.int .i64 t.kind, .int .i64 t.at_, .int .i64 t.num, .string ⟨t.name.toArray⟩, sk] NodeT)) := by
  obtain ⟨i0, hi, hz0, hz1, hz2⟩ := info_parts infoN
  obtain ⟨vs, hv, hown⟩ := hl
  subst hH
  obtain ⟨Ak, ck, hsk, _⟩ := hk.form
  have hbx : Box (wr.alloc (.cells #[.int .i64 t.kind, .int .i64 t.at_, .int .i64 t.num, .string ⟨t.name.toArray⟩, sk] NodeT)) wr.heap.size NodeT _ := Box.new _ _ _ _ rfl
  have hba : Below wr.heap.size wr (wr.alloc (.cells #[.int .i64 t.kind, .int .i64 t.at_, .int .i64 t.num, .string ⟨t.name.toArray⟩, sk] NodeT)) := (Below.refl _ _).alloc (Nat.le_refl _) _
  refine wpList_append_mine hgd s x 27 ho B NodeT i0 (.agg #[.int .i64 0, .int .i64 0, .int .i64 0, .string ⟨#[]⟩, .slice none 0 0]) 5 64 Tryd.underlying27 hi hz0 hz1 hz2 rfl (by decide) v l.length vs hs (hown.alloc _) ⟨wr.heap.size, 0, none⟩ 1 1 [.int .i64 t.kind, .int .i64 t.at_, .int .i64 t.num, .string ⟨t.name.toArray⟩, sk] hx rfl (fun j u hu => ?_) ?_ (by unfold maxLen; omega) (by omega) (by simp; omega) ?_
  · rw [vt.cells_add, Nat.zero_add, hbx.cell j]; simpa using hu
  · intro u hu
    simp only [List.mem_cons, List.mem_nil_iff, or_false] at hu
    rcases hu with rfl | rfl | rfl | rfl | rfl
    · rfl
    · rfl
    · rfl
    · rfl
    · rw [hsk]; rfl
  · intro v' w' h1 h2 h3
    obtain ⟨A2, c2, rfl⟩ := own_form h1
    subst hn
    have hkeep : ∀ k, k < wr.heap.size → some k ≠ v.ownBlock → w'.heap[k]? = wr.heap[k]? := fun k hk1 hk2 => (h2.block k (by simp; omega) hk2).trans (hba.block k hk1)
    refine h A2 c2 w' ⟨vs ++ [.int .i64 t.kind, .int .i64 t.at_, .int .i64 t.num, .string ⟨t.name.toArray⟩, sk], ?_, by rw [List.length_append]; exact h1⟩ ?_ hkeep
    · have hv2 : Nods (fun b => B ≤ b ∧ some b ≠ v.ownBlock) wr (l ++ [t]) (vs ++ [.int .i64 t.kind, .int .i64 t.at_, .int .i64 t.num, .string ⟨t.name.toArray⟩, sk]) := hv.append (by rw [Nods]; exact ⟨sk, [], rfl, hd, hk, by rw [Nods]⟩)
      refine hv2.carry fun b o' u hb hc => ?_
      have hlt : b < wr.heap.size := World.block_lt_of_cell? _ _ hc
      refine ⟨⟨hb.1, fun e => ?_⟩, (World.cell?_of_block (hkeep b hlt hb.2)).trans hc⟩
      rcases h3 b e.symm with e2 | e2
      · exact hb.2 e2.symm
      · simp at e2; omega
    · refine ⟨h2.os.trans (hba.os.trans hg.os), h2.tape.trans (hba.tape.trans hg.tape), h2.output.trans (hba.output.trans hg.output), Nat.le_trans hg.size (Nat.le_trans hba.size h2.size), fun k hk1 hk2 => ?_⟩
      refine (hkeep k (Nat.lt_of_lt_of_le hk1 hg.size) fun e => ?_).trans (hg.block k hk1 hk2)
      have := (hown.lt k e.symm).1
      omega
/-! ### lists of expressions -/
def gE : Nat → Nat
  | 0 => 2
  | d + 1 => 12 + 2 * gE d
end Go.Proofs.YtgohkmdepjmpaaaDoor.nt

/- The reader in memory: what is not read yet, the row of what is open, the row of what is done; and an append that tells where its row lies. -/
import Derived.Test.YtjbdfckanabepaaDoorValParse
import Derived.Test.YtjbdfckanabepaaDoorValClone
import Derived.ArgAppend
namespace Go.Proofs.YtjbdfckanabepaaDoor.vt
open Go.RowKit mem

/-- an append onto a row of the call's own: the row stays where it was, or is new -/
theorem run_append_mine {P : Program} {w : World} (base : Nat) (t ty e : TypeId) (i : TypeInfo) (z : Value) (size bytes : Nat) (ht : P.underlying t = some (.slice e)) (hi : P.info? e = some i) (hz : i.zero = some z)
    (hsize : i.size = size) (hby : i.bytes = bytes) (hzs : z.cells.size = size) (hsz : 0 < size)
    (v : Value) (n : Nat) (xs : List Value) (hown : w.ownsRow base e size v n xs)
    (ad : Addr) (m c : Nat) (news : List Value) (hl : news.length = m * size) (hnews : ∀ j u, news[j]? = some u → w.cell? (ad.add j) = some u) (h1 : ∀ u ∈ news, u.oneCell' = true)
    (h63 : n + m ≤ maxLen) (hbytes : (n + m) * bytes ≤ 140737488355328) (hbase : base ≤ w.heap.size) :
    ∃ v' w', (Builtin.append_ #[t, t] ty #[v, .slice (some ad) m c]).run P w = .ok v' w' ∧ w'.ownsRow base e size v' (n + m) (xs ++ news) ∧ w.grownBy w' v.ownBlock ∧ (∀ k, v'.ownBlock = some k → v.ownBlock = some k ∨ w.heap.size ≤ k) := by
  rcases hown.2 with ⟨hv, hn⟩ | ⟨g, cap, cur, hv, hb, hg, hnc, hcm, hcs, htake⟩
  · have hown2 : w.ownsRow w.heap.size e size v n xs := ⟨hown.1, .inl ⟨hv, hn⟩⟩
    obtain ⟨v', w', hr, h2, h3, _⟩ := run_append_own (P := P) (w := w) w.heap.size t ty e i z size bytes ht hi hz hsize hby hzs hsz v n xs hown2 ad m c news hl hnews h1 h63 hbytes (Nat.le_refl _)
    exact ⟨v', w', hr, own_base h2 hbase, h3, fun k hk => Or.inr (h2.lt k hk).1⟩
  · subst hv
    by_cases hroom : n + m ≤ cap
    · obtain ⟨v', w', hr, h2, h3, _⟩ := run_append_own (P := P) (w := w) base t ty e i z size bytes ht hi hz hsize hby hzs hsz _ n xs hown ad m c news hl hnews h1 h63 hbytes hbase
      have hfit : n * i.size + news.length ≤ cur.size := by rw [hl, hcs, hsize, ← Nat.add_mul]; exact Nat.mul_le_mul_right _ hroom
      have hr2 := run_append_room (P := P) (w := w) t ty e i ht hi g n cap cur hg ad m c news (by rw [hl, hsize]) hnews h1 hroom hfit
      rw [hr] at hr2
      injection hr2 with e1 e2
      refine ⟨v', w', hr, h2, h3, fun k hk => Or.inl ?_⟩
      rw [e1] at hk; exact hk
    · have holds : ∀ j u, xs[j]? = some u → w.cell? ((⟨g, 0, none⟩ : Addr).add j) = some u := hown.cells (g := g) rfl
      obtain ⟨v', w', hr, h2, h3⟩ := run_append_arg_grows (P := P) w t ty e i z size bytes ht hi hz hsize hby hzs hsz ⟨g, 0, none⟩ n cap xs hown.1 holds ad m c news hl hnews (by omega) h63 hbytes
      exact ⟨v', w', hr, own_base h2 hbase, ⟨h3.os, h3.tape, h3.output, h3.size, fun k hk _ => h3.block k hk (by simp)⟩, fun k hk => Or.inr (h2.lt k hk).1⟩
theorem wpList_append_mine {P : Program} {w : World} {ops : Array Oper} {rest : List Oper} {o : Oper} {a : Act} {Q : Exit → Act → World → Prop} (hgd : o.guard = none) (s x : Operand) (t : TypeId)
    (ho : o.op = .call { callee := .builtin .append, args := #[s, x], argTypes := #[t, t] })
    (base : Nat) (e : TypeId) (i : TypeInfo) (z : Value) (size bytes : Nat) (ht : P.underlying t = some (.slice e)) (hi : P.info? e = some i) (hz : i.zero = some z)
    (hsize : i.size = size) (hby : i.bytes = bytes) (hzs : z.cells.size = size) (hsz : 0 < size)
    (v : Value) (n : Nat) (xs : List Value) (hs : a.eval s = v) (hown : w.ownsRow base e size v n xs)
    (ad : Addr) (m c : Nat) (news : List Value) (hx : a.eval x = .slice (some ad) m c) (hl : news.length = m * size) (hnews : ∀ j u, news[j]? = some u → w.cell? (ad.add j) = some u) (h1 : ∀ u ∈ news, u.oneCell' = true)
    (h63 : n + m ≤ maxLen) (hbytes : (n + m) * bytes ≤ 140737488355328) (hbase : base ≤ w.heap.size)
    (h : ∀ v' w', w'.ownsRow base e size v' (n + m) (xs ++ news) → w.grownBy w' v.ownBlock → (∀ k, v'.ownBlock = some k → v.ownBlock = some k ∨ w.heap.size ≤ k) → wpList P ops Q rest (a.put o.dst v') w') : wpList P ops Q (o :: rest) a w := by
  refine wpList_plain hgd fun K hK => ?_
  obtain ⟨v', w', hrun, h2, h3, h4⟩ := run_append_mine (P := P) (w := w) base t o.type e i z size bytes ht hi hz hsize hby hzs hsz v n xs hown ad m c news hl hnews h1 h63 hbytes hbase
  unfold Oper.wp
  simp [execOp, ho, resolve, invoke, builtin, hs, hx, hrun, Result.andThen]
  exact hK _ _ (h v' w' h2 h3 h4)

/-- a block of this kind -/
def Typ (w : World) (t : TypeId) (b : Nat) : Prop := ∃ cs fr, w.heap[b]? = some (.cells cs t fr)
theorem Typ.ne {w : World} {t t' : TypeId} {b b' : Nat} (h : Typ w t b) (h' : Typ w t' b') (hne : t ≠ t') : b ≠ b' := by
  rintro rfl
  obtain ⟨cs, fr, h⟩ := h
  obtain ⟨cs', fr', h'⟩ := h'
  rw [h] at h'
  injection h' with h'
  injection h' with _ e _
  exact hne e
theorem Typ.own {w : World} {base size n : Nat} {e : TypeId} {v : Value} {xs : List Value} (h : w.ownsRow base e size v n xs) {k : Nat} (hk : v.ownBlock = some k) : Typ w e k := by
  rcases h.2 with ⟨hv, _⟩ | ⟨g, cap, cur, hv, _, hh, _⟩
  · subst hv; cases hk
  · subst hv; injection hk with hk; subst hk; exact ⟨_, _, hh⟩
theorem Typ.lt {w : World} {t : TypeId} {b : Nat} (h : Typ w t b) : b < w.heap.size := by
  obtain ⟨cs, fr, h⟩ := h; exact (Array.getElem?_eq_some_iff.1 h).1
/-- where the kids of what is done may lie -/
def KG (B : Nat) (w : World) (vd : Value) (b : Nat) : Prop := B ≤ b ∧ some b ≠ vd.ownBlock ∧ Typ w 24 b
def opnV (l : List (Int × Nat)) : List Value := pairV (l.map fun p => (p.1, (p.2 : Int)))
/-- the reader -/
def Rdr (B rb : Nat) (s : List UInt8) (o : List (Int × Nat)) (d : List VT) (w : World) : Prop :=
  B ≤ rb ∧ ∃ vo vd vs, w.heap[rb]? = some (.cells #[.string ⟨s.toArray⟩, vo, vd] 52 (0, 0)) ∧ w.ownsRow B 69 2 vo o.length (opnV o) ∧ w.ownsRow B 24 3 vd d.length vs ∧ Vals (KG B w vd) w d vs
/-- all but some blocks are as they were -/
theorem vals_step {B : Nat} {w w' : World} {vd vd' : Value} {d : List VT} {vs : List Value} (h : Vals (KG B w vd) w d vs) (hk : ∀ b, KG B w vd b → w'.heap[b]? = w.heap[b]?) (hv : ∀ b, KG B w vd b → some b ≠ vd'.ownBlock) : Vals (KG B w' vd') w' d vs :=
  h.carry fun b o u hb hc => ⟨⟨hb.1, hv b hb, by obtain ⟨cs, fr, h⟩ := hb.2.2; exact ⟨cs, fr, (hk b hb).trans h⟩⟩, (World.cell?_of_block (w := w) (w' := w') (a := ⟨b, o, none⟩) (hk b hb)).trans hc⟩
theorem own_step {w w' : World} {base size n : Nat} {e : TypeId} {v : Value} {xs : List Value} (h : w.ownsRow base e size v n xs) (hk : ∀ k, v.ownBlock = some k → w'.heap[k]? = w.heap[k]?) : w'.ownsRow base e size v n xs := by
  refine ⟨h.1, ?_⟩
  rcases h.2 with h' | ⟨g, cap, cur, hv, hg, hh, r⟩
  · exact .inl h'
  · subst hv; exact .inr ⟨g, cap, cur, rfl, hg, (hk g rfl).trans hh, r⟩
theorem set_same (w : World) (b i k : Nat) (u : Value) (h : k ≠ b) : (w.setCell ⟨b, i, none⟩ u).heap[k]? = w.heap[k]? := Below.heap_setCell w ⟨b, i, none⟩ u k h
theorem set_heap_at (w : World) (b i : Nat) (cs : Array Value) (t : TypeId) (fr : Nat × Nat) (u : Value) (h : w.heap[b]? = some (.cells cs t fr)) : (w.setCell ⟨b, i, none⟩ u).heap[b]? = some (.cells (cs.setIfInBounds i u) t fr) := by
  simp [World.setCell, Array.getElem?_modify, h]
theorem Rdr.rest {B rb : Nat} {s s' : List UInt8} {o : List (Int × Nat)} {d : List VT} {w : World} (h : Rdr B rb s o d w) : Rdr B rb s' o d (w.setCell ⟨rb, 0, none⟩ (.string ⟨s'.toArray⟩)) := by
  obtain ⟨hB, vo, vd, vs, hh, ho, hd, hv⟩ := h
  have ht : Typ w 52 rb := ⟨_, _, hh⟩
  refine ⟨hB, vo, vd, vs, by rw [set_heap_at _ _ _ _ _ _ _ hh]; rfl, own_step ho fun k hk => set_same _ _ _ _ _ ((Typ.own ho hk).ne ht (by decide)), own_step hd fun k hk => set_same _ _ _ _ _ ((Typ.own hd hk).ne ht (by decide)), ?_⟩
  exact vals_step hv (fun b hb => set_same _ _ _ _ _ (hb.2.2.ne ht (by decide))) (fun b hb => hb.2.1)
/-- a block of a call's own is laid -/
theorem Rdr.alloc {B rb : Nat} {s : List UInt8} {o : List (Int × Nat)} {d : List VT} {w : World} (h : Rdr B rb s o d w) (ob : Obj) : Rdr B rb s o d (w.alloc ob) := by
  obtain ⟨hB, vo, vd, vs, hh, ho, hd, hv⟩ := h
  refine ⟨hB, vo, vd, vs, by rw [Below.heap_alloc _ _ _ (Array.getElem?_eq_some_iff.1 hh).1]; exact hh, ho.alloc _, hd.alloc _, ?_⟩
  exact vals_step hv (fun b hb => Below.heap_alloc _ _ _ hb.2.2.lt) (fun b hb => hb.2.1)
theorem Rdr.below {B rb : Nat} {s : List UInt8} {o : List (Int × Nat)} {d : List VT} {w w' : World} (h : Rdr B rb s o d w) (hb : Below w.heap.size w w') : Rdr B rb s o d w' := by
  obtain ⟨hB, vo, vd, vs, hh, ho, hd, hv⟩ := h
  refine ⟨hB, vo, vd, vs, (hb.block rb (Array.getElem?_eq_some_iff.1 hh).1).trans hh, own_below ho hb, own_below hd hb, ?_⟩
  exact vals_step hv (fun b h => hb.block b h.2.2.lt) (fun b h => h.2.1)
/-- behind an append onto the row of what is open, and its store -/
theorem Rdr.open_ {B rb : Nat} {s : List UInt8} {o : List (Int × Nat)} {d : List VT} {w w1 : World} {vo vd vo' : Value} {vs : List Value} (p : Int × Nat) (hB : B ≤ rb) (hh : w.heap[rb]? = some (.cells #[.string ⟨s.toArray⟩, vo, vd] 52 (0, 0)))
    (ho : w.ownsRow B 69 2 vo o.length (opnV o)) (hd : w.ownsRow B 24 3 vd d.length vs) (hv : Vals (KG B w vd) w d vs)
    (h1 : w1.ownsRow B 69 2 vo' (o.length + 1) (opnV o ++ [.int .i64 p.1, .int .i64 p.2])) (hg : w.grownBy w1 vo.ownBlock) :
    Rdr B rb s (o ++ [p]) d (w1.setCell ⟨rb, 1, none⟩ vo') := by
  have ht : Typ w 52 rb := ⟨_, _, hh⟩
  have hs1 : ∀ k, k < w.heap.size → (∀ j, vo.ownBlock = some j → k ≠ j) → w1.heap[k]? = w.heap[k]? := fun k hk hn => hg.block k hk (fun e => hn k e.symm rfl)
  have hrb := hs1 rb ht.lt (fun j hj => ht.ne (Typ.own ho hj) (by decide))
  have ht1 : Typ w1 52 rb := ⟨_, _, hrb.trans hh⟩
  have hd1 : w1.ownsRow B 24 3 vd d.length vs := own_step hd fun k hk => hs1 k (Typ.own hd hk).lt (fun j hj => (Typ.own hd hk).ne (Typ.own ho hj) (by decide))
  have hv1 : Vals (KG B w1 vd) w1 d vs := vals_step hv (fun b hb => hs1 b hb.2.2.lt (fun j hj => hb.2.2.ne (Typ.own ho hj) (by decide))) (fun b hb => hb.2.1)
  refine ⟨hB, vo', vd, vs, by rw [set_heap_at _ _ _ _ _ _ _ (hrb.trans hh)]; rfl, ?_, own_step hd1 fun k hk => set_same _ _ _ _ _ ((Typ.own hd1 hk).ne ht1 (by decide)), ?_⟩
  · have := own_step h1 (w' := w1.setCell ⟨rb, 1, none⟩ vo') fun k hk => set_same _ _ _ _ _ ((Typ.own h1 hk).ne ht1 (by decide))
    rw [List.length_append, List.length_singleton]
    have e : opnV (o ++ [p]) = opnV o ++ [.int .i64 p.1, .int .i64 p.2] := by unfold opnV; rw [List.map_append, pairV_append]; rfl
    rw [e]; exact this
  · exact vals_step hv1 (fun b hb => set_same _ _ _ _ _ (hb.2.2.ne ht1 (by decide))) (fun b hb => hb.2.1)
/-- the row of what is done is another one -/
theorem Rdr.done_ {B rb : Nat} {s : List UInt8} {o : List (Int × Nat)} {d' : List VT} {w w1 : World} {vo vd vd' : Value} {vs' : List Value} (hB : B ≤ rb) (hh : w.heap[rb]? = some (.cells #[.string ⟨s.toArray⟩, vo, vd] 52 (0, 0)))
    (ho : w.ownsRow B 69 2 vo o.length (opnV o)) (hvd : ∀ k, vd.ownBlock = some k → Typ w 24 k)
    (h1 : w1.ownsRow B 24 3 vd' d'.length vs') (hv1 : Vals (KG B w1 vd') w1 d' vs') (hg : w.grownBy w1 vd.ownBlock) :
    Rdr B rb s o d' (w1.setCell ⟨rb, 2, none⟩ vd') := by
  have ht : Typ w 52 rb := ⟨_, _, hh⟩
  have hs1 : ∀ k, k < w.heap.size → (∀ j, vd.ownBlock = some j → k ≠ j) → w1.heap[k]? = w.heap[k]? := fun k hk hn => hg.block k hk (fun e => hn k e.symm rfl)
  have hrb := hs1 rb ht.lt (fun j hj => ht.ne (hvd j hj) (by decide))
  have ht1 : Typ w1 52 rb := ⟨_, _, hrb.trans hh⟩
  have ho1 : w1.ownsRow B 69 2 vo o.length (opnV o) := own_step ho fun k hk => hs1 k (Typ.own ho hk).lt (fun j hj => (Typ.own ho hk).ne (hvd j hj) (by decide))
  refine ⟨hB, vo, vd', vs', by rw [set_heap_at _ _ _ _ _ _ _ (hrb.trans hh)]; rfl, own_step ho1 fun k hk => set_same _ _ _ _ _ ((Typ.own ho1 hk).ne ht1 (by decide)), own_step h1 fun k hk => set_same _ _ _ _ _ ((Typ.own h1 hk).ne ht1 (by decide)), ?_⟩
  exact vals_step hv1 (fun b hb => set_same _ _ _ _ _ (hb.2.2.ne ht1 (by decide))) (fun b hb => hb.2.1)
end Go.Proofs.YtjbdfckanabepaaDoor.vt

/- What is put behind the reader's rows: a value that is done, an array or a record that is open. -/
import Derived.Test.YtnjcapenkoemlaaCellRdr
import Derived.Test.YtnjcapenkoemlaaValMake
namespace Go.Proofs.Ytnjcapenkoemlaa.vt.ce
open Go.RowKit mem vt

/-- what may be told of the reader's rows in a world -/
theorem Rdr.parts {B rb : Nat} {s : List UInt8} {o : List Part} {d : List VT} {w : World} (h : Rdr B rb s o d w) :
    ∃ vr Ao co A q vs, w.heap[rb]? = some (.cells #[vr, .slice Ao o.length co, .slice A d.length q] 44 (0, 0)) ∧ Bts (· < B) w s vr ∧ w.ownsRow B 63 3 (.slice Ao o.length co) o.length (opnV o) ∧ w.ownsRow B 24 3 (.slice A d.length q) d.length vs ∧ Vals (KG B w (.slice A d.length q)) w d vs := by
  obtain ⟨_, vr, vo, vd, vs, hh, hr, ho, hd, hv⟩ := h
  obtain ⟨Ao, co, rfl⟩ := own_form ho
  obtain ⟨A, q, rfl⟩ := own_form hd
  exact ⟨vr, Ao, co, A, q, vs, hh, hr, ho, hd, hv⟩
/-- the row of what is done is another one -/
theorem Rdr.done_ {B rb : Nat} {s : List UInt8} {o : List Part} {d' : List VT} {w w1 : World} {vr vo vd vd' : Value} {vs' : List Value} (hB : B ≤ rb) (hh : w.heap[rb]? = some (.cells #[vr, vo, vd] 44 (0, 0)))
    (hr : Bts (· < B) w s vr) (ho : w.ownsRow B 63 3 vo o.length (opnV o)) (hvd : ∀ k, vd.ownBlock = some k → Typ w 24 k ∧ B ≤ k)
    (h1 : w1.ownsRow B 24 3 vd' d'.length vs') (hv1 : Vals (KG B w1 vd') w1 d' vs') (hg : w.grownBy w1 vd.ownBlock) :
    Rdr B rb s o d' (w1.setCell ⟨rb, 2, none⟩ vd') := by
  have ht : Typ w 44 rb := ⟨_, _, hh⟩
  have hs1 : ∀ k, k < w.heap.size → (∀ j, vd.ownBlock = some j → k ≠ j) → w1.heap[k]? = w.heap[k]? := fun k hk hn => hg.block k hk (fun e => hn k e.symm rfl)
  have hrb := hs1 rb ht.lt (fun j hj => ht.ne (hvd j hj).1 (by decide))
  have ht1 : Typ w1 44 rb := ⟨_, _, hrb.trans hh⟩
  have ho1 : w1.ownsRow B 63 3 vo o.length (opnV o) := own_step ho fun k hk => hs1 k (Typ.own ho hk).lt (fun j hj => (Typ.own ho hk).ne (hvd j hj).1 (by decide))
  have hr1 : Bts (· < B) w1 s vr := bts_low hr fun k hk hk2 => hs1 k hk2 fun j hj => by have := (hvd j hj).2; omega
  refine ⟨hB, vr, vo, vd', vs', by rw [set_heap_at _ _ _ _ _ _ _ (hrb.trans hh)]; rfl, bts_low hr1 fun k hk _ => set_same _ _ _ _ _ (by omega), own_step ho1 fun k hk => set_same _ _ _ _ _ ((Typ.own ho1 hk).ne ht1 (by decide)), own_step h1 fun k hk => set_same _ _ _ _ _ ((Typ.own h1 hk).ne ht1 (by decide)), ?_⟩
  exact vals_step hv1 (fun b hb => set_same _ _ _ _ _ (hb.2.2.ne ht1 (by decide))) (fun b hb => hb.2.1)
/-- a value is put behind what is done, or behind the first ones of it -/
theorem push_done {B rb g cap n q D : Nat} {A : Option Addr} {s : List UInt8} {o : List Part} {d0 kids : List VT} {k m : Int} {w V w3 : World} {vr vo s3 : Value} {vs xs : List Value} (hB : B ≤ rb) (hn : n = d0.length) (hk : I64 k) (hm : I64 m)
    (hh : V.heap[rb]? = some (.cells #[vr, vo, .slice A D q] 44 (0, 0))) (hr : Bts (· < B) V s vr) (hoo : V.ownsRow B 63 3 vo o.length (opnV o)) (hdd : V.ownsRow B 24 3 (.slice A D q) D vs)
    (h0 : Vals (KG B V (.slice A D q)) V d0 xs) (hk3 : Kids (KG B V (.slice A D q)) V kids s3) (hbB : Below B w V)
    (hown : w3.ownsRow B 24 3 (.slice (some ⟨g, 0, none⟩) (n + 1) cap) (n + 1) (xs ++ [.int .i64 0, .int .i64 0, .slice none 0 0])) (hg2 : V.grownBy w3 (Value.slice A n q).ownBlock) (hat : (Value.slice A n q).ownBlock = some g ∨ g = V.heap.size) :
    (Rdr B rb s o (d0 ++ [.mk k m kids]) ((((w3.setCell ⟨g, n * 3, none⟩ (.int .i64 k)).setCell ⟨g, n * 3 + 1, none⟩ (.int .i64 m)).setCell ⟨g, n * 3 + 2, none⟩ s3).setCell ⟨rb, 2, none⟩ (.slice (some ⟨g, 0, none⟩) (n + 1) cap)) ∧
      Below B w ((((w3.setCell ⟨g, n * 3, none⟩ (.int .i64 k)).setCell ⟨g, n * 3 + 1, none⟩ (.int .i64 m)).setCell ⟨g, n * 3 + 2, none⟩ s3).setCell ⟨rb, 2, none⟩ (.slice (some ⟨g, 0, none⟩) (n + 1) cap))) ∧
    (w3.cell? ⟨rb, 2, none⟩ = some (.slice A D q) ∧ w3.frozen? ⟨rb, 2, none⟩ = false) ∧ g ≠ rb ∧
    (w3.cell? ⟨g, n * 3, none⟩ = some (.int .i64 0) ∧ w3.cell? ⟨g, n * 3 + 1, none⟩ = some (.int .i64 0) ∧ w3.cell? ⟨g, n * 3 + 2, none⟩ = some (.slice none 0 0)) ∧ ∀ i, w3.frozen? ⟨g, i, none⟩ = false := by
  have eA : (Value.slice A n q).ownBlock = (Value.slice A D q).ownBlock := by cases A <;> rfl
  rw [eA] at hg2 hat
  have hg' : (Value.slice A D q).ownBlock = some g ∨ V.heap.size ≤ g := hat.imp id fun h => by omega
  have hlenv := h0.len
  have ht : Typ V 44 rb := ⟨_, _, hh⟩
  have hrb : w3.heap[rb]? = _ := (hg2.block rb ht.lt (fun e => (Typ.own hdd e.symm).ne ht (by decide) rfl)).trans hh
  have hgrb : g ≠ rb := by
    rintro rfl
    rcases hg' with h | h
    · exact (Typ.own hdd h).ne ht (by decide) rfl
    · have := ht.lt; omega
  have hgB : B ≤ g := (hown.lt g rfl).1
  have c0 := hown.cellAt (n * 3) (by omega)
  have c1 := hown.cellAt (n * 3 + 1) (by omega)
  have c2 := hown.cellAt (n * 3 + 2) (by omega)
  rw [List.getElem?_append_right (by omega), show n * 3 - xs.length = 0 by omega] at c0
  rw [List.getElem?_append_right (by omega), show n * 3 + 1 - xs.length = 1 by omega] at c1
  rw [List.getElem?_append_right (by omega), show n * 3 + 2 - xs.length = 2 by omega] at c2
  have o2 := (((hown.stored (n * 3) (.int .i64 k)).1.stored (n * 3 + 1) (.int .i64 m)).1.stored (n * 3 + 2) s3).1
  rw [set3 _ _ _ _ _ _ _ _ _ (by rw [hlenv, hn])] at o2
  have hg3 := grown_set (i := n * 3 + 2) (grown_set (i := n * 3 + 1) (grown_set (i := n * 3) hg2 hg' (.int .i64 k)) hg' (.int .i64 m)) hg' s3
  have hkeep : ∀ b, KG B V (.slice A D q) b → ((((w3.setCell ⟨g, n * 3, none⟩ (.int .i64 k)).setCell ⟨g, n * 3 + 1, none⟩ (.int .i64 m)).setCell ⟨g, n * 3 + 2, none⟩ s3)).heap[b]? = V.heap[b]? := fun b hb => hg3.block b hb.2.2.lt hb.2.1
  have hnew : ∀ b, KG B V (.slice A D q) b → some b ≠ (Value.slice (some ⟨g, 0, none⟩) (n + 1) cap).ownBlock := fun b hb e => by
    rcases hg' with h | h
    · exact hb.2.1 (e.trans h.symm)
    · injection e with e
      have := hb.2.2.lt
      dsimp only at e
      omega
  have hV : Vals (KG B ((((w3.setCell ⟨g, n * 3, none⟩ (.int .i64 k)).setCell ⟨g, n * 3 + 1, none⟩ (.int .i64 m)).setCell ⟨g, n * 3 + 2, none⟩ s3)) (.slice (some ⟨g, 0, none⟩) (n + 1) cap)) ((((w3.setCell ⟨g, n * 3, none⟩ (.int .i64 k)).setCell ⟨g, n * 3 + 1, none⟩ (.int .i64 m)).setCell ⟨g, n * 3 + 2, none⟩ s3)) (d0 ++ [.mk k m kids]) (xs ++ [.int .i64 k, .int .i64 m, s3]) := by
    refine Vals.append (vals_step h0 hkeep hnew) ?_
    rw [Vals]
    exact ⟨_, [], rfl, hk, hm, kids_step2 hk3 hkeep hnew, by rw [Vals]⟩
  have hlen : n + 1 = (d0 ++ [VT.mk k m kids]).length := by rw [List.length_append, hn]; rfl
  refine ⟨⟨Rdr.done_ hB hh hr hoo (fun k hk => ⟨Typ.own hdd hk, (hdd.lt k hk).1⟩) (by rw [← hlen]; exact o2) hV hg3, ?_⟩, ⟨cell_of_row w3 rb 2 _ _ _ hrb, by unfold World.frozen?; rw [hrb]; simp⟩, hgrb, ⟨c0, c1, c2⟩, fun i => hown.frozenAt i⟩
  exact (((((hbB.grown hg2 (by have := ht.lt; omega) (fun k hk => (hdd.lt k hk).1)).setCell (p := ⟨g, n * 3, none⟩) hgB _).setCell (p := ⟨g, n * 3 + 1, none⟩) hgB _).setCell (p := ⟨g, n * 3 + 2, none⟩) hgB _).setCell (p := ⟨rb, 2, none⟩) hB _)
/-- an array or a record is opened -/
theorem push_open {B rb : Nat} {s : List UInt8} {o : List Part} {d : List VT} {w V w3 : World} {vr vo vd vo' : Value} {vs : List Value} (p : Part) (mv : Int) (hB : B ≤ rb) (hh : V.heap[rb]? = some (.cells #[vr, vo, vd] 44 (0, 0)))
    (hr : Bts (· < B) V s vr) (ho : V.ownsRow B 63 3 vo o.length (opnV o)) (hd : V.ownsRow B 24 3 vd d.length vs) (hv : Vals (KG B V vd) V d vs) (hbB : Below B w V)
    (h1 : w3.ownsRow B 63 3 vo' (o.length + 1) (opnV o ++ [.int .i64 p.1, .int .i64 mv, .int .i64 (p.2.2 : Int)])) (hg : V.grownBy w3 vo.ownBlock) :
    (mv = (p.2.1 : Int) → Rdr B rb s (p :: o) d (w3.setCell ⟨rb, 1, none⟩ vo')) ∧ Below B w (w3.setCell ⟨rb, 1, none⟩ vo') ∧ w3.cell? ⟨rb, 1, none⟩ = some vo ∧ w3.frozen? ⟨rb, 1, none⟩ = false := by
  have ht : Typ V 44 rb := ⟨_, _, hh⟩
  have hs1 : ∀ k, k < V.heap.size → (∀ j, vo.ownBlock = some j → k ≠ j) → w3.heap[k]? = V.heap[k]? := fun k hk hn => hg.block k hk (fun e => hn k e.symm rfl)
  have hrb := hs1 rb ht.lt (fun j hj => ht.ne (Typ.own ho hj) (by decide))
  have ht1 : Typ w3 44 rb := ⟨_, _, hrb.trans hh⟩
  have hd1 : w3.ownsRow B 24 3 vd d.length vs := own_step hd fun k hk => hs1 k (Typ.own hd hk).lt (fun j hj => (Typ.own hd hk).ne (Typ.own ho hj) (by decide))
  have hv1 : Vals (KG B w3 vd) w3 d vs := vals_step hv (fun b hb => hs1 b hb.2.2.lt (fun j hj => hb.2.2.ne (Typ.own ho hj) (by decide))) (fun b hb => hb.2.1)
  have hr1 : Bts (· < B) w3 s vr := bts_low hr fun k hk hk2 => hs1 k hk2 fun j hj => by have := (ho.lt j hj).1; omega
  refine ⟨fun hmv => ⟨hB, vr, vo', vd, vs, by rw [set_heap_at _ _ _ _ _ _ _ (hrb.trans hh)]; rfl, bts_low hr1 fun k hk _ => set_same _ _ _ _ _ (by omega), ?_, own_step hd1 fun k hk => set_same _ _ _ _ _ ((Typ.own hd1 hk).ne ht1 (by decide)), ?_⟩, ?_, cell_of_row w3 rb 1 _ _ _ (hrb.trans hh), by unfold World.frozen?; rw [hrb.trans hh]; simp⟩
  · have := own_step h1 (w' := w3.setCell ⟨rb, 1, none⟩ vo') fun k hk => set_same _ _ _ _ _ ((Typ.own h1 hk).ne ht1 (by decide))
    rw [List.length_cons, opnV_cons, ← hmv]; exact this
  · exact vals_step hv1 (fun b hb => set_same _ _ _ _ _ (hb.2.2.ne ht1 (by decide))) (fun b hb => hb.2.1)
  · exact (hbB.grown hg (by have := ht.lt; omega) (fun k hk => (ho.lt k hk).1)).setCell (p := ⟨rb, 1, none⟩) hB _
theorem infoPart : (Try.prog.info? 63).map (fun i => (i.zero, i.size, i.bytes)) = some (some (.agg #[.int .i64 0, .int .i64 0, .int .i64 0]), 3, 24) := by kernel_rfl
end Go.Proofs.Ytnjcapenkoemlaa.vt.ce

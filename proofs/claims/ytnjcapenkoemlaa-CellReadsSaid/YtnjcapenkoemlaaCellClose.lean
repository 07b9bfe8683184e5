/- The reader closes the arrays and records that end. -/
import Derived.Test.YtnjcapenkoemlaaCellMade
import Derived.Deep.LoopGhost
import Derived.Deep.RegionHeld3
import Derived.StillTailTactics
import Derived.Deep.DeepCutAuto
import Derived.Deep.AppendLies
import Derived.Deep.RegionLaw
namespace Go.Proofs.Ytnjcapenkoemlaa.vt.ce
open Go.RowKit mem vt

/-- the last of what is open, as it lies -/
theorem last_cells {B rb : Nat} {s : List UInt8} {o : List Part} {p : Part} {d : List VT} {w : World} (h : Rdr B rb s (p :: o) d w) :
    ∃ g c, w.cell? ⟨rb, 1, none⟩ = some (.slice (some ⟨g, 0, none⟩) (o.length + 1) c) ∧ w.cell? ⟨g, o.length * 3, none⟩ = some (.int .i64 p.1) ∧ w.cell? ⟨g, o.length * 3 + 1, none⟩ = some (.int .i64 (p.2.1 : Int)) ∧ w.cell? ⟨g, o.length * 3 + 2, none⟩ = some (.int .i64 (p.2.2 : Int)) ∧ B ≤ g ∧ g < w.heap.size ∧ g ≠ rb ∧ rb < w.heap.size := by
  obtain ⟨hBr, vr, vo, vd, vs, hh, hr, ho, _, _⟩ := h
  have ho2 := ho.2
  rcases ho2 with ⟨_, hn⟩ | ⟨g, c, cur, hv, hb, hg, _⟩
  · simp at hn
  · subst hv
    have hlo := opnV_len o
    rw [opnV_cons] at ho
    refine ⟨g, c, by rw [← List.length_cons (a := p)]; exact cell_of_row w rb 1 _ _ _ hh, ?_, ?_, ?_, hb, (Array.getElem?_eq_some_iff.1 hg).1, ?_, (Array.getElem?_eq_some_iff.1 hh).1⟩
    · rw [ho.cellAt _ (by rw [List.length_cons]; omega), List.getElem?_append_right (by omega), show o.length * 3 - (opnV o).length = 0 by omega]; rfl
    · rw [ho.cellAt _ (by rw [List.length_cons]; omega), List.getElem?_append_right (by omega), show o.length * 3 + 1 - (opnV o).length = 1 by omega]; rfl
    · rw [ho.cellAt _ (by rw [List.length_cons]; omega), List.getElem?_append_right (by omega), show o.length * 3 + 2 - (opnV o).length = 2 by omega]; rfl
    · exact (show Typ w 63 g from ⟨_, _, hg⟩).ne (show Typ w 44 rb from ⟨_, _, hh⟩) (by decide)
/-- the last of what is open is gone -/
theorem Rdr.pop {B rb : Nat} {s : List UInt8} {o : List Part} {p : Part} {d : List VT} {w : World} (h : Rdr B rb s (p :: o) d w) :
    ∃ g c, w.cell? ⟨rb, 1, none⟩ = some (.slice (some ⟨g, 0, none⟩) (o.length + 1) c) ∧ w.frozen? ⟨rb, 1, none⟩ = false ∧ o.length + 1 ≤ c ∧ Hid (Rdr B rb s o d (w.drew.setCell ⟨rb, 1, none⟩ (.slice (some ⟨g, 0, none⟩) o.length c))) := by
  have h' := h.below ((Below.refl w.heap.size w).drew)
  obtain ⟨hBr, vr, vo, vd, vs, hh, hr, ho, hd, hv⟩ := h'
  have hl : (p :: o).length = o.length + 1 := by simp
  rcases ho.2 with ⟨_, hn⟩ | ⟨g, c, cur, hs, hb, hg, hnc, hcm, hcs, htake⟩
  · simp at hn
  · subst hs
    have hh' : w.heap[rb]? = _ := hh
    have ht : Typ w.drew 44 rb := ⟨_, _, hh⟩
    refine ⟨g, c, by rw [← hl]; exact cell_of_row w rb 1 _ _ _ hh', by unfold World.frozen?; rw [hh']; simp, by omega, Lib.hid ⟨hBr, vr, .slice (some ⟨g, 0, none⟩) o.length c, vd, vs, by rw [set_heap_at _ _ _ _ _ _ _ hh]; rfl, bts_low hr fun k hk _ => set_same _ _ _ _ _ (by omega), ?_, own_step hd fun k hk => set_same _ _ _ _ _ ((Typ.own hd hk).ne ht (by decide)), vals_step hv (fun b hb => set_same _ _ _ _ _ (hb.2.2.ne ht (by decide))) (fun b hb => hb.2.1)⟩⟩
    have hgr : g ≠ rb := (show Typ w.drew 63 g from ⟨_, _, hg⟩).ne ht (by decide)
    have hlo := opnV_len o
    refine ⟨hlo, .inr ⟨g, c, cur, rfl, hb, (set_same _ _ _ _ _ hgr).trans hg, by omega, hcm, hcs, ?_⟩⟩
    rw [opnV_cons] at htake
    have e1 : (cur.toList.take ((p :: o).length * 3)).take (o.length * 3) = cur.toList.take (o.length * 3) := by rw [List.take_take, Nat.min_eq_left (by rw [hl]; omega)]
    rw [← e1, htake, List.take_append_of_le_length (by omega), List.take_of_length_le (by omega)]
/-- a value put in the place of the last ones -/
theorem put_done {B rb g cap n q D : Nat} {A : Option Addr} {s : List UInt8} {o : List Part} {d0 kids : List VT} {k m : Int} {w V w3 : World} {vr vo s3 : Value} {vs xs : List Value} (hB : B ≤ rb) (hn : n = d0.length) (hk : I64 k) (hm : I64 m)
    (hh : V.heap[rb]? = some (.cells #[vr, vo, .slice A D q] 44 (0, 0))) (hr : Bts (· < B) V s vr) (hoo : V.ownsRow B 63 3 vo o.length (opnV o)) (hdd : V.ownsRow B 24 3 (.slice A D q) D vs)
    (h0 : Vals (KG B V (.slice A D q)) V d0 xs) (hk3 : Kids (KG B V (.slice A D q)) V kids s3) (hbB : Below B w V)
    (hown : w3.ownsRow B 24 3 (.slice (some ⟨g, 0, none⟩) (n + 1) cap) (n + 1) (xs ++ [.int .i64 k, .int .i64 m, s3])) (hg2 : V.grownBy w3 (Value.slice A n q).ownBlock) (hat : (Value.slice A n q).ownBlock = some g ∨ g = V.heap.size) :
    (Rdr B rb s o (d0 ++ [.mk k m kids]) (w3.setCell ⟨rb, 2, none⟩ (.slice (some ⟨g, 0, none⟩) (n + 1) cap)) ∧ Below B w (w3.setCell ⟨rb, 2, none⟩ (.slice (some ⟨g, 0, none⟩) (n + 1) cap))) ∧
    (w3.cell? ⟨rb, 2, none⟩ = some (.slice A D q) ∧ w3.frozen? ⟨rb, 2, none⟩ = false) ∧ ∀ L, Typ V 63 L → w3.heap[L]? = V.heap[L]? := by
  have eA : (Value.slice A n q).ownBlock = (Value.slice A D q).ownBlock := by cases A <;> rfl
  rw [eA] at hg2 hat
  have ht : Typ V 44 rb := ⟨_, _, hh⟩
  have hrb : w3.heap[rb]? = _ := (hg2.block rb ht.lt (fun e => (Typ.own hdd e.symm).ne ht (by decide) rfl)).trans hh
  have hkeep : ∀ b, KG B V (.slice A D q) b → w3.heap[b]? = V.heap[b]? := fun b hb => hg2.block b hb.2.2.lt hb.2.1
  have hne : ∀ b, KG B V (.slice A D q) b → some b ≠ (Value.slice (some ⟨g, 0, none⟩) (n + 1) cap).ownBlock := fun b hb e => by
    rcases hat with h | h
    · exact hb.2.1 (e.trans h.symm)
    · injection e with e
      have := hb.2.2.lt
      dsimp only at e
      omega
  have hlen : n + 1 = (d0 ++ [VT.mk k m kids]).length := by rw [List.length_append, hn]; rfl
  have hV : Vals (KG B w3 (.slice (some ⟨g, 0, none⟩) (n + 1) cap)) w3 (d0 ++ [.mk k m kids]) (xs ++ [.int .i64 k, .int .i64 m, s3]) := by
    refine Vals.append (vals_step h0 hkeep hne) ?_
    rw [Vals]
    exact ⟨s3, [], rfl, hk, hm, kids_step2 hk3 hkeep hne, by rw [Vals]⟩
  refine ⟨⟨Rdr.done_ hB hh hr hoo (fun k hk => ⟨Typ.own hdd hk, (hdd.lt k hk).1⟩) (by rw [← hlen]; exact hown) hV hg2, ?_⟩, ⟨cell_of_row w3 rb 2 _ _ _ hrb, by unfold World.frozen?; rw [hrb]; simp⟩, fun L hL => hg2.block L hL.lt (fun e => (Typ.own hdd e.symm).ne hL (by decide) rfl)⟩
  exact (hbB.grown hg2 (by have := ht.lt; omega) (fun k hk => (hdd.lt k hk).1)).setCell (p := ⟨rb, 2, none⟩) hB _
/-- what is done, cut at the first of the kids: told in later worlds -/
theorem close_at {B rb L n : Nat} {s : List UInt8} {k : Int} {m : Nat} {o2 : List Part} {d0 d1 : List VT} {w W : World} {vr : Value} {A Ao : Option Addr} {q co : Nat} {vs : List Value} (hB : B ≤ rb) (hn : n = d0.length) (hk : k = 2 ∨ k = 3)
    (hh : W.heap[rb]? = some (.cells #[vr, .slice Ao ((k, m, n) :: o2).length co, .slice A (d0 ++ d1).length q] 44 (0, 0)))
    (hr : Bts (· < B) W s vr) (hoo : W.ownsRow B 63 3 (.slice Ao ((k, m, n) :: o2).length co) ((k, m, n) :: o2).length (opnV ((k, m, n) :: o2))) (hdd : W.ownsRow B 24 3 (.slice A (d0 ++ d1).length q) (d0 ++ d1).length vs) (hv : Vals (KG B W (.slice A (d0 ++ d1).length q)) W (d0 ++ d1) vs) (hbB : Below B w W)
    (hL : W.heap[L]? = some (.cells #[.int .i64 k, .int .i64 m, .int .i64 n] 63 (0, 0))) :
    ∃ xs, n ≤ q ∧ (∀ w4, Below W.heap.size W w4 → w4.ownsRow B 24 3 (.slice A n q) n xs ∧ B ≤ w4.heap.size) ∧
      ∀ (w4 V w3 : World) (s3 : Value) (g cap : Nat), Below W.heap.size W w4 → Own W.heap.size (KG B W (.slice A (d0 ++ d1).length q)) w4 d1 s3 → Below w4.heap.size w4 V →
        w3.ownsRow B 24 3 (.slice (some ⟨g, 0, none⟩) (n + 1) cap) (n + 1) (xs ++ [.int .i64 k, .int .i64 0, s3]) → V.grownBy w3 (Value.slice A n q).ownBlock → ((Value.slice A n q).ownBlock = some g ∨ g = V.heap.size) →
        (Rdr B rb s ((k, m, n) :: o2) (d0 ++ [.mk k 0 d1]) (w3.setCell ⟨rb, 2, none⟩ (.slice (some ⟨g, 0, none⟩) (n + 1) cap)) ∧ Below B w (w3.setCell ⟨rb, 2, none⟩ (.slice (some ⟨g, 0, none⟩) (n + 1) cap))) ∧
        (w3.cell? ⟨rb, 2, none⟩ = some (.slice A (d0 ++ d1).length q) ∧ w3.frozen? ⟨rb, 2, none⟩ = false) ∧ (w3.cell? ⟨L, 0, none⟩ = some (.int .i64 k) ∧ w3.cell? ⟨L, 1, none⟩ = some (.int .i64 m) ∧ w3.cell? ⟨L, 2, none⟩ = some (.int .i64 n)) := by
  obtain ⟨hnq, xs, h0, hown0⟩ := done_head hdd hv
  rw [← hn] at hnq hown0
  have hz := (Array.getElem?_eq_some_iff.1 hh).1
  have hlz := (Array.getElem?_eq_some_iff.1 hL).1
  refine ⟨xs, hnq, fun w4 h4 => ⟨own_below hown0 h4, by have := h4.size; omega⟩, fun w4 V w3 s3 g cap h4 ho4 hV h1 h2 h3 => ?_⟩
  have hWV := h4.trans (hV.mono h4.size)
  have hk3 : Kids (KG B w4 (.slice A (d0 ++ d1).length q)) w4 d1 s3 := by
    refine made_kids ho4 (by omega) (fun g hg => (hdd.lt g hg).2) (fun b hb' => ⟨hb'.1, hb'.2.1, ?_⟩)
    obtain ⟨cs, fr, hc⟩ := hb'.2.2
    exact ⟨cs, fr, (h4.block b (Array.getElem?_eq_some_iff.1 hc).1).trans hc⟩
  have hkV := kids_step hk3 (fun b hb => hV.block b hb.2.2.lt)
  have hLV : V.heap[L]? = _ := (hWV.block L hlz).trans hL
  obtain ⟨p1, p2, p3⟩ := put_done hB hn (by rcases hk with rfl | rfl <;> (unfold I64; omega)) (by unfold I64; omega : I64 0) ((hWV.block rb hz).trans hh) (bts_low hr fun b _ hb => hWV.block b hb) (own_below hoo hWV) (own_below hdd hWV) (vals_step h0 (fun b h => hWV.block b h.2.2.lt) (fun b h => h.2.1)) hkV (hbB.trans (hWV.mono (by omega))) h1 h2 h3
  have hL3 := (p3 L ⟨_, _, hLV⟩).trans hLV
  exact ⟨p1, p2, cell_of_row w3 L 0 _ _ _ hL3, cell_of_row w3 L 1 _ _ _ hL3, cell_of_row w3 L 2 _ _ _ hL3⟩
theorem closeO_stop {k : Int} {m n : Nat} {o : List Part} {d : List VT} (h : d.length - n < m) : closeO ((k, m, n) :: o) d = ((k, m, n) :: o, d) := by rw [closeO, if_pos h]
theorem closeO_go {k : Int} {m n : Nat} {o : List Part} {d : List VT} (h : ¬ d.length - n < m) : closeO ((k, m, n) :: o) d = closeO o (d.take n ++ [.mk k 0 (d.drop n)]) := by rw [closeO, if_neg h]
def CutC (B rb : Nat) (s : List UInt8) (k : Int) (m n : Nat) (o2 : List Part) (d0 d1 : List VT) (w wx : World) : Prop :=
  Rdr B rb s ((k, m, n) :: o2) (d0 ++ [.mk k 0 d1]) wx ∧ Below B w wx
def CloseRel (B rb : Nat) (s : List UInt8) (o : List Part) (d : List VT) (w : World) (g : Nat) (wr : World) : Prop :=
  ∃ (o' : List Part) (d' : List VT), Hid (closeO o' d' = closeO o d) ∧ Hid (okO o' d'.length) ∧ Rdr B rb s o' d' wr ∧ Below B w wr ∧ o'.length = g ∧ o'.length + d'.length ≤ 1048576
def ClosePost (B rb : Nat) (s : List UInt8) (o : List Part) (d : List VT) (w : World) (e : Ending) (w' : World) : Prop :=
  e = .returned (.tuple #[]) ∧ Rdr B rb s (closeO o d).1 (closeO o d).2 w' ∧ Below B w w'
set_option maxHeartbeats 2000000 in
set_option maxRecDepth 100000 in
theorem close_any (B rb : Nat) (s : List UInt8) (o : List Part) (d : List VT) (w : World) (h : Rdr B rb s o d w) (hok : okO o d.length) (hl : o.length + d.length ≤ 1048576) :
    Calls Try.prog 28 #[.pointer (some ⟨rb, 0, none⟩)] w (ClosePost B rb s o d w) := by
  have HR := Lib.hid h
  have hBr := h.lt.1
  have HOK := Lib.hid hok
  clear h hok
  go_enter Try.func28, Try.ntmps28
  go_wp2_with (fail)
  go_loopg [] o.length (fun g wr => CloseRel B rb s o d w g wr)
  case atStart => unfold CloseRel; exact ⟨o, d, Lib.hid rfl, HOK, HR.out, Below.refl _ _, rfl, hl⟩
  case round =>
    unfold CloseRel at hrel
    obtain ⟨o', d', HE, HK, hr, hb, hg, hl'⟩ := hrel
    have HRR := Lib.hid hr
    have HB := Lib.hid hb
    cases o' with
    | nil =>
      obtain ⟨vr, Ao, co, A, q, vs, hh, _⟩ := hr.parts
      have c1 : wr.cell? ⟨rb, 1, none⟩ = some _ := cell_of_row wr rb 1 _ _ _ hh
      have HE2 : Hid (closeO o d = ([], d')) := Lib.hid (by rw [← HE.out]; rfl)
      rw [List.length_nil] at c1
      clear hr hb hh
      go_wp2_with (fail)
      go_end0
      exact ⟨rfl, by rw [HE2.out]; exact HRR.out, HB.out⟩
    | cons p o2 =>
      obtain ⟨k, m, n⟩ := p
      obtain ⟨g, c, c1, e0, e1, e2, hBg, hgl, hgr, hrl⟩ := last_cells hr
      obtain ⟨M, hM⟩ : ∃ M, M = o2.length := ⟨_, rfl⟩
      have HM := Lib.hid hM
      rw [← hM] at c1 e0 e1 e2
      rw [List.length_cons] at hg hl'
      have hMl : M ≤ 1048576 := by omega
      have x3 : IntKind.i64.wrap ((M : Int) + 1 - 1) = M := by rw [IntWalk.i64_in _ (by omega)]; omega
      have x4 : IntKind.i64.wrap (M : Int) = M := IntWalk.i64_in _ (by omega)
      have x5 : (0 : Int) ≤ M := by omega
      have x6 : (M : Int) < M + 1 := by omega
      dsimp only at e0 e1 e2
      clear hr hb hM
      go_wp2_with (fail)
      go_region_held3 (fun w' => w'.cell? ⟨rb, 1, none⟩ = some (.slice (some ⟨g, 0, none⟩) (M + 1) c) ∧ w'.cell? ⟨g, M * 3, none⟩ = some (.int .i64 k) ∧ w'.cell? ⟨g, M * 3 + 1, none⟩ = some (.int .i64 m) ∧ w'.cell? ⟨g, M * 3 + 2, none⟩ = some (.int .i64 n)) (first | go_keep) (first | fail)
      clear x3 x4 x5 x6 e0 e1 e2 c1
      obtain ⟨W1, hW1⟩ : ∃ W1, W1 = (wr.alloc (.cells #[.int .i64 k, .int .i64 m, .int .i64 n] 63)).drew := ⟨_, rfl⟩
      have hbW : Below wr.heap.size wr W1 := by rw [hW1]; exact ((Below.refl _ _).alloc (Nat.le_refl _) _).drew
      have HR1 := Lib.hid (HRR.out.below hbW)
      have l0 : W1.cell? ⟨wr.heap.size, 0, none⟩ = some (.int .i64 k) := by rw [hW1]; simp
      have l1 : W1.cell? ⟨wr.heap.size, 1, none⟩ = some (.int .i64 m) := by rw [hW1]; simp
      have l2 : W1.cell? ⟨wr.heap.size, 2, none⟩ = some (.int .i64 n) := by rw [hW1]; simp
      have lz : wr.heap.size < W1.heap.size := by rw [hW1]; simp
      have HLB : Hid (W1.heap[wr.heap.size]? = some (.cells #[.int .i64 k, .int .i64 m, .int .i64 n] 63 (0, 0))) := Lib.hid (by rw [hW1]; exact heap_alloc_new wr _)
      have HBW := Lib.hid (HB.out.trans (hbW.mono (by omega)))
      try rw [← hW1]
      obtain ⟨vr, Ao, co, A, q, vs, hh, hrd, hoo, hdd, hv⟩ := HR1.out.parts
      have c2 : W1.cell? ⟨rb, 2, none⟩ = some (.slice A d'.length q) := cell_of_row W1 rb 2 _ _ _ hh
      have hnd : n ≤ d'.length := HK.out.1.2.2
      obtain ⟨D, hD⟩ : ∃ D, D = d'.length := ⟨_, rfl⟩
      have hsf := fun w => slice_from n D (by omega) A q w
      rw [← hD] at c2
      have HD := Lib.hid hD
      have hrz : rb < W1.heap.size := (Array.getElem?_eq_some_iff.1 hh).1
      obtain ⟨L, hL⟩ : ∃ L, L = wr.heap.size := ⟨_, rfl⟩
      rw [← hL] at l0 l1 l2 lz HLB ⊢
      have HL := Lib.hid hL
      have HHB := Lib.hid hh
      clear hh hrd hoo hdd hv hW1 hbW hD hL
      go_wp2_with (fail)
      go_region_held3 (fun w' => w'.cell? ⟨L, 0, none⟩ = some (.int .i64 k) ∧ w'.cell? ⟨L, 1, none⟩ = some (.int .i64 m) ∧ w'.cell? ⟨L, 2, none⟩ = some (.int .i64 n) ∧ w'.cell? ⟨rb, 2, none⟩ = some (.slice A D q)) (first | go_keep) (first | fail)
      obtain ⟨W2, hW2⟩ : ∃ W2, W2 = W1.drew := ⟨_, rfl⟩
      have hb2 : Below W1.heap.size W1 W2 := by rw [hW2]; exact (Below.refl _ _).drew
      have hL2 : W2.heap[L]? = some (.cells #[.int .i64 k, .int .i64 m, .int .i64 n] 63 (0, 0)) := (hb2.block L lz).trans HLB.out
      rw [← hW2]
      clear hsf
      obtain ⟨d0, d1, hd01, hn, hnm⟩ : ∃ d0 d1, d' = d0 ++ d1 ∧ n = d0.length ∧ d0 = d'.take n ∧ d1 = d'.drop n := ⟨d'.take n, d'.drop n, (List.take_append_drop n d').symm, by rw [List.length_take]; omega, rfl, rfl⟩
      have HD01 := Lib.hid hnm
      have hR2 := HR1.out.below hb2
      obtain ⟨hBr', vr', vo', vd', vs', hh2, hr2, hoo2, hdd2, hv2⟩ := hR2
      have e2 : W2.heap[rb]? = _ := (hb2.block rb hrz).trans HHB.out
      rw [hh2] at e2
      injection e2 with e2
      injection e2 with e2
      injection e2 with e2
      injection e2 with e3 e2
      injection e2 with e4 e2
      injection e2 with e5 _
      subst e3 e4 e5
      have HB2 := Lib.hid (HBW.out.trans (hb2.mono (by omega)))
      have HR2 := Lib.hid (HR1.out.below hb2)
      rw [hd01] at hh2 hdd2 hv2
      obtain ⟨A', q', hsl, hs1, hs2, hs3⟩ := done_sl hdd2 hv2
      have hSL : Slc (KG B W2 (.slice A (d0 ++ d1).length q)) W2 d1 A' q' := ⟨hs1, hs2, hs3⟩
      obtain ⟨xs, hnq, HC, HP⟩ := close_at (w := w) hBr hn HK.out.1.1 hh2 hr2 hoo2 hdd2 hv2 HB2.out hL2
      obtain ⟨A1, hA1⟩ : ∃ A1, A1 = (if q = n then A else Option.map (fun x => x.add (n * 3)) A) := ⟨_, rfl⟩
      obtain ⟨q1, hq1⟩ : ∃ q1, q1 = q - n := ⟨_, rfl⟩
      obtain ⟨N1, hN1⟩ : ∃ N1, N1 = D - n := ⟨_, rfl⟩
      rw [← hA1, ← hq1, ← hN1]
      have hDl : (d0 ++ d1).length = D := by rw [HD.out, hd01]
      rw [← hn, hDl] at hsl
      unfold sliced at hsl
      rw [← hA1, ← hq1, ← hN1] at hsl
      injection hsl with y1 y2 y3
      rw [← y1, ← y3] at hSL
      have MK := Lib.hid (fun w' (hb : Below W2.heap.size W2 w') => cmade_sl k HK.out.1.1 d1 A1 q1 w' (hSL.below hb) (by rw [hd01, List.length_append] at hl'; omega))
      rw [← y2] at MK
      rw [hDl] at HP MK
      have HC := Lib.hid HC
      have HP := Lib.hid HP
      have l0 : W2.cell? ⟨L, 0, none⟩ = some (.int .i64 k) := cell_of_row W2 L 0 _ _ _ hL2
      have l1 : W2.cell? ⟨L, 1, none⟩ = some (.int .i64 m) := cell_of_row W2 L 1 _ _ _ hL2
      have l2 : W2.cell? ⟨L, 2, none⟩ = some (.int .i64 n) := cell_of_row W2 L 2 _ _ _ hL2
      have c2 : W2.cell? ⟨rb, 2, none⟩ = some (.slice A D q) := (hb2.cell (p := ⟨rb, 2, none⟩) hrz).trans c2
      have lz2 : L < W2.heap.size := (Array.getElem?_eq_some_iff.1 hL2).1
      have rz2 : rb < W2.heap.size := (Array.getElem?_eq_some_iff.1 hh2).1
      have HN1 : Hid (N1 = d'.length - n) := Lib.hid (by rw [hN1, HD.out])
      have HNE : Hid (n = d0.length) := Lib.hid hn
      have HY2 := Lib.hid y2
      have n1 : L ≠ rb := fun e => by
        have h1 := hL2
        rw [e, hh2] at h1
        injection h1 with h1
        injection h1 with _ h1 _
        exact absurd h1 (by decide)
      have hDd : Hid (d' = d0 ++ d1) := Lib.hid hd01
      have hqD : (n : Int) ≤ q := by omega
      have h0n : (0 : Int) ≤ n := by omega
      clear hA1 hq1 hN1 hDl hSL y1 y2 y3 hh2 hr2 hoo2 hdd2 hv2 hs1 hs2 hs3 hd01 hn hnm hW2 hb2 lz hrz hnd hL2 hBr'
      by_cases hlt : N1 < m
      · have hlt' : (N1 : Int) < m := by omega
        have HCO : Hid (closeO o d = ((k, m, n) :: o2, d')) := Lib.hid (by rw [← HE.out, closeO_stop (by have := HN1.out; omega)])
        go_wp2_with (fail)
        refine bodyPost_ret (results_none rfl _ _ _) rfl ?_
        exact ⟨rfl, by rw [HCO.out]; exact HR2.out, HB2.out⟩
      · have hlt' : ¬ (N1 : Int) < m := by omega
        have HCO : Hid (closeO o2 (d0 ++ [.mk k 0 d1]) = closeO o d) := Lib.hid (by rw [← HE.out, closeO_go (by have := HN1.out; omega), ← HD01.out.1, ← HD01.out.2])
        have hsl2 := fun w => slice_to n D A q (by omega) w
        have h1c : Hid (∀ A3 c3, ∀ u ∈ [Value.int .i64 k, .int .i64 0, .slice A3 N1 c3], u.oneCell' = true) := Lib.hid (by intro A3 c3 u hu; simp at hu; rcases hu with rfl | rfl | rfl <;> rfl)
        obtain ⟨i0, hi, hz0, hz1, hz2⟩ := info_parts infoV
        have hnl : n ≤ 1048576 := by have := HNE.out; have := congrArg List.length hDd.out; rw [List.length_append] at this; omega
        go_wp2_with (fail)
        go_cut [] (fun wx => CutC B rb s k m n o2 d0 d1 w wx)
        case first =>
          go_region_law
          (first
            | (refine step_append_lies _ (by rfl) _ _ 22 (by rfl) B 24 i0 (.agg #[.int .i64 0, .int .i64 0, .slice none 0 0]) 3 40 Try.underlying22 hi hz0 hz1 hz2 (by rfl) (by decide) (.slice A n q) n xs (by rfl) (HO4.out.1.alloc _) ⟨w4.heap.size, 0, none⟩ 1 1 [.int .i64 k, .int .i64 0, .slice A3 N1 c3] (by rfl) (by rfl) (World.news_of_block (heap_alloc_new w4 _)) (h1c.out _ _) (by decide) (by unfold maxLen; omega) (by omega) (by simp; omega) (w4.heap.size + 1) (by simp) ?_; intro g3 cap3 w3 hown hgrow hat hlt3; obtain ⟨p1, ⟨p2, p3⟩, p4, p5, p6⟩ := HP.out w4 _ w3 _ g3 cap3 HBZ.out HOW.out ((Below.refl _ _).alloc (Nat.le_refl _) _) hown hgrow (hat.imp id fun h => by rw [h]; simp); have HP1 := Lib.hid p1; clear p1 hown hgrow hat)
            | (go_simp; go_at_call 37; refine (MK.out _ ((Below.refl _ _).drew)).mono ?_; intro e w4 hmp; obtain ⟨A3, c3, he, hb4, ho4⟩ := made_form hmp; rw [← HY2.out] at he ho4; subst he; have hbZ : Below W2.heap.size W2 w4 := ((Below.refl W2.heap.size W2).drew).trans hb4; have k0 := (hbZ.cell (p := ⟨L, 0, none⟩) lz2).trans l0; have k1 := (hbZ.cell (p := ⟨L, 1, none⟩) lz2).trans l1; have k2 := (hbZ.cell (p := ⟨L, 2, none⟩) lz2).trans l2; have kc := (hbZ.cell (p := ⟨rb, 2, none⟩) rz2).trans c2; have hz4 := hbZ.size; have z5 : L < w4.heap.size := (by omega); have z6 : rb < w4.heap.size := (by omega); have n4 : L ≠ w4.heap.size := (by omega); have n5 : rb ≠ w4.heap.size := (by omega); have HBZ := Lib.hid hbZ; have HOW := Lib.hid ho4; have HO4 := Lib.hid (HC.out w4 hbZ); have hB4 := HO4.out.2; clear hmp hb4 ho4 hbZ))
          all_goals
            go_wp2_with (fail)
            go_meet
            exact ⟨HP1.out.1, HP1.out.2⟩
        case rest =>
          obtain ⟨hr10, hb10⟩ := hcut
          obtain ⟨g2, cc, b1, f1, hcc, HPOP⟩ := hr10.pop
          have hz10 := hr10.lt.2
          rw [← HM.out] at b1 hcc HPOP
          have HB10 := Lib.hid hb10
          have HOK2 : Hid (okO o2 (d0 ++ [VT.mk k 0 d1]).length) := Lib.hid (okO_more HK.out.2 (by have := HNE.out; rw [List.length_append, List.length_singleton]; omega))
          have HLL : Hid (o2.length + (d0 ++ [VT.mk k 0 d1]).length ≤ 1048576) := Lib.hid (by have h1 := congrArg List.length hDd.out; have := HNE.out; have := HM.out; have := HK.out.1.2.2; rw [List.length_append] at h1 ⊢; rw [List.length_singleton]; omega)
          have j1 : IntKind.i64.wrap ((M : Int) + 1 - 1) = M := by rw [IntWalk.i64_in _ (by omega)]; omega
          have j2 : IntKind.i64.wrap (M : Int) = M := IntWalk.i64_in _ (by omega)
          have j3 : (0 : Int) ≤ M := by omega
          have j4 : (M : Int) ≤ cc := by omega
          have j5 : ¬ cc = 0 := by omega
          clear hr10 hb10
          go_wp2_with (fail)
          go_still_tail 12, (by kernel_rfl)
          change wpList _ _ _ _ _ wc.drew
          go_wp2
          go_roundg M
          case measure => have := HM.out; omega
          case rel =>
            unfold CloseRel
            exact ⟨o2, _, HCO, HOK2, HPOP.out, HB10.out.drew.setCell (p := ⟨rb, 1, none⟩) hBr _, HM.out.symm, HLL.out⟩
end Go.Proofs.Ytnjcapenkoemlaa.vt.ce

/- The reader closes what was opened last. -/
import Derived.Test.YtjbdfckanabepaaDoorValSlice
import Derived.Deep.RegionHeld3
import Derived.StillTailTactics
import Derived.Deep.DeepCutAuto
import Derived.Deep.AppendLies
import Derived.Deep.RegionLaw
namespace Go.Proofs.YtjbdfckanabepaaDoor.vt
open Go.RowKit mem

theorem closes_none (B rb : Nat) (s : List UInt8) (d : List VT) (w : World) (h : Rdr B rb s [] d w) :
    Calls Tryd.prog 40 #[.pointer (some ⟨rb, 0, none⟩)] w fun e w' => e = .returned (.bool false) ∧ w = w' := by
  obtain ⟨hBr, vo, vd, vs, hh, ho, _, _⟩ := h
  obtain ⟨A1, c1', rfl⟩ := own_form ho
  have c1 : w.cell? ⟨rb, 1, none⟩ = some _ := cell_of_row w rb 1 _ _ _ hh
  simp only [List.length_nil] at c1
  clear hh ho
  go_enter Tryd.func40, Tryd.ntmps40
  go_wp2
  go_ret
  exact ⟨rfl, rfl⟩
theorem opnV_last (o : List (Int × Nat)) (p : Int × Nat) : (opnV (o ++ [p]))[o.length * 2]? = some (.int .i64 p.1) ∧ (opnV (o ++ [p]))[o.length * 2 + 1]? = some (.int .i64 p.2) := by
  have h := pairV_at ((o ++ [p]).map fun p => (p.1, (p.2 : Int))) o.length (by simp)
  unfold opnV
  simpa using h
/-- the last of what is open, as it lies -/
theorem last_cells {B rb : Nat} {s : List UInt8} {o : List (Int × Nat)} {p : Int × Nat} {d : List VT} {w : World} (h : Rdr B rb s (o ++ [p]) d w) :
    ∃ g c, w.cell? ⟨rb, 1, none⟩ = some (.slice (some ⟨g, 0, none⟩) (o.length + 1) c) ∧ w.cell? ⟨g, o.length * 2, none⟩ = some (.int .i64 p.1) ∧ w.cell? ⟨g, o.length * 2 + 1, none⟩ = some (.int .i64 p.2) ∧ B ≤ g ∧ g < w.heap.size ∧ g ≠ rb ∧ rb < w.heap.size := by
  obtain ⟨hBr, vo, vd, vs, hh, ho, _, _⟩ := h
  have ho2 := ho.2
  rcases ho2 with ⟨_, hn⟩ | ⟨g, c, cur, hv, hb, hg, _⟩
  · simp at hn
  · subst hv
    have hl : (o ++ [p]).length = o.length + 1 := by simp
    obtain ⟨e1, e2⟩ := opnV_last o p
    refine ⟨g, c, by rw [← hl]; exact cell_of_row w rb 1 _ _ _ hh, ?_, ?_, hb, (Array.getElem?_eq_some_iff.1 hg).1, ?_, (Array.getElem?_eq_some_iff.1 hh).1⟩
    · rw [ho.cellAt _ (by rw [hl]; omega)]; exact e1
    · rw [ho.cellAt _ (by rw [hl]; omega)]; exact e2
    · exact (show Typ w 69 g from ⟨_, _, hg⟩).ne (show Typ w 52 rb from ⟨_, _, hh⟩) (by decide)
def StillRdr (B rb : Nat) (s : List UInt8) (o : List (Int × Nat)) (d : List VT) (w : World) (e : Ending) (w' : World) : Prop := e = .returned (.bool false) ∧ Rdr B rb s o d w' ∧ Below B w w'
set_option maxHeartbeats 1000000 in
set_option maxRecDepth 100000 in
theorem closes_no (B rb : Nat) (s : List UInt8) (o : List (Int × Nat)) (k : Int) (n : Nat) (d : List VT) (w : World) (h : Rdr B rb s (o ++ [(k, n)]) d w) (hk : k = 2 ∨ k = 3) (hs : Lib.hasPrefix s [clB k] = false) (ho : o.length ≤ 1048576) :
    Calls Tryd.prog 40 #[.pointer (some ⟨rb, 0, none⟩)] w (StillRdr B rb s (o ++ [(k, n)]) d w) := by
  obtain ⟨g, c, c1, e1, e2, hBg, hgl, hgr, hrl⟩ := last_cells h
  have HR := Lib.hid h
  have hBr := h.1
  obtain ⟨M, hM⟩ : ∃ M, M = o.length := ⟨_, rfl⟩
  rw [← hM] at c1 e1 e2 ho
  have c0 := h.cell0.1
  have e3 : IntKind.i64.wrap ((M : Int) + 1 - 1) = M := by rw [IntWalk.i64_in _ (by omega)]; omega
  have e4 : IntKind.i64.wrap (M : Int) = M := IntWalk.i64_in _ (by omega)
  have e5 : (0 : Int) ≤ M := by omega
  have e6 : (M : Int) < M + 1 := by omega
  dsimp only at e1 e2
  clear h hM
  rcases hk with rfl | rfl
  · have HT := Lib.hid (fun w' (hc : w'.cell? ⟨rb, 0, none⟩ = some _) => take_no rb s [clB 2] w' hc hs)
    clear hs
    go_enter Tryd.func40, Tryd.ntmps40
    go_wp2
    go_region_held3 (fun w' => w'.cell? ⟨rb, 1, none⟩ = some (.slice (some ⟨g, 0, none⟩) (M + 1) c) ∧ w'.cell? ⟨g, M * 2, none⟩ = some (.int .i64 2) ∧ w'.cell? ⟨g, M * 2 + 1, none⟩ = some (.int .i64 n)) (first | go_keep) (first | fail)
    clear e3 e4 e5 e6 e1 e2 c1
    go_wp2_with (fail)
    refine (HT.out _ (Rdr.cell0 (HR.out.below (((Below.refl _ _).alloc (Nat.le_refl _) _).drew))).1).mono ?_
    rintro e w' ⟨rfl, rfl⟩
    go_wp2_with (fail)
    go_ret
    exact ⟨rfl, HR.out.below (((Below.refl _ _).alloc (Nat.le_refl _) _).drew), (((Below.refl _ _).alloc (by omega) _).drew)⟩
  · have HT := Lib.hid (fun w' (hc : w'.cell? ⟨rb, 0, none⟩ = some _) => take_no rb s [clB 3] w' hc hs)
    clear hs
    go_enter Tryd.func40, Tryd.ntmps40
    go_wp2
    go_region_held3 (fun w' => w'.cell? ⟨rb, 1, none⟩ = some (.slice (some ⟨g, 0, none⟩) (M + 1) c) ∧ w'.cell? ⟨g, M * 2, none⟩ = some (.int .i64 3) ∧ w'.cell? ⟨g, M * 2 + 1, none⟩ = some (.int .i64 n)) (first | go_keep) (first | fail)
    clear e3 e4 e5 e6 e1 e2 c1
    go_wp2_with (fail)
    refine (HT.out _ (Rdr.cell0 (HR.out.below (((Below.refl _ _).alloc (Nat.le_refl _) _).drew))).1).mono ?_
    rintro e w' ⟨rfl, rfl⟩
    go_wp2_with (fail)
    go_ret
    exact ⟨rfl, HR.out.below (((Below.refl _ _).alloc (Nat.le_refl _) _).drew), (((Below.refl _ _).alloc (by omega) _).drew)⟩
/-- the kids of what was made, beside the row of what is done -/
theorem made_kids {B L : Nat} {G : Nat → Prop} {w : World} {vd s3 : Value} {d1 : List VT} (h : Own L G w d1 s3) (hB : B ≤ L) (hvd : ∀ g, vd.ownBlock = some g → g < L) (hG : ∀ b, G b → KG B w vd b) : Kids (KG B w vd) w d1 s3 := by
  obtain ⟨vs, hv, ho⟩ := h
  rcases ho.2 with ⟨hs, hn⟩ | ⟨g, cap, cur, hs, hb, hg, hnc, hcm, hcs, htake⟩
  · exact ⟨none, 0, by rw [hs, hn], ⟨by omega, fun _ => rfl⟩, fun h => by omega⟩
  · subst hs
    refine ⟨_, cap, rfl, ⟨by unfold maxLen at hcm; omega, fun h => by cases h⟩, fun hp => ⟨g, 0, rfl, ⟨by omega, fun e => by have := hvd g e.symm; omega, ⟨_, _, hg⟩⟩, vals_row (hv.mono hG) fun j u hu => ?_⟩⟩
    have hj := (List.getElem?_eq_some_iff.1 hu).1
    rw [Nat.zero_add, ho.cellAt _ (by have := ho.1; omega), hu]
/-- the reader's parts, and what was made of the last ones -/
def Made9 (B rb : Nat) (r : List UInt8) (o : List (Int × Nat)) (d d1 : List VT) (w : World) (s3 : Value) : Prop :=
  B ≤ rb ∧ ∃ vo vd vs, w.heap[rb]? = some (.cells #[.string ⟨r.toArray⟩, vo, vd] 52 (0, 0)) ∧ w.ownsRow B 69 2 vo o.length (opnV o) ∧ w.ownsRow B 24 3 vd d.length vs ∧ Vals (KG B w vd) w d vs ∧ Kids (KG B w vd) w d1 s3
theorem kids_step {B : Nat} {w w' : World} {vd : Value} {d : List VT} {s : Value} (h : Kids (KG B w vd) w d s) (hk : ∀ b, KG B w vd b → w'.heap[b]? = w.heap[b]?) : Kids (KG B w' vd) w' d s :=
  h.carry fun b o u hb hc => ⟨⟨hb.1, hb.2.1, by obtain ⟨cs, fr, h⟩ := hb.2.2; exact ⟨cs, fr, (hk b hb).trans h⟩⟩, (World.cell?_of_block (w := w) (w' := w') (a := ⟨b, o, none⟩) (hk b hb)).trans hc⟩
theorem Made9.step {B rb b5 : Nat} {r : List UInt8} {o : List (Int × Nat)} {d d1 : List VT} {w w' : World} {s3 : Value} (h : Made9 B rb r o d d1 w s3) (hk : ∀ k, k < w.heap.size → k ≠ b5 → w'.heap[k]? = w.heap[k]?) (h5 : b5 ≠ rb) (ho : ∀ cs fr, w.heap[b5]? ≠ some (.cells cs 69 fr)) (hd : ∀ vo vd v1, w.heap[rb]? = some (.cells #[v1, vo, vd] 52 (0, 0)) → vd.ownBlock ≠ some b5 ∧ ¬ KG B w vd b5) : Made9 B rb r o d d1 w' s3 := by
  obtain ⟨hB, vo, vd, vs, hh, h1, h2, h3, h4⟩ := h
  obtain ⟨e1, e2⟩ := hd vo vd _ hh
  have hkg : ∀ b, KG B w vd b → w'.heap[b]? = w.heap[b]? := fun b hb => hk b hb.2.2.lt (fun e => e2 (e ▸ hb))
  refine ⟨hB, vo, vd, vs, (hk rb (Array.getElem?_eq_some_iff.1 hh).1 (Ne.symm h5)).trans hh, own_step h1 fun k hk' => hk k (Typ.own h1 hk').lt (fun e => ?_), own_step h2 fun k hk' => hk k (Typ.own h2 hk').lt (fun e => e1 (e ▸ hk')), vals_step h3 hkg (fun b hb => hb.2.1), kids_step h4 hkg⟩
  subst e
  obtain ⟨cs, fr, hx⟩ := Typ.own h1 hk'
  exact ho cs fr hx
/-- behind what is made of the last ones -/
def Cut9 (B rb L : Nat) (r : List UInt8) (o : List (Int × Nat)) (k : Int) (d0 d1 : List VT) (w : World) (s5 : Value) (wx : World) : Prop :=
  ∃ (b5 : Nat) (s3 : Value), s5 = .pointer (some ⟨b5, 0, none⟩) ∧ b5 < wx.heap.size ∧ wx.cell? ⟨b5, 0, none⟩ = some (.int .i64 k) ∧ wx.cell? ⟨b5, 1, none⟩ = some (.int .i64 0) ∧ wx.cell? ⟨b5, 2, none⟩ = some s3 ∧
    Made9 B rb r (o ++ [(k, d0.length)]) (d0 ++ d1) d1 wx s3 ∧ wx.cell? ⟨L, 1, none⟩ = some (.int .i64 (d0.length : Nat)) ∧ L < wx.heap.size ∧ Below B w wx
/-- the last of what is open is gone -/
theorem Rdr.pop {B rb : Nat} {s : List UInt8} {o : List (Int × Nat)} {p : Int × Nat} {d : List VT} {w : World} (h : Rdr B rb s (o ++ [p]) d w) :
    ∃ g c, w.cell? ⟨rb, 1, none⟩ = some (.slice (some ⟨g, 0, none⟩) (o.length + 1) c) ∧ w.frozen? ⟨rb, 1, none⟩ = false ∧ o.length + 1 ≤ c ∧ Hid (Rdr B rb s o d (w.drew.setCell ⟨rb, 1, none⟩ (.slice (some ⟨g, 0, none⟩) o.length c))) := by
  have h' := h.below ((Below.refl w.heap.size w).drew)
  obtain ⟨hBr, vo, vd, vs, hh, ho, hd, hv⟩ := h'
  have hl : (o ++ [p]).length = o.length + 1 := by simp
  rcases ho.2 with ⟨_, hn⟩ | ⟨g, c, cur, hs, hb, hg, hnc, hcm, hcs, htake⟩
  · simp at hn
  · subst hs
    have hh' : w.heap[rb]? = _ := hh
    have ht : Typ w.drew 52 rb := ⟨_, _, hh⟩
    refine ⟨g, c, by rw [← hl]; exact cell_of_row w rb 1 _ _ _ hh', by unfold World.frozen?; rw [hh']; simp, by omega, Lib.hid ⟨hBr, .slice (some ⟨g, 0, none⟩) o.length c, vd, vs, by rw [set_heap_at _ _ _ _ _ _ _ hh]; rfl, ?_, own_step hd fun k hk => set_same _ _ _ _ _ ((Typ.own hd hk).ne ht (by decide)), vals_step hv (fun b hb => set_same _ _ _ _ _ (hb.2.2.ne ht (by decide))) (fun b hb => hb.2.1)⟩⟩
    have hgr : g ≠ rb := (show Typ w.drew 69 g from ⟨_, _, hg⟩).ne ht (by decide)
    have e : opnV (o ++ [p]) = opnV o ++ [.int .i64 p.1, .int .i64 p.2] := by unfold opnV; rw [List.map_append, pairV_append]; rfl
    have hlo : (opnV o).length = o.length * 2 := by unfold opnV; rw [pairV_length, List.length_map]
    refine ⟨hlo, .inr ⟨g, c, cur, rfl, hb, (set_same _ _ _ _ _ hgr).trans hg, by omega, hcm, hcs, ?_⟩⟩
    rw [e] at htake
    have e1 : (cur.toList.take ((o ++ [p]).length * 2)).take (o.length * 2) = cur.toList.take (o.length * 2) := by rw [List.take_take, Nat.min_eq_left (by rw [hl]; omega)]
    rw [← e1, htake, List.take_append_of_le_length (by omega), List.take_of_length_le (by omega)]
def Cut10 (B rb : Nat) (r : List UInt8) (o : List (Int × Nat)) (k : Int) (d0 d1 : List VT) (w : World) (wx : World) : Prop :=
  Rdr B rb r (o ++ [(k, d0.length)]) (d0 ++ [.mk k 0 d1]) wx ∧ Below B w wx
theorem kids_step2 {B : Nat} {w w' : World} {vd vd' : Value} {d : List VT} {s : Value} (h : Kids (KG B w vd) w d s) (hk : ∀ b, KG B w vd b → w'.heap[b]? = w.heap[b]?) (hv : ∀ b, KG B w vd b → some b ≠ vd'.ownBlock) : Kids (KG B w' vd') w' d s :=
  h.carry fun b o u hb hc => ⟨⟨hb.1, hv b hb, by obtain ⟨cs, fr, h⟩ := hb.2.2; exact ⟨cs, fr, (hk b hb).trans h⟩⟩, (World.cell?_of_block (w := w) (w' := w') (a := ⟨b, o, none⟩) (hk b hb)).trans hc⟩
/-- a value put in the place of the last ones -/
theorem put_step {B rb g cap n q : Nat} {A : Option Addr} {r : List UInt8} {o : List (Int × Nat)} {d0 d1 D : List VT} {k : Int} {w wc w3 : World} {vo s3 : Value} {vs xs : List Value} {o3 : Obj} (hB : B ≤ rb) (hn : n = d0.length) (hk : I64 k)
    (hh : wc.heap[rb]? = some (.cells #[.string ⟨r.toArray⟩, vo, .slice A D.length q] 52 (0, 0))) (hoo : wc.ownsRow B 69 2 vo o.length (opnV o)) (hdd : wc.ownsRow B 24 3 (.slice A D.length q) D.length vs)
    (h0 : Vals (KG B wc (.slice A D.length q)) wc d0 xs) (hk3 : Kids (KG B wc (.slice A D.length q)) wc d1 s3) (hbB : Below B w wc)
    (hown : w3.ownsRow B 24 3 (.slice (some ⟨g, 0, none⟩) (n + 1) cap) (n + 1) (xs ++ [.int .i64 k, .int .i64 0, s3])) (hgrow : ((wc.alloc o3).drew).grownBy w3 (Value.slice A n q).ownBlock) (hat : (Value.slice A n q).ownBlock = some g ∨ g = wc.heap.size + 1) :
    Rdr B rb r o (d0 ++ [.mk k 0 d1]) (w3.setCell ⟨rb, 2, none⟩ (.slice (some ⟨g, 0, none⟩) (n + 1) cap)) ∧ Below B w (w3.setCell ⟨rb, 2, none⟩ (.slice (some ⟨g, 0, none⟩) (n + 1) cap)) ∧ w3.cell? ⟨rb, 2, none⟩ = some (.slice A D.length q) ∧ w3.frozen? ⟨rb, 2, none⟩ = false := by
  have eA : (Value.slice A n q).ownBlock = (Value.slice A D.length q).ownBlock := by cases A <;> rfl
  rw [eA] at hgrow hat
  have hg2 : wc.grownBy w3 (Value.slice A D.length q).ownBlock := grown_alloc hgrow
  have hkeep : ∀ b, KG B wc (.slice A D.length q) b → w3.heap[b]? = wc.heap[b]? := fun b hb => hg2.block b hb.2.2.lt hb.2.1
  have hne : ∀ b, KG B wc (.slice A D.length q) b → some b ≠ (Value.slice (some ⟨g, 0, none⟩) (n + 1) cap).ownBlock := fun b hb e => by
    rcases hat with h | h
    · exact hb.2.1 (e.trans h.symm)
    · injection e with e
      have := hb.2.2.lt
      dsimp only at e
      omega
  have hlen : n + 1 = (d0 ++ [VT.mk k 0 d1]).length := by rw [List.length_append, hn]; rfl
  have hV : Vals (KG B w3 (.slice (some ⟨g, 0, none⟩) (n + 1) cap)) w3 (d0 ++ [.mk k 0 d1]) (xs ++ [.int .i64 k, .int .i64 0, s3]) := by
    refine Vals.append (vals_step h0 hkeep hne) ?_
    rw [Vals]
    exact ⟨s3, [], rfl, hk, by unfold I64; show _ ≤ (0 : Int) ∧ (0 : Int) ≤ _; omega, kids_step2 hk3 hkeep hne, by rw [Vals]⟩
  have ht : Typ wc 52 rb := ⟨_, _, hh⟩
  have hrb : w3.heap[rb]? = _ := (hg2.block rb ht.lt (fun e => (Typ.own hdd e.symm).ne ht (by decide) rfl)).trans hh
  refine ⟨Rdr.done_ hB hh hoo (fun k hk => Typ.own hdd hk) (by rw [← hlen]; exact hown) hV hg2, ?_, cell_of_row w3 rb 2 _ _ _ hrb, by unfold World.frozen?; rw [hrb]; simp⟩
  exact (hbB.grown hg2 (by have := ht.lt; omega) (fun k hk => (hdd.lt k hk).1)).setCell (p := ⟨rb, 2, none⟩) hB _
/-- the cut behind what was made, at a world in which it lies so -/
theorem cut9_gen {B rb L L' n b5 : Nat} {r : List UInt8} {o : List (Int × Nat)} {k : Int} {d0 d1 : List VT} {w w2 wx : World} {vo vd s3 : Value} {vs : List Value} (hB : B ≤ rb) (hN : n = d0.length)
    (hP : w2.heap[rb]? = some (.cells #[.string ⟨r.toArray⟩, vo, vd] 52 (0, 0)) ∧ w2.ownsRow B 69 2 vo (o ++ [(k, d0.length)]).length (opnV (o ++ [(k, d0.length)])) ∧ w2.ownsRow B 24 3 vd (d0 ++ d1).length vs ∧ Vals (KG B w2 vd) w2 (d0 ++ d1) vs)
    (hbx : Below w2.heap.size w2 wx) (h5x : wx.heap[b5]? = some (.cells #[.int .i64 k, .int .i64 0, s3] 24 (0, 0)))
    (hOx : Own L' (KG B w2 vd) wx d1 s3) (hL : w2.heap.size ≤ L') (hBz : B ≤ w2.heap.size) (l1 : w2.cell? ⟨L, 1, none⟩ = some (.int .i64 n)) (lz : L < w2.heap.size) (hbB : Below B w w2) :
    Cut9 B rb L r o k d0 d1 w (.pointer (some ⟨b5, 0, none⟩)) wx := by
  obtain ⟨hh, hoo, hdd, hv⟩ := hP
  refine ⟨b5, s3, rfl, (Array.getElem?_eq_some_iff.1 h5x).1, cell_of_row wx _ 0 _ _ _ h5x, cell_of_row wx _ 1 _ _ _ h5x, cell_of_row wx _ 2 _ _ _ h5x, ⟨hB, vo, vd, vs, (hbx.block rb (Array.getElem?_eq_some_iff.1 hh).1).trans hh, own_below hoo hbx, own_below hdd hbx, vals_step hv (fun b h => hbx.block b h.2.2.lt) (fun b h => h.2.1), ?_⟩, ?_, ?_, hbB.trans (hbx.mono hBz)⟩
  · refine made_kids hOx (by omega) (fun g hg => by have := (hdd.lt g hg).2; omega) (fun b hb' => ⟨hb'.1, hb'.2.1, ?_⟩)
    obtain ⟨cs, fr, hc⟩ := hb'.2.2
    exact ⟨cs, fr, (hbx.block b (Array.getElem?_eq_some_iff.1 hc).1).trans hc⟩
  · rw [← hN]; exact (hbx.cell (p := ⟨L, 1, none⟩) lz).trans l1
  · have := hbx.size; omega
theorem cut9_mk {B rb L L' n : Nat} {r : List UInt8} {o : List (Int × Nat)} {k : Int} {d0 d1 : List VT} {w w2 w3 : World} {vo vd s3 : Value} {vs : List Value} {G : Nat → Prop} (hB : B ≤ rb) (hN : n = d0.length)
    (hP : w2.heap[rb]? = some (.cells #[.string ⟨r.toArray⟩, vo, vd] 52 (0, 0)) ∧ w2.ownsRow B 69 2 vo (o ++ [(k, d0.length)]).length (opnV (o ++ [(k, d0.length)])) ∧ w2.ownsRow B 24 3 vd (d0 ++ d1).length vs ∧ Vals (KG B w2 vd) w2 (d0 ++ d1) vs)
    (hb : Below w2.heap.size w2 w3) (h5 : w3.heap[w2.heap.size]? = some (.cells #[.int .i64 0, .int .i64 0, .slice none 0 0] 24 (0, 0)))
    (hO : Own L' G w3 d1 s3) (hG : ∀ b, G b → KG B w2 vd b) (hL : w2.heap.size + 1 ≤ L') (hBz : B ≤ w2.heap.size) (l1 : w2.cell? ⟨L, 1, none⟩ = some (.int .i64 n)) (lz : L < w2.heap.size) (hbB : Below B w w2) :
    Cut9 B rb L r o k d0 d1 w (.pointer (some ⟨w2.heap.size, 0, none⟩)) (((w3.setCell ⟨w2.heap.size, 0, none⟩ (.int .i64 k)).setCell ⟨w2.heap.size, 1, none⟩ (.int .i64 0)).setCell ⟨w2.heap.size, 2, none⟩ s3) :=
  cut9_gen hB hN hP (below_told (x := .int .i64 k) (y := .int .i64 0) (z := s3) hb (Nat.le_refl w2.heap.size))
    (set_heap_at _ _ 2 _ _ _ s3 (set_heap_at _ _ 1 _ _ _ (.int .i64 0) (set_heap_at _ _ 0 _ _ _ (.int .i64 k) h5)))
    (own_told (x := .int .i64 k) (y := .int .i64 0) (z := s3) (hO.mono (Nat.le_refl _) hG) (b := w2.heap.size) (by omega) (fun c hc => by have := hc.2.2.lt; omega)) (by omega) hBz l1 lz hbB
/-- the same where the new value's place is laid behind its list -/
theorem cut9_mk2 {B rb L L' n : Nat} {r : List UInt8} {o : List (Int × Nat)} {k : Int} {d0 d1 : List VT} {w w2 w3 : World} {vo vd s3 : Value} {vs : List Value} {G : Nat → Prop} (hB : B ≤ rb) (hN : n = d0.length)
    (hP : w2.heap[rb]? = some (.cells #[.string ⟨r.toArray⟩, vo, vd] 52 (0, 0)) ∧ w2.ownsRow B 69 2 vo (o ++ [(k, d0.length)]).length (opnV (o ++ [(k, d0.length)])) ∧ w2.ownsRow B 24 3 vd (d0 ++ d1).length vs ∧ Vals (KG B w2 vd) w2 (d0 ++ d1) vs)
    (hb : Below w2.heap.size w2 w3)
    (hO : Own L' G w3 d1 s3) (hG : ∀ b, G b → KG B w2 vd b) (hL : w2.heap.size ≤ L') (hBz : B ≤ w2.heap.size) (l1 : w2.cell? ⟨L, 1, none⟩ = some (.int .i64 n)) (lz : L < w2.heap.size) (hbB : Below B w w2) :
    Cut9 B rb L r o k d0 d1 w (.pointer (some ⟨w3.heap.size, 0, none⟩)) (w3.alloc (.cells #[.int .i64 k, .int .i64 0, s3] 24)) := by
  have h3 : Below w3.heap.size w3 (w3.alloc (.cells #[.int .i64 k, .int .i64 0, s3] 24)) := (Below.refl w3.heap.size w3).alloc (Nat.le_refl _) _
  refine cut9_gen hB hN hP (hb.trans (h3.mono hb.size)) (heap_new w3 _ rfl _) ?_ hL hBz l1 lz hbB
  obtain ⟨vs, hv, ho⟩ := hO.mono (Nat.le_refl _) hG
  exact ⟨vs, hv.keep fun c o hc hlt => h3.cell (p := ⟨c, o, none⟩) hlt, own_below ho h3⟩
end Go.Proofs.YtjbdfckanabepaaDoor.vt

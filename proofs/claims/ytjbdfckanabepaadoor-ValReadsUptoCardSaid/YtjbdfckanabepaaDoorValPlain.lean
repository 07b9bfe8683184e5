/- The reader's numbers and flags. -/
import Derived.Test.YtjbdfckanabepaaDoorValStops
import Derived.Test.YtjbdfckanabepaaDoorValClose
namespace Go.Proofs.YtjbdfckanabepaaDoor.vt
open Go.RowKit mem

theorem ext_list (r : List UInt8) (i j : Nat) : (⟨r.toArray⟩ : ByteArray).extract i j = ⟨((r.drop i).take (j - i)).toArray⟩ := by
  apply ByteArray.ext
  rw [ByteArray.data_extract]
  simp [List.extract]
theorem tw_take (r : List UInt8) (p : UInt8 → Bool) : r.take (r.takeWhile p).length = r.takeWhile p := by
  conv => lhs; arg 2; rw [← List.takeWhile_append_dropWhile (p := p) (l := r)]
  rw [List.take_left]
theorem tw_drop (r : List UInt8) (p : UInt8 → Bool) : r.drop (r.takeWhile p).length = r.dropWhile p := by
  conv => lhs; arg 2; rw [← List.takeWhile_append_dropWhile (p := p) (l := r)]
  rw [List.drop_left]
theorem tw_len (r : List UInt8) (p : UInt8 → Bool) : (r.takeWhile p).length + (r.dropWhile p).length = r.length := by
  rw [← List.length_append, List.takeWhile_append_dropWhile]
theorem laid_high {B B' : Nat} {w : World} (h : whole.Laid B w) (hB : B ≤ B') : whole.Laid B' w := by
  obtain ⟨h1, ⟨t2, p2, h2⟩, t3, p3, h3⟩ := h
  exact ⟨fun w' h => h1 w' (h.mono hB), ⟨t2, p2, fun w' h => h2 w' (h.mono hB)⟩, t3, p3, fun w' h => h3 w' (h.mono hB)⟩
/-- kind, number, and whether it is one -/
def single3 (l : List UInt8) : Int × Int × Bool := if l = txtTrue then (1, 1, true) else if l = txtFalse then (1, 0, true) else (0, (whole.signedS l).1, decide ((whole.signedS l).2 = 0))
def SinglePost (B : Nat) (l : List UInt8) (w : World) (e : Ending) (w' : World) : Prop :=
  e = .returned (.tuple #[.agg #[.int .i64 (single3 l).1, .int .i64 (single3 l).2.1, .slice none 0 0], .bool (single3 l).2.2]) ∧ Below B w w'
theorem single3_F (l : List UInt8) : singleF l = if (single3 l).2.2 = true then some (.mk (single3 l).1 (single3 l).2.1 []) else none := by
  unfold singleF single3
  split
  · rfl
  · split
    · rfl
    · dsimp only
      by_cases h : (whole.signedS l).2 = 0
      · rw [if_pos h, if_pos (decide_eq_true h)]
      · rw [if_neg h, if_neg (by rw [decide_eq_true_eq]; exact h)]
set_option maxHeartbeats 1000000 in
set_option maxRecDepth 100000 in
theorem single_any (B : Nat) (s : ByteArray) (w : World) (hs : s.size ≤ 1048576) (hB : B ≤ w.heap.size) (hL : whole.Laid B w) :
    Calls Tryd.prog 47 #[.string s] w (SinglePost B s.data.toList w) := by
  by_cases h1 : s.data.toList = txtTrue
  · obtain rfl : s = ⟨#[116, 114, 117, 101]⟩ := by cases s; congr 1; exact Array.toList_inj.1 h1
    have HS : Hid (SinglePost B [116, 114, 117, 101] w = SinglePost B txtTrue w) := Lib.hid rfl
    clear h1
    go_enter Tryd.func47, Tryd.ntmps47
    go_wp2_with (fail)
    refine (bool_any true _).mono ?_
    rintro e w1 ⟨rfl, hw⟩
    have hbN : Below (w.heap.size + 1) (w.alloc (.cells #[.int .i64 0, .int .i64 0, .slice none 0 0] 24)) w1 := hw.mono (by simp)
    have m0 : w1.cell? ⟨w.heap.size, 0, none⟩ = some (.int .i64 0) := (cell_since (N := w.heap.size) rfl hbN 0).1
    have m1 : w1.cell? ⟨w.heap.size, 1, none⟩ = some (.int .i64 0) := (cell_since (N := w.heap.size) rfl hbN 1).1
    have m2 : w1.cell? ⟨w.heap.size, 2, none⟩ = some (.slice none 0 0) := (cell_since (N := w.heap.size) rfl hbN 2).1
    have z0 := (cell_since (N := w.heap.size) rfl hbN 0).2
    have z1 := (cell_since (N := w.heap.size) rfl hbN 1).2
    have z2 := (cell_since (N := w.heap.size) rfl hbN 2).2
    have HB : Hid (Below B w w1) := Lib.hid (((Below.refl B w).alloc hB _).trans (hbN.mono (by omega)))
    clear hw hbN
    go_wp2_with (fail)
    rw [HS.out]
    exact bodyPost_ret (v := .tuple #[.agg #[.int .i64 1, .int .i64 1, .slice none 0 0], .bool true]) (by simp [results, Tryd.results47, go_sem, bit, m0, m1, m2, z0, z1, z2]) rfl ⟨rfl, below_told HB.out hB⟩
  · by_cases h2 : s.data.toList = txtFalse
    · obtain rfl : s = ⟨#[102, 97, 108, 115, 101]⟩ := by cases s; congr 1; exact Array.toList_inj.1 h2
      have HS : Hid (SinglePost B [102, 97, 108, 115, 101] w = SinglePost B txtFalse w) := Lib.hid rfl
      clear h1 h2
      go_enter Tryd.func47, Tryd.ntmps47
      go_wp2_with (fail)
      refine (bool_any false _).mono ?_
      rintro e w1 ⟨rfl, hw⟩
      have hbN : Below (w.heap.size + 1) (w.alloc (.cells #[.int .i64 0, .int .i64 0, .slice none 0 0] 24)) w1 := hw.mono (by simp)
      have m0 : w1.cell? ⟨w.heap.size, 0, none⟩ = some (.int .i64 0) := (cell_since (N := w.heap.size) rfl hbN 0).1
      have m1 : w1.cell? ⟨w.heap.size, 1, none⟩ = some (.int .i64 0) := (cell_since (N := w.heap.size) rfl hbN 1).1
      have m2 : w1.cell? ⟨w.heap.size, 2, none⟩ = some (.slice none 0 0) := (cell_since (N := w.heap.size) rfl hbN 2).1
      have z0 := (cell_since (N := w.heap.size) rfl hbN 0).2
      have z1 := (cell_since (N := w.heap.size) rfl hbN 1).2
      have z2 := (cell_since (N := w.heap.size) rfl hbN 2).2
      have HB : Hid (Below B w w1) := Lib.hid (((Below.refl B w).alloc hB _).trans (hbN.mono (by omega)))
      clear hw hbN
      go_wp2_with (fail)
      rw [HS.out]
      exact bodyPost_ret (v := .tuple #[.agg #[.int .i64 1, .int .i64 0, .slice none 0 0], .bool true]) (by simp [results, Tryd.results47, go_sem, bit, m0, m1, m2, z0, z1, z2]) rfl ⟨rfl, below_told HB.out hB⟩
    · have n1 : (s.toList == [116, 114, 117, 101]) = false := beq_eq_false_iff_ne.2 (by rw [Lib.toList_data]; exact h1)
      have n2 : (s.toList == [102, 97, 108, 115, 101]) = false := beq_eq_false_iff_ne.2 (by rw [Lib.toList_data]; exact h2)
      have HS : Hid (single3 s.data.toList = (0, (whole.signedS s.data.toList).1, decide ((whole.signedS s.data.toList).2 = 0))) := Lib.hid (by unfold single3; rw [if_neg h1, if_neg h2])
      clear h1 h2
      go_enter Tryd.func47, Tryd.ntmps47
      go_wp2_with (fail)
      have hb0 : Below B w (w.alloc (.cells #[.int .i64 0, .int .i64 0, .slice none 0 0] 24)) := (Below.refl B w).alloc hB _
      refine (whole.signed_any (w.heap.size + 1) s _ (by omega) (by simp) (laid_high (hL.on hb0) (by omega))).mono ?_
      rintro e w1 ⟨rfl, hb1⟩
      generalize whole.signedS s.data.toList = p at HS ⊢
      obtain ⟨m, q⟩ := p
      dsimp only at HS
      go_wp2_with (fail)
      refine (int_any _ _).mono ?_
      rintro e w2 ⟨rfl, hw2⟩
      have hbN : Below (w.heap.size + 1) (w.alloc (.cells #[.int .i64 0, .int .i64 0, .slice none 0 0] 24)) w2 := hb1.trans (hw2.mono (by have := hb1.size; simp at this; omega))
      have m0 : w2.cell? ⟨w.heap.size, 0, none⟩ = some (.int .i64 0) := (cell_since (N := w.heap.size) rfl hbN 0).1
      have m1 : w2.cell? ⟨w.heap.size, 1, none⟩ = some (.int .i64 0) := (cell_since (N := w.heap.size) rfl hbN 1).1
      have m2 : w2.cell? ⟨w.heap.size, 2, none⟩ = some (.slice none 0 0) := (cell_since (N := w.heap.size) rfl hbN 2).1
      have z0 := (cell_since (N := w.heap.size) rfl hbN 0).2
      have z1 := (cell_since (N := w.heap.size) rfl hbN 1).2
      have z2 := (cell_since (N := w.heap.size) rfl hbN 2).2
      have HB : Hid (Below B w w2) := Lib.hid (hb0.trans (hbN.mono (by omega)))
      clear hb1 hw2 hbN hb0
      go_wp2_with (fail)
      unfold SinglePost
      rw [HS.out]
      refine bodyPost_ret (v := .tuple #[.agg #[.int .i64 0, .int .i64 m, .slice none 0 0], .bool (decide (q = 0))]) ?_ rfl ⟨rfl, below_told HB.out hB⟩
      have hq : (q == 0) = decide (q = 0) := by by_cases h : q = 0 <;> simp [h]
      simp [results, Tryd.results47, go_sem, m0, m1, m2, z0, z1, z2, hq]
def PlainPost (B rb : Nat) (r : List UInt8) (o : List (Int × Nat)) (d : List VT) (w : World) (e : Ending) (w' : World) : Prop :=
  match plainF r with
  | none => e = .returned (.bool false) ∧ Rdr B rb r o d w' ∧ Below B w w'
  | some (r', v) => e = .returned (.bool true) ∧ Rdr B rb r' o (d ++ [v]) w' ∧ Below B w w'
theorem plain_none {B rb : Nat} {r : List UInt8} {o : List (Int × Nat)} {d : List VT} {w w' : World} (hp : plainF r = none) (h : Rdr B rb r o d w') (hb : Below B w w') : PlainPost B rb r o d w (.returned (.bool false)) w' := by
  unfold PlainPost; rw [hp]; exact ⟨rfl, h, hb⟩
theorem plain_some {B rb : Nat} {r r' : List UInt8} {v : VT} {o : List (Int × Nat)} {d : List VT} {w w' : World} (hp : plainF r = some (r', v)) (h : Rdr B rb r' o (d ++ [v]) w') (hb : Below B w w') : PlainPost B rb r o d w (.returned (.bool true)) w' := by
  unfold PlainPost; rw [hp]; exact ⟨rfl, h, hb⟩
theorem set_comm (w : World) {b c : Nat} (h : b ≠ c) (i j : Nat) (u v : Value) : (w.setCell ⟨b, i, none⟩ u).setCell ⟨c, j, none⟩ v = (w.setCell ⟨c, j, none⟩ v).setCell ⟨b, i, none⟩ u := by
  unfold World.setCell
  simp only
  congr 1
  apply Array.ext_getElem?
  intro k
  simp only [Array.getElem?_modify]
  by_cases h1 : b = k
  · subst h1
    simp [Ne.symm h]
  · by_cases h2 : c = k
    · subst h2
      simp [h1]
    · simp [h1, h2]
theorem set_comm3 (w : World) {g rb : Nat} (h : g ≠ rb) (i j k l : Nat) (x y z u : Value) :
    (((w.setCell ⟨rb, l, none⟩ u).setCell ⟨g, i, none⟩ x).setCell ⟨g, j, none⟩ y).setCell ⟨g, k, none⟩ z = (((w.setCell ⟨g, i, none⟩ x).setCell ⟨g, j, none⟩ y).setCell ⟨g, k, none⟩ z).setCell ⟨rb, l, none⟩ u := by
  rw [set_comm w h.symm, set_comm _ h.symm, set_comm _ h.symm]
/-- a block's place in a world that grew -/
theorem grown_set {w w1 : World} {row : Option Nat} {g i : Nat} (h : w.grownBy w1 row) (hg : row = some g ∨ w.heap.size ≤ g) (u : Value) : w.grownBy (w1.setCell ⟨g, i, none⟩ u) row :=
  ⟨h.os, h.tape, h.output, by rw [World.size_setCell]; exact h.size, fun k hk hr => by
    rw [Below.heap_setCell]
    · exact h.block k hk hr
    · intro e
      dsimp only at e
      subst e
      rcases hg with hg | hg
      · exact hr hg.symm
      · omega⟩
/-- a number or a flag is put behind what is done -/
theorem plain_step {B rb vb g cap q : Nat} {A : Option Addr} {r : List UInt8} {o : List (Int × Nat)} {d : List VT} {k m : Int} {V w w3 : World} {vo : Value} {vs : List Value} {o3 : Obj} (hB : B ≤ rb) (hk : I64 k) (hm : I64 m)
    (hh : V.heap[rb]? = some (.cells #[.string ⟨r.toArray⟩, vo, .slice A d.length q] 52 (0, 0))) (hoo : V.ownsRow B 69 2 vo o.length (opnV o)) (hdd : V.ownsRow B 24 3 (.slice A d.length q) d.length vs)
    (hv : Vals (KG B V (.slice A d.length q)) V d vs) (hbB : Below B w V) (hvb : vb < V.heap.size) (hne : some vb ≠ (Value.slice A d.length q).ownBlock)
    (hown : w3.ownsRow B 24 3 (.slice (some ⟨g, 0, none⟩) (d.length + 1) cap) (d.length + 1) (vs ++ [.int .i64 0, .int .i64 0, .slice none 0 0])) (hgrow : ((V.alloc o3).drew).grownBy w3 (Value.slice A d.length q).ownBlock) (hat : (Value.slice A d.length q).ownBlock = some g ∨ g = V.heap.size + 1) :
    (Rdr B rb r o (d ++ [.mk k m []]) ((((w3.setCell ⟨g, d.length * 3, none⟩ (.int .i64 k)).setCell ⟨g, d.length * 3 + 1, none⟩ (.int .i64 m)).setCell ⟨g, d.length * 3 + 2, none⟩ (.slice none 0 0)).setCell ⟨rb, 2, none⟩ (.slice (some ⟨g, 0, none⟩) (d.length + 1) cap)) ∧
      Below B w ((((w3.setCell ⟨g, d.length * 3, none⟩ (.int .i64 k)).setCell ⟨g, d.length * 3 + 1, none⟩ (.int .i64 m)).setCell ⟨g, d.length * 3 + 2, none⟩ (.slice none 0 0)).setCell ⟨rb, 2, none⟩ (.slice (some ⟨g, 0, none⟩) (d.length + 1) cap))) ∧
    (w3.cell? ⟨rb, 2, none⟩ = some (.slice A d.length q) ∧ w3.frozen? ⟨rb, 2, none⟩ = false) ∧ (∀ i, w3.cell? ⟨vb, i, none⟩ = V.cell? ⟨vb, i, none⟩) ∧ g ≠ rb ∧ g ≠ vb ∧
    (w3.cell? ⟨g, d.length * 3, none⟩ = some (.int .i64 0) ∧ w3.cell? ⟨g, d.length * 3 + 1, none⟩ = some (.int .i64 0) ∧ w3.cell? ⟨g, d.length * 3 + 2, none⟩ = some (.slice none 0 0)) ∧ ∀ i, w3.frozen? ⟨g, i, none⟩ = false := by
  have hg2 : V.grownBy w3 (Value.slice A d.length q).ownBlock := grown_alloc hgrow
  have hg' : (Value.slice A d.length q).ownBlock = some g ∨ V.heap.size ≤ g := hat.imp id fun h => by omega
  have hlenv := hv.len
  have ht : Typ V 52 rb := ⟨_, _, hh⟩
  have hrb : w3.heap[rb]? = _ := (hg2.block rb ht.lt (fun e => (Typ.own hdd e.symm).ne ht (by decide) rfl)).trans hh
  have hgrb : g ≠ rb := by
    rintro rfl
    rcases hg' with h | h
    · exact (Typ.own hdd h).ne ht (by decide) rfl
    · have := ht.lt; omega
  have hgvb : g ≠ vb := by
    rintro rfl
    rcases hg' with h | h
    · exact hne h.symm
    · omega
  have hgB : B ≤ g := (hown.lt g rfl).1
  have c0 := hown.cellAt (d.length * 3) (by omega)
  have c1 := hown.cellAt (d.length * 3 + 1) (by omega)
  have c2 := hown.cellAt (d.length * 3 + 2) (by omega)
  rw [List.getElem?_append_right (by omega), show d.length * 3 - vs.length = 0 by omega] at c0
  rw [List.getElem?_append_right (by omega), show d.length * 3 + 1 - vs.length = 1 by omega] at c1
  rw [List.getElem?_append_right (by omega), show d.length * 3 + 2 - vs.length = 2 by omega] at c2
  have o2 := (((hown.stored (d.length * 3) (.int .i64 k)).1.stored (d.length * 3 + 1) (.int .i64 m)).1.stored (d.length * 3 + 2) (.slice none 0 0)).1
  rw [set3 _ _ _ _ _ _ _ _ _ hlenv] at o2
  have hg3 := grown_set (i := d.length * 3 + 2) (grown_set (i := d.length * 3 + 1) (grown_set (i := d.length * 3) hg2 hg' (.int .i64 k)) hg' (.int .i64 m)) hg' (.slice none 0 0)
  have hkeep : ∀ b, KG B V (.slice A d.length q) b → ((((w3.setCell ⟨g, d.length * 3, none⟩ (.int .i64 k)).setCell ⟨g, d.length * 3 + 1, none⟩ (.int .i64 m)).setCell ⟨g, d.length * 3 + 2, none⟩ (.slice none 0 0))).heap[b]? = V.heap[b]? := fun b hb => hg3.block b hb.2.2.lt hb.2.1
  have hnew : ∀ b, KG B V (.slice A d.length q) b → some b ≠ (Value.slice (some ⟨g, 0, none⟩) (d.length + 1) cap).ownBlock := fun b hb e => by
    rcases hg' with h | h
    · exact hb.2.1 (e.trans h.symm)
    · injection e with e
      have := hb.2.2.lt
      dsimp only at e
      omega
  have hV : Vals (KG B ((((w3.setCell ⟨g, d.length * 3, none⟩ (.int .i64 k)).setCell ⟨g, d.length * 3 + 1, none⟩ (.int .i64 m)).setCell ⟨g, d.length * 3 + 2, none⟩ (.slice none 0 0))) (.slice (some ⟨g, 0, none⟩) (d.length + 1) cap)) ((((w3.setCell ⟨g, d.length * 3, none⟩ (.int .i64 k)).setCell ⟨g, d.length * 3 + 1, none⟩ (.int .i64 m)).setCell ⟨g, d.length * 3 + 2, none⟩ (.slice none 0 0))) (d ++ [.mk k m []]) (vs ++ [.int .i64 k, .int .i64 m, .slice none 0 0]) := by
    refine Vals.append (vals_step hv hkeep hnew) ?_
    rw [Vals]
    exact ⟨_, [], rfl, hk, hm, Kids.nil_ _ _, by rw [Vals]⟩
  have hlen : d.length + 1 = (d ++ [VT.mk k m []]).length := by rw [List.length_append]; rfl
  refine ⟨⟨Rdr.done_ hB hh hoo (fun k hk => Typ.own hdd hk) (by rw [← hlen]; exact o2) hV hg3, ?_⟩, ⟨cell_of_row w3 rb 2 _ _ _ hrb, by unfold World.frozen?; rw [hrb]; simp⟩, fun i => World.cell?_of_block (hg2.block vb hvb hne), hgrb, hgvb, ⟨c0, c1, c2⟩, fun i => hown.frozenAt i⟩
  exact (((((hbB.grown hg2 (by have := ht.lt; omega) (fun k hk => (hdd.lt k hk).1)).setCell (p := ⟨g, d.length * 3, none⟩) hgB _).setCell (p := ⟨g, d.length * 3 + 1, none⟩) hgB _).setCell (p := ⟨g, d.length * 3 + 2, none⟩) hgB _).setCell (p := ⟨rb, 2, none⟩) hB _)
set_option maxHeartbeats 1000000 in
set_option maxRecDepth 100000 in
theorem plain_any (B rb : Nat) (r : List UInt8) (o : List (Int × Nat)) (d : List VT) (w : World) (h : Rdr B rb r o d w) (hr : r.length ≤ 1048576) (hd : d.length ≤ 1048576) (hL : whole.Laid B w) :
    Calls Tryd.prog 41 #[.pointer (some ⟨rb, 0, none⟩)] w (PlainPost B rb r o d w) := by
  have c0 := h.cell0.1
  have HR := Lib.hid h
  have hBr := h.1
  have hrz : rb < w.heap.size := by obtain ⟨_, _, _, _, hh, _⟩ := h; exact (Array.getElem?_eq_some_iff.1 hh).1
  clear h
  obtain ⟨n, hn⟩ : ∃ n, n = (r.takeWhile fun c => !isStop c).length := ⟨_, rfl⟩
  go_enter Tryd.func41, Tryd.ntmps41
  go_wp2_with (fail)
  refine (any_stop _ _ (by show r.toArray.size ≤ _; simpa using hr)).mono ?_
  rintro e w1 ⟨rfl, hb1⟩
  have e1 : Lib.indexAny (⟨r.toArray⟩ : ByteArray).data.toList stops = stopI r := indexAny_stop r
  rw [e1]
  clear e1
  have c1 : w1.cell? ⟨rb, 0, none⟩ = some (.string ⟨r.toArray⟩) := (hb1.cell (p := ⟨rb, 0, none⟩) hrz).trans c0
  have HR1 : Hid (Rdr B rb r o d w1) := Lib.hid (HR.out.below hb1)
  have hBz : B ≤ w.heap.size := by omega
  have HB1 : Hid (Below B w w1) := Lib.hid (hb1.mono hBz)
  have HL1 : Hid (whole.Laid B w1) := Lib.hid (hL.on HB1.out)
  have hz1 : rb < w1.heap.size := by have := hb1.size; omega
  clear hb1 c0 HR hL hrz
  have hnle : n ≤ r.length := by have := congrArg List.length (List.takeWhile_append_dropWhile (p := fun c => !isStop c) (l := r)); rw [List.length_append] at this; omega
  have HTK : Hid ((⟨r.toArray⟩ : ByteArray).extract 0 n = ⟨(r.takeWhile fun c => !isStop c).toArray⟩) := Lib.hid (by
    rw [ext_list, Nat.sub_zero, List.drop_zero, hn, tw_take])
  have HDR : Hid ((⟨r.toArray⟩ : ByteArray).extract n r.length = ⟨(r.dropWhile fun c => !isStop c).toArray⟩) := Lib.hid (by
    rw [ext_list, hn, tw_drop, List.take_of_length_le (by rw [← tw_drop, List.length_drop]; omega)])
  have hcase : (stopI r = -1 ∧ r.length = n) ∨ stopI r = n := by
    unfold stopI
    split
    · rename_i h
      left
      have := tw_len r (fun c => !isStop c)
      rw [List.isEmpty_iff.1 h] at this
      exact ⟨rfl, by rw [hn, ← this]; rfl⟩
    · right; rw [hn]
  have HN := Lib.hid hn
  clear hn
  have i0 : (0 : Int) ≤ n := by omega
  have i1 : (n : Int) ≤ r.length := by omega
  rcases hcase with ⟨hs, rfl⟩ | hs
  all_goals
    rw [hs]
    clear hs
    go_wp2_with (fail)
    refine (single_any w1.heap.size _ w1 (by rw [HTK.out]; show Array.size _ ≤ _; rw [List.size_toArray, ← HN.out]; omega) (Nat.le_refl _) (laid_high HL1.out (by omega))).mono ?_
    rintro e w2 ⟨rfl, hb2⟩
    obtain ⟨p, hp⟩ : ∃ p, p = single3 (r.takeWhile fun c => !isStop c) := ⟨_, rfl⟩
    rw [HTK.out, ← hp]
    obtain ⟨k, m, b⟩ := p
    dsimp only
    have HR2 : Hid (Rdr B rb r o d w2) := Lib.hid (HR1.out.below hb2)
    have HB2 : Hid (Below B w w2) := Lib.hid (HB1.out.trans (hb2.mono (by omega)))
    have HS := Lib.hid (single3_F (r.takeWhile fun c => !isStop c))
    rw [← hp] at HS
    dsimp only at HS
    have hz2 : rb < w2.heap.size := by have := hb2.size; omega
    clear hb2 hp c1 HR1 HB1 HL1
    cases b
    · go_wp2_with (fail)
      go_ret
      exact plain_none (by unfold plainF; rw [HS.out]; rfl) (HR2.out.alloc _) (HB2.out.alloc (by omega) _)
    · have hi64 : I64 k ∧ I64 m := by
        have h := (single_ok (HS.out.trans (if_pos (by trivial)))).2.2.1
        rw [fits_mk] at h
        exact h.1
      have c3 : (w2.alloc (.cells #[.int .i64 k, .int .i64 m, .slice none 0 0] 24)).cell? ⟨rb, 0, none⟩ = some (.string ⟨r.toArray⟩) := (HR2.out.alloc _).cell0.1
      have z3 : (w2.alloc (.cells #[.int .i64 k, .int .i64 m, .slice none 0 0] 24)).frozen? ⟨rb, 0, none⟩ = false := (HR2.out.alloc _).cell0.2 0
      go_wp2_with (fail)
      first
        | rw [HDR.out]
        | (have hE : ByteArray.empty = (⟨(r.dropWhile fun c => !isStop c).toArray⟩ : ByteArray) := by
             rw [← HDR.out, ext_list, Nat.sub_self, List.take_zero]; rfl
           rw [hE])
      obtain ⟨V, hV⟩ : ∃ V, V = (w2.setCell ⟨rb, 0, none⟩ (.string ⟨(r.dropWhile fun c => !isStop c).toArray⟩)).alloc (.cells #[.int .i64 k, .int .i64 m, .slice none 0 0] 24) := ⟨_, rfl⟩
      rw [← hV]
      obtain ⟨vb, hvb⟩ : ∃ vb, vb = w2.heap.size := ⟨_, rfl⟩
      rw [← hvb]
      have hrV : Rdr B rb (r.dropWhile fun c => !isStop c) o d V := by rw [hV]; exact HR2.out.rest.alloc _
      have hrW : Rdr B rb (r.dropWhile fun c => !isStop c) o d (w2.setCell ⟨rb, 0, none⟩ (.string ⟨(r.dropWhile fun c => !isStop c).toArray⟩)) := HR2.out.rest
      have hvz : vb < V.heap.size := by rw [hV, hvb]; simp
      have v0 : V.cell? ⟨vb, 0, none⟩ = some (.int .i64 k) := by rw [hV]; exact cell_new _ _ (by rw [hvb]; simp) _ _ _
      have v1 : V.cell? ⟨vb, 1, none⟩ = some (.int .i64 m) := by rw [hV]; exact cell_new _ _ (by rw [hvb]; simp) _ _ _
      have v2 : V.cell? ⟨vb, 2, none⟩ = some (.slice none 0 0) := by rw [hV]; exact cell_new _ _ (by rw [hvb]; simp) _ _ _
      have HBV : Hid (Below B w V) := Lib.hid (by rw [hV]; exact (HB2.out.setCell (p := ⟨rb, 0, none⟩) hBr _).alloc (by rw [World.size_setCell]; omega) _)
      have hrbV : rb < V.heap.size := by rw [hV]; simp; omega
      have hBV : B ≤ V.heap.size := by omega
      obtain ⟨_, vo', vd', vs', hh', hoo', hdd', _⟩ := hrW
      obtain ⟨_, vo, vd, vs, hh, hoo, hdd, hv⟩ := hrV
      have hvd : vd' = vd := by
        have e1 : V.heap[rb]? = some _ := hh
        have e2 := hh'
        rw [hV, Below.heap_alloc _ _ _ (Array.getElem?_eq_some_iff.1 hh').1, e2] at e1
        injection e1 with e1
        injection e1 with e1
        injection e1 with e1
        injection e1 with _ e1
        injection e1 with _ e1
        injection e1 with e1
      subst hvd
      have hne : some vb ≠ vd'.ownBlock := fun e => by
        have := (hdd'.lt vb e.symm).2
        rw [World.size_setCell] at this
        omega
      obtain ⟨A, q, rfl⟩ := own_form hdd
      have c2 : V.cell? ⟨rb, 2, none⟩ = some (.slice A d.length q) := cell_of_row V rb 2 _ _ _ hh
      have f2 : V.frozen? ⟨rb, 2, none⟩ = false := by unfold World.frozen?; rw [hh]; simp
      obtain ⟨D, hD⟩ : ∃ D, D = d.length := ⟨_, rfl⟩
      have HST := Lib.hid (fun (g cap : Nat) w3 o3 => plain_step (g := g) (cap := cap) (w3 := w3) (o3 := o3) hBr hi64.1 hi64.2 hh hoo hdd hv HBV.out hvz hne)
      rw [← hD] at c2 HST hdd
      have HO := Lib.hid hdd
      have HD := Lib.hid hD
      have hDl : D ≤ 1048576 := by omega
      have hDz : (0 : Int) ≤ D := by omega
      have hD1 : (D : Int) < D + 1 := by omega
      obtain ⟨i0', hi, hz0, hz1', hz2'⟩ := info_parts infoV
      have h1c : Hid (∀ u ∈ [Value.int .i64 0, .int .i64 0, .slice none 0 0], u.oneCell' = true) := Lib.hid (by intro u hu; simp at hu; rcases hu with rfl | rfl <;> rfl)
      clear hh hoo hdd hv hh' hoo' hdd' hV hD hvb c3 z3
      go_region_law (first | (refine step_append_lies _ (by rfl) (.tmp 41) (.tmp 44) 22 (by rfl) B 24 i0' (.agg #[.int .i64 0, .int .i64 0, .slice none 0 0]) 3 40 Tryd.underlying22 hi hz0 hz1' hz2' (by rfl) (by decide) (.slice A D q) D vs (by rfl) ((HO.out.alloc _).drew) ⟨V.heap.size, 0, none⟩ 1 1 [.int .i64 0, .int .i64 0, .slice none 0 0] (by rfl) (by rfl) (World.news_of_block (heap_alloc_new V _)) h1c.out (by decide) (by unfold maxLen; omega) (by omega) (by simp; omega) (V.heap.size + 1) (by simp) ?_; intro g cap w3 hown hgrow hat hlt; obtain ⟨p1, ⟨p2, p3⟩, p4, p5, p6, ⟨p7, p8, p9⟩, p10⟩ := HST.out g cap w3 _ hown hgrow hat; have HP1 := Lib.hid p1; have y0 := (p4 0).trans v0; have y1 := (p4 1).trans v1; have y2 := (p4 2).trans v2; have x0 := p10 (D * 3); have x1 := p10 (D * 3 + 1); have x2 := p10 (D * 3 + 2); clear p1 p4 p10 hown hgrow hat))
      all_goals
        go_wp2_with (fail)
        go_ret
        try rw [set_comm3 _ p5]
        exact plain_some (by unfold plainF; rw [HS.out]; rfl) HP1.out.1 HP1.out.2
end Go.Proofs.YtjbdfckanabepaaDoor.vt

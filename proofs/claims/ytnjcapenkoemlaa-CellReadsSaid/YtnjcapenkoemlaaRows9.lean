/- Rows of values of a call's own, beside other blocks: what stays where something else is written; a row cut in two. -/
import Derived.Test.YtnjcapenkoemlaaMine
import Derived.Test.YtnjcapenkoemlaaValClone
namespace Go.Proofs.Ytnjcapenkoemlaa.vt
open Go.RowKit mem

/-- where the kids of what is done may lie -/
def KG (B : Nat) (w : World) (vd : Value) (b : Nat) : Prop := B ≤ b ∧ some b ≠ vd.ownBlock ∧ Typ w 24 b
/-- all but some blocks are as they were -/
theorem vals_step {B : Nat} {w w' : World} {vd vd' : Value} {d : List VT} {vs : List Value} (h : Vals (KG B w vd) w d vs) (hk : ∀ b, KG B w vd b → w'.heap[b]? = w.heap[b]?) (hv : ∀ b, KG B w vd b → some b ≠ vd'.ownBlock) : Vals (KG B w' vd') w' d vs :=
  h.carry fun b o u hb hc => ⟨⟨hb.1, hv b hb, by obtain ⟨cs, fr, h⟩ := hb.2.2; exact ⟨cs, fr, (hk b hb).trans h⟩⟩, (World.cell?_of_block (w := w) (w' := w') (a := ⟨b, o, none⟩) (hk b hb)).trans hc⟩
theorem own_step {w w' : World} {base size n : Nat} {e : TypeId} {v : Value} {xs : List Value} (h : w.ownsRow base e size v n xs) (hk : ∀ k, v.ownBlock = some k → w'.heap[k]? = w.heap[k]?) : w'.ownsRow base e size v n xs := by
  refine ⟨h.1, ?_⟩
  rcases h.2 with h' | ⟨g, cap, cur, hv, hg, hh, r⟩
  · exact .inl h'
  · subst hv; exact .inr ⟨g, cap, cur, rfl, hg, (hk g rfl).trans hh, r⟩
theorem set_same (w : World) (b i k : Nat) (u : Value) (h : k ≠ b) : (w.setCell ⟨b, i, none⟩ u).heap[k]? = w.heap[k]? := Below.heap_setCell w ⟨b, i, none⟩ u k h
theorem set_heap_at (w : World) (b i : Nat) (cs : Array Value) (t : TypeId) (fr : Nat × Nat) (u : Value) (h : w.heap[b]? = some (.cells cs t fr)) : (w.setCell ⟨b, i, none⟩ u).heap[b]? = some (.cells (cs.setIfInBounds i u) t fr) := by
  simp [World.setCell, Array.getElem?_modify, h]
theorem grown_alloc {w w1 : World} {o : Obj} {row : Option Nat} (h : ((w.alloc o).drew).grownBy w1 row) : w.grownBy w1 row :=
  ⟨h.os, h.tape, h.output, Nat.le_trans (by show _ ≤ (w.alloc o).heap.size; simp) h.size, fun k hk hr => (h.block k (by show k < (w.alloc o).heap.size; simp; omega) hr).trans (Below.heap_alloc w o k hk)⟩
/-- the kids of what was made, beside the row of what is done -/
theorem made_kids {B L : Nat} {G : Nat → Prop} {w : World} {vd s3 : Value} {d1 : List VT} (h : Own L G w d1 s3) (hB : B ≤ L) (hvd : ∀ g, vd.ownBlock = some g → g < L) (hG : ∀ b, G b → KG B w vd b) : Kids (KG B w vd) w d1 s3 := by
  obtain ⟨vs, hv, ho⟩ := h
  rcases ho.2 with ⟨hs, hn⟩ | ⟨g, cap, cur, hs, hb, hg, hnc, hcm, hcs, htake⟩
  · exact ⟨none, 0, by rw [hs, hn], ⟨by omega, fun _ => rfl⟩, fun h => by omega⟩
  · subst hs
    refine ⟨_, cap, rfl, ⟨by unfold maxLen at hcm; omega, fun h => by cases h⟩, fun hp => ⟨g, 0, rfl, ⟨by omega, fun e => by have := hvd g e.symm; omega, ⟨_, _, hg⟩⟩, vals_row (hv.mono hG) fun j u hu => ?_⟩⟩
    have hj := (List.getElem?_eq_some_iff.1 hu).1
    rw [Nat.zero_add, ho.cellAt _ (by have := ho.1; omega), hu]
theorem kids_step {B : Nat} {w w' : World} {vd : Value} {d : List VT} {s : Value} (h : Kids (KG B w vd) w d s) (hk : ∀ b, KG B w vd b → w'.heap[b]? = w.heap[b]?) : Kids (KG B w' vd) w' d s :=
  h.carry fun b o u hb hc => ⟨⟨hb.1, hb.2.1, by obtain ⟨cs, fr, h⟩ := hb.2.2; exact ⟨cs, fr, (hk b hb).trans h⟩⟩, (World.cell?_of_block (w := w) (w' := w') (a := ⟨b, o, none⟩) (hk b hb)).trans hc⟩
theorem kids_step2 {B : Nat} {w w' : World} {vd vd' : Value} {d : List VT} {s : Value} (h : Kids (KG B w vd) w d s) (hk : ∀ b, KG B w vd b → w'.heap[b]? = w.heap[b]?) (hv : ∀ b, KG B w vd b → some b ≠ vd'.ownBlock) : Kids (KG B w' vd') w' d s :=
  h.carry fun b o u hb hc => ⟨⟨hb.1, hv b hb, by obtain ⟨cs, fr, h⟩ := hb.2.2; exact ⟨cs, fr, (hk b hb).trans h⟩⟩, (World.cell?_of_block (w := w) (w' := w') (a := ⟨b, o, none⟩) (hk b hb)).trans hc⟩
theorem set_comm (w : World) {b c : Nat} (h : b ≠ c) (i j : Nat) (u v : Value) : (w.setCell ⟨b, i, none⟩ u).setCell ⟨c, j, none⟩ v = (w.setCell ⟨c, j, none⟩ v).setCell ⟨b, i, none⟩ u := by
  unfold World.setCell
  simp only
  congr 1
  apply Array.ext_getElem?
  intro k
  simp only [Array.getElem?_modify]
  by_cases h1 : b = k
  · subst h1
    simp [Ne.symm h]
  · by_cases h2 : c = k
    · subst h2
      simp [h1]
    · simp [h1, h2]
theorem set_comm3 (w : World) {g rb : Nat} (h : g ≠ rb) (i j k l : Nat) (x y z u : Value) :
    (((w.setCell ⟨rb, l, none⟩ u).setCell ⟨g, i, none⟩ x).setCell ⟨g, j, none⟩ y).setCell ⟨g, k, none⟩ z = (((w.setCell ⟨g, i, none⟩ x).setCell ⟨g, j, none⟩ y).setCell ⟨g, k, none⟩ z).setCell ⟨rb, l, none⟩ u := by
  rw [set_comm w h.symm, set_comm _ h.symm, set_comm _ h.symm]
/-- a block's place in a world that grew -/
theorem grown_set {w w1 : World} {row : Option Nat} {g i : Nat} (h : w.grownBy w1 row) (hg : row = some g ∨ w.heap.size ≤ g) (u : Value) : w.grownBy (w1.setCell ⟨g, i, none⟩ u) row :=
  ⟨h.os, h.tape, h.output, by rw [World.size_setCell]; exact h.size, fun k hk hr => by
    rw [Below.heap_setCell]
    · exact h.block k hk hr
    · intro e
      dsimp only at e
      subst e
      rcases hg with hg | hg
      · exact hr hg.symm
      · omega⟩
theorem sizeV (w : World) : (sizeOf (Try.prog.elem 22)).run Try.prog w = .ok 3 w := by kernel_rfl
theorem elemV : Try.prog.underlying 22 = some (.slice (Try.prog.elem 22)) := by kernel_rfl
theorem slice_from (n D : Nat) (hn : n ≤ D) (A : Option Addr) (c : Nat) (w : World) :
    (Instr.slice 22 (.slice A D c) (some (.int .i64 n)) none none).run Try.prog w = .ok (sliced A n D c 3) w := by
  have h := run_slice_l (P := Try.prog) (w := w) 22 A D c elemV .i64 (n : Int) (by omega) (by omega)
  rw [h, sizeV, Int.toNat_natCast]
  rfl
theorem slice_to (n D : Nat) (A : Option Addr) (c : Nat) (hn : n ≤ c) (w : World) :
    (Instr.slice 22 (.slice A D c) none (some (.int .i64 n)) none).run Try.prog w = .ok (.slice A n c) w := by
  have h := run_slice_h (P := Try.prog) (w := w) 22 A D c elemV .i64 (n : Int) (by omega) (by omega)
  rw [h, sizeV, Int.toNat_natCast]
  show Result.ok (Value.slice (if c = 0 then A else A.map (·.add (0 * 3))) (n - 0) (c - 0)) w = _
  have e : (if c = 0 then A else A.map (·.add (0 * 3))) = A := by
    split
    · rfl
    · cases A with
      | none => rfl
      | some a => rfl
  rw [e]
  rfl
theorem sliced_form (A : Option Addr) (n D c : Nat) : ∃ A' c', sliced A n D c 3 = .slice A' (D - n) c' := ⟨_, _, rfl⟩
/-- the row behind so many values -/
theorem done_tail {G : Nat → Prop} {B : Nat} {w : World} {A : Option Addr} {c : Nat} {d0 d1 : List VT} {vs : List Value} (ho : w.ownsRow B 24 3 (.slice A (d0 ++ d1).length c) (d0 ++ d1).length vs) (hv : Vals G w (d0 ++ d1) vs) :
    Kids (fun b => G b ∨ some b = (Value.slice A (d0 ++ d1).length c).ownBlock) w d1 (sliced A d0.length (d0 ++ d1).length c 3) := by
  have hlen : (d0 ++ d1).length - d0.length = d1.length := by simp
  obtain ⟨xs, ys, rfl, h0, h1⟩ := hv.split
  have hx := h0.len
  have hm : d1.length ≤ 9223372036854775807 := by
    rcases ho.2 with ⟨_, hn⟩ | ⟨g, cap, cur, _, _, _, hnc, hcm, _⟩
    · rw [List.length_append] at hn; omega
    · unfold maxLen at hcm; rw [List.length_append] at hnc; omega
  rcases ho.2 with ⟨hs, hn⟩ | ⟨g, cap, cur, hs, hb, hg, hnc, hcm, hcs, htake⟩
  · injection hs with hA _ hc
    subst hA
    subst hc
    have h2 : d1 = [] := List.eq_nil_of_length_eq_zero (by rw [List.length_append] at hn; omega)
    have h3 : d0 = [] := List.eq_nil_of_length_eq_zero (by rw [List.length_append] at hn; omega)
    subst h2
    subst h3
    exact Kids.nil_ _ _
  · injection hs with hA _ hc
    subst hA
    subst hc
    refine ⟨_, _, by unfold sliced; rw [hlen], ⟨hm, fun h => by split at h <;> cases h⟩, fun hp => ?_⟩
    have hne : ¬ c = d0.length := by rw [List.length_append] at hnc; omega
    refine ⟨g, d0.length * 3, by rw [if_neg hne]; show some (Addr.add ⟨g, 0, none⟩ (d0.length * 3)) = _; rw [cells_add, Nat.zero_add], Or.inr rfl, vals_row (h1.mono fun b hb => Or.inl hb) fun j u hu => ?_⟩
    rw [ho.cellAt _ (by
      have := (List.getElem?_eq_some_iff.1 hu).1
      have hy := h1.len
      rw [List.length_append]; omega), List.getElem?_append_right (by omega), ← hu]
    congr 1; omega
/-- .. as made takes it -/
theorem done_sl {G : Nat → Prop} {B : Nat} {w : World} {A : Option Addr} {c : Nat} {d0 d1 : List VT} {vs : List Value} (ho : w.ownsRow B 24 3 (.slice A (d0 ++ d1).length c) (d0 ++ d1).length vs) (hv : Vals G w (d0 ++ d1) vs) :
    ∃ A' c', sliced A d0.length (d0 ++ d1).length c 3 = .slice A' d1.length c' ∧ (A' = none → c' = 0) ∧ (A' = none → d1 = []) ∧ ∀ ad, A' = some ad → ∃ vs, Vals G w d1 vs ∧ ∀ j u, vs[j]? = some u → w.cell? (ad.add j) = some u := by
  have hlen : (d0 ++ d1).length - d0.length = d1.length := by simp
  obtain ⟨xs, ys, rfl, h0, h1⟩ := hv.split
  have hx := h0.len
  rcases ho.2 with ⟨hs, hn⟩ | ⟨g, cap, cur, hs, hb, hg, hnc, hcm, hcs, htake⟩
  · injection hs with hA _ hc
    subst hA
    subst hc
    have h2 : d1 = [] := List.eq_nil_of_length_eq_zero (by rw [List.length_append] at hn; omega)
    have h3 : d0 = [] := List.eq_nil_of_length_eq_zero (by rw [List.length_append] at hn; omega)
    subst h2
    subst h3
    exact ⟨none, 0, rfl, fun _ => rfl, fun _ => rfl, fun ad h => by cases h⟩
  · injection hs with hA _ hc
    subst hA
    subst hc
    refine ⟨if c = d0.length then some ⟨g, 0, none⟩ else (some (⟨g, 0, none⟩ : Addr)).map (·.add (d0.length * 3)), c - d0.length, (by unfold sliced; rw [hlen]), (fun h => by split at h <;> cases h), (fun h => by split at h <;> cases h), (fun ad hA => ⟨ys, h1, fun j u hu => ?_⟩)⟩
    have hy := h1.len
    have hjl := (List.getElem?_eq_some_iff.1 hu).1
    have hne : ¬ c = d0.length := by rw [List.length_append] at hnc; omega
    rw [if_neg hne] at hA
    injection hA with hA
    rw [← hA]
    show w.cell? (((⟨g, 0, none⟩ : Addr).add (d0.length * 3)).add j) = _
    rw [cells_add, cells_add, Nat.zero_add, ho.cellAt _ (by rw [List.length_append]; omega), List.getElem?_append_right (by omega), ← hu]
    congr 1; omega
/-- .. and the row of the values ahead -/
theorem done_head {G : Nat → Prop} {B : Nat} {w : World} {A : Option Addr} {c : Nat} {d0 d1 : List VT} {vs : List Value} (ho : w.ownsRow B 24 3 (.slice A (d0 ++ d1).length c) (d0 ++ d1).length vs) (hv : Vals G w (d0 ++ d1) vs) :
    d0.length ≤ c ∧ ∃ xs, Vals G w d0 xs ∧ w.ownsRow B 24 3 (.slice A d0.length c) d0.length xs := by
  obtain ⟨xs, ys, rfl, h0, h1⟩ := hv.split
  have hx := h0.len
  rcases ho.2 with ⟨hs, hn⟩ | ⟨g, cap, cur, hs, hb, hg, hnc, hcm, hcs, htake⟩
  · injection hs with hA _ hc
    subst hA
    subst hc
    have h3 : d0 = [] := List.eq_nil_of_length_eq_zero (by rw [List.length_append] at hn; omega)
    subst h3
    have : xs = [] := List.eq_nil_of_length_eq_zero (by rw [hx]; rfl)
    subst this
    exact ⟨Nat.le_refl _, [], h0, World.ownsRow_nil _ _ _ _⟩
  · injection hs with hA _ hc
    subst hA
    subst hc
    rw [List.length_append] at hnc htake
    refine ⟨by omega, xs, h0, hx, .inr ⟨g, c, cur, rfl, hb, hg, by omega, hcm, hcs, ?_⟩⟩
    have e1 : (cur.toList.take ((d0.length + d1.length) * 3)).take (d0.length * 3) = cur.toList.take (d0.length * 3) := by rw [List.take_take, Nat.min_eq_left (by omega)]
    rw [← e1, htake, List.take_append_of_le_length (by omega), List.take_of_length_le (by omega)]
end Go.Proofs.Ytnjcapenkoemlaa.vt

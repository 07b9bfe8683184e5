/- The reader of bytes in memory: what is not read yet, what is open, what is done; its next byte. -/
import Derived.Test.YtnjcapenkoemlaaCellParse
import Derived.Test.YtnjcapenkoemlaaCellMem
import Derived.Test.YtnjcapenkoemlaaRows9
namespace Go.Proofs.Ytnjcapenkoemlaa.vt.ce
open Go.RowKit mem vt

def partV (l : List Part) : List Value := l.flatMap fun p => [.int .i64 p.1, .int .i64 (p.2.1 : Int), .int .i64 (p.2.2 : Int)]
def opnV (o : List Part) : List Value := partV o.reverse
theorem opnV_cons (p : Part) (o : List Part) : opnV (p :: o) = opnV o ++ [.int .i64 p.1, .int .i64 (p.2.1 : Int), .int .i64 (p.2.2 : Int)] := by
  unfold opnV partV; rw [List.reverse_cons, List.flatMap_append]; rfl
theorem opnV_len (o : List Part) : (opnV o).length = o.length * 3 := by
  induction o with
  | nil => rfl
  | cons p o ih => rw [opnV_cons, List.length_append, ih, List.length_cons]; simp; omega
/-- the reader -/
def Rdr (B rb : Nat) (s : List UInt8) (o : List Part) (d : List VT) (w : World) : Prop :=
  B ≤ rb ∧ ∃ vr vo vd vs, w.heap[rb]? = some (.cells #[vr, vo, vd] 44 (0, 0)) ∧ Bts (· < B) w s vr ∧ w.ownsRow B 63 3 vo o.length (opnV o) ∧ w.ownsRow B 24 3 vd d.length vs ∧ Vals (KG B w vd) w d vs
theorem bts_low {B : Nat} {w w' : World} {l : List UInt8} {s : Value} (h : Bts (· < B) w l s) (hb : ∀ k, k < B → k < w.heap.size → w'.heap[k]? = w.heap[k]?) : Bts (· < B) w' l s :=
  h.carry fun b o u hlt hc => ⟨hlt, (World.cell?_of_block (w := w) (w' := w') (a := ⟨b, o, none⟩) (hb b hlt (World.block_lt_of_cell? _ _ hc))).trans hc⟩
/-- the reader's block is another one, all else stays -/
theorem Rdr.rest {B rb : Nat} {s s' : List UInt8} {o : List Part} {d : List VT} {w : World} {v : Value} (h : Rdr B rb s o d w) (hv : Bts (· < B) w s' v) : Rdr B rb s' o d (w.setCell ⟨rb, 0, none⟩ v) := by
  obtain ⟨hB, vr, vo, vd, vs, hh, hr, ho, hd, hvs⟩ := h
  have ht : Typ w 44 rb := ⟨_, _, hh⟩
  refine ⟨hB, v, vo, vd, vs, by rw [set_heap_at _ _ _ _ _ _ _ hh]; rfl, bts_low hv fun k hk _ => set_same _ _ _ _ _ (by omega), own_step ho fun k hk => set_same _ _ _ _ _ ((Typ.own ho hk).ne ht (by decide)), own_step hd fun k hk => set_same _ _ _ _ _ ((Typ.own hd hk).ne ht (by decide)), ?_⟩
  exact vals_step hvs (fun b hb => set_same _ _ _ _ _ (hb.2.2.ne ht (by decide))) (fun b hb => hb.2.1)
theorem Rdr.below {B rb : Nat} {s : List UInt8} {o : List Part} {d : List VT} {w w' : World} (h : Rdr B rb s o d w) (hb : Below w.heap.size w w') : Rdr B rb s o d w' := by
  obtain ⟨hB, vr, vo, vd, vs, hh, hr, ho, hd, hvs⟩ := h
  refine ⟨hB, vr, vo, vd, vs, (hb.block rb (Array.getElem?_eq_some_iff.1 hh).1).trans hh, bts_low hr fun k _ hk => hb.block k hk, own_below ho hb, own_below hd hb, ?_⟩
  exact vals_step hvs (fun b h => hb.block b h.2.2.lt) (fun b h => h.2.1)
theorem Rdr.lt {B rb : Nat} {s : List UInt8} {o : List Part} {d : List VT} {w : World} (h : Rdr B rb s o d w) : B ≤ rb ∧ rb < w.heap.size := by
  obtain ⟨hB, vr, vo, vd, vs, hh, _⟩ := h
  exact ⟨hB, (Array.getElem?_eq_some_iff.1 hh).1⟩
theorem Rdr.free {B rb : Nat} {s : List UInt8} {o : List Part} {d : List VT} {w : World} (h : Rdr B rb s o d w) (i : Nat) : w.frozen? ⟨rb, i, none⟩ = false := by
  obtain ⟨hB, vr, vo, vd, vs, hh, _⟩ := h
  unfold World.frozen?; rw [hh]; simp
theorem Rdr.cell0 {B rb : Nat} {s : List UInt8} {o : List Part} {d : List VT} {w : World} (h : Rdr B rb s o d w) : ∃ v, w.cell? ⟨rb, 0, none⟩ = some v ∧ Bts (· < B) w s v := by
  obtain ⟨hB, vr, vo, vd, vs, hh, hr, _⟩ := h
  exact ⟨vr, cell_of_row w rb 0 _ _ _ hh, hr⟩
theorem sizeB (w : World) : (sizeOf (Try.prog.elem 27)).run Try.prog w = .ok 1 w := by kernel_rfl
theorem elemB : Try.prog.underlying 27 = some (.slice (Try.prog.elem 27)) := by kernel_rfl
theorem slice_one (D : Nat) (hn : 1 ≤ D) (A : Option Addr) (c : Nat) (w : World) :
    (Instr.slice 27 (.slice A D c) (some (.int .i64 1)) none none).run Try.prog w = .ok (sliced A 1 D c 1) w := by
  have h := run_slice_l (P := Try.prog) (w := w) 27 A D c elemB .i64 1 (by omega) (by omega)
  rw [h, sizeB]
  rfl
/-- the bytes behind the first one -/
theorem bts_tail {G : Nat → Prop} {w : World} {c : UInt8} {r : List UInt8} {A : Option Addr} {cap : Nat} (h : Bts G w (c :: r) (.slice A (r.length + 1) cap)) :
    ∃ b off, A = some ⟨b, off, none⟩ ∧ w.cell? ⟨b, off, none⟩ = some (.int .u8 (c.toNat : Int)) ∧ ∃ A' c', sliced A 1 (r.length + 1) cap 1 = .slice A' r.length c' ∧ Bts G w r (.slice A' r.length c') := by
  obtain ⟨A2, cap2, e, ⟨h1, h2, h3⟩, hc⟩ := h
  injection e with e1 _ e2
  subst e1
  subst e2
  obtain ⟨b, off, rfl, hb, hc⟩ := hc (by simp)
  rw [List.length_cons] at h1 h3
  refine ⟨b, off, rfl, hc 0 (by simp), if cap = 1 then some ⟨b, off, none⟩ else (some (⟨b, off, none⟩ : Addr)).map (·.add (1 * 1)), cap - 1, by unfold sliced; rfl, _, _, rfl, ⟨by omega, (fun h => by split at h <;> cases h), by omega⟩, fun h0 => ?_⟩
  rw [if_neg (by omega)]
  refine ⟨b, off + 1, by show some (Addr.add ⟨b, off, none⟩ (1 * 1)) = _; rw [cells_add], hb, fun j hj => ?_⟩
  have := hc (j + 1) (by simpa using hj)
  rw [show off + 1 + j = off + (j + 1) by omega]
  simpa using this
def NextPost (B rb : Nat) (s : List UInt8) (o : List Part) (d : List VT) (w : World) (e : Ending) (w' : World) : Prop :=
  match s with
  | [] => e = .returned (.tuple #[.int .u8 0, .bool false]) ∧ w = w'
  | c :: r => e = .returned (.tuple #[.int .u8 (c.toNat : Int), .bool true]) ∧ Rdr B rb r o d w' ∧ Below B w w'
set_option maxRecDepth 100000 in
theorem next_nil (B rb : Nat) (o : List Part) (d : List VT) (w : World) (h : Rdr B rb [] o d w) :
    Calls Try.prog 33 #[.pointer (some ⟨rb, 0, none⟩)] w (NextPost B rb [] o d w) := by
  obtain ⟨v, c0, hv⟩ := h.cell0
  obtain ⟨A, cap, rfl⟩ := hv.form
  rw [List.length_nil] at c0
  have HP : Hid (NextPost B rb [] o d w = fun e w' => e = .returned (.tuple #[.int .u8 0, .bool false]) ∧ w = w') := Lib.hid rfl
  rw [HP.out]
  clear h hv
  go_enter Try.func33, Try.ntmps33
  go_wp2
  go_ret2
  exact ⟨rfl, rfl⟩
set_option maxRecDepth 100000 in
theorem next_cons (B rb : Nat) (c : UInt8) (r : List UInt8) (o : List Part) (d : List VT) (w : World) (h : Rdr B rb (c :: r) o d w) :
    Calls Try.prog 33 #[.pointer (some ⟨rb, 0, none⟩)] w (NextPost B rb (c :: r) o d w) := by
  obtain ⟨v, c0, hv⟩ := h.cell0
  obtain ⟨A, cap, rfl⟩ := hv.form
  rw [List.length_cons] at c0 hv
  obtain ⟨b, off, rfl, c1, A', c', hsl, ht⟩ := bts_tail hv
  have hf := h.free 0
  have HW := Lib.hid (h.rest ht)
  have HB := Lib.hid ((Below.refl B w).setCell (p := ⟨rb, 0, none⟩) h.lt.1 (.slice A' r.length c'))
  have HP : Hid (NextPost B rb (c :: r) o d w = fun e w' => e = .returned (.tuple #[.int .u8 (c.toNat : Int), .bool true]) ∧ Rdr B rb r o d w' ∧ Below B w w') := Lib.hid rfl
  rw [HP.out]
  have hlen : r.length + 1 ≤ 9223372036854775807 := by obtain ⟨_, _, _, ⟨h1, _⟩, _⟩ := hv; simpa using h1
  have hsl2 := fun w => slice_one (r.length + 1) (by omega) (some ⟨b, off, none⟩) cap w
  rw [hsl] at hsl2
  generalize r.length = n at c0 hsl2 HW HB hlen
  clear h hv hsl ht
  go_enter Try.func33, Try.ntmps33
  go_wp2
  go_ret2
  exact ⟨rfl, HW.out, HB.out⟩
end Go.Proofs.Ytnjcapenkoemlaa.vt.ce

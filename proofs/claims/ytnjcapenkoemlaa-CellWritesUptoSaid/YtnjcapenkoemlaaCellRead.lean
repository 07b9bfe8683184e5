/- Read: the value of some bytes. -/
import Derived.Test.YtnjcapenkoemlaaCellValue
namespace Go.Proofs.Ytnjcapenkoemlaa.vt.ce
open Go.RowKit mem vt

def ReadPost (l : List UInt8) (w : World) (e : Ending) (w' : World) : Prop :=
  match readB l with
  | some v => ∃ sk, e = .returned (.tuple #[.agg #[.int .i64 v.kind, .int .i64 v.num, sk], .int .i64 0]) ∧ Kids (fun b => w.heap.size ≤ b) w' v.kids sk ∧ Below w.heap.size w w' ∧ I64 v.kind ∧ I64 v.num
  | none => e = .returned (.tuple #[.agg #[.int .i64 0, .int .i64 0, .slice none 0 0], .int .i64 1]) ∧ Below w.heap.size w w'
theorem read_none {l : List UInt8} {w w' : World} (h : readB l = none) (hb : Below w.heap.size w w') : ReadPost l w (.returned (.tuple #[.agg #[.int .i64 0, .int .i64 0, .slice none 0 0], .int .i64 1])) w' := by
  unfold ReadPost; rw [h]; exact ⟨rfl, hb⟩
theorem read_some {l : List UInt8} {v : VT} {w w' : World} {sk : Value} (h : readB l = some v) (hk : Kids (fun b => w.heap.size ≤ b) w' v.kids sk) (hb : Below w.heap.size w w') (hi : I64 v.kind ∧ I64 v.num) : ReadPost l w (.returned (.tuple #[.agg #[.int .i64 v.kind, .int .i64 v.num, sk], .int .i64 0])) w' := by
  unfold ReadPost; rw [h]; exact ⟨sk, rfl, hk, hb, hi⟩
theorem rdr_new (w : World) (N : Nat) (hN : N = w.heap.size) (s : List UInt8) (v : Value) (h : Bts (· < N) w s v) : Rdr N N s [] [] (w.alloc (.cells #[v, .slice none 0 0, .slice none 0 0] 44)) := by
  refine ⟨Nat.le_refl _, v, .slice none 0 0, .slice none 0 0, [], heap_new w N hN _, bts_low h fun k _ hk => Below.heap_alloc _ _ _ hk, World.ownsRow_nil _ _ _ _, World.ownsRow_nil _ _ _ _, by rw [Vals]⟩
/-- the one value that is done -/
theorem done_one {B rb : Nat} {s : List UInt8} {o : List Part} {v : VT} {w : World} (h : Rdr B rb s o [v] w) :
    ∃ g c A n q, w.cell? ⟨rb, 2, none⟩ = some (.slice (some ⟨g, 0, none⟩) 1 c) ∧ B ≤ g ∧ w.cell? ⟨g, 0, none⟩ = some (.int .i64 v.kind) ∧ w.cell? ⟨g, 1, none⟩ = some (.int .i64 v.num) ∧ w.cell? ⟨g, 2, none⟩ = some (.slice A n q) ∧ Hid (Kids (fun b => B ≤ b) w v.kids (.slice A n q)) ∧ I64 v.kind ∧ I64 v.num := by
  obtain ⟨hB, vr, vo, vd, vs, hh, hr, ho, hd, hv⟩ := h
  rw [Vals] at hv
  obtain ⟨sk, rest, rfl, i1, i2, hk, hr⟩ := hv
  rw [Vals] at hr
  subst hr
  obtain ⟨A, q, rfl, _⟩ := hk.form
  rcases hd.2 with ⟨_, hn⟩ | ⟨g, cap, cur, hs, hb, hg, hnc, hcm, hcs, htake⟩
  · simp at hn
  · subst hs
    have c0 := hd.cellAt 0 (by simp)
    have c1 := hd.cellAt 1 (by simp)
    have c2 := hd.cellAt 2 (by simp)
    exact ⟨g, cap, A, _, q, cell_of_row w rb 2 _ _ _ hh, hb, c0, c1, c2, Lib.hid (hk.mono fun b hb => hb.1), i1, i2⟩
theorem valO_one (s : List UInt8) : valO [] [] s = (match readV s.length s with | some (t, r) => some ([t], r) | none => none) := by
  unfold valO
  cases readV s.length s with
  | none => rfl
  | some p => obtain ⟨t, r⟩ := p; rfl
set_option maxHeartbeats 2000000 in
set_option maxRecDepth 100000 in
theorem read_any {G : Nat → Prop} (l : List UInt8) (v : Value) (w : World) (h : Bts G w l v) (hl : l.length ≤ 1048576) :
    Calls Try.prog 11 #[v] w (ReadPost l w) := by
  obtain ⟨N, hN⟩ : ∃ N, N = w.heap.size := ⟨_, rfl⟩
  have hlow : Bts (· < N) w l v := h.lt.mono fun b hb => by rw [hN]; exact hb.2
  obtain ⟨Av, cv, rfl⟩ := h.form
  clear h
  obtain ⟨K, hK⟩ : ∃ K, K = l.length := ⟨_, rfl⟩
  rw [← hK] at hlow ⊢
  have HK := Lib.hid hK
  clear hK
  go_enter Try.func11, Try.ntmps11
  go_wp2_with (fail)
  rw [← hN]
  obtain ⟨W0, hW0⟩ : ∃ W0, W0 = w.alloc (.cells #[.int .i64 0, .int .i64 0, .slice none 0 0] 24) := ⟨_, rfl⟩
  have hsz0 : W0.heap.size = N + 1 := by rw [hW0, hN]; simp
  have HB0 : Hid (Below N w W0) := Lib.hid (by rw [hW0, hN]; exact (Below.refl _ _).alloc (Nat.le_refl _) _)
  have hlow0 : Bts (· < N + 1) W0 l (.slice Av K cv) := (hlow.below (by rw [← hN]; exact HB0.out)).mono fun b hb => by omega
  rw [← hW0]
  obtain ⟨W1, hW1⟩ : ∃ W1, W1 = W0.alloc (.cells #[.slice Av K cv, .slice none 0 0, .slice none 0 0] 44) := ⟨_, rfl⟩
  have HB1 : Hid (Below (N + 1) W0 W1) := Lib.hid (by rw [hW1, ← hsz0]; exact (Below.refl _ _).alloc (Nat.le_refl _) _)
  have HR := Lib.hid (rdr_new W0 (N + 1) hsz0.symm l _ hlow0)
  rw [← hW1] at HR ⊢
  have hsz1 : W1.heap.size = N + 2 := by rw [hW1, World.size_alloc, hsz0]
  have HZ : Hid (∀ wr, Below (N + 1) W0 wr → ∀ i, wr.cell? ⟨N, i, none⟩ = #[.int .i64 0, .int .i64 0, .slice none 0 0][i]? ∧ wr.frozen? ⟨N, i, none⟩ = false) := Lib.hid (fun wr hb i => by
    rw [hW0] at hb; exact cell_since hN hb i)
  have HBW : Hid (∀ wr, Below (N + 1) W0 wr → Below w.heap.size w wr) := Lib.hid (fun wr hb => by rw [← hN]; exact HB0.out.trans (hb.mono (by omega)))
  have HN := Lib.hid hN
  have HV := Lib.hid (value_any (N + 1) (N + 1) l [] W1 HR.out (by simpa using hl))
  have HVO := Lib.hid (valO_one l)
  clear hW0 hW1 hlow0 hlow hN HR hsz0
  unfold ValuePost at HV
  cases hv : readV l.length l with
  | none =>
    have e0 : valO [] [] l = none := by rw [HVO.out, hv]
    have HE : Hid (readB l = none) := Lib.hid (by unfold readB; rw [hv])
    rw [e0] at HV
    refine HV.out.mono ?_
    rintro e w2 ⟨rfl, hb2⟩
    have HB2 := Lib.hid (HB1.out.trans hb2)
    have z := HZ.out _ HB2.out
    have z0 := (z 0).2
    have z1 := (z 1).2
    have z2 := (z 2).2
    have y0 := (z 0).1
    have y1 := (z 1).1
    have y2 := (z 2).1
    clear hb2 z hv HV
    go_wp2_with (fail)
    refine bodyPost_ret (v := .tuple #[.agg #[.int .i64 0, .int .i64 0, .slice none 0 0], .int .i64 1]) (by simp [results, Try.results11, go_sem, y0, y1, y2]) rfl (read_none HE.out (below_told (HBW.out _ HB2.out) (by rw [← HN.out]; exact Nat.le_refl _)))
  | some p =>
    obtain ⟨t, r⟩ := p
    have e0 : valO [] [] l = some ([t], r) := by rw [HVO.out, hv]
    rw [e0] at HV
    have HRV := Lib.hid hv
    refine HV.out.mono ?_
    rintro e w2 ⟨rfl, hr2, hb2⟩
    have HB2 := Lib.hid (HB1.out.trans hb2)
    have z := HZ.out _ HB2.out
    have z0 := (z 0).2
    have z1 := (z 1).2
    have z2 := (z 2).2
    have y0 := (z 0).1
    have y1 := (z 1).1
    have y2 := (z 2).1
    obtain ⟨vr, c0, hvr⟩ := hr2.cell0
    obtain ⟨Ar, cr, rfl⟩ := hvr.form
    have HR2 := Lib.hid hr2
    clear hb2 z hv HV hvr hr2 e0
    cases r with
    | nil =>
      rw [List.length_nil] at c0
      have HE : Hid (readB l = some t) := Lib.hid (by unfold readB; rw [HRV.out])
      obtain ⟨g, cc, A, m, q, c2, hBg, x0, x1, x2, hkid, hi64⟩ := done_one HR2.out
      go_wp2_with (fail)
      refine bodyPost_ret (v := .tuple #[.agg #[.int .i64 t.kind, .int .i64 t.num, .slice A m q], .int .i64 0]) (by simp [results, Try.results11, go_sem, y0, y1, y2]) rfl (read_some HE.out ?_ (below_told (HBW.out _ HB2.out) (by rw [← HN.out]; exact Nat.le_refl _)) hi64)
      exact (((hkid.out.set fun c hc _ => by omega).set fun c hc _ => by omega).set fun c hc _ => by omega).mono fun b hb => by have := HN.out; omega
    | cons c r =>
      rw [List.length_cons] at c0
      have HE : Hid (readB l = none) := Lib.hid (by unfold readB; rw [HRV.out])
      have hpos : (0 : Int) < (r.length : Int) + 1 := by omega
      go_wp2_with (fail)
      refine bodyPost_ret (v := .tuple #[.agg #[.int .i64 0, .int .i64 0, .slice none 0 0], .int .i64 1]) (by simp [results, Try.results11, go_sem, y0, y1, y2]) rfl (read_none HE.out (below_told (HBW.out _ HB2.out) (by rw [← HN.out]; exact Nat.le_refl _)))
end Go.Proofs.Ytnjcapenkoemlaa.vt.ce

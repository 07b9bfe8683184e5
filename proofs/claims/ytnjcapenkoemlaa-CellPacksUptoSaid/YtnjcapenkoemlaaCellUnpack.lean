/- Unpack: the values of some bytes. -/
import Derived.Test.YtnjcapenkoemlaaCellRead
namespace Go.Proofs.Ytnjcapenkoemlaa.vt.ce
open Go.RowKit mem vt

def UnpackPost (l : List UInt8) (w : World) (e : Ending) (w' : World) : Prop :=
  match readAll l.length l with
  | some L => ∃ s, e = .returned (.tuple #[s, .int .i64 0]) ∧ Kids (fun b => w.heap.size ≤ b) w' L s ∧ Below w.heap.size w w'
  | none => e = .returned (.tuple #[.slice none 0 0, .int .i64 1]) ∧ Below w.heap.size w w'
theorem unpack_none {l : List UInt8} {w w' : World} (h : readAll l.length l = none) (hb : Below w.heap.size w w') : UnpackPost l w (.returned (.tuple #[.slice none 0 0, .int .i64 1])) w' := by
  unfold UnpackPost; rw [h]; exact ⟨rfl, hb⟩
theorem unpack_some {l : List UInt8} {L : List VT} {w w' : World} {s : Value} (h : readAll l.length l = some L) (hk : Kids (fun b => w.heap.size ≤ b) w' L s) (hb : Below w.heap.size w w') : UnpackPost l w (.returned (.tuple #[s, .int .i64 0])) w' := by
  unfold UnpackPost; rw [h]; exact ⟨s, rfl, hk, hb⟩
theorem valO_nil (d : List VT) (s : List UInt8) : valO [] d s = (match readV s.length s with | some (t, r) => some (d ++ [t], r) | none => none) := by
  unfold valO
  cases readV s.length s with
  | none => rfl
  | some p => obtain ⟨t, r⟩ := p; rfl
/-- what is done, and what the rest comes to -/
def allO (d : List VT) (s : List UInt8) : Option (List VT) := (readAll s.length s).map (d ++ ·)
theorem allO_nil (d : List VT) : allO d [] = some d := by unfold allO; rw [readAll_nil]; simp
theorem allO_none {d : List VT} {s : List UInt8} (h0 : s ≠ []) (h : readV s.length s = none) : allO d s = none := by
  unfold allO
  cases s with
  | nil => exact absurd rfl h0
  | cons c r => rw [List.length_cons] at h ⊢; rw [readAll_cons, List.length_cons, h]; rfl
theorem allO_some {d : List VT} {s r : List UInt8} {t : VT} (h : readV s.length s = some (t, r)) : allO d s = allO (d ++ [t]) r := by
  unfold allO
  have hr := readV_rest h
  cases s with
  | nil => rw [readV_nil] at h; cases h
  | cons c q =>
    rw [List.length_cons] at h hr ⊢
    rw [readAll_cons, List.length_cons, h]
    simp only
    rw [readAll_fuel q.length r.length r (by omega) (Nat.le_refl _)]
    cases readAll r.length r with
    | none => rfl
    | some l => simp
def UnpackRel (B rb : Nat) (l : List UInt8) (W : World) (g : Nat) (wr : World) : Prop :=
  ∃ (s : List UInt8) (d : List VT), Hid (allO d s = readAll l.length l) ∧ Rdr B rb s [] d wr ∧ Below B W wr ∧ s.length ≤ g ∧ s.length + d.length ≤ 1048576
set_option maxHeartbeats 2000000 in
set_option maxRecDepth 100000 in
theorem unpack_any {G : Nat → Prop} (l : List UInt8) (v : Value) (w : World) (h : Bts G w l v) (hl : l.length ≤ 1048576) :
    Calls Try.prog 15 #[v] w (UnpackPost l w) := by
  obtain ⟨N, hN⟩ : ∃ N, N = w.heap.size := ⟨_, rfl⟩
  have hlow : Bts (· < N) w l v := h.lt.mono fun b hb => by rw [hN]; exact hb.2
  obtain ⟨Av, cv, rfl⟩ := h.form
  clear h
  obtain ⟨K, hK⟩ : ∃ K, K = l.length := ⟨_, rfl⟩
  rw [← hK] at hlow ⊢
  have HK := Lib.hid hK
  clear hK
  go_enter Try.func15, Try.ntmps15
  go_wp2_with (fail)
  rw [← hN]
  obtain ⟨W1, hW1⟩ : ∃ W1, W1 = w.alloc (.cells #[.slice Av K cv, .slice none 0 0, .slice none 0 0] 44) := ⟨_, rfl⟩
  have HB1 : Hid (Below N w W1) := Lib.hid (by rw [hW1, hN]; exact (Below.refl _ _).alloc (Nat.le_refl _) _)
  have HR := Lib.hid (rdr_new w N hN l _ hlow)
  rw [← hW1] at HR ⊢
  have HBW : Hid (∀ wr, Below N W1 wr → Below w.heap.size w wr) := Lib.hid (fun wr hb => by rw [← hN]; exact HB1.out.trans hb)
  have HN := Lib.hid hN
  have HA0 : Hid (allO [] l = readAll l.length l) := Lib.hid (by unfold allO; cases readAll l.length l <;> rfl)
  clear hW1 hlow hN
  go_loopg [] l.length (fun g wr => UnpackRel N N l W1 g wr)
  case atStart => unfold UnpackRel; exact ⟨l, [], HA0, HR.out, Below.refl _ _, Nat.le_refl _, by simpa using hl⟩
  case round =>
    unfold UnpackRel at hrel
    obtain ⟨s, d, HE, hr, hb, hg, hl'⟩ := hrel
    obtain ⟨vr, c0, hvr⟩ := hr.cell0
    obtain ⟨Ar, cr, rfl⟩ := hvr.form
    have HRR := Lib.hid hr
    have HB := Lib.hid hb
    clear hvr hb hr
    cases s with
    | nil =>
      rw [List.length_nil] at c0
      obtain ⟨vr2, Ao, co, A, q, vs, hh, hr2, hoo, hdd, hv⟩ := HRR.out.parts
      have c2 : wr.cell? ⟨N, 2, none⟩ = some (.slice A d.length q) := cell_of_row wr N 2 _ _ _ hh
      have HK2 : Hid (Kids (fun b => w.heap.size ≤ b) wr d (.slice A d.length q)) := Lib.hid (Own.kids (B := N) (G := KG N wr (.slice A d.length q)) ⟨vs, hv, hdd⟩ (fun b hb => by have := HN.out; have := hb.1; omega) (fun b hb => by have := HN.out; omega))
      have HS : Hid (readAll l.length l = some d) := Lib.hid (by rw [← HE.out, allO_nil])
      obtain ⟨D, hD⟩ : ∃ D, D = d.length := ⟨_, rfl⟩
      rw [← hD] at c2 HK2
      clear hh hr2 hoo hdd hv hD
      go_wp2_with (fail)
      go_ret2
      exact unpack_some HS.out HK2.out (HBW.out _ HB.out)
    | cons c r =>
      have hpos : (0 : Int) < (r.length : Int) + 1 := by omega
      rw [List.length_cons] at c0
      have hla : (c :: r).length + d.length ≤ 1048576 := hl'
      have HV := Lib.hid (value_any N N (c :: r) d wr HRR.out hla)
      have HVO := Lib.hid (valO_nil d (c :: r))
      rw [List.length_cons] at hg hl'
      unfold ValuePost at HV
      go_wp2_with (fail)
      cases hv : readV (c :: r).length (c :: r) with
      | none =>
        have e0 : valO [] d (c :: r) = none := by rw [HVO.out, hv]
        have HS : Hid (readAll l.length l = none) := Lib.hid (by rw [← HE.out, allO_none (by simp) hv])
        rw [e0] at HV
        refine HV.out.mono ?_
        rintro e w2 ⟨rfl, hb2⟩
        have HB2 := Lib.hid (HB.out.trans hb2)
        clear hb2 hv HV e0
        go_wp2_with (fail)
        go_ret2
        exact unpack_none HS.out (HBW.out _ HB2.out)
      | some p =>
        obtain ⟨t, q⟩ := p
        have e0 : valO [] d (c :: r) = some (d ++ [t], q) := by rw [HVO.out, hv]
        have hq := readV_rest hv
        rw [List.length_cons] at hq
        have HS : Hid (allO (d ++ [t]) q = readAll l.length l) := Lib.hid (by rw [← HE.out, allO_some hv])
        rw [e0] at HV
        refine HV.out.mono ?_
        rintro e w2 ⟨rfl, hr2, hb2⟩
        have HB2 := Lib.hid (HB.out.trans hb2)
        have HR2 := Lib.hid hr2
        clear hb2 hv HV e0 hr2 c0
        go_wp2_with (fail)
        go_roundg q.length
        case measure => omega
        case rel =>
          unfold UnpackRel
          exact ⟨q, d ++ [t], HS, HR2.out, HB2.out, Nat.le_refl _, by rw [List.length_append, List.length_singleton]; omega⟩
end Go.Proofs.Ytnjcapenkoemlaa.vt.ce

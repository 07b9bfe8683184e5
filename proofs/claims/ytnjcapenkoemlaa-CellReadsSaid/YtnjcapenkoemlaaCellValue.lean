/- The reader reads a value with all that lies in it. -/
import Derived.Test.YtnjcapenkoemlaaCellBegins
import Derived.Test.YtnjcapenkoemlaaCellClose
namespace Go.Proofs.Ytnjcapenkoemlaa.vt.ce
open Go.RowKit mem vt

def ValuePost (B rb : Nat) (s : List UInt8) (d : List VT) (w : World) (e : Ending) (w' : World) : Prop :=
  match valO [] d s with
  | some (d2, r) => e = .returned (.bool true) ∧ Rdr B rb r [] d2 w' ∧ Below B w w'
  | none => e = .returned (.bool false) ∧ Below B w w'
theorem value_yes {B rb : Nat} {s r : List UInt8} {d d2 : List VT} {w w' : World} (h : valO [] d s = some (d2, r)) (hr : Rdr B rb r [] d2 w') (hb : Below B w w') : ValuePost B rb s d w (.returned (.bool true)) w' := by
  unfold ValuePost; rw [h]; exact ⟨rfl, hr, hb⟩
theorem value_no {B rb : Nat} {s : List UInt8} {d : List VT} {w w' : World} (h : valO [] d s = none) (hb : Below B w w') : ValuePost B rb s d w (.returned (.bool false)) w' := by
  unfold ValuePost; rw [h]; exact ⟨rfl, hb⟩
def ValueRel (B rb : Nat) (s : List UInt8) (d : List VT) (w : World) (g : Nat) (wr : World) : Prop :=
  ∃ (s' : List UInt8) (o' : List Part) (d' : List VT), Hid (valO o' d' s' = valO [] d s) ∧ Hid (okO o' d'.length) ∧ Rdr B rb s' o' d' wr ∧ Below B w wr ∧ s'.length ≤ g ∧ s'.length + o'.length + d'.length ≤ 1048576
theorem Rdr.cell1 {B rb : Nat} {s : List UInt8} {o : List Part} {d : List VT} {w : World} (h : Rdr B rb s o d w) : ∃ A c, w.cell? ⟨rb, 1, none⟩ = some (.slice A o.length c) := by
  obtain ⟨vr, Ao, co, A, q, vs, hh, _⟩ := h.parts
  exact ⟨Ao, co, cell_of_row w rb 1 _ _ _ hh⟩
set_option maxHeartbeats 1000000 in
set_option maxRecDepth 100000 in
theorem value_any (B rb : Nat) (s : List UInt8) (d : List VT) (w : World) (h : Rdr B rb s [] d w) (hl : s.length + d.length ≤ 1048576) :
    Calls Try.prog 22 #[.pointer (some ⟨rb, 0, none⟩)] w (ValuePost B rb s d w) := by
  have HR := Lib.hid h
  clear h
  go_enter Try.func22, Try.ntmps22
  go_wp2_with (fail)
  go_loopg [] s.length (fun g wr => ValueRel B rb s d w g wr)
  case atStart => unfold ValueRel; exact ⟨s, [], d, Lib.hid rfl, Lib.hid trivial, HR.out, Below.refl _ _, Nat.le_refl _, by simpa using hl⟩
  case round =>
    unfold ValueRel at hrel
    obtain ⟨s', o', d', HE, HK, hr, hb, hg, hl'⟩ := hrel
    have HBG := Lib.hid (begin_any B rb s' o' d' wr hr (by omega) (by omega))
    have HB := Lib.hid hb
    have HVB := Lib.hid (val_begin o' d' s')
    clear hr hb
    go_wp2_with (fail)
    cases hbo : beginO s' o' d' with
    | none =>
      have HN : Hid (valO [] d s = none) := Lib.hid (by rw [← HE.out, HVB.out, hbo])
      refine HBG.out.mono ?_
      unfold BeginPost
      rw [hbo]
      rintro e w1 ⟨rfl, hb1⟩
      have HB1 := Lib.hid (HB.out.trans hb1)
      clear hb1 hbo HBG
      go_wp2_with (fail)
      go_ret
      exact value_no HN.out HB1.out
    | some p =>
      obtain ⟨r, o1, d1⟩ := p
      obtain ⟨k1, k2, k3⟩ := begin_ok hbo HK.out
      have HPL : Hid (plugO (closeO o1 d1).1 (closeO o1 d1).2 r = valO [] d s) := Lib.hid (by rw [← HE.out, HVB.out, hbo, plug_close])
      refine HBG.out.mono ?_
      unfold BeginPost
      rw [hbo]
      rintro e w1 ⟨rfl, hr1, hb1⟩
      have HC := Lib.hid (close_any B rb r o1 d1 w1 hr1 k1 (by omega))
      have HB1 := Lib.hid (HB.out.trans hb1)
      obtain ⟨k4, k5⟩ := close_ok k1
      have HCH := Lib.hid (fun k m n o2 => @close_head o1 d1 k m n o2)
      clear hb1 hbo HBG hr1 HVB HE k1
      go_wp2_with (fail)
      refine HC.out.mono ?_
      rintro e w2 ⟨rfl, hr2, hb2⟩
      obtain ⟨o2, ho2⟩ : ∃ o2, o2 = (closeO o1 d1).1 := ⟨_, rfl⟩
      obtain ⟨d2, hd2⟩ : ∃ d2, d2 = (closeO o1 d1).2 := ⟨_, rfl⟩
      rw [← ho2, ← hd2] at hr2 k4 k5 HPL HCH
      have HR2 := Lib.hid hr2
      have HB2 := Lib.hid (HB1.out.trans hb2)
      have HK4 := Lib.hid k4
      obtain ⟨A, c, c1⟩ := hr2.cell1
      clear hr2 hb2 k4 HC ho2 hd2
      cases o2 with
      | nil =>
        rw [List.length_nil] at c1
        have HV : Hid (valO [] d s = some (d2, r)) := Lib.hid (by rw [← HPL.out]; rfl)
        go_wp2_with (fail)
        go_ret
        exact value_yes HV.out HR2.out HB2.out
      | cons p o3 =>
        obtain ⟨k, m, n⟩ := p
        have HV : Hid (valO ((k, m, n) :: o3) d2 r = valO [] d s) := Lib.hid (by rw [← HPL.out, plug_open (HCH.out k m n o3 rfl) HK4.out.1.2.2])
        rw [List.length_cons] at c1 k5
        obtain ⟨M, hM⟩ : ∃ M, M = o3.length := ⟨_, rfl⟩
        rw [← hM] at c1
        have HM := Lib.hid hM
        have hpos : ((M : Int) + 1 == 0) = false := beq_eq_false_iff_ne.2 (by omega)
        clear hM
        go_wp2_with (fail)
        go_roundg r.length
        case measure => omega
        case rel =>
          unfold ValueRel
          exact ⟨r, _, d2, HV, HK4, HR2.out, HB2.out, Nat.le_refl _, by rw [List.length_cons]; omega⟩
end Go.Proofs.Ytnjcapenkoemlaa.vt.ce

/- The layer's works() answers true. -/
import Derived.Test.YtnjcapenkoemlaaCellRead
import Derived.Test.YtnjcapenkoemlaaCellPack
import Derived.Test.YtnjcapenkoemlaaPathText
import Derived.Test.YtnjcapenkoemlaaValVar
namespace Go.Proofs.Ytnjcapenkoemlaa.vt.ce
open Go.RowKit mem vt

def wv : VT := .mk 2 0 [.mk 0 64 [], .mk 1 1 []]
theorem wv_bytes : wv.bytes = [2, 4, 0, 128, 1, 1, 1] := by
  unfold wv
  rw [bytes_mk, bytesL, bytesL, bytesL, bytes_mk, bytes_mk]
  rw [show zig 64 = 128 by decide, grpN_high (x := 128) (by omega), grpN_low (x := 128 / 128) (by omega), grpN_low (x := 2 * [VT.mk 0 64 [], VT.mk 1 1 []].length) (by decide)]
  rfl
theorem wv_fits : wv.fits := by
  unfold wv
  rw [fits_mk, fitsL, fitsL, fitsL, fits_mk, fits_mk, fitsL]
  refine ⟨⟨⟨by decide, by decide⟩, by decide, by decide⟩, ⟨⟨⟨by decide, by decide⟩, by decide, by decide⟩, trivial⟩, ⟨⟨⟨by decide, by decide⟩, by decide, by decide⟩, trivial⟩, trivial⟩
theorem wv_read : readB [2, 4, 0, 128, 1, 1, 1] = some wv := by
  rw [← wv_bytes]; exact readB_bytes rfl wv_fits (by decide +kernel)
def w3 : VT := .mk 0 (-3) []
theorem w3_bytes : bytesT w3 = [0, 5] := by
  rw [bytesT_yes rfl]
  unfold w3
  rw [bytes_mk, if_pos rfl, show zig (-3) = 5 by decide, grpN_low (by omega)]
  rfl
theorem itoa64 : Lib.itoa 64 = [54, 52] := by
  have h := Lib.itoa_nonneg 64
  rw [show ((64 : Nat) : Int) = 64 from rfl] at h
  rw [h, whole.dec_big (by decide), whole.dec_small (by decide)]; rfl
theorem wv_text : wv.text = [91, 54, 52, 44, 32, 116, 114, 117, 101, 93] := by
  unfold wv
  rw [text_mk, textL, tailL, tailL, text_mk, text_mk]
  simp only [if_pos, itoa64]
  rfl
theorem bts_new (w : World) (l : List UInt8) (cs : Array Value) (hcs : cs = (byV l).toArray) (hl : l.length ≤ 1048576) (N : Nat) (hN : N = w.heap.size) : Bts (fun _ => True) (w.alloc (.cells cs 5)) l (.slice (some ⟨N, 0, none⟩) l.length l.length) := by
  refine ⟨_, _, rfl, ⟨by omega, (fun h => by cases h), Nat.le_refl _⟩, fun _ => ⟨N, 0, rfl, trivial, fun j hj => ?_⟩⟩
  rw [Nat.zero_add, cell_new w N hN, hcs]
  unfold byV
  simp [List.getElem?_eq_getElem hj]
theorem lit_conv (w : World) (g : Nat) (h : w.heap[g]? = some (.cells #[.int .u8 0, .int .u8 5] 5 (0, 0))) : (convert 27 9 (.slice (some ⟨g, 0, none⟩) 2 2)).run Try.prog w = .ok (.string ⟨#[0, 5]⟩) w :=
  bytes_conv (l := [0, 5]) (G := fun _ => True) ⟨some ⟨g, 0, none⟩, 2, rfl, ⟨by decide, (fun h => by cases h), by decide⟩, fun _ => ⟨g, 0, rfl, trivial, fun j hj => by
    match j, hj with
    | 0, _ => exact cell_of_row w g 0 _ _ _ h
    | 1, _ => exact cell_of_row w g 1 _ _ _ h
    | j + 2, hj => exact absurd hj (by simp)⟩⟩
theorem w3_call (w : World) : Calls Try.prog 8 #[.agg #[.int .i64 0, .int .i64 (-3), .slice none 0 0]] w fun e w' => ∃ A c, e = .returned (.slice A 2 c) ∧ Bts (fun b => w.heap.size ≤ b) w' [0, 5] (.slice A 2 c) ∧ Below w.heap.size w w' :=
  (bytes_any (G := fun _ => True) w3 (.slice none 0 0) w ⟨by unfold I64; decide, by unfold I64; decide⟩ (Kids.nil_ _ _) (by rw [w3_bytes]; decide)).mono fun e w' ⟨s, he, hs, hb⟩ => by
    rw [w3_bytes] at hs
    obtain ⟨A, c, rfl⟩ := hs.form
    exact ⟨A, c, he, hs, hb⟩
set_option maxHeartbeats 2000000 in
set_option maxRecDepth 100000 in
theorem works_any (w : World) : Calls Try.prog 6 #[] w fun e w' => e = .returned (.bool true) ∧ Below w.heap.size w w' := by
  have HR := Lib.hid (read_any [2, 4, 0, 128, 1, 1, 1] _ _ (bts_new w [2, 4, 0, 128, 1, 1, 1] _ rfl (by decide) _ rfl) (by decide))
  have hb0 := (Below.refl w.heap.size w).alloc (Nat.le_refl _) (.cells #[.int .u8 2, .int .u8 4, .int .u8 0, .int .u8 128, .int .u8 1, .int .u8 1, .int .u8 1] 5)
  have HB0 := Lib.hid hb0
  have HRP : Hid (∀ w0 e w', ReadPost [2, 4, 0, 128, 1, 1, 1] w0 e w' → ∃ A c, e = .returned (.tuple #[.agg #[.int .i64 2, .int .i64 0, .slice A 2 c], .int .i64 0]) ∧ Kids (fun b => w0.heap.size ≤ b) w' wv.kids (.slice A 2 c) ∧ Below w0.heap.size w0 w') := Lib.hid (by
    intro w0 e w' h
    unfold ReadPost at h
    rw [wv_read] at h
    obtain ⟨sk, rfl, hk, hb, _⟩ := h
    obtain ⟨A, c, rfl, _⟩ := hk.form
    exact ⟨A, c, rfl, hk, hb⟩)
  clear hb0
  go_enter Try.func6, Try.ntmps6
  go_wp2_with (fail)
  refine HR.out.mono ?_
  intro e w1 hp
  obtain ⟨A, c, rfl, hk, hb⟩ := HRP.out _ _ _ hp
  have HK := Lib.hid hk
  have HB1 := Lib.hid (HB0.out.trans (hb.mono HB0.out.size))
  clear hp hk hb HR HRP
  go_wp2_with (fail)
  obtain ⟨X, hX⟩ : ∃ X, X = w1.alloc (.cells #[.int .i64 2, .int .i64 0, .slice A 2 c] 24) := ⟨_, rfl⟩
  have hbX : Below w1.heap.size w1 X := by rw [hX]; exact (Below.refl _ _).alloc (Nat.le_refl _) _
  have hV : VarIs X w1.heap.size wv (.slice A 2 c) := by rw [hX]; exact VarIs.new _ rfl (HK.out.mono fun _ _ => trivial)
  have HV : Hid (∀ w', Below X.heap.size X w' → VarIs w' w1.heap.size wv (.slice A 2 c)) := Lib.hid fun w' h => hV.below h
  have HB2 := Lib.hid (HB1.out.trans (hbX.mono HB1.out.size))
  rw [← hX]
  clear hX hbX hV
  obtain ⟨b1, hb1⟩ : ∃ b, b = w1.heap.size := ⟨_, rfl⟩
  rw [← hb1] at HV ⊢
  clear hb1
  obtain ⟨⟨a0, a1, a2⟩, _, az⟩ := HV.out X (Below.refl _ _)
  change X.cell? ⟨b1, 0, none⟩ = some (.int .i64 2) at a0
  change X.cell? ⟨b1, 1, none⟩ = some (.int .i64 0) at a1
  have k0 := lit_conv (X.alloc (.cells #[.int .u8 0, .int .u8 5] 5)).drew X.heap.size (heap_alloc_new X _)
  have HTX : Hid (∀ w', Kids (fun _ => True) w' wv.kids (.slice A 2 c) → Calls Try.prog 17 #[.agg #[.int .i64 2, .int .i64 0, .slice A 2 c]] w' fun e w'' => e = .returned (.string ⟨#[91, 54, 52, 44, 32, 116, 114, 117, 101, 93]⟩) ∧ Below w'.heap.size w' w'') := Lib.hid (fun w' hk => by
    have h := rtexta_any wv (fun _ => True) (.slice A 2 c) w' hk wv_fits (by decide +kernel)
    rw [wv_text] at h
    exact h)
  have HLG : Hid (∀ w', Kids (fun _ => True) w' wv.kids (.slice A 2 c) → Calls Try.prog 10 #[.agg #[.int .i64 2, .int .i64 0, .slice A 2 c]] w' fun e w'' => e = .returned (.int .i64 7) ∧ Below w'.heap.size w' w'') := Lib.hid (fun w' hk => by
    have h := Long_any wv (.slice A 2 c) w' hk wv_fits (by rw [bytesT_yes rfl, wv_bytes]; decide)
    rw [bytesT_yes rfl, wv_bytes] at h
    exact h)
  go_region_law (first
    | (go_simp; go_at_call 8; (with_reducible refine (w3_call X.drew).mono ?_); rintro e w5 ⟨A5, c5, rfl, hs5, hb5⟩; have hbZ : Below X.heap.size X w5 := (Below.refl _ X).drew.trans hb5; have HBZ := Lib.hid hbZ; have k1 := bytes_conv hs5; have k2 := bytes_conv (hs5.below ((Below.refl _ _).alloc (Nat.le_refl _) (.cells #[.int .u8 0, .int .u8 5] 5))); have k3 := lit_conv (w5.alloc (.cells #[.int .u8 0, .int .u8 5] 5)) w5.heap.size (heap_alloc_new w5 _); obtain ⟨⟨x0, x1, x2⟩, _, xz⟩ := HV.out w5 hbZ; change w5.cell? ⟨b1, 0, none⟩ = some (.int .i64 2) at x0; change w5.cell? ⟨b1, 1, none⟩ = some (.int .i64 0) at x1; clear hs5 hb5 hbZ)
    | (go_simp; go_at_call 8; (with_reducible refine (w3_call _).mono ?_); rintro e w5 ⟨A5, c5, rfl, hs5, hb5⟩; have hbZ : Below X.heap.size X w5 := (((Below.refl X.heap.size X).alloc (Nat.le_refl _) _).drew.trans (hb5.mono (by simp))); have HBZ := Lib.hid hbZ; have k1 := bytes_conv hs5; have k3 := lit_conv w5 X.heap.size ((hb5.block X.heap.size (by simp)).trans (heap_alloc_new X _)); obtain ⟨⟨x0, x1, x2⟩, _, xz⟩ := HV.out w5 hbZ; change w5.cell? ⟨b1, 0, none⟩ = some (.int .i64 2) at x0; change w5.cell? ⟨b1, 1, none⟩ = some (.int .i64 0) at x1; clear hs5 hb5 hbZ)
    | (go_simp; go_at_call 17; (first | (have hk6 := (HV.out w5 HBZ.out).2.1; with_reducible refine (HTX.out w5 hk6).mono ?_; clear hk6) | (have hk6 := (HV.out _ (HBZ.out.alloc HBZ.out.size (.cells #[.int .u8 0, .int .u8 5] 5))).2.1; with_reducible refine (HTX.out _ hk6).mono ?_; clear hk6)); rintro e w6 ⟨rfl, hb6⟩; have hbY : Below X.heap.size X w6 := (by first | exact HBZ.out.trans (hb6.mono HBZ.out.size) | exact (HBZ.out.alloc HBZ.out.size _).trans (hb6.mono (by have := HBZ.out.size; simp; omega))); have HBY := Lib.hid hbY; obtain ⟨⟨r0, r1, r2⟩, _, rz⟩ := HV.out w6 hbY; change w6.cell? ⟨b1, 0, none⟩ = some (.int .i64 2) at r0; change w6.cell? ⟨b1, 1, none⟩ = some (.int .i64 0) at r1; clear hb6 hbY)
    | (go_simp; go_at_call 10; have hk7 := (HV.out w6 HBY.out).2.1; (with_reducible refine (HLG.out w6 hk7).mono ?_); clear hk7; rintro e w7 ⟨rfl, hb7⟩; have HBX := Lib.hid (HBY.out.trans (hb7.mono HBY.out.size)); clear hb7))
  all_goals
    go_wp2_with (fail)
    go_ret
    exact ⟨rfl, HB2.out.trans (HBX.out.mono HB2.out.size)⟩
end Go.Proofs.Ytnjcapenkoemlaa.vt.ce

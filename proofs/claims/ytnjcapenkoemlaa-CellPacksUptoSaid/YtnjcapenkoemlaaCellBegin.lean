/- The reader reads a number or a flag, or what comes ahead of an array's or a record's kids. -/
import Derived.Test.YtnjcapenkoemlaaCellNumber
import Derived.Test.YtnjcapenkoemlaaCellPush
import Derived.Deep.AppendLies
import Derived.Deep.RegionLaw
namespace Go.Proofs.Ytnjcapenkoemlaa.vt.ce
open Go.RowKit mem vt

def BeginPost (B rb : Nat) (s : List UInt8) (o : List Part) (d : List VT) (w : World) (e : Ending) (w' : World) : Prop :=
  match beginO s o d with
  | some (r, o1, d1) => e = .returned (.bool true) ∧ Rdr B rb r o1 d1 w' ∧ Below B w w'
  | none => e = .returned (.bool false) ∧ Below B w w'
theorem begin_yes {B rb : Nat} {s r : List UInt8} {o o1 : List Part} {d d1 : List VT} {w w' : World} (h : beginO s o d = some (r, o1, d1)) (hr : Rdr B rb r o1 d1 w') (hb : Below B w w') : BeginPost B rb s o d w (.returned (.bool true)) w' := by
  unfold BeginPost; rw [h]; exact ⟨rfl, hr, hb⟩
theorem begin_no {B rb : Nat} {s : List UInt8} {o : List Part} {d : List VT} {w w' : World} (h : beginO s o d = none) (hb : Below B w w') : BeginPost B rb s o d w (.returned (.bool false)) w' := by
  unfold BeginPost; rw [h]; exact ⟨rfl, hb⟩
/-- what the reader's row of what is done tells in each later world: a value without kids is put there -/
theorem done_at {B rb : Nat} {s : List UInt8} {o : List Part} {d : List VT} {w wr : World} {vr vo : Value} {A : Option Addr} {q : Nat} {vs : List Value} {k m : Int} (hB : B ≤ rb) (hk : I64 k) (hm : I64 m) (hh : wr.heap[rb]? = some (.cells #[vr, vo, .slice A d.length q] 44 (0, 0)))
    (hr : Bts (· < B) wr s vr) (hoo : wr.ownsRow B 63 3 vo o.length (opnV o)) (hdd : wr.ownsRow B 24 3 (.slice A d.length q) d.length vs) (hv : Vals (KG B wr (.slice A d.length q)) wr d vs) (hbB : Below B w wr) :
    ∀ V, Below wr.heap.size wr V → (V.cell? ⟨rb, 2, none⟩ = some (.slice A d.length q) ∧ V.frozen? ⟨rb, 2, none⟩ = false ∧ V.ownsRow B 24 3 (.slice A d.length q) d.length vs ∧ B ≤ V.heap.size) ∧
      ∀ (g cap : Nat) (w3 : World), w3.ownsRow B 24 3 (.slice (some ⟨g, 0, none⟩) (d.length + 1) cap) (d.length + 1) (vs ++ [.int .i64 0, .int .i64 0, .slice none 0 0]) → V.grownBy w3 (Value.slice A d.length q).ownBlock → ((Value.slice A d.length q).ownBlock = some g ∨ g = V.heap.size) →
        (Rdr B rb s o (d ++ [.mk k m []]) ((((w3.setCell ⟨g, d.length * 3, none⟩ (.int .i64 k)).setCell ⟨g, d.length * 3 + 1, none⟩ (.int .i64 m)).setCell ⟨g, d.length * 3 + 2, none⟩ (.slice none 0 0)).setCell ⟨rb, 2, none⟩ (.slice (some ⟨g, 0, none⟩) (d.length + 1) cap)) ∧
          Below B w ((((w3.setCell ⟨g, d.length * 3, none⟩ (.int .i64 k)).setCell ⟨g, d.length * 3 + 1, none⟩ (.int .i64 m)).setCell ⟨g, d.length * 3 + 2, none⟩ (.slice none 0 0)).setCell ⟨rb, 2, none⟩ (.slice (some ⟨g, 0, none⟩) (d.length + 1) cap))) ∧
        (w3.cell? ⟨rb, 2, none⟩ = some (.slice A d.length q) ∧ w3.frozen? ⟨rb, 2, none⟩ = false) ∧ g ≠ rb ∧
        (w3.cell? ⟨g, d.length * 3, none⟩ = some (.int .i64 0) ∧ w3.cell? ⟨g, d.length * 3 + 1, none⟩ = some (.int .i64 0) ∧ w3.cell? ⟨g, d.length * 3 + 2, none⟩ = some (.slice none 0 0)) ∧ ∀ i, w3.frozen? ⟨g, i, none⟩ = false := by
  intro V hV
  have hz := (Array.getElem?_eq_some_iff.1 hh).1
  have hh' := (hV.block rb hz).trans hh
  have hzz := hV.size
  exact ⟨⟨cell_of_row V rb 2 _ _ _ hh', by unfold World.frozen?; rw [hh']; simp, own_below hdd hV, by omega⟩, fun g cap w3 h1 h2 h3 => push_done hB rfl hk hm hh' (bts_low hr fun b _ hb => hV.block b hb) (own_below hoo hV) (own_below hdd hV) (vals_step hv (fun b h => hV.block b h.2.2.lt) (fun b h => h.2.1)) (Kids.nil_ _ _) (hbB.trans (hV.mono (by omega))) h1 h2 h3⟩
theorem beginO_zero (r : List UInt8) (o : List Part) (d : List VT) : beginO (0 :: r) o d = (match unGrp r with | some (x, s) => if x < 18446744073709551616 then some (s, o, d ++ [.mk 0 (unzig x) []]) else none | none => none) := by
  rfl
theorem beginO_one (r : List UInt8) (o : List Part) (d : List VT) : beginO (1 :: r) o d = (match r with | e :: s => if e = 0 ∨ e = 1 then some (s, o, d ++ [.mk 1 (e.toNat : Int) []]) else none | [] => none) := by
  rfl
theorem beginO_two {c : UInt8} (h : c = 2 ∨ c = 3) (r : List UInt8) (o : List Part) (d : List VT) : beginO (c :: r) o d = (match unGrp r with | some (x, s) => if x < 18446744073709551616 ∧ x % 2 = 0 then some (s, ((c.toNat : Int), x / 2, d.length) :: o, d) else none | none => none) := by
  rcases h with rfl | rfl <;> rfl
theorem beginO_no {c : UInt8} (h0 : c ≠ 0) (h1 : c ≠ 1) (h : ¬ (c = 2 ∨ c = 3)) (r : List UInt8) (o : List Part) (d : List VT) : beginO (c :: r) o d = none := by
  show (if c = 0 then _ else if c = 1 then _ else if c = 2 ∨ c = 3 then _ else none) = none
  rw [if_neg h0, if_neg h1, if_neg h]
def NumPost2 (B rb : Nat) (s : List UInt8) (o : List Part) (d : List VT) (w : World) (e : Ending) (w' : World) : Prop :=
  ∃ n b s', e = .returned (.tuple #[.int .i64 n, .bool b]) ∧ I64 n ∧ Rdr B rb s' o d w' ∧ Below B w w' ∧ Hid (match goGrp 0 0 s with | some (x, q) => n = unzig x ∧ b = true ∧ s' = q ∧ x < 18446744073709551616 | none => b = false)
theorem number_two (B rb : Nat) (s : List UInt8) (o : List Part) (d : List VT) (w : World) (h : Rdr B rb s o d w) :
    Calls Try.prog 34 #[.pointer (some ⟨rb, 0, none⟩)] w (NumPost2 B rb s o d w) := by
  refine (number_any B rb s o d w h).mono fun e w' hp => ?_
  unfold NumPost at hp
  unfold NumPost2
  cases hg : goGrp 0 0 s with
  | none =>
    rw [hg] at hp
    obtain ⟨n, s', h1, h2, h3, h4⟩ := hp
    exact ⟨n, false, s', h1, h2, h3, h4, Lib.hid rfl⟩
  | some p =>
    obtain ⟨x, q⟩ := p
    rw [hg] at hp
    obtain ⟨h1, h3, h4⟩ := hp
    have hx : x < 18446744073709551616 := by
      rw [goGrp_zero] at hg
      split at hg
      · cases hg
      · split at hg
        · injection hg with hg; injection hg with h _; omega
        · cases hg
    exact ⟨unzig x, true, q, h1, unzig_bd hx, h3, h4, Lib.hid ⟨rfl, rfl, rfl, hx⟩⟩
theorem zero_end {B rb : Nat} {r s' : List UInt8} {o : List Part} {d : List VT} {w w' : World} {n : Int} {b : Bool} (he : Hid (match goGrp 0 0 r with | some (x, q) => n = unzig x ∧ b = true ∧ s' = q ∧ x < 18446744073709551616 | none => b = false)) (hr : Rdr B rb s' o (d ++ [.mk 0 n []]) w') (hb : Below B w w') :
    BeginPost B rb (0 :: r) o d w (.returned (.bool b)) w' := by
  have he := he.out
  rw [goGrp_zero] at he
  cases hu : unGrp r with
  | none =>
    rw [hu] at he
    simp only at he
    subst he
    exact begin_no (by rw [beginO_zero, hu]) hb
  | some p =>
    obtain ⟨x, q⟩ := p
    rw [hu] at he
    simp only at he
    by_cases hx : x < 18446744073709551616
    · rw [if_pos hx] at he
      obtain ⟨rfl, rfl, rfl, _⟩ := he
      exact begin_yes (by rw [beginO_zero, hu]; simp only; rw [if_pos hx]) hr hb
    · rw [if_neg hx] at he
      subst he
      exact begin_no (by rw [beginO_zero, hu]; simp only; rw [if_neg hx]) hb
set_option maxHeartbeats 2000000 in
set_option maxRecDepth 100000 in
theorem begin_zero (B rb : Nat) (r : List UInt8) (o : List Part) (d : List VT) (w : World) (h : Rdr B rb (0 :: r) o d w) (hd : d.length ≤ 1048576) :
    Calls Try.prog 27 #[.pointer (some ⟨rb, 0, none⟩)] w (BeginPost B rb (0 :: r) o d w) := by
  have HN := Lib.hid (next_cons B rb 0 r o d w h)
  have hBr := h.lt.1
  clear h
  go_enter Try.func27, Try.ntmps27
  go_wp2_with (fail)
  refine HN.out.mono ?_
  rintro e w1 ⟨rfl, hr1, hb1⟩
  have HNU := Lib.hid (number_two B rb r o d w1 hr1)
  have HB1 := Lib.hid hb1
  clear hr1 hb1 HN
  go_wp2_with (fail)
  refine HNU.out.mono ?_
  rintro e w2 ⟨n, b, s', rfl, hn, hr2, hb2, HE⟩
  obtain ⟨vr, Ao, co, A, q, vs, hh, hr, hoo, hdd, hv⟩ := hr2.parts
  have HST := Lib.hid (done_at (w := w) hBr (by unfold I64; omega : I64 0) hn hh hr hoo hdd hv (HB1.out.trans hb2))
  have hrz : rb < w2.heap.size := (Array.getElem?_eq_some_iff.1 hh).1
  obtain ⟨D, hD⟩ : ∃ D, D = d.length := ⟨_, rfl⟩
  rw [← hD] at HST hd
  have hDz : (0 : Int) ≤ D := by omega
  have hD1 : (D : Int) < D + 1 := by omega
  obtain ⟨i0, hi, hz0, hz1, hz2⟩ := info_parts infoV
  have h1c : Hid (∀ u ∈ [Value.int .i64 0, .int .i64 0, .slice none 0 0], u.oneCell' = true) := Lib.hid (by intro u hu; simp at hu; rcases hu with rfl | rfl <;> rfl)
  obtain ⟨⟨c2, f2, ho2, hBz⟩, _⟩ := HST.out w2 (Below.refl _ _)
  have HO2 := Lib.hid ho2
  have HD := Lib.hid hD
  clear hr2 hb2 hh hr hoo hdd hv HNU ho2 hD
  go_wp2_with (fail)
  go_region_law (first
    | (refine step_append_lies _ (by rfl) (.tmp 29) (.tmp 33) 22 (by rfl) B 24 i0 (.agg #[.int .i64 0, .int .i64 0, .slice none 0 0]) 3 40 Try.underlying22 hi hz0 hz1 hz2 (by rfl) (by decide) (.slice A D q) D vs (by rfl) (HO4.out.alloc _) ⟨w4.heap.size, 0, none⟩ 1 1 [.int .i64 0, .int .i64 0, .slice none 0 0] (by rfl) (by rfl) (World.news_of_block (heap_alloc_new w4 _)) h1c.out (by decide) (by unfold maxLen; omega) (by omega) (by simp; omega) (w4.heap.size + 1) (by simp) ?_; intro g cap w3 hown hgrow hat hlt; obtain ⟨p1, ⟨p2, p3⟩, p5, ⟨p7, p8, p9⟩, p10⟩ := (HST.out _ (HBZ.out.alloc HBZ.out.size _)).2 g cap w3 hown hgrow (hat.imp id fun h => by rw [h]; simp); have HP1 := Lib.hid p1; have x0 := p10 (D * 3); have x1 := p10 (D * 3 + 1); have x2 := p10 (D * 3 + 2); clear p1 p10 hown hgrow hat)
    | (refine step_append_lies _ (by rfl) (.tmp 29) (.tmp 33) 22 (by rfl) B 24 i0 (.agg #[.int .i64 0, .int .i64 0, .slice none 0 0]) 3 40 Try.underlying22 hi hz0 hz1 hz2 (by rfl) (by decide) (.slice A D q) D vs (by rfl) HO4.out ⟨w2.heap.size, 0, none⟩ 1 1 [.int .i64 0, .int .i64 0, .slice none 0 0] (by rfl) (by rfl) (World.news_of_block HNB.out) h1c.out (by decide) (by unfold maxLen; omega) (by omega) hB4 w4.heap.size rfl ?_; intro g cap w3 hown hgrow hat hlt; obtain ⟨p1, ⟨p2, p3⟩, p5, ⟨p7, p8, p9⟩, p10⟩ := (HST.out _ HBZ.out).2 g cap w3 hown hgrow hat; have HP1 := Lib.hid p1; have x0 := p10 (D * 3); have x1 := p10 (D * 3 + 1); have x2 := p10 (D * 3 + 2); clear p1 p10 hown hgrow hat)
    | (go_simp; go_at_call 35; (with_reducible refine (int_any n w2.drew).mono ?_); rintro e w4 ⟨rfl, hb4⟩; have hbZ : Below w2.heap.size w2 w4 := (Below.refl _ w2).drew.trans hb4; obtain ⟨⟨y2, fy, ho4, hB4⟩, _⟩ := HST.out w4 hbZ; have hz4 : rb < w4.heap.size := (by have := hbZ.size; omega); have n4 : rb ≠ w4.heap.size := (by omega); have HO4 := Lib.hid ho4; have HBZ := Lib.hid hbZ; clear hb4 hbZ ho4)
    | (go_simp; go_at_call 35; (with_reducible refine (int_any n _).mono ?_); rintro e w4 ⟨rfl, hb4⟩; have HNB : Hid (w4.heap[w2.heap.size]? = some (.cells #[.int .i64 0, .int .i64 0, .slice none 0 0] 24)) := Lib.hid ((hb4.block w2.heap.size (by simp)).trans (heap_alloc_new w2 _)); have hbZ : Below w2.heap.size w2 w4 := (((Below.refl w2.heap.size w2).alloc (Nat.le_refl _) _).drew.trans (hb4.mono (by simp))); obtain ⟨⟨y2, fy, ho4, hB4⟩, _⟩ := HST.out w4 hbZ; have hz4 : rb < w4.heap.size := (by have := hbZ.size; omega); have n4 : rb ≠ w4.heap.size := (by omega); have HO4 := Lib.hid ho4; have HBZ := Lib.hid hbZ; clear hb4 hbZ ho4))
  all_goals
    go_wp2_with (fail)
    go_ret
    try rw [set_comm3 _ p5]
    exact zero_end HE HP1.out.1 HP1.out.2
end Go.Proofs.Ytnjcapenkoemlaa.vt.ce

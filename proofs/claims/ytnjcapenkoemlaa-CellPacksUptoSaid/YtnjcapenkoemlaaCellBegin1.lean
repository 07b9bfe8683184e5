/- The reader reads a flag. -/
import Derived.Test.YtnjcapenkoemlaaCellBegin
namespace Go.Proofs.Ytnjcapenkoemlaa.vt.ce
open Go.RowKit mem vt

def FlagIs (r s' : List UInt8) (c : Nat) (b : Bool) : Prop := match r with | e :: q => b = true ∧ s' = q ∧ c = e.toNat | [] => b = false
def Next2 (B rb : Nat) (s : List UInt8) (o : List Part) (d : List VT) (w : World) (e : Ending) (w' : World) : Prop :=
  ∃ (c : Nat) (b : Bool) (s' : List UInt8), e = .returned (.tuple #[.int .u8 c, .bool b]) ∧ c < 256 ∧ Rdr B rb s' o d w' ∧ Below B w w' ∧ Hid (FlagIs s s' c b)
theorem next_two (B rb : Nat) (s : List UInt8) (o : List Part) (d : List VT) (w : World) (h : Rdr B rb s o d w) :
    Calls Try.prog 33 #[.pointer (some ⟨rb, 0, none⟩)] w (Next2 B rb s o d w) := by
  cases s with
  | nil =>
    refine (next_nil B rb o d w h).mono fun e w' hp => ?_
    obtain ⟨h1, rfl⟩ := hp
    exact ⟨0, false, [], h1, by omega, h, Below.refl _ _, Lib.hid rfl⟩
  | cons c r =>
    refine (next_cons B rb c r o d w h).mono fun e w' hp => ?_
    obtain ⟨h1, h2, h3⟩ := hp
    exact ⟨c.toNat, true, r, h1, c.toNat_lt, h2, h3, Lib.hid ⟨rfl, rfl, rfl⟩⟩
theorem one_no {B rb : Nat} {r s' : List UInt8} {o : List Part} {d : List VT} {w w' : World} {c : Nat} {b : Bool} (he : Hid (FlagIs r s' c b)) (hc : c < 256) (hb : Below B w w') (h : b = false ∨ ¬ c ≤ 1) :
    BeginPost B rb (1 :: r) o d w (.returned (.bool false)) w' := by
  have he := he.out
  unfold FlagIs at he
  refine begin_no ?_ hb
  rw [beginO_one]
  cases r with
  | nil => rfl
  | cons e q =>
    simp only at he ⊢
    obtain ⟨rfl, rfl, rfl⟩ := he
    rw [if_neg]
    rintro (rfl | rfl)
    · simp at h
    · simp at h
theorem one_yes {B rb : Nat} {r s' : List UInt8} {o : List Part} {d : List VT} {w w' : World} {c : Nat} {b : Bool} (he : Hid (FlagIs r s' c b)) (hr : Rdr B rb s' o (d ++ [.mk 1 (bit ((c : Int) == 1)) []]) w') (hb : Below B w w') (h : b = true) (h1 : c ≤ 1) :
    BeginPost B rb (1 :: r) o d w (.returned (.bool true)) w' := by
  have he := he.out
  unfold FlagIs at he
  cases r with
  | nil => simp only at he; rw [h] at he; cases he
  | cons e q =>
    simp only at he
    obtain ⟨_, rfl, rfl⟩ := he
    have e1 : e = 0 ∨ e = 1 := by
      rcases (show e.toNat = 0 ∨ e.toNat = 1 by omega) with h | h
      · left; exact UInt8.toNat_inj.1 h
      · right; exact UInt8.toNat_inj.1 h
    refine begin_yes (d1 := d ++ [.mk 1 (e.toNat : Int) []]) (by rw [beginO_one]; simp only; rw [if_pos e1]) ?_ hb
    have e2 : bit (((e.toNat : Nat) : Int) == 1) = ((e.toNat : Nat) : Int) := by rcases e1 with rfl | rfl <;> rfl
    rw [e2] at hr
    exact hr
theorem bit_i64 (b : Bool) : I64 (bit b) := by cases b <;> (unfold I64 bit; decide)
set_option maxHeartbeats 2000000 in
set_option maxRecDepth 100000 in
theorem begin_one (B rb : Nat) (r : List UInt8) (o : List Part) (d : List VT) (w : World) (h : Rdr B rb (1 :: r) o d w) (hd : d.length ≤ 1048576) :
    Calls Try.prog 27 #[.pointer (some ⟨rb, 0, none⟩)] w (BeginPost B rb (1 :: r) o d w) := by
  have HN := Lib.hid (next_cons B rb 1 r o d w h)
  have hBr := h.lt.1
  clear h
  go_enter Try.func27, Try.ntmps27
  go_wp2_with (fail)
  refine HN.out.mono ?_
  rintro e w1 ⟨rfl, hr1, hb1⟩
  have HNU := Lib.hid (next_two B rb r o d w1 hr1)
  have HB1 := Lib.hid hb1
  clear hr1 hb1 HN
  go_wp2_with (fail)
  refine HNU.out.mono ?_
  rintro e w2 ⟨c, b, s', rfl, hc, hr2, hb2, HE⟩
  obtain ⟨vr, Ao, co, A, q, vs, hh, hr, hoo, hdd, hv⟩ := hr2.parts
  have HST := Lib.hid (done_at (w := w) hBr (by unfold I64; omega : I64 1) (bit_i64 ((c : Int) == 1)) hh hr hoo hdd hv (HB1.out.trans hb2))
  have hrz : rb < w2.heap.size := (Array.getElem?_eq_some_iff.1 hh).1
  obtain ⟨D, hD⟩ : ∃ D, D = d.length := ⟨_, rfl⟩
  rw [← hD] at HST hd
  have hDz : (0 : Int) ≤ D := by omega
  have hD1 : (D : Int) < D + 1 := by omega
  obtain ⟨i0, hi, hz0, hz1, hz2⟩ := info_parts infoV
  have h1c : Hid (∀ u ∈ [Value.int .i64 0, .int .i64 0, .slice none 0 0], u.oneCell' = true) := Lib.hid (by intro u hu; simp at hu; rcases hu with rfl | rfl <;> rfl)
  obtain ⟨⟨c2, f2, ho2, hBz⟩, _⟩ := HST.out w2 (Below.refl _ _)
  have HO2 := Lib.hid ho2
  have HD := Lib.hid hD
  clear hr2 hb2 hh hr hoo hdd hv HNU ho2 hD
  go_wp2_with (fail)
  go_region_law (first
    | (refine step_append_lies _ (by rfl) _ _ 22 (by rfl) B 24 i0 (.agg #[.int .i64 0, .int .i64 0, .slice none 0 0]) 3 40 Try.underlying22 hi hz0 hz1 hz2 (by rfl) (by decide) (.slice A D q) D vs (by rfl) (HO4.out.alloc _) ⟨w4.heap.size, 0, none⟩ 1 1 [.int .i64 0, .int .i64 0, .slice none 0 0] (by rfl) (by rfl) (World.news_of_block (heap_alloc_new w4 _)) h1c.out (by decide) (by unfold maxLen; omega) (by omega) (by simp; omega) (w4.heap.size + 1) (by simp) ?_; intro g cap w3 hown hgrow hat hlt; obtain ⟨p1, ⟨p2, p3⟩, p5, ⟨p7, p8, p9⟩, p10⟩ := (HST.out _ (HBZ.out.alloc HBZ.out.size _)).2 g cap w3 hown hgrow (hat.imp id fun h => by rw [h]; simp); have HP1 := Lib.hid p1; have x0 := p10 (D * 3); have x1 := p10 (D * 3 + 1); have x2 := p10 (D * 3 + 2); clear p1 p10 hown hgrow hat)
    | (refine step_append_lies _ (by rfl) _ _ 22 (by rfl) B 24 i0 (.agg #[.int .i64 0, .int .i64 0, .slice none 0 0]) 3 40 Try.underlying22 hi hz0 hz1 hz2 (by rfl) (by decide) (.slice A D q) D vs (by rfl) HO4.out ⟨w2.heap.size, 0, none⟩ 1 1 [.int .i64 0, .int .i64 0, .slice none 0 0] (by rfl) (by rfl) (World.news_of_block HNB.out) h1c.out (by decide) (by unfold maxLen; omega) (by omega) hB4 w4.heap.size rfl ?_; intro g cap w3 hown hgrow hat hlt; obtain ⟨p1, ⟨p2, p3⟩, p5, ⟨p7, p8, p9⟩, p10⟩ := (HST.out _ HBZ.out).2 g cap w3 hown hgrow hat; have HP1 := Lib.hid p1; have x0 := p10 (D * 3); have x1 := p10 (D * 3 + 1); have x2 := p10 (D * 3 + 2); clear p1 p10 hown hgrow hat)
    | (go_simp; go_at_call 36; (with_reducible refine (bool_any ((c : Int) == 1) w2.drew).mono ?_); rintro e w4 ⟨rfl, hb4⟩; have hbZ : Below w2.heap.size w2 w4 := (Below.refl _ w2).drew.trans hb4; obtain ⟨⟨y2, fy, ho4, hB4⟩, _⟩ := HST.out w4 hbZ; have hz4 : rb < w4.heap.size := (by have := hbZ.size; omega); have n4 : rb ≠ w4.heap.size := (by omega); have HO4 := Lib.hid ho4; have HBZ := Lib.hid hbZ; clear hb4 hbZ ho4)
    | (go_simp; go_at_call 36; (with_reducible refine (bool_any ((c : Int) == 1) _).mono ?_); rintro e w4 ⟨rfl, hb4⟩; have HNB : Hid (w4.heap[w2.heap.size]? = some (.cells #[.int .i64 0, .int .i64 0, .slice none 0 0] 24)) := Lib.hid ((hb4.block w2.heap.size (by simp)).trans (heap_alloc_new w2 _)); have hbZ : Below w2.heap.size w2 w4 := (((Below.refl w2.heap.size w2).alloc (Nat.le_refl _) _).drew.trans (hb4.mono (by simp))); obtain ⟨⟨y2, fy, ho4, hB4⟩, _⟩ := HST.out w4 hbZ; have hz4 : rb < w4.heap.size := (by have := hbZ.size; omega); have n4 : rb ≠ w4.heap.size := (by omega); have HO4 := Lib.hid ho4; have HBZ := Lib.hid hbZ; clear hb4 hbZ ho4))
  all_goals
    cases b
    · go_wp2_with (fail)
      go_ret
      try rw [set_comm3 _ p5]
      exact one_no HE hc HP1.out.2 (Or.inl rfl)
    · by_cases h1 : c ≤ 1
      · have h1' : (c : Int) ≤ 1 := by omega
        go_wp2_with (fail)
        go_ret
        try rw [set_comm3 _ p5]
        first
          | exact one_yes HE HP1.out.1 HP1.out.2 rfl h1
          | (have e : decide (c ≤ 1) = true := decide_eq_true h1; rw [e]; exact one_yes HE HP1.out.1 HP1.out.2 rfl h1)
      · have h1' : ¬ (c : Int) ≤ 1 := by omega
        go_wp2_with (fail)
        go_ret
        try rw [set_comm3 _ p5]
        first
          | exact one_no HE hc HP1.out.2 (Or.inr h1)
          | (have e : decide (c ≤ 1) = false := decide_eq_false h1; rw [e]; exact one_no HE hc HP1.out.2 (Or.inr h1))
end Go.Proofs.Ytnjcapenkoemlaa.vt.ce

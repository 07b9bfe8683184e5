/- The reader opens an array or a record. -/
import Derived.Test.YtnjcapenkoemlaaCellBegin
namespace Go.Proofs.Ytnjcapenkoemlaa.vt.ce
open Go.RowKit mem vt

def NumIs (r s' : List UInt8) (n : Int) (b : Bool) : Prop := match goGrp 0 0 r with | some (x, q) => n = unzig x ∧ b = true ∧ s' = q ∧ x < 18446744073709551616 | none => b = false
theorem two_no {B rb : Nat} {k : UInt8} {r s' : List UInt8} {o : List Part} {d : List VT} {w w' : World} {n : Int} {b : Bool} (hk : k = 2 ∨ k = 3) (he : Hid (NumIs r s' n b)) (hb : Below B w w') (h : b = false ∨ n < 0) :
    BeginPost B rb (k :: r) o d w (.returned (.bool false)) w' := by
  have he := he.out
  unfold NumIs at he
  refine begin_no ?_ hb
  rw [beginO_two hk]
  rw [goGrp_zero] at he
  cases hu : unGrp r with
  | none => rfl
  | some p =>
    obtain ⟨x, q⟩ := p
    rw [hu] at he
    simp only at he ⊢
    rw [if_neg]
    rintro ⟨h1, h2⟩
    rw [if_pos h1] at he
    obtain ⟨rfl, rfl, _⟩ := he
    rcases h with h | h
    · cases h
    · unfold unzig at h; rw [if_pos h2] at h; omega
theorem two_yes {B rb : Nat} {k : UInt8} {r s' : List UInt8} {o : List Part} {d : List VT} {w w' : World} {n : Int} {b : Bool} (hk : k = 2 ∨ k = 3) (he : Hid (NumIs r s' n b)) (hr : n = (n.toNat : Int) → Rdr B rb s' (((k.toNat : Int), n.toNat, d.length) :: o) d w') (hb : Below B w w') (h : b = true) (h1 : 0 ≤ n) :
    BeginPost B rb (k :: r) o d w (.returned (.bool true)) w' := by
  have he := he.out
  unfold NumIs at he
  have hr := hr (by omega)
  rw [goGrp_zero] at he
  cases hu : unGrp r with
  | none => rw [hu] at he; simp only at he; rw [h] at he; cases he
  | some p =>
    obtain ⟨x, q⟩ := p
    rw [hu] at he
    simp only at he
    by_cases hx : x < 18446744073709551616
    · rw [if_pos hx] at he
      obtain ⟨rfl, _, rfl, _⟩ := he
      have h2 : x % 2 = 0 := by
        unfold unzig at h1; split at h1
        · assumption
        · omega
      have h3 : (unzig x).toNat = x / 2 := by unfold unzig; rw [if_pos h2]; omega
      rw [h3] at hr
      exact begin_yes (by rw [beginO_two hk, hu]; simp only; rw [if_pos ⟨hx, h2⟩]) hr hb
    · rw [if_neg hx] at he; simp only at he; rw [h] at he; cases he
theorem open_at {B rb : Nat} {s : List UInt8} {o : List Part} {d : List VT} {w wr : World} {vr : Value} {A Ao : Option Addr} {q co : Nat} {vs : List Value} {k : Int} (n : Int) (hB : B ≤ rb) (hh : wr.heap[rb]? = some (.cells #[vr, .slice Ao o.length co, .slice A d.length q] 44 (0, 0)))
    (hr : Bts (· < B) wr s vr) (hoo : wr.ownsRow B 63 3 (.slice Ao o.length co) o.length (opnV o)) (hdd : wr.ownsRow B 24 3 (.slice A d.length q) d.length vs) (hv : Vals (KG B wr (.slice A d.length q)) wr d vs) (hbB : Below B w wr) :
    ∀ V, Below wr.heap.size wr V → (V.cell? ⟨rb, 1, none⟩ = some (.slice Ao o.length co) ∧ V.cell? ⟨rb, 2, none⟩ = some (.slice A d.length q) ∧ V.frozen? ⟨rb, 1, none⟩ = false ∧ V.ownsRow B 63 3 (.slice Ao o.length co) o.length (opnV o) ∧ B ≤ V.heap.size) ∧
      ∀ (vo' : Value) (w3 : World), w3.ownsRow B 63 3 vo' (o.length + 1) (opnV o ++ [.int .i64 k, .int .i64 n, .int .i64 (d.length : Nat)]) → V.grownBy w3 (Value.slice Ao o.length co).ownBlock →
        (n = (n.toNat : Int) → Rdr B rb s ((k, n.toNat, d.length) :: o) d (w3.setCell ⟨rb, 1, none⟩ vo')) ∧ Below B w (w3.setCell ⟨rb, 1, none⟩ vo') ∧ w3.cell? ⟨rb, 1, none⟩ = some (.slice Ao o.length co) ∧ w3.frozen? ⟨rb, 1, none⟩ = false := by
  intro V hV
  have hz := (Array.getElem?_eq_some_iff.1 hh).1
  have hh' := (hV.block rb hz).trans hh
  have hzz := hV.size
  exact ⟨⟨cell_of_row V rb 1 _ _ _ hh', cell_of_row V rb 2 _ _ _ hh', by unfold World.frozen?; rw [hh']; simp, own_below hoo hV, by omega⟩, fun vo' w3 h1 h2 => push_open (k, n.toNat, d.length) n hB hh' (bts_low hr fun b _ hb => hV.block b hb) (own_below hoo hV) (own_below hdd hV) (vals_step hv (fun b h => hV.block b h.2.2.lt) (fun b h => h.2.1)) (hbB.trans (hV.mono (by omega))) h1 h2⟩
set_option maxHeartbeats 2000000 in
set_option maxRecDepth 100000 in
theorem begin_two (B rb : Nat) (r : List UInt8) (o : List Part) (d : List VT) (w : World) (h : Rdr B rb (2 :: r) o d w) (hd : d.length ≤ 1048576) (ho : o.length ≤ 1048576) :
    Calls Try.prog 27 #[.pointer (some ⟨rb, 0, none⟩)] w (BeginPost B rb (2 :: r) o d w) := by
  have HN := Lib.hid (next_cons B rb 2 r o d w h)
  have hBr := h.lt.1
  clear h
  go_enter Try.func27, Try.ntmps27
  go_wp2_with (fail)
  refine HN.out.mono ?_
  rintro e w1 ⟨rfl, hr1, hb1⟩
  have HNU := Lib.hid (number_two B rb r o d w1 hr1)
  have HB1 := Lib.hid hb1
  clear hr1 hb1 HN
  go_wp2_with (fail)
  refine HNU.out.mono ?_
  rintro e w2 ⟨n, b, s', rfl, hn, hr2, hb2, HE0⟩
  have HE : Hid (NumIs r s' n b) := HE0
  clear HE0
  obtain ⟨vr, Ao, co, A, q, vs, hh, hr, hoo, hdd, hv⟩ := hr2.parts
  have HST := Lib.hid (open_at (w := w) (k := 2) n hBr hh hr hoo hdd hv (HB1.out.trans hb2))
  have hrz : rb < w2.heap.size := (Array.getElem?_eq_some_iff.1 hh).1
  obtain ⟨D, hD⟩ : ∃ D, D = d.length := ⟨_, rfl⟩
  obtain ⟨M, hM⟩ : ∃ M, M = o.length := ⟨_, rfl⟩
  rw [← hD, ← hM] at HST
  rw [← hD] at hd
  rw [← hM] at ho
  obtain ⟨i0, hi, hz0, hz1, hz2⟩ := info_parts infoPart
  obtain ⟨⟨c1, c2, f1, ho2, hBz⟩, _⟩ := HST.out w2 (Below.refl _ _)
  have HO2 := Lib.hid ho2
  have h1c : Hid (∀ (n : Int) (D : Nat), ∀ u ∈ [Value.int .i64 2, .int .i64 n, .int .i64 D], u.oneCell' = true) := Lib.hid (by intro n D u hu; simp at hu; rcases hu with rfl | rfl | rfl <;> rfl)
  have HD := Lib.hid hD
  have HM := Lib.hid hM
  clear hr2 hb2 hh hr hoo hdd hv HNU ho2 hD hM
  go_wp2_with (fail)
  go_region_law (first
    | (refine step_append_lies _ (by rfl) _ _ 42 (by rfl) B 63 i0 (.agg #[.int .i64 0, .int .i64 0, .int .i64 0]) 3 24 Try.underlying42 hi hz0 hz1 hz2 (by rfl) (by decide) (.slice Ao M co) M (opnV o) (by rfl) ((HO2.out.alloc _).drew) ⟨w2.heap.size, 0, none⟩ 1 1 [.int .i64 2, .int .i64 n, .int .i64 D] (by rfl) (by rfl) (World.news_of_block (heap_alloc_new w2 _)) (h1c.out n D) (by decide) (by unfold maxLen; omega) (by omega) (by simp; omega) (w2.heap.size + 1) (by simp) ?_; intro g cap w3 hown hgrow hat hlt; obtain ⟨p1, p2, p3, p4⟩ := (HST.out _ (((Below.refl _ _).alloc (Nat.le_refl _) _).drew)).2 _ w3 hown hgrow; have HP1 := Lib.hid p1; have HP2 := Lib.hid p2; clear p1 p2 hown hgrow hat))
  all_goals
    have HQ1 := Lib.hid (fun h => HD.out ▸ HP1.out h)
    cases b
    · go_wp2_with (fail)
      go_ret
      exact two_no (Or.inl rfl) HE HP2.out (Or.inl rfl)
    · by_cases h1 : 0 ≤ n
      · go_wp2_with (fail)
        go_ret
        first
          | exact two_yes (Or.inl rfl) HE HQ1.out HP2.out rfl h1
          | (have e : decide (0 ≤ n) = true := decide_eq_true h1; rw [e]; exact two_yes (Or.inl rfl) HE HQ1.out HP2.out rfl h1)
      · have h1' : n < 0 := by omega
        go_wp2_with (fail)
        go_ret
        first
          | exact two_no (Or.inl rfl) HE HP2.out (Or.inr h1')
          | (have e : decide (0 ≤ n) = false := decide_eq_false h1; rw [e]; exact two_no (Or.inl rfl) HE HP2.out (Or.inr h1'))
set_option maxHeartbeats 2000000 in
set_option maxRecDepth 100000 in
theorem begin_three (B rb : Nat) (r : List UInt8) (o : List Part) (d : List VT) (w : World) (h : Rdr B rb (3 :: r) o d w) (hd : d.length ≤ 1048576) (ho : o.length ≤ 1048576) :
    Calls Try.prog 27 #[.pointer (some ⟨rb, 0, none⟩)] w (BeginPost B rb (3 :: r) o d w) := by
  have HN := Lib.hid (next_cons B rb 3 r o d w h)
  have hBr := h.lt.1
  clear h
  go_enter Try.func27, Try.ntmps27
  go_wp2_with (fail)
  refine HN.out.mono ?_
  rintro e w1 ⟨rfl, hr1, hb1⟩
  have HNU := Lib.hid (number_two B rb r o d w1 hr1)
  have HB1 := Lib.hid hb1
  clear hr1 hb1 HN
  go_wp2_with (fail)
  refine HNU.out.mono ?_
  rintro e w2 ⟨n, b, s', rfl, hn, hr2, hb2, HE0⟩
  have HE : Hid (NumIs r s' n b) := HE0
  clear HE0
  obtain ⟨vr, Ao, co, A, q, vs, hh, hr, hoo, hdd, hv⟩ := hr2.parts
  have HST := Lib.hid (open_at (w := w) (k := 3) n hBr hh hr hoo hdd hv (HB1.out.trans hb2))
  have hrz : rb < w2.heap.size := (Array.getElem?_eq_some_iff.1 hh).1
  obtain ⟨D, hD⟩ : ∃ D, D = d.length := ⟨_, rfl⟩
  obtain ⟨M, hM⟩ : ∃ M, M = o.length := ⟨_, rfl⟩
  rw [← hD, ← hM] at HST
  rw [← hD] at hd
  rw [← hM] at ho
  obtain ⟨i0, hi, hz0, hz1, hz2⟩ := info_parts infoPart
  obtain ⟨⟨c1, c2, f1, ho2, hBz⟩, _⟩ := HST.out w2 (Below.refl _ _)
  have HO2 := Lib.hid ho2
  have h1c : Hid (∀ (n : Int) (D : Nat), ∀ u ∈ [Value.int .i64 3, .int .i64 n, .int .i64 D], u.oneCell' = true) := Lib.hid (by intro n D u hu; simp at hu; rcases hu with rfl | rfl | rfl <;> rfl)
  have HD := Lib.hid hD
  have HM := Lib.hid hM
  clear hr2 hb2 hh hr hoo hdd hv HNU ho2 hD hM
  go_wp2_with (fail)
  go_region_law (first
    | (refine step_append_lies _ (by rfl) _ _ 42 (by rfl) B 63 i0 (.agg #[.int .i64 0, .int .i64 0, .int .i64 0]) 3 24 Try.underlying42 hi hz0 hz1 hz2 (by rfl) (by decide) (.slice Ao M co) M (opnV o) (by rfl) ((HO2.out.alloc _).drew) ⟨w2.heap.size, 0, none⟩ 1 1 [.int .i64 3, .int .i64 n, .int .i64 D] (by rfl) (by rfl) (World.news_of_block (heap_alloc_new w2 _)) (h1c.out n D) (by decide) (by unfold maxLen; omega) (by omega) (by simp; omega) (w2.heap.size + 1) (by simp) ?_; intro g cap w3 hown hgrow hat hlt; obtain ⟨p1, p2, p3, p4⟩ := (HST.out _ (((Below.refl _ _).alloc (Nat.le_refl _) _).drew)).2 _ w3 hown hgrow; have HP1 := Lib.hid p1; have HP2 := Lib.hid p2; clear p1 p2 hown hgrow hat))
  all_goals
    have HQ1 := Lib.hid (fun h => HD.out ▸ HP1.out h)
    cases b
    · go_wp2_with (fail)
      go_ret
      exact two_no (Or.inr rfl) HE HP2.out (Or.inl rfl)
    · by_cases h1 : 0 ≤ n
      · go_wp2_with (fail)
        go_ret
        first
          | exact two_yes (Or.inr rfl) HE HQ1.out HP2.out rfl h1
          | (have e : decide (0 ≤ n) = true := decide_eq_true h1; rw [e]; exact two_yes (Or.inr rfl) HE HQ1.out HP2.out rfl h1)
      · have h1' : n < 0 := by omega
        go_wp2_with (fail)
        go_ret
        first
          | exact two_no (Or.inr rfl) HE HP2.out (Or.inr h1')
          | (have e : decide (0 ≤ n) = false := decide_eq_false h1; rw [e]; exact two_no (Or.inr rfl) HE HP2.out (Or.inr h1'))
set_option maxRecDepth 100000 in
theorem begin_nil (B rb : Nat) (o : List Part) (d : List VT) (w : World) (h : Rdr B rb [] o d w) :
    Calls Try.prog 27 #[.pointer (some ⟨rb, 0, none⟩)] w (BeginPost B rb [] o d w) := by
  have HN := Lib.hid (next_nil B rb o d w h)
  clear h
  go_enter Try.func27, Try.ntmps27
  go_wp2_with (fail)
  refine HN.out.mono ?_
  rintro e w1 ⟨rfl, rfl⟩
  go_wp2_with (fail)
  go_ret
  exact begin_no rfl (Below.refl _ _)
set_option maxHeartbeats 1000000 in
set_option maxRecDepth 100000 in
theorem begin_none (B rb : Nat) (c : UInt8) (r : List UInt8) (o : List Part) (d : List VT) (w : World) (h : Rdr B rb (c :: r) o d w) (h0 : c ≠ 0) (h1 : c ≠ 1) (h2 : ¬ (c = 2 ∨ c = 3)) :
    Calls Try.prog 27 #[.pointer (some ⟨rb, 0, none⟩)] w (BeginPost B rb (c :: r) o d w) := by
  have HN := Lib.hid (next_cons B rb c r o d w h)
  have HO := Lib.hid (beginO_no h0 h1 h2 r o d)
  have n0 : c.toNat ≠ 0 := fun e => h0 (UInt8.toNat_inj.1 e)
  have n1 : c.toNat ≠ 1 := fun e => h1 (UInt8.toNat_inj.1 e)
  have n2 : c.toNat ≠ 2 := fun e => h2 (Or.inl (UInt8.toNat_inj.1 e))
  have n3 : c.toNat ≠ 3 := fun e => h2 (Or.inr (UInt8.toNat_inj.1 e))
  have m0 : ((c.toNat : Int) == 0) = false := beq_eq_false_iff_ne.2 (by omega)
  have m1 : ((c.toNat : Int) == 1) = false := beq_eq_false_iff_ne.2 (by omega)
  have m2 : ((c.toNat : Int) == 2) = false := beq_eq_false_iff_ne.2 (by omega)
  have m3 : ((c.toNat : Int) == 3) = false := beq_eq_false_iff_ne.2 (by omega)
  clear h h0 h1 h2
  go_enter Try.func27, Try.ntmps27
  go_wp2_with (fail)
  refine HN.out.mono ?_
  rintro e w1 ⟨rfl, hr1, hb1⟩
  have HB1 := Lib.hid hb1
  clear hr1 hb1 HN
  go_wp2_with (fail)
  go_ret
  exact begin_no HO.out HB1.out
end Go.Proofs.Ytnjcapenkoemlaa.vt.ce

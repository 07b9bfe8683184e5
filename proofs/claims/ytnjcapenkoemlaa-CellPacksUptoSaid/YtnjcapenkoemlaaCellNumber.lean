/- The reader reads a number. -/
import Derived.Test.YtnjcapenkoemlaaCellRdr
import Derived.Test.YtnjcapenkoemlaaCellNum
namespace Go.Proofs.Ytnjcapenkoemlaa.vt.ce
open Go.RowKit mem vt

/-- what so many groups and the rest come to -/
def goGrp (k u : Nat) (s : List UInt8) : Option (Nat × List UInt8) :=
  match unGrp s with
  | none => none
  | some (x, q) => if (k = 0 ∨ x ≠ 0) ∧ u + 128 ^ k * x < 18446744073709551616 then some (u + 128 ^ k * x, q) else none
theorem goGrp_zero (s : List UInt8) : goGrp 0 0 s = (match unGrp s with | none => none | some (x, q) => if x < 18446744073709551616 then some (x, q) else none) := by
  unfold goGrp
  cases unGrp s with
  | none => rfl
  | some p => obtain ⟨x, q⟩ := p; simp
theorem goGrp_nil (k u : Nat) : goGrp k u [] = none := by unfold goGrp; rw [unGrp]
theorem goGrp_over {k u : Nat} {c : UInt8} {r : List UInt8} (h : 18446744073709551616 ≤ 128 ^ k * (c.toNat % 128)) : goGrp k u (c :: r) = none := by
  unfold goGrp
  rw [unGrp]
  have hc := c.toNat_lt
  split
  · rfl
  · rename_i x q he
    have hx : c.toNat % 128 ≤ x := by
      split at he
      · injection he with he; injection he with h1 _; omega
      · split at he
        · cases he
        · split at he
          · cases he
          · injection he with he; injection he with h1 _; omega
    have := Nat.mul_le_mul_left (128 ^ k) hx
    rw [if_neg (by omega)]
theorem goGrp_low {k u : Nat} {c : UInt8} {r : List UInt8} (h : c.toNat < 128) (hb : u + 128 ^ k * c.toNat < 18446744073709551616) : goGrp k u (c :: r) = if k = 0 ∨ c.toNat ≠ 0 then some (u + 128 ^ k * c.toNat, r) else none := by
  unfold goGrp
  rw [unGrp_low h]
  simp only
  by_cases h1 : k = 0 ∨ c.toNat ≠ 0
  · rw [if_pos h1, if_pos ⟨h1, hb⟩]
  · rw [if_neg h1, if_neg (fun h => h1 h.1)]
theorem goGrp_high {k u : Nat} {c : UInt8} {r : List UInt8} (h : 128 ≤ c.toNat) : goGrp k u (c :: r) = goGrp (k + 1) (u + 128 ^ k * (c.toNat - 128)) r := by
  unfold goGrp
  rw [unGrp, if_neg (by omega)]
  cases unGrp r with
  | none => rfl
  | some p =>
    obtain ⟨x, q⟩ := p
    simp only
    have e : u + 128 ^ k * (c.toNat - 128 + 128 * x) = u + 128 ^ k * (c.toNat - 128) + 128 ^ (k + 1) * x := by
      rw [Nat.mul_add, Nat.pow_succ, Nat.mul_assoc, Nat.add_assoc]
    by_cases hx : x = 0
    · subst hx
      rw [if_pos rfl, if_neg (fun h => by rcases h.1 with h | h <;> simp at h)]
    · rw [if_neg hx, ← e]
      simp only
      by_cases hb : u + 128 ^ k * (c.toNat - 128 + 128 * x) < 18446744073709551616
      · rw [if_pos ⟨Or.inr (by omega), hb⟩, if_pos ⟨Or.inr hx, hb⟩]
      · rw [if_neg (fun h => hb h.2), if_neg (fun h => hb h.2)]
theorem goGrp_ten (u : Nat) (s : List UInt8) : goGrp 10 u s = none := by
  unfold goGrp
  cases unGrp s with
  | none => rfl
  | some p =>
    obtain ⟨x, q⟩ := p
    simp only
    rw [if_neg]
    rintro ⟨h1, h2⟩
    rcases h1 with h1 | h1
    · cases h1
    · have : 128 ^ 10 * 1 ≤ 128 ^ 10 * x := Nat.mul_le_mul_left _ (by omega)
      omega
def NumPost (B rb : Nat) (s : List UInt8) (o : List Part) (d : List VT) (w : World) (e : Ending) (w' : World) : Prop :=
  match goGrp 0 0 s with
  | some (x, q) => e = .returned (.tuple #[.int .i64 (unzig x), .bool true]) ∧ Rdr B rb q o d w' ∧ Below B w w'
  | none => ∃ n s', e = .returned (.tuple #[.int .i64 n, .bool false]) ∧ I64 n ∧ Rdr B rb s' o d w' ∧ Below B w w'
theorem pow7 (k : Nat) : (2 : Int) ^ (7 * k) = ((128 ^ k : Nat) : Int) := by
  rw [Int.pow_mul]; simp
theorem pow_fit {k : Nat} (h : k < 10) : ∃ m, 128 ^ k * m = 18446744073709551616 := by
  refine ⟨2 ^ (64 - 7 * k), ?_⟩
  rw [show 128 ^ k = 2 ^ (7 * k) by rw [Nat.pow_mul], ← Nat.pow_add, show 7 * k + (64 - 7 * k) = 64 by omega]
theorem shl_fit (k c : Nat) (h : 128 ^ k * (c % 128) < 18446744073709551616) : IntKind.u64.wrap ((c : Int) % 128 * 2 ^ (7 * k)) = ((128 ^ k * (c % 128) : Nat) : Int) := by
  rw [pow7]
  show ((c : Int) % 128 * ((128 ^ k : Nat) : Int)) % 18446744073709551616 = _
  rw [show (c : Int) % 128 * ((128 ^ k : Nat) : Int) = ((128 ^ k * (c % 128) : Nat) : Int) by rw [Nat.mul_comm]; simp]
  omega
theorem shl_back (k c : Nat) : (IntKind.u64.wrap ((c : Int) % 128 * 2 ^ (7 * k)) / 2 ^ (7 * k) != (c : Int) % 128) = decide (18446744073709551616 ≤ 128 ^ k * (c % 128)) := by
  have hp : 0 < 128 ^ k := Nat.pow_pos (by omega)
  by_cases h : 128 ^ k * (c % 128) < 18446744073709551616
  · rw [shl_fit k c h, pow7, decide_eq_false (by omega)]
    rw [show (((128 ^ k * (c % 128) : Nat) : Int) / ((128 ^ k : Nat) : Int)) = (((128 ^ k * (c % 128)) / 128 ^ k : Nat) : Int) from rfl, Nat.mul_div_cancel_left _ hp]
    simp
  · rw [decide_eq_true (by omega)]
    rw [bne_iff_ne]
    intro e
    obtain ⟨y, hy⟩ : ∃ y : Nat, IntKind.u64.wrap ((c : Int) % 128 * 2 ^ (7 * k)) = (y : Int) ∧ y < 18446744073709551616 := by
      refine ⟨(((c : Int) % 128 * 2 ^ (7 * k)) % 18446744073709551616).toNat, ?_, ?_⟩
      · show ((c : Int) % 128 * 2 ^ (7 * k)) % 18446744073709551616 = _
        omega
      · omega
    rw [hy.1, pow7] at e
    have e2 : y / 128 ^ k = c % 128 := by
      have : (((y / 128 ^ k : Nat) : Int)) = ((c % 128 : Nat) : Int) := by rw [show ((c % 128 : Nat) : Int) = (c : Int) % 128 from rfl, ← e]; rfl
      omega
    have := Nat.mul_div_le y (128 ^ k)
    rw [e2] at this
    omega
theorem or_fit (k x c : Nat) (hx : x < 128 ^ k) (hk : k < 10) (h : 128 ^ k * (c % 128) < 18446744073709551616) : bits BinOp.or IntKind.u64 (x : Int) (IntKind.u64.wrap ((c : Int) % 128 * 2 ^ (7 * k))) = ((x + 128 ^ k * (c % 128) : Nat) : Int) ∧ x + 128 ^ k * (c % 128) < 18446744073709551616 ∧ x + 128 ^ k * (c % 128) < 128 ^ (k + 1) := by
  obtain ⟨m, hm⟩ := pow_fit hk
  have hp : 0 < 128 ^ k := Nat.pow_pos (by omega)
  have h1 : 128 ^ k * (c % 128) < 128 ^ k * m := by omega
  have h2 : c % 128 + 1 ≤ m := Nat.lt_of_mul_lt_mul_left h1
  have h3 : 128 ^ k * (c % 128 + 1) ≤ 128 ^ k * m := Nat.mul_le_mul_left _ h2
  rw [Nat.mul_add, hm] at h3
  have h4 : 128 ^ k * (c % 128 + 1) ≤ 128 ^ k * 128 := Nat.mul_le_mul_left _ (by omega)
  rw [Nat.mul_add] at h4
  refine ⟨?_, by omega, by rw [Nat.pow_succ]; omega⟩
  rw [shl_fit k c h, bits_or_u64_nat x _ (by omega) (by omega), Nat.or_comm]
  have e7 : 2 ^ (7 * k) = 128 ^ k := by rw [Nat.pow_mul]
  have := Nat.two_pow_add_eq_or_of_lt (i := 7 * k) (b := x) (by rw [e7]; exact hx) (c % 128)
  rw [e7] at this
  rw [← this]
  omega
theorem num_none {B rb : Nat} {s s' : List UInt8} {o : List Part} {d : List VT} {w w' : World} {n : Int} (h : goGrp 0 0 s = none) (hr : Rdr B rb s' o d w') (hb : Below B w w') (hn : I64 n) : NumPost B rb s o d w (.returned (.tuple #[.int .i64 n, .bool false])) w' := by
  unfold NumPost; rw [h]; exact ⟨n, s', rfl, hn, hr, hb⟩
theorem num_some {B rb : Nat} {s q : List UInt8} {o : List Part} {d : List VT} {w w' : World} {x : Nat} (h : goGrp 0 0 s = some (x, q)) (hr : Rdr B rb q o d w') (hb : Below B w w') : NumPost B rb s o d w (.returned (.tuple #[.int .i64 (unzig x), .bool true])) w' := by
  unfold NumPost; rw [h]; exact ⟨rfl, hr, hb⟩
theorem num_low {B rb k x y : Nat} {c : UInt8} {s r : List UInt8} {o : List Part} {d : List VT} {w w' : World} {b : Bool} (h : c.toNat < 128) (hy : y = x + 128 ^ k * (c.toNat % 128)) (hf : y < 18446744073709551616) (he : goGrp k x (c :: r) = goGrp 0 0 s) (hr : Rdr B rb r o d w') (hb : Below B w w') (hbb : b = decide (k = 0 ∨ c.toNat ≠ 0)) :
    NumPost B rb s o d w (.returned (.tuple #[.int .i64 (unzig y), .bool b])) w' := by
  rw [Nat.mod_eq_of_lt h] at hy
  rw [goGrp_low h (by omega), ← hy] at he
  by_cases h1 : k = 0 ∨ c.toNat ≠ 0
  · rw [if_pos h1] at he
    rw [hbb, decide_eq_true h1]
    exact num_some he.symm hr hb
  · rw [if_neg h1] at he
    rw [hbb, decide_eq_false h1]
    exact num_none he.symm hr hb (unzig_bd hf)
def NumRel (B rb : Nat) (s : List UInt8) (o : List Part) (d : List VT) (w : World) (u a : Value) (wr : World) : Prop :=
  ∃ (k x : Nat) (s' : List UInt8), u = .int .u64 x ∧ a = .int .i64 ((7 * k : Nat) : Int) ∧ k ≤ 10 ∧ x < 128 ^ k ∧ x < 18446744073709551616 ∧ Hid (goGrp k x s' = goGrp 0 0 s) ∧ Rdr B rb s' o d wr ∧ Below B w wr
set_option maxHeartbeats 1000000 in
set_option maxRecDepth 100000 in
theorem number_any (B rb : Nat) (s : List UInt8) (o : List Part) (d : List VT) (w : World) (h : Rdr B rb s o d w) :
    Calls Try.prog 34 #[.pointer (some ⟨rb, 0, none⟩)] w (NumPost B rb s o d w) := by
  have HR := Lib.hid h
  clear h
  go_enter Try.func34, Try.ntmps34
  go_wp2_with (fail)
  go_loopw [4, 5] (fun u a wr => NumRel B rb s o d w u a wr) (fun _ a _ => 70 - (intOf a).toNat)
  case atStart => unfold NumRel; exact ⟨0, 0, s, rfl, rfl, by omega, by decide, by decide, Lib.hid rfl, HR.out, Below.refl _ _⟩
  case round =>
    unfold NumRel at hrel
    obtain ⟨k, x, s', rfl, rfl, hk, hx1, hx, HE, hr, hb⟩ := hrel
    have HRR := Lib.hid hr
    have HB := Lib.hid hb
    clear hr hb
    by_cases h10 : k = 10
    · subst h10
      have HE2 : Hid (goGrp 0 0 s = none) := Lib.hid (by rw [← HE.out, goGrp_ten])
      go_wp2_with (fail)
      go_ret2
      exact num_none HE2.out HRR.out HB.out (by unfold I64; omega)
    · cases s' with
      | nil =>
        have HN := Lib.hid (next_nil B rb o d wr HRR.out)
        have HE2 : Hid (goGrp 0 0 s = none) := Lib.hid (by rw [← HE.out, goGrp_nil])
        go_wp2_with (fail)
        refine HN.out.mono ?_
        rintro e w1 ⟨rfl, rfl⟩
        go_wp2_with (fail)
        go_ret2
        exact num_none HE2.out HRR.out HB.out (by unfold I64; omega)
      | cons c r =>
        have HN := Lib.hid (next_cons B rb c r o d wr HRR.out)
        have HSH := Lib.hid (shl_back k c.toNat)
        go_wp2_with (fail)
        refine HN.out.mono ?_
        rintro e w1 ⟨rfl, hr1, hb1⟩
        have HR1 := Lib.hid hr1
        have HB1 := Lib.hid (HB.out.trans hb1)
        clear hr1 hb1
        by_cases hfit : 128 ^ k * (c.toNat % 128) < 18446744073709551616
        · obtain ⟨q1, q2, q3⟩ := or_fit k x c.toNat hx1 (by omega) hfit
          have HOR := Lib.hid q1
          have hf : (IntKind.u64.wrap ((c.toNat : Int) % 128 * 2 ^ (7 * k)) / 2 ^ (7 * k) != (c.toNat : Int) % 128) = false := by rw [HSH.out]; exact decide_eq_false (by omega)
          obtain ⟨y, hy⟩ : ∃ y, y = x + 128 ^ k * (c.toNat % 128) := ⟨_, rfl⟩
          rw [← hy] at q2 q3 HOR
          have HY := Lib.hid hy
          clear q1 hy hfit
          by_cases h128 : c.toNat < 128
          · have h128' : ((c.toNat : Int) < 128) := by omega
            go_wp2_with (fail)
            rw [HOR.out]
            refine (unfolded_any y _ q2).mono ?_
            rintro e w2 ⟨rfl, rfl⟩
            go_wp2_with (fail)
            · rename_i hc0
              go_ret2
              exact num_low h128 HY.out q2 HE.out HR1.out HB1.out (by
                by_cases hk0 : k = 0
                · subst hk0; simp
                · rw [beq_eq_false_iff_ne.2 (by omega), decide_eq_false (by omega)])
            · rename_i hc0
              go_ret2
              exact num_low h128 HY.out q2 HE.out HR1.out HB1.out (decide_eq_true (Or.inr hc0)).symm
          · have h128' : ¬ ((c.toNat : Int) < 128) := by omega
            go_wp2_with (fail)
            rw [HOR.out]
            have HG : Hid (goGrp (k + 1) y r = goGrp 0 0 s) := Lib.hid (by rw [← HE.out, goGrp_high (by omega), HY.out, show c.toNat % 128 = c.toNat - 128 by have := c.toNat_lt; omega])
            refine ⟨?_, by simp [intOf]; omega⟩
            unfold NumRel
            exact ⟨k + 1, y, r, rfl, by congr 1, by omega, q3, q2, HG, HR1.out, HB1.out⟩
        · have hf : (IntKind.u64.wrap ((c.toNat : Int) % 128 * 2 ^ (7 * k)) / 2 ^ (7 * k) != (c.toNat : Int) % 128) = true := by rw [HSH.out]; exact decide_eq_true (by omega)
          have HE2 : Hid (goGrp 0 0 s = none) := Lib.hid (by rw [← HE.out, goGrp_over (by omega)])
          go_wp2_with (fail)
          go_ret2
          exact num_none HE2.out HR1.out HB1.out (by unfold I64; omega)
end Go.Proofs.Ytnjcapenkoemlaa.vt.ce

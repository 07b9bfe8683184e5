/- What package mix's own functions return, for every input, where its table holds what its initialiser lays. -/
import Derived.Test.YtgbbaeihipamgaaDoorMixRef
import Derived.Test.YtgbbaeihipamgaaDoorMixInv
namespace Go.Proofs.YtgbbaeihipamgaaDoor.mix
open Go.RowKit mx

theorem nib_out (x : Nat) (l : Int) (w : World) (hl : l < 0 ∨ 15 < l) :
    Calls Tryd.prog 8 #[.int .u64 x, .int .i64 l] w fun e w' => e = .returned (.int .i64 0) ∧ w = w' := by
  rcases hl with hl | hl
  · go_enter Tryd.func8, Tryd.ntmps8
    go_wp2
    go_ret
    exact ⟨rfl, rfl⟩
  · have h0 : ¬ l < 0 := by omega
    go_enter Tryd.func8, Tryd.ntmps8
    go_wp2
    go_ret
    exact ⟨rfl, rfl⟩
theorem nib_val (x n : Nat) : wrap64 (((x : Int) / 2 ^ (4 * n)).tmod 16) = (nibS x n : Nat) := by
  have e : ((x : Int) / 2 ^ (4 * n)) = ((x / 16 ^ n : Nat) : Int) := by
    rw [show (16 : Nat) = 2 ^ 4 by rfl, ← Nat.pow_mul]; simp
  rw [e, Int.tmod_eq_emod_of_nonneg (Int.natCast_nonneg _)]
  have h : ((x / 16 ^ n : Nat) : Int) % 16 = ((nibS x n : Nat) : Int) := by unfold nibS; omega
  rw [h]
  have := nibS_le x n
  unfold wrap64; omega
theorem nib_any (x n : Nat) (w : World) (hn : n ≤ 15) :
    Calls Tryd.prog 8 #[.int .u64 x, .int .i64 n] w fun e w' => e = .returned (.int .i64 (nibS x n)) ∧ w = w' := by
  have HV := Lib.hid (nib_val x n)
  go_enter Tryd.func8, Tryd.ntmps8
  go_wp2
  go_ret
  exact ⟨by rw [← HV.out]; rfl, rfl⟩
theorem nib_at (x : Nat) (l : Int) (w : World) :
    Calls Tryd.prog 8 #[.int .u64 x, .int .i64 l] w fun e w' => e = .returned (.int .i64 (nibI x l)) ∧ w = w' := by
  unfold nibI
  by_cases h : l < 0 ∨ 15 < l
  · rw [if_pos h]; exact nib_out x l w h
  · rw [if_neg h]
    obtain ⟨n, rfl⟩ := Int.eq_ofNat_of_zero_le (show 0 ≤ l by omega)
    rw [Int.toNat_natCast]
    exact nib_any x n w (by omega)

/-- the rounds of unshift: x, one round, two rounds -/
def yAt (s x : Nat) : Nat → Nat
  | 0 => x
  | 1 => x ^^^ (x / 2 ^ s)
  | _ => unS s x
theorem yAt_le (s x k : Nat) (hx : x ≤ 18446744073709551615) : yAt s x k ≤ 18446744073709551615 := by
  match k with
  | 0 => exact hx
  | 1 => exact fx_le s x hx
  | _ + 2 => exact unS_le s x hx
theorem yAt_step (s x k : Nat) (hk : k < 2) : x ^^^ (yAt s x k / 2 ^ s) = yAt s x (k + 1) := by
  match k, hk with
  | 0, _ => rfl
  | 1, _ => rfl
/-- what unshift returns -/
def UnPost (s x : Nat) (w : World) (e : Ending) (w' : World) : Prop := e = .returned (.int .u64 (unS s x)) ∧ w = w'
theorem unshift_30 (x : Nat) (w : World) (hx : x ≤ 18446744073709551615) : Calls Tryd.prog 13 #[.int .u64 x, .int .u64 30] w (UnPost 30 x w) := by
  go_enter Tryd.func13, Tryd.ntmps13
  go_wp2
  go_loop [5, 9] (fun y i => ∃ k m : Nat, k ≤ 2 ∧ m ≤ 18446744073709551615 ∧ i = .int .u64 k ∧ y = .int .u64 m ∧ Hid (m = yAt 30 x k)) (fun _ i => 2 - (intOf i).toNat)
  case atStart => exact ⟨0, x, by omega, hx, rfl, rfl, Lib.hid rfl⟩
  case round =>
    obtain ⟨k, m, hk, hm, rfl, rfl, HM⟩ := hrel
    by_cases hlt : k < 2
    · have HX := Lib.hid (xor_un 30 1073741824 x m hx hm (by decide))
      go_wp2
      go_round
      case rel => exact ⟨k + 1, yAt 30 x (k + 1), by omega, yAt_le 30 x _ hx, by go_num, by rw [HX.out, HM.out, yAt_step 30 x k hlt], Lib.hid rfl⟩
      case measure => simp [intOf]; omega
    · have hfin : Hid (m = unS 30 x) := by
        show _ = _
        have h := HM.out
        have : k = 2 := by omega
        subst this; exact h
      go_wp2
      go_ret
      exact ⟨by rw [← hfin.out]; rfl, rfl⟩
theorem unshift_27 (x : Nat) (w : World) (hx : x ≤ 18446744073709551615) : Calls Tryd.prog 13 #[.int .u64 x, .int .u64 27] w (UnPost 27 x w) := by
  go_enter Tryd.func13, Tryd.ntmps13
  go_wp2
  go_loop [5, 9] (fun y i => ∃ k m : Nat, k ≤ 2 ∧ m ≤ 18446744073709551615 ∧ i = .int .u64 k ∧ y = .int .u64 m ∧ Hid (m = yAt 27 x k)) (fun _ i => 2 - (intOf i).toNat)
  case atStart => exact ⟨0, x, by omega, hx, rfl, rfl, Lib.hid rfl⟩
  case round =>
    obtain ⟨k, m, hk, hm, rfl, rfl, HM⟩ := hrel
    by_cases hlt : k < 2
    · have HX := Lib.hid (xor_un 27 134217728 x m hx hm (by decide))
      go_wp2
      go_round
      case rel => exact ⟨k + 1, yAt 27 x (k + 1), by omega, yAt_le 27 x _ hx, by go_num, by rw [HX.out, HM.out, yAt_step 27 x k hlt], Lib.hid rfl⟩
      case measure => simp [intOf]; omega
    · have hfin : Hid (m = unS 27 x) := by
        show _ = _
        have h := HM.out
        have : k = 2 := by omega
        subst this; exact h
      go_wp2
      go_ret
      exact ⟨by rw [← hfin.out]; rfl, rfl⟩
theorem unshift_31 (x : Nat) (w : World) (hx : x ≤ 18446744073709551615) : Calls Tryd.prog 13 #[.int .u64 x, .int .u64 31] w (UnPost 31 x w) := by
  go_enter Tryd.func13, Tryd.ntmps13
  go_wp2
  go_loop [5, 9] (fun y i => ∃ k m : Nat, k ≤ 2 ∧ m ≤ 18446744073709551615 ∧ i = .int .u64 k ∧ y = .int .u64 m ∧ Hid (m = yAt 31 x k)) (fun _ i => 2 - (intOf i).toNat)
  case atStart => exact ⟨0, x, by omega, hx, rfl, rfl, Lib.hid rfl⟩
  case round =>
    obtain ⟨k, m, hk, hm, rfl, rfl, HM⟩ := hrel
    by_cases hlt : k < 2
    · have HX := Lib.hid (xor_un 31 2147483648 x m hx hm (by decide))
      go_wp2
      go_round
      case rel => exact ⟨k + 1, yAt 31 x (k + 1), by omega, yAt_le 31 x _ hx, by go_num, by rw [HX.out, HM.out, yAt_step 31 x k hlt], Lib.hid rfl⟩
      case measure => simp [intOf]; omega
    · have hfin : Hid (m = unS 31 x) := by
        show _ = _
        have h := HM.out
        have : k = 2 := by omega
        subst this; exact h
      go_wp2
      go_ret
      exact ⟨by rw [← hfin.out]; rfl, rfl⟩

/-- the table of rounds, cell by cell -/
def tab : List Int := [30, 13787848793156543929, 10871156337175269513, 27, 10723151780598845931, 3573116690164977347, 31, 1, 1]
def Laid (B : Nat) (w : World) : Prop := ∀ w', Below B w w' → ∀ i, i < 9 → w'.cell? ⟨0, i, none⟩ = some (.int .u64 (tab.getD i 0))
theorem Laid.c0 {B : Nat} {w w' : World} (h : Laid B w) (hb : Below B w w') : w'.cell? ⟨0, 0, none⟩ = some (.int .u64 30) := h w' hb 0 (by decide)
theorem Laid.c1 {B : Nat} {w w' : World} (h : Laid B w) (hb : Below B w w') : w'.cell? ⟨0, 1, none⟩ = some (.int .u64 13787848793156543929) := h w' hb 1 (by decide)
theorem Laid.c2 {B : Nat} {w w' : World} (h : Laid B w) (hb : Below B w w') : w'.cell? ⟨0, 2, none⟩ = some (.int .u64 10871156337175269513) := h w' hb 2 (by decide)
theorem Laid.c3 {B : Nat} {w w' : World} (h : Laid B w) (hb : Below B w w') : w'.cell? ⟨0, 3, none⟩ = some (.int .u64 27) := h w' hb 3 (by decide)
theorem Laid.c4 {B : Nat} {w w' : World} (h : Laid B w) (hb : Below B w w') : w'.cell? ⟨0, 4, none⟩ = some (.int .u64 10723151780598845931) := h w' hb 4 (by decide)
theorem Laid.c5 {B : Nat} {w w' : World} (h : Laid B w) (hb : Below B w w') : w'.cell? ⟨0, 5, none⟩ = some (.int .u64 3573116690164977347) := h w' hb 5 (by decide)
theorem Laid.c6 {B : Nat} {w w' : World} (h : Laid B w) (hb : Below B w w') : w'.cell? ⟨0, 6, none⟩ = some (.int .u64 31) := h w' hb 6 (by decide)
theorem Laid.c7 {B : Nat} {w w' : World} (h : Laid B w) (hb : Below B w w') : w'.cell? ⟨0, 7, none⟩ = some (.int .u64 1) := h w' hb 7 (by decide)
theorem Laid.c8 {B : Nat} {w w' : World} (h : Laid B w) (hb : Below B w w') : w'.cell? ⟨0, 8, none⟩ = some (.int .u64 1) := h w' hb 8 (by decide)
theorem Laid.on {B : Nat} {w w1 : World} (h : Laid B w) (hb : Below B w w1) : Laid B w1 := fun w' h' => h w' (hb.trans h')

theorem mix_r0 (m : Nat) (hm : m ≤ 18446744073709551615) : IntKind.u64.wrap (bits .xor .u64 (m : Int) ((m : Int) / 1073741824) * 13787848793156543929) = ((mul1 (fx 30 m) : Nat) : Int) := by
  rw [xor_fx 30 1073741824 m hm (by decide)]; exact mul1_wrap _
theorem mix_r1 (m : Nat) (hm : m ≤ 18446744073709551615) : IntKind.u64.wrap (bits .xor .u64 (m : Int) ((m : Int) / 134217728) * 10723151780598845931) = ((mul2 (fx 27 m) : Nat) : Int) := by
  rw [xor_fx 27 134217728 m hm (by decide)]; exact mul2_wrap _
theorem mix_r2 (m : Nat) (hm : m ≤ 18446744073709551615) : IntKind.u64.wrap (bits .xor .u64 (m : Int) ((m : Int) / 2147483648)) = ((fx 31 m : Nat) : Int) := by
  rw [xor_fx 31 2147483648 m hm (by decide), IntKind.wrap_u64]
  have := fx_le 31 m hm
  omega
theorem mix_any (B : Nat) (x : Nat) (w : World) (hx : x ≤ 18446744073709551615) (hB : B ≤ w.heap.size) (hL : Laid B w) :
    Calls Tryd.prog 5 #[.int .u64 x] w fun e w' => e = .returned (.int .u64 (mixS x)) ∧ Below B w w' := by
  have HL := Lib.hid hL
  clear hL
  have H0 := Lib.hid mix_r0
  have H1 := Lib.hid mix_r1
  have H2 := Lib.hid mix_r2
  go_enter Tryd.func5, Tryd.ntmps5
  go_wp2
  go_loopw [0, 5] (fun y i wr => ∃ k m : Nat, k ≤ 3 ∧ m ≤ 18446744073709551615 ∧ i = .int .i64 k ∧ y = .int .u64 m ∧ MAt x k m ∧ Below B w wr) (fun _ i _ => 3 - (intOf i).toNat)
  case atStart => exact ⟨0, x, by omega, hx, rfl, rfl, MAt.z x, Below.refl _ _⟩
  case round =>
    obtain ⟨k, m, hk, hm, rfl, rfl, HM, HB⟩ := hrel
    have hz := HB.size
    by_cases h3 : k = 3
    · have hfin : Hid (m = mixS x) := by
        show _ = _
        subst h3; exact HM.out
      subst h3
      go_wp2
      go_ret
      exact ⟨by rw [← hfin.out]; rfl, HB⟩
    · have : k = 0 ∨ k = 1 ∨ k = 2 := by omega
      clear h3
      rcases this with rfl | rfl | rfl
      · have c0 := HL.out.c0 HB
        have c1 := HL.out.c1 HB
        have c2 := HL.out.c2 HB
        go_wp2
        go_roundw
        case rel => exact ⟨1, mul1 (fx 30 m), by omega, mul1_lt _, rfl, by rw [H0.out m hm], HM.s1, HB.alloc (by omega) _⟩
        case measure => simp [intOf]
      · have c0 := HL.out.c3 HB
        have c1 := HL.out.c4 HB
        have c2 := HL.out.c5 HB
        go_wp2
        go_roundw
        case rel => exact ⟨2, mul2 (fx 27 m), by omega, mul2_lt _, rfl, by rw [H1.out m hm], HM.s2, HB.alloc (by omega) _⟩
        case measure => simp [intOf]
      · have c0 := HL.out.c6 HB
        have c1 := HL.out.c7 HB
        have c2 := HL.out.c8 HB
        go_wp2
        go_roundw
        case rel => exact ⟨3, fx 31 m, by omega, fx_le _ _ hm, rfl, by rw [H2.out m hm], HM.s3, HB.alloc (by omega) _⟩
        case measure => simp [intOf]
end Go.Proofs.YtgbbaeihipamgaaDoor.mix

/- What the document's own answers of layer 1 that reckon return, for every input: the same as package whole's. -/
import Derived.Test.YtbbhakedmjfdgaaDoorWholeWalks
namespace Go.Proofs.YtbbhakedmjfdgaaDoor.whole
open Go.RowKit wm

/-- a number by its sign and its distance from nought -/
def sg (below : Bool) (n : Int) : Int := if below = true then -n else n
/-- the end of a call that tells a number, if it fits -/
def Fit (v : Int) (w : World) (e : Ending) (w' : World) : Prop := ∃ m : Int, e = .returned (.tuple #[.int .i64 m, .bool (fitsB v)]) ∧ Hid (fitsB v = true → m = v) ∧ w = w'

theorem big_neg (a : Int) (w : World) (h : a < 0) (h1 : -9223372036854775808 ≤ a) :
    Calls Tryd.prog 19 #[.int .i64 a] w fun e w' => e = .returned (.tuple #[.bool true, .int .u64 (-a)]) ∧ w = w' := by
  have H := Lib.hid (flip_neg a h h1)
  go_enter Tryd.func19, Tryd.ntmps19
  go_wp2
  go_ret2
  exact ⟨by rw [H.out]; rfl, rfl⟩
theorem big_pos (a : Int) (w : World) (h : 0 ≤ a) (h1 : a ≤ 9223372036854775807) :
    Calls Tryd.prog 19 #[.int .i64 a] w fun e w' => e = .returned (.tuple #[.bool false, .int .u64 a]) ∧ w = w' := by
  go_enter Tryd.func19, Tryd.ntmps19
  go_wp2
  go_ret2
  exact ⟨rfl, rfl⟩
theorem back_neg (n : Int) (w : World) (h : 0 ≤ n ∧ n ≤ 18446744073709551615) :
    Calls Tryd.prog 23 #[.bool true, .int .u64 n] w (Fit (-n) w) := by
  have H1 := Lib.hid (flip_back n h)
  have H2 := Lib.hid (neg_le n h)
  go_enter Tryd.func23, Tryd.ntmps23
  go_wp2
  go_ret2
  exact ⟨_, by rw [← H2.out]; rfl, H1, rfl⟩
theorem back_pos (n : Int) (w : World) (h : 0 ≤ n ∧ n ≤ 18446744073709551615) :
    Calls Tryd.prog 23 #[.bool false, .int .u64 n] w (Fit n w) := by
  have H1 := Lib.hid (keep_back n h)
  have H2 := Lib.hid (pos_lt n h)
  go_enter Tryd.func23, Tryd.ntmps23
  go_wp2
  go_ret2
  exact ⟨_, by rw [← H2.out]; rfl, H1, rfl⟩
theorem ret2u {a b c d : Int} (h1 : a = b) (h2 : c = d) : Ending.returned (.tuple #[.int .u64 a, .int .u64 c]) = .returned (.tuple #[.int .u64 b, .int .u64 d]) := by rw [h1, h2]
theorem wide_any (a b : Int) (w : World) (ha : 0 ≤ a ∧ a ≤ 18446744073709551615) (hb : 0 ≤ b ∧ b ≤ 18446744073709551615) :
    Calls Tryd.prog 22 #[.int .u64 a, .int .u64 b] w fun e w' => e = .returned (.tuple #[.int .u64 (a * b / 18446744073709551616), .int .u64 (a * b % 18446744073709551616)]) ∧ w = w' := by
  obtain ⟨⟨q1, q2⟩, ⟨q3, q4⟩, ⟨q5, q6⟩, ⟨q7, q8⟩⟩ := halves a b ha hb
  obtain ⟨r1, r2, r3, r4, r5⟩ := wide_eq a b _ _ _ _ _ _ _ ha hb rfl rfl rfl rfl rfl rfl rfl
  have H5 := Lib.hid r5
  clear r5
  go_enter Tryd.func22, Tryd.ntmps22
  go_wp2
  go_ret2
  refine ⟨ret2u ?_ ?_, rfl⟩
  · have h := H5.out
    generalize a % 4294967296 * (b % 4294967296) = x at *
    generalize a / 4294967296 * (b % 4294967296) = y at *
    generalize a % 4294967296 * (b / 4294967296) = z at *
    generalize a / 4294967296 * (b / 4294967296) = t at *
    generalize a * b = p at *
    show t + (y + x / 4294967296) / 4294967296 + (z + (y + x / 4294967296) % 4294967296) / 4294967296 = _
    omega
  · have h := H5.out
    generalize a % 4294967296 * (b % 4294967296) = x at *
    generalize a / 4294967296 * (b % 4294967296) = y at *
    generalize a % 4294967296 * (b / 4294967296) = z at *
    generalize a / 4294967296 * (b / 4294967296) = t at *
    generalize a * b = p at *
    show (z + (y + x / 4294967296)) % 4294967296 * 4294967296 + x % 4294967296 = _
    omega
theorem sum_same (s : Bool) (a b : Int) (w : World) (ha : 0 ≤ a ∧ a ≤ 18446744073709551615) (hb : 0 ≤ b ∧ b ≤ 18446744073709551615) :
    Calls Tryd.prog 21 #[.bool s, .int .u64 a, .bool s, .int .u64 b] w (Fit (sg s (a + b)) w) := by
  by_cases h : a + b ≤ 18446744073709551615
  · cases s
    · show Calls _ _ _ _ (Fit (a + b) w)
      go_enter Tryd.func21, Tryd.ntmps21
      go_wp2_with (go_at_call 23; refine (back_pos (a + b) _ (by omega)).mono ?_; rintro e w' ⟨m, rfl, hm, rfl⟩)
      go_ret2
      exact ⟨m, rfl, hm, rfl⟩
    · show Calls _ _ _ _ (Fit (-(a + b)) w)
      go_enter Tryd.func21, Tryd.ntmps21
      go_wp2_with (go_at_call 23; refine (back_neg (a + b) _ (by omega)).mono ?_; rintro e w' ⟨m, rfl, hm, rfl⟩)
      go_ret2
      exact ⟨m, rfl, hm, rfl⟩
  · have hlt : decide (IntKind.u64.wrap (a + b) < a) = true := by rw [wrap_u64]; simp; omega
    have HF : Hid (fitsB (sg s (a + b)) = false) := by
      show _ = _
      unfold fitsB sg; rw [decide_eq_false_iff_not]; cases s <;> simp <;> omega
    have HH := Lib.hid h
    clear h
    cases s
    · go_enter Tryd.func21, Tryd.ntmps21
      go_wp2_with fail
      go_ret2
      exact ⟨0, by rw [HF.out]; rfl, Lib.hid (by rw [HF.out]; intro h; cases h), rfl⟩
    · go_enter Tryd.func21, Tryd.ntmps21
      go_wp2_with fail
      go_ret2
      exact ⟨0, by rw [HF.out]; rfl, Lib.hid (by rw [HF.out]; intro h; cases h), rfl⟩
theorem sum_pn (a b : Int) (w : World) (ha : 0 ≤ a ∧ a ≤ 18446744073709551615) (hb : 0 ≤ b ∧ b ≤ 18446744073709551615) :
    Calls Tryd.prog 21 #[.bool false, .int .u64 a, .bool true, .int .u64 b] w (Fit (a - b) w) := by
  by_cases h : b ≤ a
  · go_enter Tryd.func21, Tryd.ntmps21
    go_wp2_with (go_at_call 23; refine (back_pos (a - b) _ (by omega)).mono ?_; rintro e w' ⟨m, rfl, hm, rfl⟩)
    go_ret2
    exact ⟨m, rfl, hm, rfl⟩
  · rw [show a - b = -(b - a) by omega]
    go_enter Tryd.func21, Tryd.ntmps21
    go_wp2_with (go_at_call 23; refine (back_neg (b - a) _ (by omega)).mono ?_; rintro e w' ⟨m, rfl, hm, rfl⟩)
    go_ret2
    exact ⟨m, rfl, hm, rfl⟩
theorem sum_np (a b : Int) (w : World) (ha : 0 ≤ a ∧ a ≤ 18446744073709551615) (hb : 0 ≤ b ∧ b ≤ 18446744073709551615) :
    Calls Tryd.prog 21 #[.bool true, .int .u64 a, .bool false, .int .u64 b] w (Fit (b - a) w) := by
  by_cases h : b ≤ a
  · rw [show b - a = -(a - b) by omega]
    go_enter Tryd.func21, Tryd.ntmps21
    go_wp2_with (go_at_call 23; refine (back_neg (a - b) _ (by omega)).mono ?_; rintro e w' ⟨m, rfl, hm, rfl⟩)
    go_ret2
    exact ⟨m, rfl, hm, rfl⟩
  · go_enter Tryd.func21, Tryd.ntmps21
    go_wp2_with (go_at_call 23; refine (back_pos (b - a) _ (by omega)).mono ?_; rintro e w' ⟨m, rfl, hm, rfl⟩)
    go_ret2
    exact ⟨m, rfl, hm, rfl⟩
theorem sum_any (an bn : Bool) (a b : Int) (w : World) (ha : 0 ≤ a ∧ a ≤ 18446744073709551615) (hb : 0 ≤ b ∧ b ≤ 18446744073709551615) :
    Calls Tryd.prog 21 #[.bool an, .int .u64 a, .bool bn, .int .u64 b] w (Fit (sg an a + sg bn b) w) := by
  cases an <;> cases bn
  · exact sum_same false a b w ha hb
  · exact (show sg false a + sg true b = a - b by unfold sg; simp; omega) ▸ sum_pn a b w ha hb
  · exact (show sg true a + sg false b = b - a by unfold sg; simp; omega) ▸ sum_np a b w ha hb
  · exact (show sg true a + sg true b = sg true (a + b) by unfold sg; simp; omega) ▸ sum_same true a b w ha hb
/-- told: a number that fits, or the trap -/
theorem told_fit (m v : Int) (w : World) (hm : fitsB v = true → m = v) :
    Calls Tryd.prog 20 #[.int .i64 m, .bool (fitsB v)] w fun e w' => e = ret2 (told v) ∧ w = w' := by
  unfold told
  cases h : fitsB v
  · have H := Lib.hid h
    clear h hm
    go_enter Tryd.func20, Tryd.ntmps20
    go_wp2
    go_ret2
    exact ⟨rfl, rfl⟩
  · obtain rfl := hm h
    have H := Lib.hid h
    clear h hm
    go_enter Tryd.func20, Tryd.ntmps20
    go_wp2
    go_ret2
    exact ⟨rfl, rfl⟩
end Go.Proofs.YtbbhakedmjfdgaaDoor.whole

/- Which bytes go on: a byte's sort, and how many bytes of a sort stand at a text's head. -/
import Derived.Test.YtjppfnofceejhaaDoorLexHead
namespace Go.Proofs.YtjppfnofceejhaaDoor.lx
open Go.RowKit mem vt wd

theorem comment_any (c : UInt8) (w : World) : Calls Tryd.prog 17 #[.int .u8 c.toNat] w fun e w' => e = .returned (.bool (no10 c)) ∧ w = w' := by
  obtain ⟨K, hK⟩ : ∃ K, K = no10 c := ⟨_, rfl⟩
  rw [← hK]
  by_cases h : c = 10
  · subst h
    obtain rfl : K = false := hK
    go_enter Tryd.func17, Tryd.ntmps17
    go_wp2
    go_ret
    exact ⟨rfl, rfl⟩
  · obtain rfl : K = true := by rw [hK]; unfold no10; simpa using h
    clear hK
    have h2 : ((c.toNat : Int) != 10) = true := by
      rw [bne_iff_ne]
      intro e
      apply h
      apply UInt8.toNat_inj.1
      show _ = 10
      omega
    go_enter Tryd.func17, Tryd.ntmps17
    go_wp2
    go_ret
    exact ⟨rfl, rfl⟩
theorem isDg_n (c : UInt8) : isDg c = (decide (48 ≤ c.toNat) && decide (c.toNat ≤ 57)) := by
  have hc := c.toNat_lt
  unfold isDg cls clsN
  generalize c.toNat = n at hc ⊢
  rw [Bool.eq_iff_iff]
  simp only [decide_eq_true_eq, Bool.and_eq_true]
  split
  · omega
  · split
    · omega
    · split
      · omega
      · split <;> omega
theorem isLD_n (c : UInt8) : isLD c = (decide (97 ≤ c.toNat ∧ c.toNat ≤ 122 ∨ 65 ≤ c.toNat ∧ c.toNat ≤ 90 ∨ c.toNat = 95) || isDg c) := by
  have hc := c.toNat_lt
  unfold isLD isL isDg cls clsN
  generalize c.toNat = n at hc ⊢
  rw [Bool.eq_iff_iff]
  simp only [decide_eq_true_eq, Bool.or_eq_true]
  split
  · omega
  · split
    · omega
    · split
      · omega
      · split <;> omega
theorem digit_any (c : UInt8) (w : World) : Calls Tryd.prog 18 #[.int .u8 c.toNat] w fun e w' => e = .returned (.bool (isDg c)) ∧ w = w' := by
  rw [isDg_n]
  obtain ⟨n, hn⟩ : ∃ n, n = c.toNat := ⟨_, rfl⟩
  rw [← hn]
  clear hn
  by_cases h1 : 48 ≤ n
  · by_cases h2 : n ≤ 57
    · rw [decide_eq_true h1, decide_eq_true h2]
      have h1' : (48 : Int) ≤ (n : Int) := by omega
      have h2' : (n : Int) ≤ 57 := by omega
      go_enter Tryd.func18, Tryd.ntmps18
      go_wp2
      go_ret
      exact ⟨rfl, rfl⟩
    · rw [decide_eq_true h1, decide_eq_false h2]
      have h1' : (48 : Int) ≤ (n : Int) := by omega
      have h2' : decide ((n : Int) ≤ 57) = false := by rw [decide_eq_false_iff_not]; omega
      go_enter Tryd.func18, Tryd.ntmps18
      go_wp2
      go_ret
      exact ⟨rfl, rfl⟩
  · rw [decide_eq_false h1]
    have h1' : decide ((48 : Int) ≤ (n : Int)) = false := by rw [decide_eq_false_iff_not]; omega
    go_enter Tryd.func18, Tryd.ntmps18
    go_wp2
    go_ret
    exact ⟨rfl, rfl⟩
theorem name_any0 (c : UInt8) (w : World) : Calls Tryd.prog 20 #[.int .u8 c.toNat] w fun e w' => e = .returned (.bool (isLD c)) ∧ w = w' := by
  have HD := Lib.hid (digit_any c w)
  have hl := isLD_n c
  obtain ⟨K, hK⟩ : ∃ K, K = isLD c := ⟨_, rfl⟩
  obtain ⟨D, hD⟩ : ∃ D, D = isDg c := ⟨_, rfl⟩
  rw [← hD] at HD hl
  rw [← hK] at hl ⊢
  have HK := Lib.hid hl
  clear hK hD hl
  obtain ⟨n, hn⟩ : ∃ n, n = c.toNat := ⟨_, rfl⟩
  rw [← hn] at HK HD ⊢
  clear hn
  go_enter Tryd.func20, Tryd.ntmps20
  go_wp2_with (first | (go_at_call 18; refine HD.out.mono ?_; rintro e w1 ⟨rfl, rfl⟩))
  all_goals go_ret
  all_goals refine ⟨congrArg (fun x => Ending.returned (Value.bool x)) ?_, rfl⟩
  all_goals rw [HK.out]
  all_goals try simp only [beq_iff_eq, beq_eq_false_iff_ne] at *
  all_goals rw [Bool.eq_iff_iff]
  all_goals simp only [Bool.or_eq_true, beq_iff_eq, decide_eq_true_eq, true_iff]
  all_goals first | omega | (cases D <;> simp only [Bool.false_eq_true, or_false, or_true] <;> omega)
theorem run_rem (s : ByteArray) (w : World) (hs : s.size ≤ 1048576) :
    Calls Tryd.prog 16 #[.string s, .func (.func 17) #[] #[]] w fun e w' => e = .returned (.int .i64 (s.data.toList.takeWhile no10).length) ∧ ∃ q, w' = w.drewN q := by
  obtain ⟨E, hE⟩ : ∃ E, E = runE s no10 0 := ⟨_, rfl⟩
  obtain ⟨hE1, _⟩ := run_le s no10 0 (Nat.zero_le _)
  rw [← hE] at hE1
  have e0 : (s.data.toList.takeWhile no10).length = E := by rw [hE]; unfold runE; rw [List.drop_zero, Nat.zero_add]
  rw [e0]
  have HE := Lib.hid hE
  clear hE e0
  go_enter Tryd.func16, Tryd.ntmps16
  go_wp2_with (fail)
  go_loopw [5] (fun i wr => ∃ e q : Nat, i = .int .i64 e ∧ e ≤ E ∧ wr = w.drewN q) (fun i _ => s.size - (intOf i).toNat)
  case atStart => exact ⟨0, 0, rfl, by omega, rfl⟩
  case round =>
    obtain ⟨e, q, rfl, he2, rfl⟩ := hrel
    by_cases hes : e < s.size
    · have hcl := fun w => Lib.hid (comment_any s[e] w)
      have HYES : Hid (e < E → no10 s[e] = true) := Lib.hid (fun h => (run_inside s no10 0 e (Nat.zero_le _) (by rw [← HE.out]; exact h)).2)
      have HNO : Hid (¬ e < E → no10 s[e] = false) := Lib.hid (fun h => by
        have h1 := run_end s no10 0 (by rw [← HE.out]; omega)
        simp only [← HE.out] at h1
        simp only [show e = E by omega]
        exact h1)
      obtain ⟨K, hK⟩ : ∃ K, K = no10 s[e] := ⟨_, rfl⟩
      rw [← hK] at HYES HNO hcl
      clear hK
      by_cases hlt : e < E
      · obtain rfl : K = true := HYES.out hlt
        clear HYES HNO
        go_wp2_with (first | (go_at_call 17; refine (hcl _).out.mono ?_; rintro e w1 ⟨rfl, rfl⟩))
        go_roundw
        case rel => exact ⟨e + 1, _, by go_num, by omega, rfl⟩
        case measure => simp [intOf]; omega
      · obtain rfl : K = false := HNO.out hlt
        obtain rfl : e = E := by omega
        clear HYES HNO
        go_wp2_with (first | (go_at_call 17; refine (hcl _).out.mono ?_; rintro e w1 ⟨rfl, rfl⟩))
        go_ret
        exact ⟨rfl, _, rfl⟩
    · obtain rfl : e = E := by omega
      have hes' : decide ((e : Int) < (s.size : Int)) = false := by rw [decide_eq_false_iff_not]; omega
      go_wp2_with (fail)
      go_ret
      exact ⟨rfl, _, rfl⟩
theorem run_dg (s : ByteArray) (w : World) (hs : s.size ≤ 1048576) :
    Calls Tryd.prog 16 #[.string s, .func (.func 18) #[] #[]] w fun e w' => e = .returned (.int .i64 (s.data.toList.takeWhile isDg).length) ∧ ∃ q, w' = w.drewN q := by
  obtain ⟨E, hE⟩ : ∃ E, E = runE s isDg 0 := ⟨_, rfl⟩
  obtain ⟨hE1, _⟩ := run_le s isDg 0 (Nat.zero_le _)
  rw [← hE] at hE1
  have e0 : (s.data.toList.takeWhile isDg).length = E := by rw [hE]; unfold runE; rw [List.drop_zero, Nat.zero_add]
  rw [e0]
  have HE := Lib.hid hE
  clear hE e0
  go_enter Tryd.func16, Tryd.ntmps16
  go_wp2_with (fail)
  go_loopw [5] (fun i wr => ∃ e q : Nat, i = .int .i64 e ∧ e ≤ E ∧ wr = w.drewN q) (fun i _ => s.size - (intOf i).toNat)
  case atStart => exact ⟨0, 0, rfl, by omega, rfl⟩
  case round =>
    obtain ⟨e, q, rfl, he2, rfl⟩ := hrel
    by_cases hes : e < s.size
    · have hcl := fun w => Lib.hid (digit_any s[e] w)
      have HYES : Hid (e < E → isDg s[e] = true) := Lib.hid (fun h => (run_inside s isDg 0 e (Nat.zero_le _) (by rw [← HE.out]; exact h)).2)
      have HNO : Hid (¬ e < E → isDg s[e] = false) := Lib.hid (fun h => by
        have h1 := run_end s isDg 0 (by rw [← HE.out]; omega)
        simp only [← HE.out] at h1
        simp only [show e = E by omega]
        exact h1)
      obtain ⟨K, hK⟩ : ∃ K, K = isDg s[e] := ⟨_, rfl⟩
      rw [← hK] at HYES HNO hcl
      clear hK
      by_cases hlt : e < E
      · obtain rfl : K = true := HYES.out hlt
        clear HYES HNO
        go_wp2_with (first | (go_at_call 18; refine (hcl _).out.mono ?_; rintro e w1 ⟨rfl, rfl⟩))
        go_roundw
        case rel => exact ⟨e + 1, _, by go_num, by omega, rfl⟩
        case measure => simp [intOf]; omega
      · obtain rfl : K = false := HNO.out hlt
        obtain rfl : e = E := by omega
        clear HYES HNO
        go_wp2_with (first | (go_at_call 18; refine (hcl _).out.mono ?_; rintro e w1 ⟨rfl, rfl⟩))
        go_ret
        exact ⟨rfl, _, rfl⟩
    · obtain rfl : e = E := by omega
      have hes' : decide ((e : Int) < (s.size : Int)) = false := by rw [decide_eq_false_iff_not]; omega
      go_wp2_with (fail)
      go_ret
      exact ⟨rfl, _, rfl⟩
theorem run_ld (s : ByteArray) (w : World) (hs : s.size ≤ 1048576) :
    Calls Tryd.prog 16 #[.string s, .func (.func 20) #[] #[]] w fun e w' => e = .returned (.int .i64 (s.data.toList.takeWhile isLD).length) ∧ ∃ q, w' = w.drewN q := by
  obtain ⟨E, hE⟩ : ∃ E, E = runE s isLD 0 := ⟨_, rfl⟩
  obtain ⟨hE1, _⟩ := run_le s isLD 0 (Nat.zero_le _)
  rw [← hE] at hE1
  have e0 : (s.data.toList.takeWhile isLD).length = E := by rw [hE]; unfold runE; rw [List.drop_zero, Nat.zero_add]
  rw [e0]
  have HE := Lib.hid hE
  clear hE e0
  go_enter Tryd.func16, Tryd.ntmps16
  go_wp2_with (fail)
  go_loopw [5] (fun i wr => ∃ e q : Nat, i = .int .i64 e ∧ e ≤ E ∧ wr = w.drewN q) (fun i _ => s.size - (intOf i).toNat)
  case atStart => exact ⟨0, 0, rfl, by omega, rfl⟩
  case round =>
    obtain ⟨e, q, rfl, he2, rfl⟩ := hrel
    by_cases hes : e < s.size
    · have hcl := fun w => Lib.hid (name_any0 s[e] w)
      have HYES : Hid (e < E → isLD s[e] = true) := Lib.hid (fun h => (run_inside s isLD 0 e (Nat.zero_le _) (by rw [← HE.out]; exact h)).2)
      have HNO : Hid (¬ e < E → isLD s[e] = false) := Lib.hid (fun h => by
        have h1 := run_end s isLD 0 (by rw [← HE.out]; omega)
        simp only [← HE.out] at h1
        simp only [show e = E by omega]
        exact h1)
      obtain ⟨K, hK⟩ : ∃ K, K = isLD s[e] := ⟨_, rfl⟩
      rw [← hK] at HYES HNO hcl
      clear hK
      by_cases hlt : e < E
      · obtain rfl : K = true := HYES.out hlt
        clear HYES HNO
        go_wp2_with (first | (go_at_call 20; refine (hcl _).out.mono ?_; rintro e w1 ⟨rfl, rfl⟩))
        go_roundw
        case rel => exact ⟨e + 1, _, by go_num, by omega, rfl⟩
        case measure => simp [intOf]; omega
      · obtain rfl : K = false := HNO.out hlt
        obtain rfl : e = E := by omega
        clear HYES HNO
        go_wp2_with (first | (go_at_call 20; refine (hcl _).out.mono ?_; rintro e w1 ⟨rfl, rfl⟩))
        go_ret
        exact ⟨rfl, _, rfl⟩
    · obtain rfl : e = E := by omega
      have hes' : decide ((e : Int) < (s.size : Int)) = false := by rw [decide_eq_false_iff_not]; omega
      go_wp2_with (fail)
      go_ret
      exact ⟨rfl, _, rfl⟩
end Go.Proofs.YtjppfnofceejhaaDoor.lx

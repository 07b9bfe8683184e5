/- Blanks, and the first token of a text, as the package tells them. -/
import Derived.Test.YtjppfnofceejhaaDoorLexRun
import Derived.Test.YtjppfnofceejhaaDoorWordCon
import Derived.Test.YtjppfnofceejhaaDoorWholeText
namespace Go.Proofs.YtjppfnofceejhaaDoor.lx
open Go.RowKit mem vt wd

/-- what the call finds laid: package word's two tables; strconv's table and errors -/
def LD (w : World) : Prop := wd.LD w ∧ ∃ B, B ≤ w.heap.size ∧ whole.Laid B w
theorem LD.on {w w' : World} (h : LD w) (hb : Below w.heap.size w w') : LD w' := by
  obtain ⟨h1, B, hB, h2⟩ := h
  exact ⟨h1.on hb, B, Nat.le_trans hB hb.size, h2.on (hb.mono hB)⟩
/-- the rest of a text from a place on -/
def restB (s : ByteArray) (n : Nat) : ByteArray := ⟨(s.data.toList.drop n).toArray⟩
theorem restB_list (s : ByteArray) (n : Nat) : (restB s n).data.toList = s.data.toList.drop n := by unfold restB; simp
theorem restB_size (s : ByteArray) (n : Nat) : (restB s n).size = s.size - n := by
  show (restB s n).data.size = _
  unfold restB
  simp
theorem rest_cut (s : ByteArray) (n : Nat) (h : n ≤ s.size) (w : World) :
    (Instr.slice 9 (.string s) (some (.int .i64 n)) none none).run Tryd.prog w = .ok (.string (restB s n)) w := by
  have e : s.extract n s.size = restB s n := by
    apply ByteArray.ext
    apply Array.ext'
    rw [Lib.extract_data, restB_list]
    exact List.take_of_length_le (by rw [List.length_drop]; simp)
  have x := run_slice_string (P := Tryd.prog) w 9 s .i64 .i64 (n : Int) (s.size : Int) Tryd.underlying9 (by omega) (by omega) (by omega)
  rw [Int.toNat_natCast, Int.toNat_natCast, e] at x
  rw [← x]
  simp [go_sem]
theorem first_cut (s : ByteArray) (p : UInt8 → Bool) (w : World) :
    (Instr.slice 9 (.string s) none (some (.int .i64 (s.data.toList.takeWhile p).length)) none).run Tryd.prog w = .ok (.string ⟨(s.data.toList.takeWhile p).toArray⟩) w := by
  have hle := (run_le s p 0 (Nat.zero_le _)).1
  have e : s.extract 0 (s.data.toList.takeWhile p).length = ⟨(s.data.toList.takeWhile p).toArray⟩ := by
    have := run_text s p 0
    unfold runE at this
    rw [List.drop_zero, Nat.zero_add] at this
    exact this
  have hle2 : (s.data.toList.takeWhile p).length ≤ s.size := by
    unfold runE at hle
    rw [List.drop_zero, Nat.zero_add] at hle
    exact hle
  have x := run_slice_string (P := Tryd.prog) w 9 s .i64 .i64 0 ((s.data.toList.takeWhile p).length : Int) Tryd.underlying9 (by omega) (by omega) (by omega)
  rw [Int.toNat_natCast, show (0 : Int).toNat = 0 from rfl, e] at x
  rw [← x]
  simp [go_sem]
/-! ### blanks -/
theorem cls3_n {c : UInt8} (h : cls c = 3) : c.toNat = 32 ∨ c.toNat = 9 ∨ c.toNat = 10 ∨ c.toNat = 13 := by
  unfold cls clsN at h
  generalize c.toNat = n at h ⊢
  split at h
  · omega
  · split at h
    · omega
    · split at h
      · omega
      · split at h <;> omega
theorem cls4_n {c : UInt8} (h : cls c = 4) : c.toNat = 35 := by
  unfold cls clsN at h
  generalize c.toNat = n at h ⊢
  split at h
  · omega
  · split at h
    · omega
    · split at h
      · omega
      · split at h <;> omega
theorem cls_other {c : UInt8} (h3 : cls c ≠ 3) (h4 : cls c ≠ 4) : c.toNat ≠ 32 ∧ c.toNat ≠ 9 ∧ c.toNat ≠ 10 ∧ c.toNat ≠ 13 ∧ c.toNat ≠ 35 := by
  refine ⟨?_, ?_, ?_, ?_, ?_⟩ <;> intro e
  · apply h3; unfold cls; rw [e]; rfl
  · apply h3; unfold cls; rw [e]; rfl
  · apply h3; unfold cls; rw [e]; rfl
  · apply h3; unfold cls; rw [e]; rfl
  · apply h4; unfold cls; rw [e]; rfl
theorem rem_place (s : ByteArray) (n : Nat) (h : n < s.size) (h4 : cls s[n] = 4) : n + ((restB s n).data.toList.takeWhile no10).length = runE s no10 n ∧ n < runE s no10 n ∧ runE s no10 n ≤ s.size ∧ blankF (s.data.toList.drop n) = (runE s no10 n - n) + blankF (s.data.toList.drop (runE s no10 n)) := by
  obtain ⟨d1, d2⟩ := drop_rem s n h h4
  have d3 := run_le s no10 n (by omega)
  refine ⟨by rw [restB_list]; rfl, by omega, d3.1, ?_⟩
  rw [drop_cons s n h, blank_rem h4, d1]
  omega
theorem blanks_any (s : ByteArray) (w : World) (hs : s.size ≤ 1048576) :
    Calls Tryd.prog 11 #[.string s] w fun e w' => e = .returned (.int .i64 (blankF s.data.toList)) ∧ ∃ q, w' = w.drewN q := by
  obtain ⟨R, hR⟩ : ∃ R, R = blankF s.data.toList := ⟨_, rfl⟩
  rw [← hR]
  have H0 : Hid (R = 0 + blankF (s.data.toList.drop 0)) := Lib.hid (by rw [hR, List.drop_zero, Nat.zero_add])
  clear hR
  go_enter Tryd.func11, Tryd.ntmps11
  go_wp2_with (fail)
  go_loopw [3] (fun i wr => ∃ n q : Nat, i = .int .i64 n ∧ n ≤ s.size ∧ Hid (R = n + blankF (s.data.toList.drop n)) ∧ wr = w.drewN q) (fun i _ => s.size - (intOf i).toNat)
  case atStart => exact ⟨0, 0, rfl, by omega, H0, rfl⟩
  case round =>
    obtain ⟨n, q, rfl, hn, HR, rfl⟩ := hrel
    clear H0
    by_cases hlt : n < s.size
    · by_cases h3 : cls s[n] = 3
      · have HN : Hid (R = (n + 1) + blankF (s.data.toList.drop (n + 1))) := Lib.hid (by
          have h := HR.out
          rw [drop_cons s n hlt, blank_sp h3] at h
          omega)
        rcases cls3_n h3 with k | k | k | k
        all_goals clear h3
        all_goals go_wp2_with (fail)
        all_goals go_roundw
        case rel => exact ⟨n + 1, q, by go_num, by omega, HN, rfl⟩
        case measure => simp [intOf]; omega
        case rel => exact ⟨n + 1, q, by go_num, by omega, HN, rfl⟩
        case measure => simp [intOf]; omega
        case rel => exact ⟨n + 1, q, by go_num, by omega, HN, rfl⟩
        case measure => simp [intOf]; omega
        case rel => exact ⟨n + 1, q, by go_num, by omega, HN, rfl⟩
        case measure => simp [intOf]; omega
      · by_cases h4 : cls s[n] = 4
        · have k := cls4_n h4
          obtain ⟨d1, d2, d3, d4⟩ := rem_place s n hlt h4
          have hrun := fun w => Lib.hid (run_rem (restB s n) w (by rw [restB_size]; omega))
          have hsl := fun w => rest_cut s n hn w
          obtain ⟨M, hM⟩ : ∃ M, M = ((restB s n).data.toList.takeWhile no10).length := ⟨_, rfl⟩
          obtain ⟨E, hE⟩ : ∃ E, E = runE s no10 n := ⟨_, rfl⟩
          rw [← hE] at d1 d2 d3 d4
          rw [← hM] at d1 hrun
          have HN : Hid (R = E + blankF (s.data.toList.drop E)) := Lib.hid (by
            have h := HR.out
            rw [d4] at h
            omega)
          clear hM hE d4 h3 h4
          go_wp2_with (first | (go_at_call 16; refine (hrun _).out.mono ?_; rintro e w1 ⟨rfl, q1, rfl⟩))
          go_roundw
          case rel => exact ⟨E, _, by go_num, by omega, HN, rfl⟩
          case measure => simp [intOf]; omega
        · obtain ⟨k1, k2, k3, k4, k5⟩ := cls_other h3 h4
          have e1 : ((s[n].toNat : Int) == 32) = false := by rw [beq_eq_false_iff_ne]; omega
          have e2 : ((s[n].toNat : Int) == 9) = false := by rw [beq_eq_false_iff_ne]; omega
          have e3 : ((s[n].toNat : Int) == 10) = false := by rw [beq_eq_false_iff_ne]; omega
          have e4 : ((s[n].toNat : Int) == 13) = false := by rw [beq_eq_false_iff_ne]; omega
          have e5 : ((s[n].toNat : Int) == 35) = false := by rw [beq_eq_false_iff_ne]; omega
          have HN : Hid (R = n) := Lib.hid (by
            have h := HR.out
            rw [drop_cons s n hlt, blank_no h3 h4] at h
            omega)
          clear k1 k2 k3 k4 k5 h3 h4
          go_wp2_with (fail)
          go_ret
          exact ⟨by rw [HN.out]; rfl, _, rfl⟩
    · obtain rfl : n = s.size := by omega
      have HN : Hid (R = s.size) := Lib.hid (by
        have h := HR.out
        rw [List.drop_eq_nil_of_le (by simp), blank_nil] at h
        omega)
      go_wp2_with (fail)
      go_ret
      exact ⟨by rw [HN.out]; rfl, _, rfl⟩
/-! ### one token -/
theorem laid_more {B B' : Nat} {w : World} (h : whole.Laid B w) (hB : B ≤ B') : whole.Laid B' w := by
  obtain ⟨h1, ⟨t2, p2, h2⟩, t3, p3, h3⟩ := h
  exact ⟨fun w' hb => h1 w' (hb.mono hB), ⟨t2, p2, fun w' hb => h2 w' (hb.mono hB)⟩, t3, p3, fun w' hb => h3 w' (hb.mono hB)⟩
theorem LD.read {w : World} (h : LD w) : whole.Laid w.heap.size w := by
  obtain ⟨_, B, hB, h2⟩ := h
  exact laid_more h2 hB
def tok0 : Array Value := #[.int .i64 0, .int .i64 0, .int .i64 0, .string ⟨#[]⟩]
theorem number_ret {tm : Array Value} {w2 : World} {R : Nat} {a b c d : Value} {e : Int} (h4 : tm.getD 2 undef = .pointer (some ⟨R, 0, none⟩)) (h5 : tm.getD 3 undef = .int .i64 e) (hb : Box w2 R 31 #[a, b, c, d]) :
    (results Tryd.f19 tm).run Tryd.prog w2 = .ok (.tuple #[.agg #[a, b, c, d], .int .i64 e]) w2 := by
  have x0 := hb.cell 0
  have x1 := hb.cell 1
  have x2 := hb.cell 2
  have x3 := hb.cell 3
  simp only [List.getElem?_toArray, List.getElem?_cons_zero, List.getElem?_cons_succ] at x0 x1 x2 x3
  have h4' : tm[2]?.getD undef = .pointer (some ⟨R, 0, none⟩) := by simpa using h4
  have h5' : tm[3]?.getD undef = .int .i64 e := by simpa using h5
  simp [results, Tryd.results19, go_sem, h4', h5', x0, x1, x2, x3]
theorem name_ret {tm : Array Value} {w2 : World} {R : Nat} {a b c d : Value} {e : Int} (h4 : tm.getD 2 undef = .pointer (some ⟨R, 0, none⟩)) (h5 : tm.getD 3 undef = .int .i64 e) (hb : Box w2 R 31 #[a, b, c, d]) :
    (results Tryd.f21 tm).run Tryd.prog w2 = .ok (.tuple #[.agg #[a, b, c, d], .int .i64 e]) w2 := by
  have x0 := hb.cell 0
  have x1 := hb.cell 1
  have x2 := hb.cell 2
  have x3 := hb.cell 3
  simp only [List.getElem?_toArray, List.getElem?_cons_zero, List.getElem?_cons_succ] at x0 x1 x2 x3
  have h4' : tm[2]?.getD undef = .pointer (some ⟨R, 0, none⟩) := by simpa using h4
  have h5' : tm[3]?.getD undef = .int .i64 e := by simpa using h5
  simp [results, Tryd.results21, go_sem, h4', h5', x0, x1, x2, x3]
theorem mark_ret {tm : Array Value} {w2 : World} {R : Nat} {a b c d : Value} {e : Int} (h4 : tm.getD 2 undef = .pointer (some ⟨R, 0, none⟩)) (h5 : tm.getD 3 undef = .int .i64 e) (hb : Box w2 R 31 #[a, b, c, d]) :
    (results Tryd.f22 tm).run Tryd.prog w2 = .ok (.tuple #[.agg #[a, b, c, d], .int .i64 e]) w2 := by
  have x0 := hb.cell 0
  have x1 := hb.cell 1
  have x2 := hb.cell 2
  have x3 := hb.cell 3
  simp only [List.getElem?_toArray, List.getElem?_cons_zero, List.getElem?_cons_succ] at x0 x1 x2 x3
  have h4' : tm[2]?.getD undef = .pointer (some ⟨R, 0, none⟩) := by simpa using h4
  have h5' : tm[3]?.getD undef = .int .i64 e := by simpa using h5
  simp [results, Tryd.results22, go_sem, h4', h5', x0, x1, x2, x3]
theorem first_ret {tm : Array Value} {w2 : World} {R : Nat} {a b c d : Value} {e : Int} (h4 : tm.getD 2 undef = .pointer (some ⟨R, 0, none⟩)) (h5 : tm.getD 3 undef = .int .i64 e) (hb : Box w2 R 31 #[a, b, c, d]) :
    (results Tryd.f12 tm).run Tryd.prog w2 = .ok (.tuple #[.agg #[a, b, c, d], .int .i64 e]) w2 := by
  have x0 := hb.cell 0
  have x1 := hb.cell 1
  have x2 := hb.cell 2
  have x3 := hb.cell 3
  simp only [List.getElem?_toArray, List.getElem?_cons_zero, List.getElem?_cons_succ] at x0 x1 x2 x3
  have h4' : tm[2]?.getD undef = .pointer (some ⟨R, 0, none⟩) := by simpa using h4
  have h5' : tm[3]?.getD undef = .int .i64 e := by simpa using h5
  simp [results, Tryd.results12, go_sem, h4', h5', x0, x1, x2, x3]
theorem mark_any0 (t : List UInt8) (w : World) : Calls Tryd.prog 22 #[.string ⟨t.toArray⟩] w fun e w' => e = .returned (oneRes 0 (markR t)) ∧ Below w.heap.size w w' := by
  obtain ⟨W, hW⟩ : ∃ W, W = w.alloc (.cells #[.int .i64 0, .int .i64 0, .int .i64 0, .string ⟨#[]⟩] 31) := ⟨_, rfl⟩
  have HW := Lib.hid hW
  have HB : Hid (Below w.heap.size w W) := Lib.hid (by rw [hW]; exact (Below.refl _ _).alloc (Nat.le_refl _) _)
  have HX : Hid (Box W w.heap.size 31 #[.int .i64 0, .int .i64 0, .int .i64 0, .string ⟨#[]⟩]) := Lib.hid (by rw [hW]; exact heap_alloc_new _ _)
  have BX := HX.out
  have f0 := BX.frozen 0
  have f1 := BX.frozen 1
  have f2 := BX.frozen 2
  have f3 := BX.frozen 3
  have y0 := BX.cell 0
  have y1 := BX.cell 1
  have y2 := BX.cell 2
  have y3 := BX.cell 3
  simp only [List.getElem?_toArray, List.getElem?_cons_zero, List.getElem?_cons_succ] at y0 y1 y2 y3
  clear hW BX
  by_cases h : t = []
  · subst h
    go_enter Tryd.func22, Tryd.ntmps22
    go_wp2_with (rw [← HW.out])
    try simp only [Exit.inBlock, Exit.then]
    refine bodyPost_ret (mark_ret rfl rfl (box_four HX.out _ _ _ _)) rfl ?_
    exact ⟨rfl, below_four HB.out (Nat.le_refl _) _ _ _ _⟩
  · have HR : Hid (markR t = (0, 4, 0, t)) := Lib.hid (if_neg h)
    have h' : (t == []) = false := by rw [beq_eq_false_iff_ne]; exact h
    go_enter Tryd.func22, Tryd.ntmps22
    go_wp2_with (rw [← HW.out])
    try simp only [Exit.inBlock, Exit.then]
    refine bodyPost_ret (mark_ret rfl rfl (box_four HX.out _ _ _ _)) rfl ?_
    exact ⟨by rw [HR.out]; rfl, below_four HB.out (Nat.le_refl _) _ _ _ _⟩
set_option maxHeartbeats 400000 in
theorem number_any (t : List UInt8) (w : World) (ht : t.length ≤ 1048576) (hL : LD w) : Calls Tryd.prog 19 #[.string ⟨t.toArray⟩] w fun e w' => e = .returned (oneRes 0 (numR t)) ∧ Below w.heap.size w w' := by
  obtain ⟨W, hW⟩ : ∃ W, W = w.alloc (.cells #[.int .i64 0, .int .i64 0, .int .i64 0, .string ⟨#[]⟩] 31) := ⟨_, rfl⟩
  have HW := Lib.hid hW
  have HB : Hid (Below w.heap.size w W) := Lib.hid (by rw [hW]; exact (Below.refl _ _).alloc (Nat.le_refl _) _)
  have HX : Hid (Box W w.heap.size 31 #[.int .i64 0, .int .i64 0, .int .i64 0, .string ⟨#[]⟩]) := Lib.hid (by rw [hW]; exact heap_alloc_new _ _)
  have HRD := Lib.hid (whole.read_any W.heap.size ⟨t.toArray⟩ W (by show t.length ≤ _; omega) (Nat.le_refl _) (hL.on HB.out).read)
  change Hid (Calls _ _ _ _ fun e w' => e = whole.ret2 (whole.readS t) ∧ _) at HRD
  have HN : Hid (numR t = if (whole.readS t).2 = 0 then (0, 2, (whole.readS t).1, t) else ((whole.readS t).2, 0, 0, [])) := Lib.hid rfl
  obtain ⟨⟨rn, re⟩, hr⟩ : ∃ r, r = whole.readS t := ⟨_, rfl⟩
  rw [← hr] at HRD HN
  simp only at HN
  clear hr hW hL
  go_enter Tryd.func19, Tryd.ntmps19
  go_wp2_with (first | (rw [← HW.out]))
  refine HRD.out.mono ?_
  rintro e w1 ⟨rfl, hb⟩
  unfold whole.ret2
  have HX1 := Lib.hid (HX.out.on hb)
  have HB1 := Lib.hid (HB.out.trans (hb.mono HB.out.size))
  have BX := HX1.out
  have f0 := BX.frozen 0
  have f1 := BX.frozen 1
  have f2 := BX.frozen 2
  have f3 := BX.frozen 3
  have y0 := BX.cell 0
  have y1 := BX.cell 1
  have y2 := BX.cell 2
  have y3 := BX.cell 3
  simp only [List.getElem?_toArray, List.getElem?_cons_zero, List.getElem?_cons_succ] at y0 y1 y2 y3
  clear BX hb
  by_cases he : re = 0
  · subst he
    rw [if_pos rfl] at HN
    go_wp2_with (fail)
    try simp only [Exit.inBlock, Exit.then]
    refine bodyPost_ret (number_ret rfl rfl (box_four HX1.out _ _ _ _)) rfl ?_
    exact ⟨by rw [HN.out]; rfl, below_four HB1.out (Nat.le_refl _) _ _ _ _⟩
  · rw [if_neg he] at HN
    have he' : (re == 0) = false := by rw [beq_eq_false_iff_ne]; exact he
    go_wp2_with (fail)
    try simp only [Exit.inBlock, Exit.then]
    refine bodyPost_ret (number_ret rfl rfl (box_four HX1.out _ _ _ _)) rfl ?_
    exact ⟨by rw [HN.out]; rfl, below_four HB1.out (Nat.le_refl _) _ _ _ _⟩
set_option maxHeartbeats 400000 in
theorem name_any (t : List UInt8) (w : World) (ht : t.length ≤ 1048576) (hL : LD w) : Calls Tryd.prog 21 #[.string ⟨t.toArray⟩] w fun e w' => e = .returned (oneRes 0 (nameR t)) ∧ Below w.heap.size w w' := by
  obtain ⟨W, hW⟩ : ∃ W, W = w.alloc (.cells #[.int .i64 0, .int .i64 0, .int .i64 0, .string ⟨#[]⟩] 31) := ⟨_, rfl⟩
  have HW := Lib.hid hW
  have HB : Hid (Below w.heap.size w W) := Lib.hid (by rw [hW]; exact (Below.refl _ _).alloc (Nat.le_refl _) _)
  have HX : Hid (Box W w.heap.size 31 #[.int .i64 0, .int .i64 0, .int .i64 0, .string ⟨#[]⟩]) := Lib.hid (by rw [hW]; exact heap_alloc_new _ _)
  have HRD := Lib.hid (is_any t W ht (hL.on HB.out).1)
  have HN : Hid (nameR t = if 32 < t.length then (3, 0, 0, []) else (0, if isW t = true then 3 else 1, 0, t)) := Lib.hid rfl
  by_cases h32 : 32 < t.length
  · have h32' : (32 : Int) < (t.length : Int) := by omega
    rw [if_pos h32] at HN
    have HX1 := HX
    have HB1 := HB
    have BX := HX.out
    have f0 := BX.frozen 0
    have f1 := BX.frozen 1
    have f2 := BX.frozen 2
    have f3 := BX.frozen 3
    have y0 := BX.cell 0
    have y1 := BX.cell 1
    have y2 := BX.cell 2
    have y3 := BX.cell 3
    simp only [List.getElem?_toArray, List.getElem?_cons_zero, List.getElem?_cons_succ] at y0 y1 y2 y3
    clear hW hL BX
    go_enter Tryd.func21, Tryd.ntmps21
    go_wp2_with (first | (rw [← HW.out]))
    try simp only [Exit.inBlock, Exit.then]
    refine bodyPost_ret (name_ret rfl rfl (box_four HX1.out _ _ _ _)) rfl ?_
    exact ⟨by rw [HN.out]; rfl, below_four HB1.out (Nat.le_refl _) _ _ _ _⟩
  · have h32' : decide ((32 : Int) < (t.length : Int)) = false := by rw [decide_eq_false_iff_not]; omega
    rw [if_neg h32] at HN
    obtain ⟨K, hK⟩ : ∃ K, K = isW t := ⟨_, rfl⟩
    rw [← hK] at HN HRD
    clear hW hL hK
    go_enter Tryd.func21, Tryd.ntmps21
    go_wp2_with (first | (rw [← HW.out]))
    refine HRD.out.mono ?_
    rintro e w1 ⟨rfl, hb⟩
    have HX1 := Lib.hid (HX.out.on hb)
    have HB1 := Lib.hid (HB.out.trans (hb.mono HB.out.size))
    have BX := HX1.out
    have f0 := BX.frozen 0
    have f1 := BX.frozen 1
    have f2 := BX.frozen 2
    have f3 := BX.frozen 3
    have y0 := BX.cell 0
    have y1 := BX.cell 1
    have y2 := BX.cell 2
    have y3 := BX.cell 3
    simp only [List.getElem?_toArray, List.getElem?_cons_zero, List.getElem?_cons_succ] at y0 y1 y2 y3
    clear BX hb
    cases K
    · go_wp2_with (fail)
      try simp only [Exit.inBlock, Exit.then]
      refine bodyPost_ret (name_ret rfl rfl (box_four HX1.out _ _ _ _)) rfl ?_
      exact ⟨by rw [HN.out]; rfl, below_four HB1.out (Nat.le_refl _) _ _ _ _⟩
    · go_wp2_with (fail)
      try simp only [Exit.inBlock, Exit.then]
      refine bodyPost_ret (name_ret rfl rfl (box_four HX1.out _ _ _ _)) rfl ?_
      exact ⟨by rw [HN.out]; rfl, below_four HB1.out (Nat.le_refl _) _ _ _ _⟩
set_option maxHeartbeats 800000 in
theorem first_any (s : ByteArray) (w : World) (hs : s.size ≤ 1048576) (h0 : 0 < s.size) (hL : LD w) : Calls Tryd.prog 12 #[.string s] w fun e w' => e = .returned (oneRes 0 (headF s.data.toList)) ∧ Below w.heap.size w w' := by
  obtain ⟨W, hW⟩ : ∃ W, W = w.alloc (.cells #[.int .i64 0, .int .i64 0, .int .i64 0, .string ⟨#[]⟩] 31) := ⟨_, rfl⟩
  have HW := Lib.hid hW
  have HB : Hid (Below w.heap.size w W) := Lib.hid (by rw [hW]; exact (Below.refl _ _).alloc (Nat.le_refl _) _)
  have HX : Hid (Box W w.heap.size 31 #[.int .i64 0, .int .i64 0, .int .i64 0, .string ⟨#[]⟩]) := Lib.hid (by rw [hW]; exact heap_alloc_new _ _)
  have HL : Hid (s.data.toList = s[0] :: s.data.toList.drop 1) := Lib.hid (by have h := drop_cons s 0 h0; rw [List.drop_zero] at h; exact h)
  have HLD := Lib.hid (hL.on HB.out)
  have hld : ∀ q, LD (W.drewN q) := fun q => HLD.out.on (below_drewN (Below.refl _ _) q)
  have hdg := fun w => Lib.hid (digit_any s[0] w)
  have hnm := fun w => Lib.hid (name_any0 s[0] w)
  have htw : ∀ p : UInt8 → Bool, (s.data.toList.takeWhile p).length ≤ 1048576 := fun p => by
    have h := (List.takeWhile_sublist p (l := s.data.toList)).length_le
    have e : s.data.toList.length = s.size := by simp
    omega
  have h0' : (0 : Int) < (s.size : Int) := by omega
  clear hW hL
  by_cases h2 : cls s[0] = 2
  · have HT : Hid (headF s.data.toList = numR (s.data.toList.takeWhile isDg)) := Lib.hid (by rw [HL.out]; exact head_dg h2 _)
    rw [show isDg s[0] = true from decide_eq_true h2] at hdg
    have hrun := fun w => Lib.hid (run_dg s w hs)
    have hsl := fun w => first_cut s isDg w
    have hlen := htw isDg
    clear htw hnm h2 HL HLD
    obtain ⟨T, hT⟩ : ∃ T, T = s.data.toList.takeWhile isDg := ⟨_, rfl⟩
    rw [← hT] at HT hrun hsl hlen
    clear hT
    have hnum := fun q => Lib.hid (number_any T (W.drewN q) hlen (hld q))
    obtain ⟨⟨re, rk, rn, rt⟩, hr⟩ : ∃ r, r = numR T := ⟨_, rfl⟩
    rw [← hr] at HT hnum
    unfold oneRes tokA at hnum
    simp only at hnum
    clear hr hld
    go_enter Tryd.func12, Tryd.ntmps12
    go_wp2_with (first | (rw [← HW.out]) | (go_at_call 18; refine (hdg _).out.mono ?_; rintro e w1 ⟨rfl, rfl⟩))
    refine (hrun _).out.mono ?_
    rintro e w1 ⟨rfl, q, rfl⟩
    go_wp2_with (fail)
    refine (hnum _).out.mono ?_
    rintro e w1 ⟨rfl, hb⟩
    have hX0 : Box (W.drewN q) w.heap.size 31 _ := HX.out
    have HX1 := Lib.hid (hX0.on hb)
    have HB1 := Lib.hid ((below_drewN HB.out q).trans (hb.mono HB.out.size))
    have BX := HX1.out
    have f0 := BX.frozen 0
    have f1 := BX.frozen 1
    have f2 := BX.frozen 2
    have f3 := BX.frozen 3
    have y0 := BX.cell 0
    have y1 := BX.cell 1
    have y2 := BX.cell 2
    have y3 := BX.cell 3
    simp only [List.getElem?_toArray, List.getElem?_cons_zero, List.getElem?_cons_succ] at y0 y1 y2 y3
    clear BX hb
    clear hX0
    go_wp2_with (fail)
    try simp only [Exit.inBlock, Exit.then]
    refine bodyPost_ret (first_ret rfl rfl (box_four HX1.out _ _ _ _)) rfl ?_
    exact ⟨by rw [HT.out]; rfl, below_four HB1.out (Nat.le_refl _) _ _ _ _⟩
  · rw [show isDg s[0] = false from decide_eq_false h2] at hdg
    by_cases h1 : cls s[0] = 1
    · have HT : Hid (headF s.data.toList = nameR (s.data.toList.takeWhile isLD)) := Lib.hid (by rw [HL.out]; exact head_ld h1 _)
      rw [show isLD s[0] = true from by unfold isLD isL; rw [decide_eq_true h1]; rfl] at hnm
      have hrun := fun w => Lib.hid (run_ld s w hs)
      have hsl := fun w => first_cut s isLD w
      have hlen := htw isLD
      clear htw h2 h1 HL HLD
      obtain ⟨T, hT⟩ : ∃ T, T = s.data.toList.takeWhile isLD := ⟨_, rfl⟩
      rw [← hT] at HT hrun hsl hlen
      clear hT
      have hnum := fun q => Lib.hid (name_any T (W.drewN q) hlen (hld q))
      obtain ⟨⟨re, rk, rn, rt⟩, hr⟩ : ∃ r, r = nameR T := ⟨_, rfl⟩
      rw [← hr] at HT hnum
      unfold oneRes tokA at hnum
      simp only at hnum
      clear hr hld
      go_enter Tryd.func12, Tryd.ntmps12
      go_wp2_with (first | (rw [← HW.out]) | (go_at_call 18; refine (hdg _).out.mono ?_; rintro e w1 ⟨rfl, rfl⟩) | (go_at_call 20; refine (hnm _).out.mono ?_; rintro e w1 ⟨rfl, rfl⟩))
      refine (hrun _).out.mono ?_
      rintro e w1 ⟨rfl, q, rfl⟩
      go_wp2_with (fail)
      refine (hnum _).out.mono ?_
      rintro e w1 ⟨rfl, hb⟩
      have hX0 : Box (W.drewN q) w.heap.size 31 _ := HX.out
      have HX1 := Lib.hid (hX0.on hb)
      have HB1 := Lib.hid ((below_drewN HB.out q).trans (hb.mono HB.out.size))
      have BX := HX1.out
      have f0 := BX.frozen 0
      have f1 := BX.frozen 1
      have f2 := BX.frozen 2
      have f3 := BX.frozen 3
      have y0 := BX.cell 0
      have y1 := BX.cell 1
      have y2 := BX.cell 2
      have y3 := BX.cell 3
      simp only [List.getElem?_toArray, List.getElem?_cons_zero, List.getElem?_cons_succ] at y0 y1 y2 y3
      clear BX hb
      clear hX0
      go_wp2_with (fail)
      try simp only [Exit.inBlock, Exit.then]
      refine bodyPost_ret (first_ret rfl rfl (box_four HX1.out _ _ _ _)) rfl ?_
      exact ⟨by rw [HT.out]; rfl, below_four HB1.out (Nat.le_refl _) _ _ _ _⟩
    · have HT : Hid (headF s.data.toList = markR (markF s.data.toList)) := Lib.hid (by rw [HL.out]; exact head_mark h2 h1 _)
      rw [show isLD s[0] = false from by unfold isLD isL isDg; rw [decide_eq_false h1, decide_eq_false h2]; rfl] at hnm
      have HM := Lib.hid (mark_any s.data.toList W (by have e : s.data.toList.length = s.size := by simp
                                                       omega) HLD.out.1)
      rw [show (⟨s.data.toList.toArray⟩ : ByteArray) = s by apply ByteArray.ext; simp] at HM
      clear htw h2 h1 HL HLD hld
      obtain ⟨T, hT⟩ : ∃ T, T = markF s.data.toList := ⟨_, rfl⟩
      rw [← hT] at HT HM
      clear hT
      have hnum := fun w => Lib.hid (mark_any0 T w)
      obtain ⟨⟨re, rk, rn, rt⟩, hr⟩ : ∃ r, r = markR T := ⟨_, rfl⟩
      rw [← hr] at HT hnum
      unfold oneRes tokA at hnum
      simp only at hnum
      clear hr
      go_enter Tryd.func12, Tryd.ntmps12
      go_wp2_with (first | (rw [← HW.out]) | (go_at_call 18; refine (hdg _).out.mono ?_; rintro e w1 ⟨rfl, rfl⟩) | (go_at_call 20; refine (hnm _).out.mono ?_; rintro e w1 ⟨rfl, rfl⟩))
      refine HM.out.mono ?_
      rintro e w1 ⟨rfl, hb1⟩
      have HX2 := Lib.hid (HX.out.on hb1)
      have HB2 := Lib.hid (HB.out.trans (hb1.mono HB.out.size))
      clear hb1
      go_wp2_with (fail)
      refine (hnum _).out.mono ?_
      rintro e w2 ⟨rfl, hb⟩
      have HX1 := Lib.hid (HX2.out.on hb)
      have HB1 := Lib.hid (HB2.out.trans (hb.mono HB2.out.size))
      have BX := HX1.out
      have f0 := BX.frozen 0
      have f1 := BX.frozen 1
      have f2 := BX.frozen 2
      have f3 := BX.frozen 3
      have y0 := BX.cell 0
      have y1 := BX.cell 1
      have y2 := BX.cell 2
      have y3 := BX.cell 3
      simp only [List.getElem?_toArray, List.getElem?_cons_zero, List.getElem?_cons_succ] at y0 y1 y2 y3
      clear BX hb
      go_wp2_with (fail)
      try simp only [Exit.inBlock, Exit.then]
      refine bodyPost_ret (first_ret rfl rfl (box_four HX1.out _ _ _ _)) rfl ?_
      exact ⟨by rw [HT.out]; rfl, below_four HB1.out (Nat.le_refl _) _ _ _ _⟩
end Go.Proofs.YtjppfnofceejhaaDoor.lx

/- The document's own token at a place. -/
import Derived.Test.YtjppfnofceejhaaDoorLexRef
import Derived.Test.YtjppfnofceejhaaDoorBox
namespace Go.Proofs.YtjppfnofceejhaaDoor.lx
open Go.RowKit mem vt wd

def tokA (k : Int) (p : Nat) (n : Int) (t : List UInt8) : Value := .agg #[.int .i64 k, .int .i64 p, .int .i64 n, .string ⟨t.toArray⟩]
def oneRes (p : Nat) (r : Int × Int × Int × List UInt8) : Value := .tuple #[tokA r.2.1 p r.2.2.1 r.2.2.2, .int .i64 r.1]
theorem drop_cons (s : ByteArray) (p : Nat) (h : p < s.size) : s.data.toList.drop p = s[p] :: s.data.toList.drop (p + 1) := by
  rw [List.drop_eq_getElem_cons (by simpa using h)]; rfl
theorem cut_text (s : ByteArray) (p : UInt8 → Bool) (a e : Nat) (h : e = runE s p a) (hle : a ≤ e) (hs : e ≤ s.size) (w : World) :
    (Instr.slice 9 (.string s) (some (.int .i64 a)) (some (.int .i64 e)) none).run Tryd.prog w = .ok (.string ⟨((s.data.toList.drop a).takeWhile p).toArray⟩) w := by
  have x := run_slice_string (P := Tryd.prog) w 9 s .i64 .i64 (a : Int) (e : Int) Tryd.underlying9 (by omega) (by omega) (by omega)
  rw [Int.toNat_natCast, Int.toNat_natCast, h, run_text, ← h] at x
  exact x
theorem one_letter {c : UInt8} (h : cls c = 1) (r : List UInt8) : oneF (c :: r) = (if 32 < ((c :: r).takeWhile isLD).length then 3 else 0, if isW ((c :: r).takeWhile isLD) = true then 3 else 1, 0, (c :: r).takeWhile isLD) := by
  unfold oneF; simp only [if_pos h]
theorem one_ret {tm : Array Value} {w2 : World} {R : Nat} {a b c d : Value} {e : Int} (h4 : tm.getD 4 undef = .pointer (some ⟨R, 0, none⟩)) (h5 : tm.getD 5 undef = .int .i64 e) (hb : Box w2 R 31 #[a, b, c, d]) :
    (results Tryd.f14 tm).run Tryd.prog w2 = .ok (.tuple #[.agg #[a, b, c, d], .int .i64 e]) w2 := by
  have x0 := hb.cell 0
  have x1 := hb.cell 1
  have x2 := hb.cell 2
  have x3 := hb.cell 3
  simp only [List.getElem?_toArray, List.getElem?_cons_zero, List.getElem?_cons_succ] at x0 x1 x2 x3
  have h4' : tm[4]?.getD undef = .pointer (some ⟨R, 0, none⟩) := by simpa using h4
  have h5' : tm[5]?.getD undef = .int .i64 e := by simpa using h5
  simp [results, Tryd.results14, go_sem, h4', h5', x0, x1, x2, x3]
theorem box_four {w : World} {g : Nat} {t : TypeId} {x y z u : Value} (h : Box w g t #[x, y, z, u]) (a b c d : Value) : Box ((((w.setCell ⟨g, 0, none⟩ a).setCell ⟨g, 1, none⟩ b).setCell ⟨g, 2, none⟩ c).setCell ⟨g, 3, none⟩ d) g t #[a, b, c, d] := (((h.set 0 a).set 1 b).set 2 c).set 3 d
theorem below_four {B g : Nat} {w0 w : World} (h : Below B w0 w) (hg : B ≤ g) (a b c d : Value) : Below B w0 ((((w.setCell ⟨g, 0, none⟩ a).setCell ⟨g, 1, none⟩ b).setCell ⟨g, 2, none⟩ c).setCell ⟨g, 3, none⟩ d) := (((h.setCell hg a).setCell hg b).setCell hg c).setCell hg d
set_option maxHeartbeats 400000 in
theorem one_name (s : ByteArray) (p : Nat) (w : World) (hs : s.size ≤ 1048576) (hp : p < s.size) (hc : clsN s[p].toNat = 1) :
    Calls Tryd.prog 14 #[.string s, .int .i64 p] w fun e w' => e = .returned (oneRes p (oneF (s.data.toList.drop p))) ∧ Below w.heap.size w w' := by
  obtain ⟨E, hE⟩ : ∃ E, E = runE s isLD p := ⟨_, rfl⟩
  obtain ⟨hE1, hE2⟩ := run_le s isLD p (by omega)
  rw [← hE] at hE1 hE2
  have HE := Lib.hid hE
  clear hE
  have hcl : ∀ w, Hid (Calls Tryd.prog 13 #[.int .u8 s[p].toNat] w fun e w' => e = .returned (.int .i64 1) ∧ w = w') := fun w => Lib.hid (by
    have h := class_any s[p].toNat w (by have := s[p].toNat_lt; omega)
    rw [hc] at h; exact h)
  have HC : Hid (cls s[p] = 1) := Lib.hid hc
  clear hc
  go_enter Tryd.func14, Tryd.ntmps14
  go_wp2_with (first | (go_at_call 13; refine (hcl _).out.mono ?_; rintro e w1 ⟨rfl, rfl⟩))
  obtain ⟨W, hW⟩ : ∃ W, W = w.alloc (.cells #[.int .i64 0, .int .i64 0, .int .i64 0, .string ⟨#[]⟩] 31) := ⟨_, rfl⟩
  have HB : Hid (Below w.heap.size w W) := Lib.hid (by rw [hW]; exact (Below.refl _ _).alloc (Nat.le_refl _) _)
  have HT : Hid (W.heap[w.heap.size]? = some (.cells #[.int .i64 0, .int .i64 0, .int .i64 0, .string ⟨#[]⟩] 31 (0, 0))) := Lib.hid (by rw [hW]; exact heap_alloc_new _ _)
  rw [← hW]
  clear hW
  go_loop [7] (fun i => ∃ e : Nat, i = .int .i64 e ∧ p ≤ e ∧ e ≤ E) (fun i => s.size - (intOf i).toNat)
  case atStart => exact ⟨p, rfl, by omega, by omega⟩
  case round =>
    obtain ⟨e, rfl, he1, he2⟩ := hrel
    by_cases hlt : e < E
    · obtain ⟨hes, hld⟩ := run_inside s isLD p e he1 (by rw [← HE.out]; exact hlt)
      have hK : clsN s[e].toNat = 1 ∨ clsN s[e].toNat = 2 := by unfold isLD isL isDg cls at hld; simpa using hld
      obtain ⟨K, hKK⟩ : ∃ K, K = clsN s[e].toNat := ⟨_, rfl⟩
      have hcl2 : ∀ w, Hid (Calls Tryd.prog 13 #[.int .u8 s[e].toNat] w fun e w' => e = .returned (.int .i64 K) ∧ w = w') := fun w => Lib.hid (by
        have h := class_any s[e].toNat w (by have := s[e].toNat_lt; omega)
        rw [← hKK] at h; exact h)
      rw [← hKK] at hK
      clear hKK hld
      rcases hK with rfl | rfl
      · go_wp2_with (first | (go_at_call 13; refine (hcl2 _).out.mono ?_; rintro e w1 ⟨rfl, rfl⟩))
        go_round
        case rel => exact ⟨e + 1, by go_num, by omega, by omega⟩
        case measure => simp [intOf]; omega
      · go_wp2_with (first | (go_at_call 13; refine (hcl2 _).out.mono ?_; rintro e w1 ⟨rfl, rfl⟩))
        go_round
        case rel => exact ⟨e + 1, by go_num, by omega, by omega⟩
        case measure => simp [intOf]; omega
    · obtain rfl : e = E := by omega
      clear hlt he2
      have hct := cut_text s isLD p e HE.out hE2 hE1
      obtain ⟨t, ht⟩ : ∃ t, t = (s.data.toList.drop p).takeWhile isLD := ⟨_, rfl⟩
      rw [← ht] at hct
      by_cases hlt : e < s.size
      · have hno := run_end s isLD p (by rw [← HE.out]; exact hlt)
        simp only [← HE.out] at hno
        have hK : ¬ clsN s[e].toNat = 1 ∧ ¬ clsN s[e].toNat = 2 := by unfold isLD isL isDg cls at hno; simpa using hno
        obtain ⟨K, hKK⟩ : ∃ K, K = clsN s[e].toNat := ⟨_, rfl⟩
        have hcl2 : ∀ w, Hid (Calls Tryd.prog 13 #[.int .u8 s[e].toNat] w fun e w' => e = .returned (.int .i64 K) ∧ w = w') := fun w => Lib.hid (by
          have h := class_any s[e].toNat w (by have := s[e].toNat_lt; omega)
          rw [← hKK] at h; exact h)
        rw [← hKK] at hK
        have k1 : (K == 1) = false := by rw [beq_eq_false_iff_ne]; exact hK.1
        have k2 : (K == 2) = false := by rw [beq_eq_false_iff_ne]; exact hK.2
        clear hKK hK hno
        go_wp2_with (first | (go_at_call 13; refine (hcl2 _).out.mono ?_; rintro e w1 ⟨rfl, rfl⟩))
        rw [← ht]
        have htl : t.length ≤ 1048576 := by
          have := (List.takeWhile_sublist isLD (l := s.data.toList.drop p)).length_le
          rw [← ht, List.length_drop] at this
          have e : s.data.toList.length = s.size := by simp
          omega
        have HRT : Hid (oneF (s.data.toList.drop p) = (if 32 < t.length then 3 else 0, if isW t = true then 3 else 1, 0, t)) := Lib.hid (by
          rw [ht, drop_cons s p hp]; exact one_letter HC.out _)
        clear ht hct HC
        have HI := Lib.hid (ris_any t (W.alloc (.cells #[.int .i64 1, .int .i64 p, .int .i64 0, .string ⟨t.toArray⟩] 31)))
        obtain ⟨W1, hW1⟩ : ∃ W1, W1 = W.alloc (.cells #[.int .i64 1, .int .i64 p, .int .i64 0, .string ⟨t.toArray⟩] 31) := ⟨_, rfl⟩
        have BX : Box W1 W.heap.size 31 #[.int .i64 1, .int .i64 p, .int .i64 0, .string ⟨t.toArray⟩] := by rw [hW1]; exact Box.new _ _ _ _ rfl
        have BR : Box W1 w.heap.size 31 #[.int .i64 0, .int .i64 0, .int .i64 0, .string ⟨#[]⟩] := by rw [hW1]; exact Box.alloc HT.out _
        have HB1 : Hid (Below w.heap.size w W1) := Lib.hid (by rw [hW1]; exact HB.out.alloc HB.out.size _)
        have hne : w.heap.size < W.heap.size := Box.lt HT.out
        rw [← hW1] at HI ⊢
        clear hW1 HT HB
        refine HI.out.mono ?_
        rintro e1 w1 ⟨rfl, hb1⟩
        replace BX := BX.on hb1
        replace BR := BR.on hb1
        have HB2 := Lib.hid (HB1.out.trans (hb1.mono HB1.out.size))
        clear hb1 HB1 HI
        obtain ⟨H, hH⟩ : ∃ H, H = W.heap.size := ⟨_, rfl⟩
        rw [← hH] at BX hne ⊢
        clear hH
        obtain ⟨R, hR⟩ : ∃ R, R = w.heap.size := ⟨_, rfl⟩
        rw [← hR] at BR hne HB2
        have HR := Lib.hid hR
        rw [← hR]
        clear hR
        have x0 := BX.cell 0
        have x1 := BX.cell 1
        have x2 := BX.cell 2
        have x3 := BX.cell 3
        have xf := BX.frozen 0
        have y0 := BR.cell 0
        have y1 := BR.cell 1
        have y2 := BR.cell 2
        have y3 := BR.cell 3
        have f0 := BR.frozen 0
        have f1 := BR.frozen 1
        have f2 := BR.frozen 2
        have f3 := BR.frozen 3
        have HBR := Lib.hid BR
        clear BX BR
        simp only [List.getElem?_toArray, List.getElem?_cons_zero, List.getElem?_cons_succ] at x0 x1 x2 x3 y0 y1 y2 y3
        have hne2 : ¬ H = R := by omega
        have hne3 : ¬ R = H := by omega
        by_cases hlong : 32 < t.length
        · rw [if_pos hlong] at HRT
          have hlong2 : 32 < (t.length : Int) := by omega
          cases hw : isW t
          · rw [hw] at HRT
            go_wp2_with (fail)
            try simp only [Exit.inBlock, Exit.then]
            refine bodyPost_ret (one_ret rfl rfl (box_four HBR.out _ _ _ _)) rfl ?_
            exact ⟨by rw [HRT.out]; rfl, by rw [← HR.out]; exact below_four HB2.out (Nat.le_refl _) _ _ _ _⟩
          · rw [hw] at HRT
            go_wp2_with (fail)
            try simp only [Exit.inBlock, Exit.then]
            refine bodyPost_ret (one_ret rfl rfl (box_four (HBR.out.far (by exact hne3) _) _ _ _ _)) rfl ?_
            exact ⟨by rw [HRT.out]; rfl, by rw [← HR.out]; exact below_four (HB2.out.setCell (by dsimp only; omega) _) (Nat.le_refl _) _ _ _ _⟩
        · rw [if_neg hlong] at HRT
          have hlong2 : ¬ 32 < (t.length : Int) := by omega
          cases hw : isW t
          · rw [hw] at HRT
            go_wp2_with (fail)
            try simp only [Exit.inBlock, Exit.then]
            refine bodyPost_ret (one_ret rfl rfl (box_four HBR.out _ _ _ _)) rfl ?_
            exact ⟨by rw [HRT.out]; rfl, by rw [← HR.out]; exact below_four HB2.out (Nat.le_refl _) _ _ _ _⟩
          · rw [hw] at HRT
            go_wp2_with (fail)
            try simp only [Exit.inBlock, Exit.then]
            refine bodyPost_ret (one_ret rfl rfl (box_four (HBR.out.far (by exact hne3) _) _ _ _ _)) rfl ?_
            exact ⟨by rw [HRT.out]; rfl, by rw [← HR.out]; exact below_four (HB2.out.setCell (by dsimp only; omega) _) (Nat.le_refl _) _ _ _ _⟩
      · obtain rfl : e = s.size := by omega
        go_wp2_with (fail)
        rw [← ht]
        have htl : t.length ≤ 1048576 := by
          have := (List.takeWhile_sublist isLD (l := s.data.toList.drop p)).length_le
          rw [← ht, List.length_drop] at this
          have e : s.data.toList.length = s.size := by simp
          omega
        have HRT : Hid (oneF (s.data.toList.drop p) = (if 32 < t.length then 3 else 0, if isW t = true then 3 else 1, 0, t)) := Lib.hid (by
          rw [ht, drop_cons s p hp]; exact one_letter HC.out _)
        clear ht hct HC
        have HI := Lib.hid (ris_any t (W.alloc (.cells #[.int .i64 1, .int .i64 p, .int .i64 0, .string ⟨t.toArray⟩] 31)))
        obtain ⟨W1, hW1⟩ : ∃ W1, W1 = W.alloc (.cells #[.int .i64 1, .int .i64 p, .int .i64 0, .string ⟨t.toArray⟩] 31) := ⟨_, rfl⟩
        have BX : Box W1 W.heap.size 31 #[.int .i64 1, .int .i64 p, .int .i64 0, .string ⟨t.toArray⟩] := by rw [hW1]; exact Box.new _ _ _ _ rfl
        have BR : Box W1 w.heap.size 31 #[.int .i64 0, .int .i64 0, .int .i64 0, .string ⟨#[]⟩] := by rw [hW1]; exact Box.alloc HT.out _
        have HB1 : Hid (Below w.heap.size w W1) := Lib.hid (by rw [hW1]; exact HB.out.alloc HB.out.size _)
        have hne : w.heap.size < W.heap.size := Box.lt HT.out
        rw [← hW1] at HI ⊢
        clear hW1 HT HB
        refine HI.out.mono ?_
        rintro e1 w1 ⟨rfl, hb1⟩
        replace BX := BX.on hb1
        replace BR := BR.on hb1
        have HB2 := Lib.hid (HB1.out.trans (hb1.mono HB1.out.size))
        clear hb1 HB1 HI
        obtain ⟨H, hH⟩ : ∃ H, H = W.heap.size := ⟨_, rfl⟩
        rw [← hH] at BX hne ⊢
        clear hH
        obtain ⟨R, hR⟩ : ∃ R, R = w.heap.size := ⟨_, rfl⟩
        rw [← hR] at BR hne HB2
        have HR := Lib.hid hR
        rw [← hR]
        clear hR
        have x0 := BX.cell 0
        have x1 := BX.cell 1
        have x2 := BX.cell 2
        have x3 := BX.cell 3
        have xf := BX.frozen 0
        have y0 := BR.cell 0
        have y1 := BR.cell 1
        have y2 := BR.cell 2
        have y3 := BR.cell 3
        have f0 := BR.frozen 0
        have f1 := BR.frozen 1
        have f2 := BR.frozen 2
        have f3 := BR.frozen 3
        have HBR := Lib.hid BR
        clear BX BR
        simp only [List.getElem?_toArray, List.getElem?_cons_zero, List.getElem?_cons_succ] at x0 x1 x2 x3 y0 y1 y2 y3
        have hne2 : ¬ H = R := by omega
        have hne3 : ¬ R = H := by omega
        by_cases hlong : 32 < t.length
        · rw [if_pos hlong] at HRT
          have hlong2 : 32 < (t.length : Int) := by omega
          cases hw : isW t
          · rw [hw] at HRT
            go_wp2_with (fail)
            try simp only [Exit.inBlock, Exit.then]
            refine bodyPost_ret (one_ret rfl rfl (box_four HBR.out _ _ _ _)) rfl ?_
            exact ⟨by rw [HRT.out]; rfl, by rw [← HR.out]; exact below_four HB2.out (Nat.le_refl _) _ _ _ _⟩
          · rw [hw] at HRT
            go_wp2_with (fail)
            try simp only [Exit.inBlock, Exit.then]
            refine bodyPost_ret (one_ret rfl rfl (box_four (HBR.out.far (by exact hne3) _) _ _ _ _)) rfl ?_
            exact ⟨by rw [HRT.out]; rfl, by rw [← HR.out]; exact below_four (HB2.out.setCell (by dsimp only; omega) _) (Nat.le_refl _) _ _ _ _⟩
        · rw [if_neg hlong] at HRT
          have hlong2 : ¬ 32 < (t.length : Int) := by omega
          cases hw : isW t
          · rw [hw] at HRT
            go_wp2_with (fail)
            try simp only [Exit.inBlock, Exit.then]
            refine bodyPost_ret (one_ret rfl rfl (box_four HBR.out _ _ _ _)) rfl ?_
            exact ⟨by rw [HRT.out]; rfl, by rw [← HR.out]; exact below_four HB2.out (Nat.le_refl _) _ _ _ _⟩
          · rw [hw] at HRT
            go_wp2_with (fail)
            try simp only [Exit.inBlock, Exit.then]
            refine bodyPost_ret (one_ret rfl rfl (box_four (HBR.out.far (by exact hne3) _) _ _ _ _)) rfl ?_
            exact ⟨by rw [HRT.out]; rfl, by rw [← HR.out]; exact below_four (HB2.out.setCell (by dsimp only; omega) _) (Nat.le_refl _) _ _ _ _⟩
theorem one_digit {c : UInt8} (h : cls c = 2) (r : List UInt8) : oneF (c :: r) = ((whole.readS ((c :: r).takeWhile isDg)).2, 2, (whole.readS ((c :: r).takeWhile isDg)).1, (c :: r).takeWhile isDg) := by
  unfold oneF; simp only [if_neg (show ¬ cls c = 1 by rw [h]; decide), if_pos h]
theorem one_mark {c : UInt8} (h1 : ¬ cls c = 1) (h2 : ¬ cls c = 2) (r : List UInt8) : oneF (c :: r) = if markF ((c :: r).take 2) = [] then (1, 0, 0, []) else (0, 4, 0, markF ((c :: r).take 2)) := by
  unfold oneF; simp only [if_neg h1, if_neg h2]
set_option maxHeartbeats 400000 in
theorem one_num (s : ByteArray) (p : Nat) (w : World) (hs : s.size ≤ 1048576) (hp : p < s.size) (hc : clsN s[p].toNat = 2) :
    Calls Tryd.prog 14 #[.string s, .int .i64 p] w fun e w' => e = .returned (oneRes p (oneF (s.data.toList.drop p))) ∧ Below w.heap.size w w' := by
  obtain ⟨E, hE⟩ : ∃ E, E = runE s isDg p := ⟨_, rfl⟩
  obtain ⟨hE1, hE2⟩ := run_le s isDg p (by omega)
  rw [← hE] at hE1 hE2
  have HE := Lib.hid hE
  clear hE
  have hcl : ∀ w, Hid (Calls Tryd.prog 13 #[.int .u8 s[p].toNat] w fun e w' => e = .returned (.int .i64 2) ∧ w = w') := fun w => Lib.hid (by
    have h := class_any s[p].toNat w (by have := s[p].toNat_lt; omega)
    rw [hc] at h; exact h)
  have HC : Hid (cls s[p] = 2) := Lib.hid hc
  clear hc
  go_enter Tryd.func14, Tryd.ntmps14
  go_wp2_with (first | (go_at_call 13; refine (hcl _).out.mono ?_; rintro e w1 ⟨rfl, rfl⟩))
  obtain ⟨W, hW⟩ : ∃ W, W = w.alloc (.cells #[.int .i64 0, .int .i64 0, .int .i64 0, .string ⟨#[]⟩] 31) := ⟨_, rfl⟩
  have HB : Hid (Below w.heap.size w W) := Lib.hid (by rw [hW]; exact (Below.refl _ _).alloc (Nat.le_refl _) _)
  have HT : Hid (Box W w.heap.size 31 #[.int .i64 0, .int .i64 0, .int .i64 0, .string ⟨#[]⟩]) := Lib.hid (by rw [hW]; exact heap_alloc_new _ _)
  rw [← hW]
  clear hW
  go_loop [7] (fun i => ∃ e : Nat, i = .int .i64 e ∧ p ≤ e ∧ e ≤ E) (fun i => s.size - (intOf i).toNat)
  case atStart => exact ⟨p, rfl, by omega, by omega⟩
  case round =>
    obtain ⟨e, rfl, he1, he2⟩ := hrel
    by_cases hlt : e < E
    · obtain ⟨hes, hld⟩ := run_inside s isDg p e he1 (by rw [← HE.out]; exact hlt)
      have hK : clsN s[e].toNat = 2 := by unfold isDg cls at hld; simpa using hld
      have hcl2 : ∀ w, Hid (Calls Tryd.prog 13 #[.int .u8 s[e].toNat] w fun e w' => e = .returned (.int .i64 2) ∧ w = w') := fun w => Lib.hid (by
        have h := class_any s[e].toNat w (by have := s[e].toNat_lt; omega)
        rw [hK] at h; exact h)
      clear hK hld
      go_wp2_with (first | (go_at_call 13; refine (hcl2 _).out.mono ?_; rintro e w1 ⟨rfl, rfl⟩))
      go_round
      case rel => exact ⟨e + 1, by go_num, by omega, by omega⟩
      case measure => simp [intOf]; omega
    · obtain rfl : e = E := by omega
      clear hlt he2
      have hct := cut_text s isDg p e HE.out hE2 hE1
      obtain ⟨t, ht⟩ : ∃ t, t = (s.data.toList.drop p).takeWhile isDg := ⟨_, rfl⟩
      have HRT : Hid (oneF (s.data.toList.drop p) = ((whole.readS t).2, 2, (whole.readS t).1, t)) := Lib.hid (by
        rw [ht, drop_cons s p hp]; exact one_digit HC.out _)
      rw [← ht] at hct
      have htl : t.length ≤ 1048576 := by
        have := (List.takeWhile_sublist isDg (l := s.data.toList.drop p)).length_le
        rw [← ht, List.length_drop] at this
        have e : s.data.toList.length = s.size := by simp
        omega
      clear ht HC
      have HRD : ∀ w, Hid (Calls Tryd.prog 25 #[.string ⟨t.toArray⟩] w fun e w' => e = whole.ret2 (whole.readS t) ∧ ∃ n, w' = w.drewN n) := fun w => Lib.hid (whole.rread_any ⟨t.toArray⟩ w (by show t.length ≤ _; unfold maxLen; omega))
      obtain ⟨⟨rn, re⟩, hrr⟩ : ∃ r, r = whole.readS t := ⟨_, rfl⟩
      rw [← hrr] at HRT HRD
      simp only at HRT
      clear hrr
      have hR0 := HT.out
      have f0 := hR0.frozen 0
      have f1 := hR0.frozen 1
      have f2 := hR0.frozen 2
      have f3 := hR0.frozen 3
      have y0 := hR0.cell 0
      have y1 := hR0.cell 1
      have y2 := hR0.cell 2
      have y3 := hR0.cell 3
      clear hR0
      simp only [List.getElem?_toArray, List.getElem?_cons_zero, List.getElem?_cons_succ] at y0 y1 y2 y3
      by_cases hlt : e < s.size
      · have hno := run_end s isDg p (by rw [← HE.out]; exact hlt)
        simp only [← HE.out] at hno
        have hK : ¬ clsN s[e].toNat = 2 := by unfold isDg cls at hno; simpa using hno
        obtain ⟨K, hKK⟩ : ∃ K, K = clsN s[e].toNat := ⟨_, rfl⟩
        have hcl2 : ∀ w, Hid (Calls Tryd.prog 13 #[.int .u8 s[e].toNat] w fun e w' => e = .returned (.int .i64 K) ∧ w = w') := fun w => Lib.hid (by
          have h := class_any s[e].toNat w (by have := s[e].toNat_lt; omega)
          rw [← hKK] at h; exact h)
        rw [← hKK] at hK
        have k2 : (K == 2) = false := by rw [beq_eq_false_iff_ne]; exact hK
        clear hKK hK hno
        go_wp2_with (first | (go_at_call 13; refine (hcl2 _).out.mono ?_; rintro e w1 ⟨rfl, rfl⟩) | (go_at_call 25; refine (HRD _).out.mono ?_; rintro e w1 ⟨rfl, q, rfl⟩; unfold whole.ret2))
        try simp only [Exit.inBlock, Exit.then]
        refine bodyPost_ret (one_ret rfl rfl (box_four (show Box (W.drewN q) _ _ _ from HT.out) _ _ _ _)) rfl ?_
        exact ⟨by rw [HRT.out]; rfl, below_four (below_drewN HB.out _) (Nat.le_refl _) _ _ _ _⟩
      · obtain rfl : e = s.size := by omega
        go_wp2_with (first | (go_at_call 25; refine (HRD _).out.mono ?_; rintro e w1 ⟨rfl, q, rfl⟩; unfold whole.ret2))
        try simp only [Exit.inBlock, Exit.then]
        refine bodyPost_ret (one_ret rfl rfl (box_four (show Box (W.drewN q) _ _ _ from HT.out) _ _ _ _)) rfl ?_
        exact ⟨by rw [HRT.out]; rfl, below_four (below_drewN HB.out _) (Nat.le_refl _) _ _ _ _⟩
theorem cut_two (s : ByteArray) (p e : Nat) (hp : p < s.size) (he : e = min (p + 2) s.size) : s.extract p e = ⟨((s.data.toList.drop p).take 2).toArray⟩ := by
  apply ByteArray.ext
  apply Array.ext'
  rw [Lib.extract_data, he]
  have e : s.data.toList.length = s.size := by simp
  rw [List.take_eq_take_iff, List.length_drop]
  omega
set_option maxHeartbeats 400000 in
theorem one_other (s : ByteArray) (p : Nat) (w : World) (hs : s.size ≤ 1048576) (hp : p < s.size) (hc1 : ¬ clsN s[p].toNat = 1) (hc2 : ¬ clsN s[p].toNat = 2) :
    Calls Tryd.prog 14 #[.string s, .int .i64 p] w fun e w' => e = .returned (oneRes p (oneF (s.data.toList.drop p))) ∧ Below w.heap.size w w' := by
  obtain ⟨K, hKK⟩ : ∃ K, K = clsN s[p].toNat := ⟨_, rfl⟩
  have hcl : ∀ w, Hid (Calls Tryd.prog 13 #[.int .u8 s[p].toNat] w fun e w' => e = .returned (.int .i64 K) ∧ w = w') := fun w => Lib.hid (by
    have h := class_any s[p].toNat w (by have := s[p].toNat_lt; omega)
    rw [← hKK] at h; exact h)
  have HRT := Lib.hid (one_mark (c := s[p]) hc1 hc2 (s.data.toList.drop (p + 1)))
  rw [← drop_cons s p hp] at HRT
  rw [← hKK] at hc1 hc2
  have k1 : (K == 1) = false := by rw [beq_eq_false_iff_ne]; exact hc1
  have k2 : (K == 2) = false := by rw [beq_eq_false_iff_ne]; exact hc2
  clear hKK hc1 hc2
  obtain ⟨W, hW⟩ : ∃ W, W = w.alloc (.cells #[.int .i64 0, .int .i64 0, .int .i64 0, .string ⟨#[]⟩] 31) := ⟨_, rfl⟩
  have HB : Hid (Below w.heap.size w W) := Lib.hid (by rw [hW]; exact (Below.refl _ _).alloc (Nat.le_refl _) _)
  have HT : Hid (Box W w.heap.size 31 #[.int .i64 0, .int .i64 0, .int .i64 0, .string ⟨#[]⟩]) := Lib.hid (by rw [hW]; exact heap_alloc_new _ _)
  have HM := Lib.hid (rmark_any ((s.data.toList.drop p).take 2) W (by rw [List.length_take]; omega))
  have HW := Lib.hid hW
  clear hW
  obtain ⟨m, hm⟩ : ∃ m, m = markF ((s.data.toList.drop p).take 2) := ⟨_, rfl⟩
  rw [← hm] at HM HRT
  clear hm
  have tail : ∀ w1, Below W.heap.size W w1 → Box w1 w.heap.size 31 #[.int .i64 0, .int .i64 0, .int .i64 0, .string ⟨#[]⟩] ∧ Below w.heap.size w w1 := fun w1 hb => ⟨HT.out.on hb, HB.out.trans (hb.mono HB.out.size)⟩
  have TL := Lib.hid tail
  clear tail HT HB
  by_cases h2 : p + 2 ≤ s.size
  · have h2' : (p : Int) + 2 ≤ (s.size : Int) := by omega
    go_enter Tryd.func14, Tryd.ntmps14
    go_wp2_with (first | (go_at_call 13; refine (hcl _).out.mono ?_; rintro e w1 ⟨rfl, rfl⟩))
    rw [cut_two s p (p + 2) hp (by omega), ← HW.out]
    refine HM.out.mono ?_
    rintro e1 w1 ⟨rfl, hb⟩
    obtain ⟨BR, HB2⟩ := TL.out w1 hb
    replace HB2 := Lib.hid HB2
    have HBR := Lib.hid BR
    have f0 := BR.frozen 0
    have f1 := BR.frozen 1
    have f2 := BR.frozen 2
    have f3 := BR.frozen 3
    have y0 := BR.cell 0
    have y1 := BR.cell 1
    have y2 := BR.cell 2
    have y3 := BR.cell 3
    clear BR hb TL HM
    simp only [List.getElem?_toArray, List.getElem?_cons_zero, List.getElem?_cons_succ] at y0 y1 y2 y3
    obtain ⟨R, hR⟩ : ∃ R, R = w.heap.size := ⟨_, rfl⟩
    rw [← hR] at HBR HB2 f0 f1 f2 f3 y0 y1 y2 y3
    have HR := Lib.hid hR
    rw [← hR]
    clear hR
    cases m with
    | nil =>
      rw [if_pos rfl] at HRT
      go_wp2_with (fail)
      try simp only [Exit.inBlock, Exit.then]
      refine bodyPost_ret (one_ret rfl rfl (box_four HBR.out _ _ _ _)) rfl ?_
      exact ⟨by rw [HRT.out]; rfl, by rw [← HR.out]; exact below_four HB2.out (Nat.le_refl _) _ _ _ _⟩
    | cons a m =>
      rw [if_neg (by simp)] at HRT
      have hne : (a :: m == []) = false := rfl
      go_wp2_with (fail)
      try simp only [Exit.inBlock, Exit.then]
      refine bodyPost_ret (one_ret rfl rfl (box_four HBR.out _ _ _ _)) rfl ?_
      exact ⟨by rw [HRT.out]; rfl, by rw [← HR.out]; exact below_four HB2.out (Nat.le_refl _) _ _ _ _⟩
  · have h2' : ¬ (p : Int) + 2 ≤ (s.size : Int) := by omega
    go_enter Tryd.func14, Tryd.ntmps14
    go_wp2_with (first | (go_at_call 13; refine (hcl _).out.mono ?_; rintro e w1 ⟨rfl, rfl⟩))
    rw [cut_two s p s.size hp (by omega), ← HW.out]
    refine HM.out.mono ?_
    rintro e1 w1 ⟨rfl, hb⟩
    obtain ⟨BR, HB2⟩ := TL.out w1 hb
    replace HB2 := Lib.hid HB2
    have HBR := Lib.hid BR
    have f0 := BR.frozen 0
    have f1 := BR.frozen 1
    have f2 := BR.frozen 2
    have f3 := BR.frozen 3
    have y0 := BR.cell 0
    have y1 := BR.cell 1
    have y2 := BR.cell 2
    have y3 := BR.cell 3
    clear BR hb TL HM
    simp only [List.getElem?_toArray, List.getElem?_cons_zero, List.getElem?_cons_succ] at y0 y1 y2 y3
    obtain ⟨R, hR⟩ : ∃ R, R = w.heap.size := ⟨_, rfl⟩
    rw [← hR] at HBR HB2 f0 f1 f2 f3 y0 y1 y2 y3
    have HR := Lib.hid hR
    rw [← hR]
    clear hR
    cases m with
    | nil =>
      rw [if_pos rfl] at HRT
      go_wp2_with (fail)
      try simp only [Exit.inBlock, Exit.then]
      refine bodyPost_ret (one_ret rfl rfl (box_four HBR.out _ _ _ _)) rfl ?_
      exact ⟨by rw [HRT.out]; rfl, by rw [← HR.out]; exact below_four HB2.out (Nat.le_refl _) _ _ _ _⟩
    | cons a m =>
      rw [if_neg (by simp)] at HRT
      have hne : (a :: m == []) = false := rfl
      go_wp2_with (fail)
      try simp only [Exit.inBlock, Exit.then]
      refine bodyPost_ret (one_ret rfl rfl (box_four HBR.out _ _ _ _)) rfl ?_
      exact ⟨by rw [HRT.out]; rfl, by rw [← HR.out]; exact below_four HB2.out (Nat.le_refl _) _ _ _ _⟩
end Go.Proofs.YtjppfnofceejhaaDoor.lx

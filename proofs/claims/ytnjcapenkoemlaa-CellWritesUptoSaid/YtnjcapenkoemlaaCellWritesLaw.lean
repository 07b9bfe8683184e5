/- The law on any value's bytes. -/
import Derived.Test.YtnjcapenkoemlaaCellReadsLaw
import Derived.Test.YtnjcapenkoemlaaValRight
namespace Go.Proofs.Ytnjcapenkoemlaa.vt.ce
open Go.RowKit mem vt

theorem bytesL_le (l : List VT) (ih : ∀ u ∈ l, u.fits → u.size ≤ 1048576 → u.bytes.length ≤ 12 * u.size) (hf : fitsL l) (hs : sizeL l ≤ 1048576) : (bytesL l).length ≤ 12 * sizeL l := by
  induction l with
  | nil => rw [bytesL]; simp
  | cons v r ihr =>
    rw [fitsL] at hf
    rw [sizeL] at hs ⊢
    rw [bytesL, List.length_append]
    have h1 := ih v (by simp) hf.1 (by omega)
    have h2 := ihr (fun u hu => ih u (by simp [hu])) hf.2 (by omega)
    omega
theorem bytes_le (t : VT) : t.fits → t.size ≤ 1048576 → t.bytes.length ≤ 12 * t.size := by
  induction t using VT.ind with
  | h k n l ih =>
    intro hf hs
    rw [fits_mk] at hf
    rw [size_mk] at hs ⊢
    rw [bytes_mk]
    have hlen := len_le_sizeL l
    split
    · rw [List.length_cons]
      have := grp_ten (zig_lt hf.1.2)
      omega
    · split
      · simp; omega
      · rw [List.length_cons, List.length_append]
        have h1 := bytesL_le l ih hf.2 (by omega)
        have h2 := grp_ten (x := 2 * l.length) (by omega)
        omega
theorem bytesT_le {t : VT} (hf : t.fits) (hs : t.size ≤ 1048576) : (bytesT t).length ≤ 12 * t.size := by
  unfold bytesT
  split
  · exact bytes_le t hf hs
  · simp
theorem small_size {t : VT} (h : smallI t = 1) (hs : t.size ≤ 1048576) : t.size ≤ 300 := by
  unfold smallI at h
  split at h
  · exact absurd h (by decide)
  · rename_i hn
    unfold wrap64 at hn
    omega
theorem smallI_cases (t : VT) : smallI t = 0 ∨ smallI t = 1 := by unfold smallI; split; exact .inl rfl; exact .inr rfl
theorem readB_T {t : VT} (hf : t.fits) (hs : t.size ≤ 1048576) : readB (bytesT t) = if t.right then some t else none := by
  unfold bytesT
  split
  · rename_i h; rw [readB_bytes h hf (by omega)]
  · unfold readB; rw [readV_nil]
theorem wlaw_bytes {t : VT} {bl : List UInt8} {L : Nat} (hb : bl = bytesT t) (hL : L = bl.length) (hl : L ≤ 1048576) (hf : t.fits) (s : Value) (w : World) (hk : Kids (fun _ => True) w t.kids s) :
    Calls Try.prog 9 #[.agg #[.int .i64 t.kind, .int .i64 t.num, s]] w fun e w' => ∃ A c, e = .returned (.slice A L c) ∧ Bts (fun b => w.heap.size ≤ b) w' bl (.slice A L c) ∧ Below w.heap.size w w' := by
  refine (rbytes_any t s w hk hf (by rw [← hb]; omega)).mono fun e w' ⟨s', he, hs, hb'⟩ => ?_
  rw [← hb] at hs
  obtain ⟨A, c, rfl⟩ := hs.form
  rw [← hL] at he hs
  exact ⟨A, c, he, hs, hb'⟩
theorem wlaw_long {t : VT} {bl : List UInt8} {L : Nat} (hb : bl = bytesT t) (hL : L = bl.length) (hl : L ≤ 1048576) (hf : t.fits) (s : Value) (w : World) (hk : Kids (fun _ => True) w t.kids s) :
    Calls Try.prog 10 #[.agg #[.int .i64 t.kind, .int .i64 t.num, s]] w fun e w' => e = .returned (.int .i64 L) ∧ Below w.heap.size w w' := by
  have h := Long_any t s w hk hf (by rw [← hb]; omega)
  rw [← hb, ← hL] at h
  exact h
set_option maxHeartbeats 4000000 in
set_option maxRecDepth 100000 in
theorem writes_law (t : VT) (s : Value) (w : World) (hi : I64 t.kind ∧ I64 t.num) (h : Kids (fun _ => True) w t.kids s) (hst : t.size ≤ 1048576) :
    Calls Try.prog 3 #[.agg #[.int .i64 t.kind, .int .i64 t.num, s]] w (LawHolds w) := by
  obtain ⟨K, hK⟩ : ∃ K, K = w.heap.size := ⟨_, rfl⟩
  obtain ⟨W0, hW0⟩ : ∃ W0, W0 = (w.alloc (.cells #[.int .i64 t.kind, .int .i64 t.num, s] 24)) := ⟨_, rfl⟩
  have hb0 : Below w.heap.size w W0 := by rw [hW0]; exact (Below.refl _ _).alloc (Nat.le_refl _) _
  have hA0 : VarIs W0 K t s := by rw [hW0, hK]; exact VarIs.new _ rfl h
  have HV : Hid (∀ w', Below W0.heap.size W0 w' → VarIs w' K t s ∧ Below w.heap.size w w') := Lib.hid fun w' hb => ⟨hA0.below hb, hb0.trans (hb.mono hb0.size)⟩
  have hft : t.fits := by rw [VT.eta t, fits_mk]; exact ⟨hi, h.fits⟩
  have HFT := Lib.hid hft
  have HI := Lib.hid hi
  obtain ⟨A1, cap1, rfl, _⟩ := h.form
  obtain ⟨n1, hn1⟩ : ∃ n1, n1 = t.kids.length := ⟨_, rfl⟩
  rw [← hn1] at HV
  rw [← hn1] at hW0
  rw [← hn1]
  clear h hi hft hb0 hA0 hn1
  go_enter Try.func3, Try.ntmps3
  go_wp2_with (fail)
  rw [← hW0, ← hK]
  clear hW0 hK
  refine (works_any W0).mono ?_
  rintro e w1 ⟨rfl, h1⟩
  obtain ⟨⟨⟨a0, a1, a2⟩, _, az⟩, _⟩ := HV.out w1 h1
  have H1 := Lib.hid h1
  clear h1
  go_wp2_with (fail)
  clear a0 a1 a2
  refine (small_any t _ w1 (HV.out w1 H1.out).1.2.1).mono ?_
  rintro e w2 ⟨rfl, hb⟩
  have H2 := Lib.hid (H1.out.trans (hb.mono H1.out.size))
  clear hb
  rcases smallI_cases t with hS | hS
  · rw [hS]
    go_wp2_with (fail)
    refine (works_any w2).mono ?_
    rintro e w3 ⟨rfl, hb⟩
    have H3 := Lib.hid (H2.out.trans (hb.mono H2.out.size))
    clear hb
    go_wp2_with (fail)
    go_ret
    exact ⟨rfl, (HV.out w3 H3.out).2⟩
  · have hst3 := small_size hS hst
    rw [hS]
    obtain ⟨⟨⟨a0, a1, a2⟩, _, az⟩, _⟩ := HV.out w2 H2.out
    have hbl := bytesT_le HFT.out hst
    obtain ⟨bl, hbe⟩ : ∃ bl, bl = bytesT t := ⟨_, rfl⟩
    rw [← hbe] at hbl
    have HBE := Lib.hid hbe
    clear hbe
    go_wp2_with (fail)
    clear a0 a1 a2
    refine (bytes_any t _ w2 HI.out (HV.out w2 H2.out).1.2.1 (by rw [← HBE.out]; omega)).mono ?_
    rw [← HBE.out]
    rintro e w3 ⟨s3, rfl, hs3, hb3⟩
    obtain ⟨B3, c3, rfl⟩ := hs3.form
    obtain ⟨L, hL⟩ : ∃ L, L = bl.length := ⟨_, rfl⟩
    rw [← hL] at hs3 hbl ⊢
    have H3 := Lib.hid (H2.out.trans (hb3.mono H2.out.size))
    have HBS : Hid (∀ w', Below w3.heap.size w3 w' → Bts (fun _ => True) w' bl (.slice B3 L c3)) := Lib.hid fun w' hb => (hs3.mono fun _ _ => trivial).below hb
    obtain ⟨⟨⟨a0, a1, a2⟩, _, az⟩, _⟩ := HV.out w3 H3.out
    have HL := Lib.hid hL
    clear hb3 hs3 hL
    have hLs : L ≤ 1048576 := by omega
    have HDB := Lib.hid (fun w' hk => wlaw_bytes HBE.out HL.out hLs HFT.out (.slice A1 n1 cap1) w' hk)
    have HLG := Lib.hid (fun w' hk => wlaw_long HBE.out HL.out hLs HFT.out (.slice A1 n1 cap1) w' hk)
    have k0 := bytes_conv (HBS.out w3.drew (Below.refl _ _).drew)
    go_wp2_with (fail)
    go_cut [28] (fun v wx => v = .bool false ∧ Below w3.heap.size w3 wx)
    case first =>
      go_region_law (first
        | (go_simp; go_at_call 9; have hk5 := (HV.out w3.drew H3.out.drew).1.2.1; (with_reducible refine (HDB.out w3.drew hk5).mono ?_); rintro e w5 ⟨A6, c6, rfl, hs5, hb5⟩; have hb6 : Below w3.heap.size w3 w5 := (Below.refl _ w3).drew.trans hb5; have k1 := bytes_conv hs5; have kb1 := bytes_conv (HBS.out w5 hb6); obtain ⟨⟨⟨x0, x1, x2⟩, _, xz⟩, _⟩ := HV.out w5 (H3.out.trans (hb6.mono H3.out.size)); have HB6 := Lib.hid hb6; clear hs5 hb5 hb6 hk5)
        | (go_simp; go_at_call 10; have hk5 := (HV.out w5 (H3.out.trans (HB6.out.mono H3.out.size))).1.2.1; (with_reducible refine (HLG.out w5 hk5).mono ?_); rintro e w6 ⟨rfl, hb7⟩; have HB7 := Lib.hid (HB6.out.trans (hb7.mono HB6.out.size)); clear hb7 hk5))
      all_goals
        go_wp2_with (fail)
        go_meet
        exact ⟨rfl, HB7.out⟩
    case rest =>
      obtain ⟨rfl, hcut⟩ := hcut
      have HC := Lib.hid hcut
      have HCV := Lib.hid (H3.out.trans (hcut.mono H3.out.size))
      clear hcut a0 a1 a2 k0
      have hRB := readB_T HFT.out hst
      rw [← HBE.out] at hRB
      have HRD := Lib.hid (read_any bl _ wc (HBS.out wc HC.out) (by have := HL.out; omega))
      cases hr : t.right with
      | false =>
        have HRN : Hid (readB bl = none) := Lib.hid (by rw [hRB, hr]; rfl)
        obtain rfl : L = 0 := by rw [HL.out, HBE.out, bytesT_no hr]; rfl
        have HRR := Lib.hid hr
        clear hRB hr
        go_wp2_with (fail)
        refine HRD.out.mono ?_
        unfold ReadPost
        rw [HRN.out]
        rintro e w7 ⟨rfl, hb7⟩
        have H7 := Lib.hid (HCV.out.trans (hb7.mono HCV.out.size))
        obtain ⟨⟨⟨a0, a1, a2⟩, _, az⟩, _⟩ := HV.out w7 H7.out
        clear hb7 HRD
        have HRT := Lib.hid (fun w' (hb : Below W0.heap.size W0 w') => rright_any t _ w' (HV.out w' hb).1.2.1)
        rw [HRR.out] at HRT
        go_wp2_with (fail)
        refine (HRT.out _ (H7.out.alloc H7.out.size _)).mono ?_
        rintro e w8 ⟨rfl, hb8⟩
        have H8 := Lib.hid ((H7.out.alloc H7.out.size _).trans (hb8.mono (by have := H7.out.size; simp; omega)))
        clear hb8 a0 a1 a2
        go_wp2_with (fail)
        go_ret
        exact ⟨rfl, (HV.out w8 H8.out).2⟩
      | true =>
        have HRN : Hid (readB bl = some t) := Lib.hid (by rw [hRB, hr]; rfl)
        have HRR := Lib.hid hr
        clear hRB hr
        go_wp2_with (fail)
        refine HRD.out.mono ?_
        unfold ReadPost
        rw [HRN.out]
        rintro e w7 ⟨sk, rfl, hk7, hb7, _⟩
        obtain ⟨A7, c7, rfl, _⟩ := hk7.form
        obtain ⟨n7, hn7⟩ : ∃ n7, n7 = t.kids.length := ⟨_, rfl⟩
        rw [← hn7] at hk7 ⊢
        have H7 := Lib.hid (HCV.out.trans (hb7.mono HCV.out.size))
        have HK7 := Lib.hid (hk7.mono (G' := fun _ => True) fun _ _ => trivial)
        obtain ⟨⟨⟨a0, a1, a2⟩, _, az⟩, _⟩ := HV.out w7 H7.out
        clear hb7 HRD hk7 hn7
        have HRT := Lib.hid (fun w' (hb : Below W0.heap.size W0 w') => rright_any t _ w' (HV.out w' hb).1.2.1)
        rw [HRR.out] at HRT
        obtain ⟨X, hX⟩ : ∃ X, X = w7.alloc (.cells #[.int .i64 t.kind, .int .i64 t.num, .slice A7 n7 c7] 24) := ⟨_, rfl⟩
        have hbX : Below w7.heap.size w7 X := by rw [hX]; exact (Below.refl _ _).alloc (Nat.le_refl _) _
        have hVX : VarIs X w7.heap.size t (.slice A7 n7 c7) := by rw [hX]; exact VarIs.new _ rfl HK7.out
        have HX := Lib.hid (H7.out.trans (hbX.mono H7.out.size))
        have HVX : Hid (∀ w', Below X.heap.size X w' → VarIs w' w7.heap.size t (.slice A7 n7 c7)) := Lib.hid fun w' h => hVX.below h
        go_wp2_with (fail)
        rw [← hX]
        clear hX hbX hVX
        refine (HRT.out _ HX.out).mono ?_
        rintro e w8 ⟨rfl, hb8⟩
        have H8 := Lib.hid (HX.out.trans (hb8.mono HX.out.size))
        obtain ⟨⟨x0, x1, x2⟩, _, xz⟩ := HVX.out w8 hb8
        have HKX := Lib.hid (HVX.out w8 hb8).2.1
        obtain ⟨⟨⟨y0, y1, y2⟩, _, yz⟩, _⟩ := HV.out w8 H8.out
        have HKV := Lib.hid (HV.out w8 H8.out).1.2.1
        clear hb8 a0 a1 a2
        go_wp2_with (fail)
        refine (rsame_any (G := fun _ => True) t t _ _ w8 HKV.out HKX.out).mono ?_
        rw [eqB_self]
        rintro e w9 ⟨rfl, hb9⟩
        have H9 := Lib.hid (H8.out.trans (hb9.mono H8.out.size))
        clear hb9
        go_wp2_with (fail)
        go_ret
        exact ⟨rfl, (HV.out w9 H9.out).2⟩
end Go.Proofs.Ytnjcapenkoemlaa.vt.ce

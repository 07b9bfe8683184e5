/- The map without a key. -/
import Derived.Test.YtjlbchkdiaomjaaDoorTrieMPut
import Derived.Deep.RegionHeld3
namespace Go.Proofs.YtjlbchkdiaomjaaDoor.trie
open Go.RowKit mem tri mix

theorem mput_any (B : Nat) (t : Tr) (l : List (Int × Int)) (k v : Int) (w : World) (hB : B ≤ w.heap.size) (hT : Laid B w) (hk : I64 k) (hm : MapOf t l) (hL : Lies w.heap.size w t) (hl : l.length ≤ 1048576) :
    Calls Tryd.prog 38 #[mapV t l.length, .int .i64 k, .int .i64 v] w (PutM t l k v w) := by
  rcases id hm.1 with ⟨rfl, rfl⟩ | ⟨⟨b, a, rfl⟩, _⟩
  · exact mput_none B k v w hB hT hk
  · exact mput_kid B b a l k v w hB hT hk hm hL hl
/-- what Drop tells -/
def DropM (t : Tr) (l : List (Int × Int)) (k : Int) (w : World) (e : Ending) (w' : World) : Prop :=
  ∃ u, e = .returned (.tuple #[mapV u (dropS l k).length, .bool (getS l k).2]) ∧ MapOf u (dropS l k) ∧ Lies w'.heap.size w' u ∧ Below w.heap.size w w' ∧ sh u u ≤ sh t u + 16
set_option maxHeartbeats 2000000 in
theorem mdrop_small (B : Nat) (t : Tr) (l : List (Int × Int)) (k : Int) (w : World) (hB : B ≤ w.heap.size) (hT : Laid B w) (hm : MapOf t l) (hL : Lies w.heap.size w t) (hl : l.length ≤ 1048576) (hs : (∀ v, (k, v) ∉ l) ∨ l.length = 1) :
    Calls Tryd.prog 15 #[mapV t l.length, .int .i64 k] w (DropM t l k w) := by
  have HT := Lib.hid hT
  have HM := Lib.hid hm
  have HL := Lib.hid hL
  obtain ⟨n, hn⟩ : ∃ n, n = l.length := ⟨_, rfl⟩
  obtain ⟨m, hmm⟩ : ∃ m, m = (dropS l k).length := ⟨_, rfl⟩
  have hup := hm.2.2.1
  rw [← hn] at hl ⊢
  unfold DropM
  rw [← hmm]
  have HMM := Lib.hid hmm
  have HN := Lib.hid hn
  have HG := Lib.hid (fun W h1 h2 h3 => mget_any B n t l k W h1 h2 hm h3)
  obtain ⟨p, hp⟩ := ptr_is t
  unfold mapV at HG ⊢
  rw [hp] at HG ⊢
  have HPP := Lib.hid hp
  have hb0 : Below w.heap.size w ((w.alloc (.cells #[.pointer p, .int .i64 n] 26)).alloc (.cells #[.pointer none, .int .i64 0] 26)) := ((Below.refl _ w).alloc (Nat.le_refl _) _).alloc (by simp) _
  rcases getS_is l k with ⟨v0, hg, hmem⟩ | ⟨hg, hmem⟩
  · have h1 : l.length = 1 := by
      rcases hs with hs | hs
      · exact absurd hmem (hs v0)
      · exact hs
    have hd := dropS_one l k v0 hup hmem
    have hm0 : m = 0 := by omega
    have hn1 : n = 1 := by omega
    subst hm0
    subst hn1
    have HD : Hid (dropS l k = []) := by show _ = _; exact List.eq_nil_of_length_eq_zero (by omega)
    rw [hg] at HG ⊢
    clear hT hm hL hmm hn hs hup hp hg hmem h1 hd
    go_enter Tryd.func15, Tryd.ntmps15
    go_wp2_with (fail)
    refine (HG.out _ (by simp; omega) (HT.out.on (hb0.mono hB)) ((HL.out.below hb0).more (by simp; omega))).mono ?_
    rintro e w1 ⟨rfl, hb⟩
    have hA : Below (w.heap.size + 1) (w.alloc (.cells #[.pointer p, .int .i64 (1 : Nat)] 26)) w1 := ((Below.refl _ _).alloc (by simp) (.cells #[.pointer none, .int .i64 0] 26)).trans (hb.mono (by simp <;> omega))
    have hR : Below (w.heap.size + 1 + 1) ((w.alloc (.cells #[.pointer p, .int .i64 (1 : Nat)] 26)).alloc (.cells #[.pointer none, .int .i64 0] 26)) w1 := hb.mono (by simp)
    have m0 := (cell_since (N := w.heap.size) rfl hA 0).1
    have m1 := (cell_since (N := w.heap.size) rfl hA 1).1
    have hz := hb.size
    simp only [World.size_alloc] at hz
    have hb1 := hb0.trans (hb.mono (by simp; omega))
    clear hb0 hb hA
    have r0 := (cell_since (N := w.heap.size + 1) (by simp) hR 0).1
    have r1 := (cell_since (N := w.heap.size + 1) (by simp) hR 1).1
    have f0 := (cell_since (N := w.heap.size + 1) (by simp) hR 0).2
    have f1 := (cell_since (N := w.heap.size + 1) (by simp) hR 1).2
    have hh := (hR.block (w.heap.size + 1) (by omega)).trans (heap_new_at (w.alloc (.cells #[.pointer p, .int .i64 (1 : Nat)] 26)) (.cells #[.pointer none, .int .i64 0] 26) (w.heap.size + 1) (by simp))
    have HH := Lib.hid hh
    clear hh
    go_wp2_with (fail)
    refine bodyPost_ret (v := .tuple #[.agg #[.pointer none, .int .i64 0], .bool true]) (by simp [results, Tryd.results15, go_sem, r0, r1]) rfl ?_
    have hbf := (hb1.setCell (p := ⟨w.heap.size + 1, 0, none⟩) (by dsimp only; omega) (.pointer none)).setCell (p := ⟨w.heap.size + 1, 1, none⟩) (by dsimp only; omega) (.int .i64 0)
    refine ⟨.none, rfl, by rw [HD.out]; exact MapOf.none_, trivial, hbf, by simp [sh]⟩
  · have hd := dropS_same l k hmem
    have hmn : m = n := by rw [hmm, hd, hn]
    subst hmn
    rw [hg] at HG ⊢
    have HD := Lib.hid hd
    clear hT hm hL hmm hn hs hup hp hg hmem hd
    go_enter Tryd.func15, Tryd.ntmps15
    go_wp2_with (fail)
    refine (HG.out _ (by simp; omega) (HT.out.on (hb0.mono hB)) ((HL.out.below hb0).more (by simp; omega))).mono ?_
    rintro e w1 ⟨rfl, hb⟩
    have hA : Below (w.heap.size + 1) (w.alloc (.cells #[.pointer p, .int .i64 m] 26)) w1 := ((Below.refl _ _).alloc (by simp) (.cells #[.pointer none, .int .i64 0] 26)).trans (hb.mono (by simp <;> omega))
    have hR : Below (w.heap.size + 1 + 1) ((w.alloc (.cells #[.pointer p, .int .i64 m] 26)).alloc (.cells #[.pointer none, .int .i64 0] 26)) w1 := hb.mono (by simp)
    have m0 := (cell_since (N := w.heap.size) rfl hA 0).1
    have m1 := (cell_since (N := w.heap.size) rfl hA 1).1
    have hz := hb.size
    simp only [World.size_alloc] at hz
    have hb1 := hb0.trans (hb.mono (by simp; omega))
    clear hb0 hb hA
    have r0 := (cell_since (N := w.heap.size + 1) (by simp) hR 0).1
    have r1 := (cell_since (N := w.heap.size + 1) (by simp) hR 1).1
    have f0 := (cell_since (N := w.heap.size + 1) (by simp) hR 0).2
    have f1 := (cell_since (N := w.heap.size + 1) (by simp) hR 1).2
    have hh := (hR.block (w.heap.size + 1) (by omega)).trans (heap_new_at (w.alloc (.cells #[.pointer p, .int .i64 m] 26)) (.cells #[.pointer none, .int .i64 0] 26) (w.heap.size + 1) (by simp))
    have HH := Lib.hid hh
    clear hh
    go_wp2_with (fail)
    refine bodyPost_ret (v := .tuple #[.agg #[.pointer p, .int .i64 m], .bool false]) (by simp [results, Tryd.results15, go_sem, r0, r1]) rfl ?_
    have hbf := (hb1.setCell (p := ⟨w.heap.size + 1, 0, none⟩) (by dsimp only; omega) (.pointer p)).setCell (p := ⟨w.heap.size + 1, 1, none⟩) (by dsimp only; omega) (.int .i64 m)
    refine ⟨t, by rw [HPP.out], by rw [HD.out]; exact HM.out, ?_, hbf, by omega⟩
    exact (HL.out.below hbf).more hbf.size
set_option maxHeartbeats 2000000 in
theorem mdrop_big (B b : Nat) (a : Nat → Tr) (l : List (Int × Int)) (k v0 : Int) (w : World) (hB : B ≤ w.heap.size) (hT : Laid B w) (hm : MapOf (.kid b a) l) (hL : Lies w.heap.size w (.kid b a)) (hl : l.length ≤ 1048576) (hmem : (k, v0) ∈ l) (h2 : 2 ≤ l.length) :
    Calls Tryd.prog 15 #[mapV (.kid b a) l.length, .int .i64 k] w (DropM (.kid b a) l k w) := by
  have HT := Lib.hid hT
  have HM := Lib.hid hm
  have HL := Lib.hid hL
  have HMem := Lib.hid hmem
  have H2 := Lib.hid h2
  have hup := hm.2.2.1
  have hd := dropS_one l k v0 hup hmem
  have hgot : tri.get (.kid b a) 0 k ≠ none := by rw [(hm.mem k v0).2 hmem]; exact fun h => by cases h
  obtain ⟨n, hn⟩ : ∃ n, n = l.length := ⟨_, rfl⟩
  obtain ⟨m, hmm⟩ : ∃ m, m = (dropS l k).length := ⟨_, rfl⟩
  rw [← hn] at hl hd h2 ⊢
  unfold DropM
  rw [← hmm]
  rw [← hmm] at hd
  have HMM := Lib.hid hmm
  have HG := Lib.hid (fun W h1 h2 h3 => mget_any B n (.kid b a) l k W h1 h2 hm h3)
  have HD := Lib.hid (fun W h1 h2 h3 => drop_any B 16 0 b a k 0 W rfl h1 h2 h3 hm.2.1 (zero_bits k) hgot)
  unfold mapV ptr at HG
  unfold mapV ptr
  have hb0 : Below w.heap.size w ((w.alloc (.cells #[.pointer (some ⟨b, 0, none⟩), .int .i64 n] 26)).alloc (.cells #[.pointer none, .int .i64 0] 26)) := ((Below.refl _ w).alloc (Nat.le_refl _) _).alloc (by simp) _
  have hg := (getS_some l hup k v0).1 hmem
  rw [hg] at HG ⊢
  obtain rfl : n = m + 1 := by omega
  have hm1 : 1 ≤ m := by omega
  have hne : (((m + 1 : Nat) : Int) == 1) = false := by rw [beq_eq_false_iff_ne]; omega
  have hne2 : ((m : Int) + 1 == 1) = false := by rw [beq_eq_false_iff_ne]; omega
  clear hT hm hL hmm hn hup hg hmem hd h2 hgot
  go_enter Tryd.func15, Tryd.ntmps15
  go_wp2_with (fail)
  refine (HG.out _ (by simp; omega) (HT.out.on (hb0.mono hB)) ((HL.out.below hb0).more (by simp; omega))).mono ?_
  rintro e w1 ⟨rfl, hb⟩
  have hA : Below (w.heap.size + 1) (w.alloc (.cells #[.pointer (some ⟨b, 0, none⟩), .int .i64 (m + 1 : Nat)] 26)) w1 := ((Below.refl _ _).alloc (by simp) (.cells #[.pointer none, .int .i64 0] 26)).trans (hb.mono (by simp <;> omega))
  have hR : Below (w.heap.size + 1 + 1) ((w.alloc (.cells #[.pointer (some ⟨b, 0, none⟩), .int .i64 (m + 1 : Nat)] 26)).alloc (.cells #[.pointer none, .int .i64 0] 26)) w1 := hb.mono (by simp)
  have m0 := (cell_since (N := w.heap.size) rfl hA 0).1
  have m1 := (cell_since (N := w.heap.size) rfl hA 1).1
  have hz := hb.size
  simp only [World.size_alloc] at hz
  have hb1 := hb0.trans (hb.mono (by simp; omega))
  clear hb0 hb hA
  have i4 : IntKind.i64.wrap (m : Int) = (m : Int) := IntWalk.i64_in _ (by omega)
  have hzd : w1.drew.heap.size = w1.heap.size := by simp
  have HD1 := Lib.hid (HD.out w1.drew (by omega) (HT.out.on (hb1.drew.mono hB)) ((HL.out.below hb1.drew).more (by omega)))
  have m1' : w1.cell? ⟨w.heap.size, 1, none⟩ = some (.int .i64 ((m : Int) + 1)) := m1
  clear m1
  go_wp2_with (fail)
  go_region_held3 (fun w' => w'.cell? ⟨w.heap.size, 0, none⟩ = some (.pointer (some ⟨b, 0, none⟩)) ∧ w'.cell? ⟨w.heap.size, 1, none⟩ = some (.int .i64 ((m : Int) + 1))) (first | go_keep)
    (first | (go_at_call 41; refine HD1.out.mono ?_; rintro e w2 ⟨c, e2, rfl, hdrop, hlies, hb2⟩; have hR2 : Below (w.heap.size + 1 + 1) ((w.alloc (.cells #[.pointer (some ⟨b, 0, none⟩), .int .i64 (m + 1 : Nat)] 26)).alloc (.cells #[.pointer none, .int .i64 0] 26)) w2 := hR.drew.trans (hb2.mono (by omega)); have r0 := (cell_since (N := w.heap.size + 1) (by simp) hR2 0).1; have r1 := (cell_since (N := w.heap.size + 1) (by simp) hR2 1).1; have f0 := (cell_since (N := w.heap.size + 1) (by simp) hR2 0).2; have f1 := (cell_since (N := w.heap.size + 1) (by simp) hR2 1).2; have q0 := hb2.cell (p := ⟨w.heap.size, 0, none⟩) (by dsimp only; omega); have q1 := hb2.cell (p := ⟨w.heap.size, 1, none⟩) (by dsimp only; omega)))
  all_goals
    have hh := (hR2.block (w.heap.size + 1) (by omega)).trans (heap_new_at (w.alloc (.cells #[.pointer (some ⟨b, 0, none⟩), .int .i64 (m + 1 : Nat)] 26)) (.cells #[.pointer none, .int .i64 0] 26) (w.heap.size + 1) (by simp))
    have hbw := hb1.drew.trans (hb2.mono (by omega))
    have hls := HM.out.drop rfl HMem.out H2.out hdrop
    have HLies := Lib.hid hlies
    have HLS := Lib.hid hls
    have HH := Lib.hid hh
    clear hdrop hlies hls hh hb2 hR hR2 hb1 q0 q1 m0 m1' f0 f1
    go_wp2_with (fail)
    refine bodyPost_ret (v := .tuple #[.agg #[.pointer (some ⟨c, 0, none⟩), .int .i64 m], .bool true]) (by simp [results, Tryd.results15, go_sem, r0, r1]) rfl ?_
    have hbf := (hbw.setCell (p := ⟨w.heap.size + 1, 0, none⟩) (by dsimp only; omega) (.pointer (some ⟨c, 0, none⟩))).setCell (p := ⟨w.heap.size + 1, 1, none⟩) (by dsimp only; omega) (.int .i64 m)
    refine ⟨_, rfl, HLS.out.1, ?_, hbf, HLS.out.2⟩
    rw [World.size_setCell, World.size_setCell]
    exact HLies.out.keep (keeps_set2 HH.out (by decide) (by decide) _ _ _ _)
theorem mdrop_any (B : Nat) (t : Tr) (l : List (Int × Int)) (k : Int) (w : World) (hB : B ≤ w.heap.size) (hT : Laid B w) (hm : MapOf t l) (hL : Lies w.heap.size w t) (hl : l.length ≤ 1048576) :
    Calls Tryd.prog 15 #[mapV t l.length, .int .i64 k] w (DropM t l k w) := by
  rcases getS_is l k with ⟨v0, _, hmem⟩ | ⟨_, hmem⟩
  · have hpos := List.length_pos_of_mem hmem
    by_cases h1 : l.length = 1
    · exact mdrop_small B t l k w hB hT hm hL hl (.inr h1)
    · rcases id hm.1 with ⟨_, h⟩ | ⟨⟨b, a, rfl⟩, _⟩
      · rw [h] at hpos; simp at hpos
      · exact mdrop_big B b a l k v0 w hB hT hm hL hl hmem (by omega)
  · exact mdrop_small B t l k w hB hT hm hL hl (.inl hmem)
end Go.Proofs.YtjlbchkdiaomjaaDoor.trie

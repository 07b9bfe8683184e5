/- The map with a key's value; a key's value. -/
import Derived.Test.YtjlbchkdiaomjaaDoorTrieMap
namespace Go.Proofs.YtjlbchkdiaomjaaDoor.trie
open Go.RowKit mem tri mix

set_option maxHeartbeats 1000000 in
theorem mget_any (B n : Nat) (t : Tr) (l : List (Int × Int)) (key : Int) (w : World) (hB : B ≤ w.heap.size) (hT : Laid B w) (hm : MapOf t l) (hL : Lies w.heap.size w t) :
    Calls Tryd.prog 13 #[mapV t n, .int .i64 key] w fun e w' => e = .returned (.tuple #[.int .i64 (getS l key).1, .bool (getS l key).2]) ∧ Below w.heap.size w w' := by
  have hg := hm.got key
  have e1 : (getS l key).1 = (tri.get t 0 key).getD 0 := by rw [← hg]
  have e2 : (getS l key).2 = (tri.get t 0 key).isSome := by rw [← hg]
  unfold mapV
  rcases hm.1 with ⟨ht, _⟩ | ⟨⟨b, a, ht⟩, _⟩
  · subst ht
    rw [e1, e2]
    unfold ptr
    clear e1 e2 hg
    go_enter Tryd.func13, Tryd.ntmps13
    go_wp2
    go_ret2
    exact ⟨rfl, (Below.refl _ _).alloc (Nat.le_refl _) _⟩
  · subst ht
    rw [e1, e2]
    have hb : Below w.heap.size w (w.alloc (.cells #[.pointer (some ⟨b, 0, none⟩), .int .i64 n] 26)) := (Below.refl _ w).alloc (Nat.le_refl _) _
    have HC := Lib.hid (get_any w.heap.size b a key _ (by simp) ((laid_up hT hB).on hb) (hL.below hb) hm.2.1)
    unfold gotV at HC
    obtain ⟨x, hx⟩ : ∃ x, x = (tri.get (.kid b a) 0 key).getD 0 := ⟨_, rfl⟩
    obtain ⟨y, hy⟩ : ∃ y, y = (tri.get (.kid b a) 0 key).isSome := ⟨_, rfl⟩
    rw [← hx, ← hy] at HC ⊢
    unfold ptr
    clear hx hy e1 e2 hg hm hL hT
    go_enter Tryd.func13, Tryd.ntmps13
    go_wp2_with (fail)
    refine HC.out.mono ?_
    rintro e w' ⟨rfl, hb2⟩
    go_wp2_with (fail)
    go_ret2
    exact ⟨rfl, hb.trans hb2⟩
theorem cell_new (w : World) (N : Nat) (h : N = w.heap.size) (cs : Array Value) (t : TypeId) (i : Nat) : (w.alloc (.cells cs t)).cell? ⟨N, i, none⟩ = cs[i]? := by
  subst h; exact cell_of_row _ _ i cs t (0, 0) (heap_alloc_new w _)
theorem frozen_new (w : World) (N : Nat) (h : N = w.heap.size) (cs : Array Value) (t : TypeId) (i : Nat) : (w.alloc (.cells cs t)).frozen? ⟨N, i, none⟩ = false := by
  subst h; unfold World.frozen?; rw [heap_alloc_new]; simp
/-- a cell of a block that was new, behind all that came since -/
theorem cell_since {w w' : World} {N : Nat} {cs : Array Value} {t : TypeId} (h : N = w.heap.size) (hb : Below (N + 1) (w.alloc (.cells cs t)) w') (i : Nat) : w'.cell? ⟨N, i, none⟩ = cs[i]? ∧ w'.frozen? ⟨N, i, none⟩ = false :=
  ⟨(hb.cell (p := ⟨N, i, none⟩) (Nat.lt_succ_self _)).trans (cell_new w N h cs t i), (hb.frozen (p := ⟨N, i, none⟩) (Nat.lt_succ_self _)).trans (frozen_new w N h cs t i)⟩
theorem keeps_set2 {w : World} {g : Nat} {cs : Array Value} {t : TypeId} (h : w.heap[g]? = some (.cells cs t (0, 0))) (h1 : t ≠ 88) (h2 : t ≠ 84) (i j : Nat) (u v : Value) :
    Keeps w ((w.setCell ⟨g, i, none⟩ u).setCell ⟨g, j, none⟩ v) :=
  (Keeps.set (p := ⟨g, i, none⟩) h h1 h2 u).trans (Keeps.set (p := ⟨g, j, none⟩) (heap_setCell_same w g i cs t u h) h1 h2 v)
/-- what Put tells -/
def PutM (t : Tr) (l : List (Int × Int)) (k v : Int) (w : World) (e : Ending) (w' : World) : Prop :=
  ∃ u, e = .returned (mapV u (putS l k v).length) ∧ MapOf u (putS l k v) ∧ Lies w'.heap.size w' u ∧ Below w.heap.size w w' ∧ sh u u ≤ sh t u + 16
set_option maxHeartbeats 1000000 in
theorem mput_none (B : Nat) (k v : Int) (w : World) (hB : B ≤ w.heap.size) (hT : Laid B w) (hk : I64 k) :
    Calls Tryd.prog 38 #[mapV .none 0, .int .i64 k, .int .i64 v] w (PutM .none [] k v w) := by
  have HK := Lib.hid hk
  have HT := Lib.hid hT
  clear hk hT
  unfold mapV ptr
  go_enter Tryd.func38, Tryd.ntmps38
  go_wp2_with (fail)
  have hb0 : Below w.heap.size w (((w.alloc (.cells #[.pointer none, .int .i64 0] 26)).alloc (.cells #[.pointer none, .int .i64 0] 26)).alloc (.cells #[.int .i64 k, .int .i64 v] 50)) := (by repeat (first | exact Below.refl _ _ | refine Below.alloc ?_ (by simp <;> omega) _))
  refine (lone_any B k v 0 _ (by decide) (by simp; omega) (HT.out.on (hb0.mono hB))).mono ?_
  rintro e w1 ⟨b, rfl, hl, hb⟩
  have HL := Lib.hid hl
  have hz := hb.size
  simp only [World.size_alloc] at hz
  have hbR : Below (w.heap.size + 1 + 1) ((w.alloc (.cells #[.pointer none, .int .i64 0] 26)).alloc (.cells #[.pointer none, .int .i64 0] 26)) w1 := ((Below.refl _ _).alloc (by simp) _).trans (hb.mono (by simp))
  have d0 := (cell_since (N := w.heap.size + 1) (by simp) hbR 0).1
  have d1 := (cell_since (N := w.heap.size + 1) (by simp) hbR 1).1
  have f0 := (cell_since (N := w.heap.size + 1) (by simp) hbR 0).2
  have f1 := (cell_since (N := w.heap.size + 1) (by simp) hbR 1).2
  have hh := (hbR.block (w.heap.size + 1) (by omega)).trans (heap_new_at (w.alloc (.cells #[.pointer none, .int .i64 0] 26)) (.cells #[.pointer none, .int .i64 0] 26) (w.heap.size + 1) (by simp))
  have hb1 := hb0.trans (hb.mono (by simp; omega))
  clear hb0 hb hl hbR
  go_wp2_with (fail)
  refine bodyPost_ret (v := .agg #[.pointer (some ⟨b, 0, none⟩), .int .i64 1]) (by simp [results, Tryd.results38, go_sem, d0, d1]) rfl ?_
  have hls := MapOf.lone (v := v) (b := b) HK.out
  have hbf := (hb1.setCell (p := ⟨w.heap.size + 1, 0, none⟩) (by dsimp only; omega) (.pointer (some ⟨b, 0, none⟩))).setCell (p := ⟨w.heap.size + 1, 1, none⟩) (by dsimp only; omega) (.int .i64 1)
  refine ⟨_, rfl, hls.1, ?_, hbf, by have := hls.2; omega⟩
  rw [World.size_setCell, World.size_setCell]
  exact HL.out.keep (keeps_set2 hh (by decide) (by decide) _ _ _ _)
set_option maxHeartbeats 2000000 in
theorem mput_kid (B b : Nat) (a : Nat → Tr) (l : List (Int × Int)) (k v : Int) (w : World) (hB : B ≤ w.heap.size) (hT : Laid B w) (hk : I64 k) (hm : MapOf (.kid b a) l) (hL : Lies w.heap.size w (.kid b a)) (hl : l.length ≤ 1048576) :
    Calls Tryd.prog 38 #[mapV (.kid b a) l.length, .int .i64 k, .int .i64 v] w (PutM (.kid b a) l k v w) := by
  have HK := Lib.hid hk
  have HT := Lib.hid hT
  have HM := Lib.hid hm
  have HL := Lib.hid hL
  obtain ⟨n, hn⟩ : ∃ n, n = l.length := ⟨_, rfl⟩
  obtain ⟨m, hmm⟩ : ∃ m, m = (putS l k v).length := ⟨_, rfl⟩
  have hlen := putS_len l k v hm.2.2.1
  rw [← hn, ← hmm] at hlen
  rw [← hn] at hl ⊢
  unfold PutM
  rw [← hmm]
  have HMM := Lib.hid hmm
  have HG := Lib.hid (fun W h1 h2 h3 => mget_any B n (.kid b a) l k W h1 h2 hm h3)
  have HP := Lib.hid (fun W h1 h2 h3 => put_any B 16 0 b a k v 0 W rfl h1 h2 h3 hm.2.1 hk (zero_bits k))
  unfold mapV ptr at HG
  have hb0 : Below w.heap.size w (((w.alloc (.cells #[.pointer (some ⟨b, 0, none⟩), .int .i64 n] 26)).alloc (.cells #[.pointer none, .int .i64 0] 26)).alloc (.cells #[.int .i64 k, .int .i64 v] 50)) := (((Below.refl _ w).alloc (Nat.le_refl _) _).alloc (by simp) _).alloc (by simp; omega) _
  unfold mapV ptr
  have hgs := getS_is l k
  clear hk hT hm hL hmm hn
  rcases hgs with ⟨u0, hg, hmem⟩ | ⟨hg, hmem⟩
  · have hmn : m = n := hlen.1 ⟨u0, hmem⟩
    rw [hg] at HG
    subst hmn
    clear hlen hg hmem
    go_enter Tryd.func38, Tryd.ntmps38
    go_wp2_with (fail)
    refine (HG.out _ (by simp; omega) (HT.out.on (hb0.mono hB)) ((HL.out.below hb0).more (by simp; omega))).mono ?_
    rintro e w1 ⟨rfl, hb⟩
    have hA : Below (w.heap.size + 1) (w.alloc (.cells #[.pointer (some ⟨b, 0, none⟩), .int .i64 m] 26)) w1 := (((Below.refl _ _).alloc (by simp) (.cells #[.pointer none, .int .i64 0] 26)).alloc (by simp) (.cells #[.int .i64 k, .int .i64 v] 50)).trans (hb.mono (by simp <;> omega))
    have hR : Below (w.heap.size + 1 + 1) ((w.alloc (.cells #[.pointer (some ⟨b, 0, none⟩), .int .i64 m] 26)).alloc (.cells #[.pointer none, .int .i64 0] 26)) w1 := ((Below.refl _ _).alloc (by simp) (.cells #[.int .i64 k, .int .i64 v] 50)).trans (hb.mono (by simp))
    have hP : Below (w.heap.size + 1 + 1 + 1) (((w.alloc (.cells #[.pointer (some ⟨b, 0, none⟩), .int .i64 m] 26)).alloc (.cells #[.pointer none, .int .i64 0] 26)).alloc (.cells #[.int .i64 k, .int .i64 v] 50)) w1 := hb.mono (by simp)
    have m0 := (cell_since (N := w.heap.size) rfl hA 0).1
    have m1 := (cell_since (N := w.heap.size) rfl hA 1).1
    have p0 := (cell_since (N := w.heap.size + 1 + 1) (by simp) hP 0).1
    have p1 := (cell_since (N := w.heap.size + 1 + 1) (by simp) hP 1).1
    have hz := hb.size
    simp only [World.size_alloc] at hz
    have hb1 := hb0.trans (hb.mono (by simp; omega))
    clear hb0 hb hA hP
    go_wp2_with (fail)
    refine (HP.out w1 (by omega) (HT.out.on (hb1.mono hB)) ((HL.out.below hb1).more (by omega))).mono ?_
    rintro e w2 ⟨c, e2, rfl, hput, hlies, hb2⟩
    have hR2 := hR.trans (hb2.mono (by omega))
    have r0 := (cell_since (N := w.heap.size + 1) (by simp) hR2 0).1
    have r1 := (cell_since (N := w.heap.size + 1) (by simp) hR2 1).1
    have f0 := (cell_since (N := w.heap.size + 1) (by simp) hR2 0).2
    have f1 := (cell_since (N := w.heap.size + 1) (by simp) hR2 1).2
    have hh := (hR2.block (w.heap.size + 1) (by omega)).trans (heap_new_at (w.alloc (.cells #[.pointer (some ⟨b, 0, none⟩), .int .i64 m] 26)) (.cells #[.pointer none, .int .i64 0] 26) (w.heap.size + 1) (by simp))
    have hq0 := hb2.cell (p := ⟨w.heap.size, 0, none⟩) (by dsimp only; omega)
    have hbw := hb1.trans (hb2.mono (by omega))
    have HPut := Lib.hid hput
    have HLies := Lib.hid hlies
    have HH := Lib.hid hh
    clear hput hlies hh hb2 hR hR2 hb1
    go_wp2_with (fail)
    refine bodyPost_ret (v := .agg #[.pointer (some ⟨c, 0, none⟩), .int .i64 m]) (by simp [results, Tryd.results38, go_sem, r0, r1]) rfl ?_
    have hls := HM.out.put rfl HK.out HPut.out
    have hbf := (hbw.setCell (p := ⟨w.heap.size + 1, 0, none⟩) (by dsimp only; omega) (.pointer (some ⟨c, 0, none⟩))).setCell (p := ⟨w.heap.size + 1, 1, none⟩) (by dsimp only; omega) (.int .i64 m)
    refine ⟨_, rfl, hls.1, ?_, hbf, hls.2⟩
    rw [World.size_setCell, World.size_setCell]
    exact HLies.out.keep (keeps_set2 HH.out (by decide) (by decide) _ _ _ _)
  · have hmn : m = n + 1 := hlen.2 hmem
    rw [hg] at HG
    subst hmn
    clear hlen hg hmem
    go_enter Tryd.func38, Tryd.ntmps38
    go_wp2_with (fail)
    refine (HG.out _ (by simp; omega) (HT.out.on (hb0.mono hB)) ((HL.out.below hb0).more (by simp; omega))).mono ?_
    rintro e w1 ⟨rfl, hb⟩
    have hA : Below (w.heap.size + 1) (w.alloc (.cells #[.pointer (some ⟨b, 0, none⟩), .int .i64 n] 26)) w1 := (((Below.refl _ _).alloc (by simp) (.cells #[.pointer none, .int .i64 0] 26)).alloc (by simp) (.cells #[.int .i64 k, .int .i64 v] 50)).trans (hb.mono (by simp <;> omega))
    have hR : Below (w.heap.size + 1 + 1) ((w.alloc (.cells #[.pointer (some ⟨b, 0, none⟩), .int .i64 n] 26)).alloc (.cells #[.pointer none, .int .i64 0] 26)) w1 := ((Below.refl _ _).alloc (by simp) (.cells #[.int .i64 k, .int .i64 v] 50)).trans (hb.mono (by simp))
    have hP : Below (w.heap.size + 1 + 1 + 1) (((w.alloc (.cells #[.pointer (some ⟨b, 0, none⟩), .int .i64 n] 26)).alloc (.cells #[.pointer none, .int .i64 0] 26)).alloc (.cells #[.int .i64 k, .int .i64 v] 50)) w1 := hb.mono (by simp)
    have m0 := (cell_since (N := w.heap.size) rfl hA 0).1
    have m1 := (cell_since (N := w.heap.size) rfl hA 1).1
    have p0 := (cell_since (N := w.heap.size + 1 + 1) (by simp) hP 0).1
    have p1 := (cell_since (N := w.heap.size + 1 + 1) (by simp) hP 1).1
    have hz := hb.size
    simp only [World.size_alloc] at hz
    have hb1 := hb0.trans (hb.mono (by simp; omega))
    clear hb0 hb hA hP
    go_wp2_with (fail)
    refine (HP.out w1 (by omega) (HT.out.on (hb1.mono hB)) ((HL.out.below hb1).more (by omega))).mono ?_
    rintro e w2 ⟨c, e2, rfl, hput, hlies, hb2⟩
    have hR2 := hR.trans (hb2.mono (by omega))
    have r0 := (cell_since (N := w.heap.size + 1) (by simp) hR2 0).1
    have r1 := (cell_since (N := w.heap.size + 1) (by simp) hR2 1).1
    have f0 := (cell_since (N := w.heap.size + 1) (by simp) hR2 0).2
    have f1 := (cell_since (N := w.heap.size + 1) (by simp) hR2 1).2
    have hh := (hR2.block (w.heap.size + 1) (by omega)).trans (heap_new_at (w.alloc (.cells #[.pointer (some ⟨b, 0, none⟩), .int .i64 n] 26)) (.cells #[.pointer none, .int .i64 0] 26) (w.heap.size + 1) (by simp))
    have hq0 := hb2.cell (p := ⟨w.heap.size, 0, none⟩) (by dsimp only; omega)
    have hbw := hb1.trans (hb2.mono (by omega))
    have HPut := Lib.hid hput
    have HLies := Lib.hid hlies
    have HH := Lib.hid hh
    clear hput hlies hh hb2 hR hR2 hb1
    go_wp2_with (fail)
    refine bodyPost_ret (v := .agg #[.pointer (some ⟨c, 0, none⟩), .int .i64 ((n : Int) + 1)]) (by simp [results, Tryd.results38, go_sem, r0, r1]) rfl ?_
    have hls := HM.out.put rfl HK.out HPut.out
    have hbf := (hbw.setCell (p := ⟨w.heap.size + 1, 0, none⟩) (by dsimp only; omega) (.pointer (some ⟨c, 0, none⟩))).setCell (p := ⟨w.heap.size + 1, 1, none⟩) (by dsimp only; omega) (.int .i64 ((n : Int) + 1))
    refine ⟨_, rfl, hls.1, ?_, hbf, hls.2⟩
    rw [World.size_setCell, World.size_setCell]
    exact HLies.out.keep (keeps_set2 HH.out (by decide) (by decide) _ _ _ _)
end Go.Proofs.YtjlbchkdiaomjaaDoor.trie

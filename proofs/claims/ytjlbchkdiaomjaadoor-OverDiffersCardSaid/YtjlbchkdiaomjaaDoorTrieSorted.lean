/- A map's pairs by rising keys. -/
import Derived.Test.YtjlbchkdiaomjaaDoorTrieMDrop
import Derived.Test.YtjlbchkdiaomjaaDoorTrieSort
namespace Go.Proofs.YtjlbchkdiaomjaaDoor.trie
open Go.RowKit mem tri mix

theorem below_grown {a b : World} (h : a.grownBy b none) : Below a.heap.size a b := ⟨h.os, h.tape, h.output, h.size, fun k hk => h.block k hk (by simp)⟩
/-- a slice's row is a block of pairs -/
def RowP (w : World) (v : Value) : Prop := ∀ g o n cap, v = .slice (some ⟨g, o, none⟩) n cap → 0 < n → ∃ cs, w.heap[g]? = some (.cells cs 50 (0, 0))
/-- a slice that reads as these pairs, and what lay before lies as it lay -/
def SortedPost (l : List (Int × Int)) (w : World) (e : Ending) (w' : World) : Prop := ∃ r, e = .returned r ∧ Sees w'.heap.size 2 w' r l.length (pairV l) ∧ RowP w' r ∧ Below w.heap.size w w'
theorem sorted_none (w : World) : Calls Tryd.prog 44 #[mapV .none 0] w (SortedPost [] w) := by
  unfold mapV ptr
  go_enter Tryd.func44, Tryd.ntmps44
  go_wp2
  go_ret
  exact ⟨_, rfl, Sees.none_ _ _ _, (fun g o n cap h => by cases h), (Below.refl _ _).alloc (Nat.le_refl _) _⟩
set_option maxHeartbeats 2000000 in
set_option maxRecDepth 100000 in
theorem sorted_kid (b : Nat) (a : Nat → Tr) (l : List (Int × Int)) (w : World) (hm : MapOf (.kid b a) l) (hL : Lies w.heap.size w (.kid b a)) (hl : l.length ≤ 1048576) :
    Calls Tryd.prog 44 #[mapV (.kid b a) l.length] w (SortedPost l w) := by
  obtain ⟨i0, hi, hz0, hz1, hz2⟩ := info_parts infoTP
  have hperm := hm.2.2.2
  have hlen := hperm.length_eq
  have hkeys := toL_keys _ 0 0 hm.2.1 (by decide)
  have hpos : 0 < l.length := by
    rcases hm.1 with ⟨h, _⟩ | ⟨_, h⟩
    · cases h
    · exact List.length_pos_iff.2 h
  obtain ⟨n, hn⟩ : ∃ n, n = l.length := ⟨_, rfl⟩
  have HL := Lib.hid hL
  have HPerm := Lib.hid hperm
  have HUp := Lib.hid hm.2.2.1
  have hb0 : Below w.heap.size w (w.alloc (.cells #[.pointer (some ⟨b, 0, none⟩), .int .i64 n] 26)) := (Below.refl _ w).alloc (Nat.le_refl _) _
  have HPairs := Lib.hid (fun v W w1 (hW : w.heap.size + 1 ≤ W.heap.size) hl (h : Got (w.heap.size + 1) 50 2 0 [] v W w1) => pairs_any (.kid b a) (w.heap.size + 1) 0 b a [] v W w1 rfl hW hl h (by rw [hlen]; omega))
  have HSort := Lib.hid (fun g cap W h => sort_any (w.heap.size + 1) g cap n (toL (.kid b a)) W (by rw [hn, hlen]) (by rw [hlen]; exact hl) hkeys h)
  have HN := Lib.hid hn
  have HLen : Hid (0 + (toL (.kid b a)).length = n) := by show _ = _; rw [hlen, hn]; omega
  rw [← hn] at hl hpos ⊢
  unfold SortedPost
  rw [← hn]
  unfold mapV ptr
  clear hm hL hperm hlen hkeys hn
  go_enter Tryd.func44, Tryd.ntmps44
  go_wp2_with (fail)
  obtain ⟨W, hW⟩ : ∃ W, W = (w.alloc (.cells #[.pointer (some ⟨b, 0, none⟩), .int .i64 n] 26)) := ⟨_, rfl⟩
  have hb1 : Below w.heap.size w W := by rw [hW]; exact hb0
  have c0 : W.cell? ⟨w.heap.size, 0, none⟩ = some (.pointer (some ⟨b, 0, none⟩)) := by rw [hW]; simp
  have c1 : W.cell? ⟨w.heap.size, 1, none⟩ = some (.int .i64 n) := by rw [hW]; simp
  have hWz : w.heap.size < W.heap.size := by rw [hW]; simp
  rw [← hW]
  clear hW hb0
  obtain ⟨w1, hrun, hown0, hgrow0⟩ := run_make_own (P := Tryd.prog) W.drew (w.heap.size + 1) 49 50 i0 (.agg #[.int .i64 0, .int .i64 0]) 2 Tryd.underlying49 hi hz0 hz1 .i64 .i64 n (by rw [hz2]; omega) (by unfold maxLen; omega) (by simp; omega)
  have hgot : Got (w.heap.size + 1) 50 2 0 [] _ W w1 := ⟨hown0, (Below.refl _ W).drew.grown hgrow0 (by simp; omega) (fun g h => by cases h)⟩
  have HPC := Lib.hid (HPairs.out _ W w1 hWz ((HL.out.below hb1).more (Nat.le_succ _)) hgot)
  have hbg := below_grown hgrow0
  have hzw : W.drew.heap.size = W.heap.size := by simp
  have k0 := (hbg.cell (p := ⟨w.heap.size, 0, none⟩) (by dsimp only; omega))
  have k1 := (hbg.cell (p := ⟨w.heap.size, 1, none⟩) (by dsimp only; omega))
  rw [World.cell?_drew, c0] at k0
  rw [World.cell?_drew, c1] at k1
  rw [hzw] at hrun HPC
  clear hown0 hgrow0 hgot hbg hzw
  go_region_held3 (fun w' => w'.cell? ⟨w.heap.size, 0, none⟩ = some (.pointer (some ⟨b, 0, none⟩)) ∧ w'.cell? ⟨w.heap.size, 1, none⟩ = some (.int .i64 n)) (first | go_keep)
    (first | (go_at_call 57; refine HPC.out.mono ?_; rintro e w2 ⟨r, rfl, hgot2⟩; have hq0 := (hgot2.2.cell (p := ⟨w.heap.size, 0, none⟩) (Nat.lt_succ_self _)).trans c0; have hq1 := (hgot2.2.cell (p := ⟨w.heap.size, 1, none⟩) (Nat.lt_succ_self _)).trans c1))
  rw [HLen.out, List.nil_append] at hgot2
  obtain ⟨g, cap, rfl, _, _⟩ := got_form hgot2 hpos
  have HS := Lib.hid (HSort.out g cap w2 hgot2.1)
  have HB2 := Lib.hid hgot2.2
  clear hgot2 c0 c1 hq0 hq1 k0 k1 hrun
  go_wp2_with (fail)
  refine HS.out.mono ?_
  rintro e w3 ⟨rfl, M, hp, hup, hsees, hb3, hrow⟩
  have HM : Hid (pairV M = pairV l) := by show _ = _; rw [sorted_eq M l hup HUp.out (hp.trans HPerm.out)]
  have HSees := Lib.hid hsees
  have HB3 := Lib.hid (hb1.trans ((HB2.out.trans hb3).mono (Nat.le_succ _)))
  have HRow := Lib.hid hrow
  clear hp hup hsees hb3 hrow
  go_wp2_with (fail)
  go_ret
  exact ⟨_, rfl, by rw [← HM.out]; exact HSees.out, (fun g' o' n' cap' h _ => by injection h with h1 _ _; injection h1 with h1; injection h1 with h1 _; subst h1; exact HRow.out), HB3.out⟩
theorem sorted_any (t : Tr) (l : List (Int × Int)) (w : World) (hm : MapOf t l) (hL : Lies w.heap.size w t) (hl : l.length ≤ 1048576) :
    Calls Tryd.prog 44 #[mapV t l.length] w (SortedPost l w) := by
  rcases id hm.1 with ⟨rfl, rfl⟩ | ⟨⟨b, a, rfl⟩, _⟩
  · exact sorted_none w
  · exact sorted_kid b a l w hm hL hl
end Go.Proofs.YtjlbchkdiaomjaaDoor.trie

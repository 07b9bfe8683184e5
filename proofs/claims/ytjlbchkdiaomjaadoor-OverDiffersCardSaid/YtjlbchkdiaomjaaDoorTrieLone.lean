/- A node with one pair. -/
import Derived.Test.YtjlbchkdiaomjaaDoorTrieNode
import Derived.Deep.RegionHeld3
namespace Go.Proofs.YtjlbchkdiaomjaaDoor.trie
open Go.RowKit mem tri mix

theorem laid_up {B B' : Nat} {w : World} (h : Laid B w) (hB : B ≤ B') : Laid B' w := fun w' hb => h w' (hb.mono hB)
/-- the four bits of a key, in a world that has come of another one -/
theorem knib_on (B : Nat) (k : Int) (lv : Nat) (w0 w : World) (hlv : lv ≤ 15) (hb : Below w0.heap.size w0 w) (hB : B ≤ w0.heap.size) (hT : Laid B w0) :
    Calls Tryd.prog 53 #[.int .i64 k, .int .i64 lv] w fun e w' => e = .returned (.int .i64 (nib k lv : Nat)) ∧ Below w.heap.size w w' :=
  knib_any w.heap.size k lv w hlv (Nat.le_refl _) (laid_up (hT.on (hb.mono hB)) (by have := hb.size; omega))
theorem knib_off (B f : Nat) (k : Int) (lv : Nat) (w0 w : World) (hf : f = nib k lv) (hlv : lv ≤ 15) (hb : Below w0.heap.size w0 w) (hB : B ≤ w0.heap.size) (hT : Laid B w0) :
    Calls Tryd.prog 53 #[.int .i64 k, .int .i64 lv] w fun e w' => e = .returned (.int .i64 f) ∧ Below w.heap.size w w' := by
  subst hf; exact knib_on B k lv w0 w hlv hb hB hT
/-- behind the stores: the row of one arm, and the node -/
theorem lone_end {f g : Nat} {k v : Int} {w W : World} (hf : f ≤ 15) (hb : Below w.heap.size w W) (hg : g < W.heap.size)
    (hrow : ∃ cs, W.heap[g]? = some (.cells cs 84 (0, 0))) (h0 : W.cell? ⟨g, 0, none⟩ = some (.pointer none)) (h1 : W.cell? ⟨g, 1, none⟩ = some (.int .i64 k)) (h2 : W.cell? ⟨g, 2, none⟩ = some (.int .i64 v)) (z : Int) (hz : z = ((2 ^ f : Nat) : Int)) :
    Lies (W.heap.size + 1) (W.alloc (.cells #[.int .u16 z, .slice (some ⟨g, 0, none⟩) 1 1] 88)) (.kid W.heap.size (tri.upd bare f (.pair k v))) ∧ Below w.heap.size w (W.alloc (.cells #[.int .u16 z, .slice (some ⟨g, 0, none⟩) 1 1] 88)) := by
  subst hz
  refine ⟨node_new (2 ^ f) (has_bare f _ (by omega) rfl).symm ?_ (fun A n cap h => by injection h with h1 h2 h3; subst h1; subst h2; subst h3; exact ⟨Nat.le_refl _, (fun h => by cases h), fun ad h => by cases h; exact ⟨_, _, rfl⟩⟩) (fun g2 o2 n2 c2 h _ => by injection h with h1 h2 h3; injection h1 with h1; injection h1 with h1 _; subst h1; exact hrow) (fun e _ => ?_), hb.alloc hb.size _⟩
  · rw [subs_bare f _ (by omega) rfl]
    refine ⟨rfl, _, 1, rfl, fun _ => ⟨g, 0, rfl, hg, fun j u hu => ?_⟩⟩
    match j, hu with
    | 0, hu => cases hu; exact h0
    | 1, hu => cases hu; exact h1
    | 2, hu => cases hu; exact h2
    | j + 3, hu => simp [armsV, armV] at hu
  · unfold tri.upd
    split <;> trivial
set_option maxHeartbeats 1000000 in
theorem lone_any (B : Nat) (k v : Int) (lv : Nat) (w : World) (hlv : lv ≤ 15) (hB : B ≤ w.heap.size) (hT : Laid B w) :
    Calls Tryd.prog 50 #[.agg #[.int .i64 k, .int .i64 v], .int .i64 lv] w fun e w' => ∃ b, e = .returned (.pointer (some ⟨b, 0, none⟩)) ∧ Lies w'.heap.size w' (.kid b (tri.upd bare (nib k lv) (.pair k v))) ∧ Below w.heap.size w w' := by
  obtain ⟨f, hf⟩ : ∃ f, f = nib k lv := ⟨_, rfl⟩
  have HC := Lib.hid (fun W hb => knib_off B f k lv w W hf hlv hb hB hT)
  have HF := Lib.hid hf
  have h15 : f ≤ 15 := by have := nib_lt k lv; omega
  have HW := Lib.hid (bit_wrap f h15).1
  clear hT hB hf hlv
  go_enter Tryd.func50, Tryd.ntmps50
  go_wp2_with (fail)
  go_region_with (first | (go_at_call 53; refine (HC.out _ (by repeat (first | exact Below.refl _ _ | refine Below.drew ?_ | refine Below.alloc ?_ (by simp <;> omega) _))).mono ?_; rintro e w1 ⟨rfl, hbb⟩; have q0 := hbb.cell (p := ⟨w.heap.size, 0, none⟩) (by simp <;> omega); have q1 := hbb.cell (p := ⟨w.heap.size, 1, none⟩) (by simp <;> omega)))
  all_goals (go_wp2; go_ret)
  all_goals rw [← HF.out]
  all_goals first
    | (have hbw : Below w.heap.size w w1 := (((Below.refl _ w).alloc (Nat.le_refl _) _).drew).trans (hbb.mono (by simp))
       have hz := hbw.size
       have h := lone_end (W := w1.alloc (.cells #[.pointer none, .int .i64 k, .int .i64 v] 84)) (g := w1.heap.size) (k := k) (v := v) h15 (hbw.alloc hz _) (by simp) ⟨_, heap_alloc_new w1 _⟩ (by simp) (by simp) (by simp) _ HW.out
       rw [World.size_alloc] at h
       exact ⟨w1.heap.size + 1, rfl, by rw [World.size_alloc, World.size_alloc]; exact h.1, h.2⟩)
    | (have hbw : Below w.heap.size w w1 := ((((Below.refl _ w).alloc (Nat.le_refl _) _).alloc (by simp) _).drew).trans (hbb.mono (by simp; omega))
       have hz := hbb.size
       have h := lone_end (W := w1) (g := w.heap.size + 1) (k := k) (v := v) h15 hbw (by simp at hz; omega) ⟨_, (hbb.block (w.heap.size + 1) (by simp)).trans (heap_new_at (w.alloc (.cells #[.int .i64 k, .int .i64 v] 50)) (.cells #[.pointer none, .int .i64 k, .int .i64 v] 84) (w.heap.size + 1) (by simp))⟩ ((hbb.cell (p := ⟨w.heap.size + 1, 0, none⟩) (by simp)).trans (by simp)) ((hbb.cell (p := ⟨w.heap.size + 1, 1, none⟩) (by simp)).trans (by simp)) ((hbb.cell (p := ⟨w.heap.size + 1, 2, none⟩) (by simp)).trans (by simp)) _ HW.out
       exact ⟨w1.heap.size, rfl, by rw [World.size_alloc]; exact h.1, h.2⟩)
end Go.Proofs.YtjlbchkdiaomjaaDoor.trie

/- New nodes: a copy of a row of arms, a node with another arm, a node of one pair. -/
import Derived.Test.YtjlbchkdiaomjaaDoorTrieMem
import Derived.StillTailTactics
import Derived.Lib.SliceRun
namespace Go.Proofs.YtjlbchkdiaomjaaDoor.trie
open Go.RowKit mem tri mix

abbrev zArm : Value := .agg #[.pointer none, .int .i64 0, .int .i64 0]
theorem infoArm : (Tryd.prog.info? 84).map (fun i => (i.zero, i.size, i.bytes)) = some (some zArm, 3, 24) := by kernel_rfl
set_option maxRecDepth 20000 in
theorem clone_any (g o n cap : Nat) (xs : List Value) (w : World) (hl : xs.length = n * 3) (hn : n ≤ 16) (hc : ∀ j u, xs[j]? = some u → w.cell? ⟨g, o + j, none⟩ = some u) (h1 : ∀ u ∈ xs, u.oneCell' = true) :
    Calls Tryd.prog 69 #[.slice (some ⟨g, o, none⟩) n cap] w fun e w' => ∃ v, e = .returned v ∧ Got w.heap.size 84 3 n xs v w w' := by
  obtain ⟨i0, hi, hz0, hz1, hz2⟩ := info_parts infoArm
  have HC : Hid (∀ j u, xs[j]? = some u → (w.alloc (.cells #[] 84)).cell? ((⟨g, o, none⟩ : Addr).add j) = some u) := by
    intro j u hj
    rw [Addr.add_lit]
    exact Lib.cell?_alloc_some _ (hc j u hj)
  have HL := Lib.hid hl
  have H1 := Lib.hid h1
  clear hc hl h1
  have q22 : ∀ w : World, (binOp .eql 86 (.slice (some ⟨g, o, none⟩) n cap) (.slice none 0 0)).run Tryd.prog w = .ok (.bool false) w := fun w => Lib.run_eql_slice_nil w _ _ (some ⟨g, o, none⟩) n cap 0 0 Tryd.underlying86
  go_enter Tryd.func69, Tryd.ntmps69
  go_wp2_with (at_builtin; refine wpList_append_own _ rfl (.tmp 5) (.tmp 6) 86 rfl w.heap.size 84 i0 zArm 3 24 Tryd.underlying86 hi hz0 hz1 hz2 rfl (by decide) _ _ _ rfl (World.ownsRow_made w #[] 0 (Nat.le_refl _) (Nat.zero_le _) (by simp)) ⟨g, o, none⟩ n cap xs rfl HL.out HC.out H1.out (by unfold maxLen; omega) (by omega) (by simp) ?_; intro v' w1 hown hgrow hnil)
  go_ret
  exact ⟨v', rfl, by simpa using hown, ((Below.refl _ w).alloc (Nat.le_refl _) _).grown hgrow (by simp) (by intro k hk; cases hk; exact Nat.le_refl _)⟩
theorem set3 (P Q : List Value) (x y z a b c : Value) (m : Nat) (hm : m = P.length) : (((P ++ ([x, y, z] ++ Q)).set m a).set (m + 1) b).set (m + 2) c = P ++ ([a, b, c] ++ Q) := by
  subst hm
  rw [List.set_append_right _ _ (Nat.le_refl _), List.set_append_right _ _ (by omega), List.set_append_right _ _ (by omega)]
  simp
theorem armV_three {t : Tr} (h : isN t = false) : ∃ x y z, armV t = [x, y, z] := by
  cases t with
  | none => simp [isN] at h
  | pair k v => exact ⟨_, _, _, rfl⟩
  | kid b a => exact ⟨_, _, _, rfl⟩
theorem pre_arms (a : Nat → Tr) (f : Nat) : (armsV (pre a f)).length = (pre a f).length * 3 := by
  refine armsV_len fun t h => ?_
  unfold pre at h
  rw [List.mem_flatMap] at h
  obtain ⟨g, _, h⟩ := h
  cases ha : a g <;> rw [ha] at h <;> simp [one] at h <;> subst h <;> rfl
theorem arms_upd (a : Nat → Tr) (f : Nat) (r : Tr) (x y z : Value) (hf : f < 16) (ha : isN (a f) = false) (_hr : isN r = false) (hv : armV r = [x, y, z]) :
    (((armsV (subs a)).set ((pre a f).length * 3) x).set ((pre a f).length * 3 + 1) y).set ((pre a f).length * 3 + 2) z = armsV (subs (tri.upd a f r)) := by
  obtain ⟨x0, y0, z0, h0⟩ := armV_three ha
  rw [subs_split a f hf, subs_upd a f r hf, armsV_append, armsV_append, armsV_append, armsV_append, armsV_one, armsV_one, h0, hv]
  exact set3 _ _ _ _ _ _ _ _ _ (pre_arms a f).symm
theorem len_upd (a : Nat → Tr) (f : Nat) (r : Tr) (hf : f < 16) (ha : isN (a f) = false) (hr : isN r = false) : (subs (tri.upd a f r)).length = (subs a).length := by
  rw [subs_split a f hf, subs_upd a f r hf, one_not ha, one_not hr]; simp
/-- a new node lies above all that was there -/
theorem node_new {a : Nat → Tr} {v : Value} {w : World} (x : Nat) (hx : x = hasS a) (hs : Sees w.heap.size 3 w v (subs a).length (armsV (subs a))) (hr : Roomy v) (hi : RowIs w v) (ha : ∀ f, f < 16 → Lies w.heap.size w (a f)) :
    Lies (w.heap.size + 1) (w.alloc (.cells #[.int .u16 (x : Int), v] 88)) (.kid w.heap.size a) := by
  subst hx
  have hb := (Below.refl w.heap.size w).alloc (Nat.le_refl _) (.cells #[.int .u16 (hasS a : Nat), v] 88)
  refine ⟨Nat.lt_succ_self _, by simp, ⟨v, by simp, (hs.below hb).more (Nat.le_succ _), hr, ⟨_, heap_alloc_new w _⟩, fun g o n cap hv hn => by
    obtain ⟨cs, hc⟩ := hi g o n cap hv hn
    exact ⟨cs, (Below.heap_alloc w _ g (Array.getElem?_eq_some_iff.1 hc).1).trans hc⟩⟩, fun f hf => ((ha f hf).below hb).more (Nat.le_succ _)⟩
theorem with_any (b f : Nat) (a : Nat → Tr) (r : Tr) (q : Option Addr) (k v : Int) (w : World) (hL : Lies w.heap.size w (.kid b a)) (hf : f < 16) (ha : isN (a f) = false) (hr : isN r = false)
    (hv : armV r = [.pointer q, .int .i64 k, .int .i64 v]) (hrl : Lies w.heap.size w r) :
    Calls Tryd.prog 55 #[.pointer (some ⟨b, 0, none⟩), .int .i64 ((pre a f).length : Nat), .agg #[.pointer q, .int .i64 k, .int .i64 v]] w fun e w' => ∃ c, e = .returned (.pointer (some ⟨c, 0, none⟩)) ∧ Lies w'.heap.size w' (.kid c (tri.upd a f r)) ∧ Below w.heap.size w w' := by
  have hlt := pre_lt a f hf ha
  obtain ⟨g, o, cap, hg, hc1, hcells⟩ := hL.row (by omega)
  have hc0 := hL.has
  have hbw := hL.1
  have h16 := subs_len a
  have hlen := armsV_len (subs_all a)
  obtain ⟨xs, hxs⟩ : ∃ xs, xs = armsV (subs a) := ⟨_, rfl⟩
  have h1c : ∀ u ∈ xs, u.oneCell' = true := by rw [hxs]; exact armsV_cells
  obtain ⟨n, hn⟩ : ∃ n, n = (subs a).length := ⟨_, rfl⟩
  obtain ⟨p, hp⟩ : ∃ p, p = (pre a f).length := ⟨_, rfl⟩
  obtain ⟨x, hx⟩ : ∃ x, x = hasS a := ⟨_, rfl⟩
  rw [← hn] at hc1 hlt h16 hlen
  rw [← hp] at hlt ⊢
  rw [← hx] at hc0
  rw [← hxs] at hcells hlen
  have HX := Lib.hid hx
  have HN := Lib.hid hn
  have HP := Lib.hid hp
  have HXS := Lib.hid hxs
  have HL := Lib.hid hL
  have HC := Lib.hid hcells
  have HE := Lib.hid hlen
  have H1 := Lib.hid h1c
  clear hn hp hx hL hcells hlen hxs h1c
  go_enter Tryd.func55, Tryd.ntmps55
  go_wp2_with (fail)
  refine (clone_any g o n cap xs _ HE.out h16 (fun j u hj => Lib.cell?_alloc_some _ (HC.out j u hj)) H1.out).mono ?_
  rintro e w1 ⟨v1, rfl, hgot⟩
  obtain ⟨g1, cap1, rfl, hg1, hg2⟩ := got_form hgot (by omega)
  have hz := hgot.2.size
  simp only [World.size_alloc] at hg1 hz
  have d1 := hgot.2.cell (p := ⟨w.heap.size, 0, none⟩) (by simp)
  have d2 := hgot.2.cell (p := ⟨w.heap.size, 1, none⟩) (by simp)
  have d3 := hgot.2.cell (p := ⟨w.heap.size, 2, none⟩) (by simp)
  have d4 := hgot.2.cell (p := ⟨b, 0, none⟩) (by simp; omega)
  have he := HE.out
  have f0 := hgot.1.frozenAt (p * 3)
  have f1 := hgot.1.frozenAt (p * 3 + 1)
  have f2 := hgot.1.frozenAt (p * 3 + 2)
  obtain ⟨x0, e0⟩ : ∃ x0, w1.cell? ⟨g1, p * 3, none⟩ = some x0 := ⟨_, (hgot.1.cellAt (p * 3) (by omega)).trans (List.getElem?_eq_getElem (by omega))⟩
  obtain ⟨x1, e1⟩ : ∃ x0, w1.cell? ⟨g1, p * 3 + 1, none⟩ = some x0 := ⟨_, (hgot.1.cellAt (p * 3 + 1) (by omega)).trans (List.getElem?_eq_getElem (by omega))⟩
  obtain ⟨x2, e2⟩ : ∃ x0, w1.cell? ⟨g1, p * 3 + 2, none⟩ = some x0 := ⟨_, (hgot.1.cellAt (p * 3 + 2) (by omega)).trans (List.getElem?_eq_getElem (by omega))⟩
  clear he
  go_wp2_with (fail)
  go_ret
  have hs1 := hgot.1.stored (p * 3) (.pointer q)
  have hs2 := hs1.1.stored (p * 3 + 1) (.int .i64 k)
  have hs3 := (hs2.1.stored (p * 3 + 2) (.int .i64 v)).1
  have hgo : Below w.heap.size w w1 := ((Below.refl _ w).alloc (Nat.le_refl _) _).trans (hgot.2.mono (by simp))
  have hb3 := ((hgo.setCell (p := ⟨g1, p * 3, none⟩) (by show w.heap.size ≤ g1; omega) (.pointer q)).setCell (p := ⟨g1, p * 3 + 1, none⟩) (by show w.heap.size ≤ g1; omega) (.int .i64 k)).setCell (p := ⟨g1, p * 3 + 2, none⟩) (by show w.heap.size ≤ g1; omega) (.int .i64 v)
  clear hs1 hs2 d1 d2 d3 d4 f0 f1 f2 e0 e1 e2
  obtain ⟨W3, hW3⟩ : ∃ W, W = ((w1.setCell ⟨g1, p * 3, none⟩ (.pointer q)).setCell ⟨g1, p * 3 + 1, none⟩ (.int .i64 k)).setCell ⟨g1, p * 3 + 2, none⟩ (.int .i64 v) := ⟨_, rfl⟩
  have hz3 : W3.heap.size = w1.heap.size := by rw [hW3]; simp
  rw [← hW3] at hs3 hb3 ⊢
  refine ⟨w1.heap.size, rfl, ?_, hb3.alloc (by omega) _⟩
  rw [World.size_alloc, ← hz3]
  rw [HXS.out, HP.out, arms_upd a f r _ _ _ hf ha hr hv, HN.out, ← len_upd a f r hf ha hr] at hs3
  have hsz := hb3.size
  rw [HN.out, ← len_upd a f r hf ha hr]
  exact node_new x (by rw [HX.out, has_same a f r ha hr]) (Sees.of_own hs3) (Roomy.of_own hs3) (RowIs.of_own hs3) (Lies.upd (fun g hg => ((HL.out.at g hg).below hb3).more hsz) ((hrl.below hb3).more hsz))
end Go.Proofs.YtjlbchkdiaomjaaDoor.trie

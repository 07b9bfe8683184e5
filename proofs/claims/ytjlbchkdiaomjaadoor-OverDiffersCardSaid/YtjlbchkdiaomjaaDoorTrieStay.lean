/- Maps and lists that are kept while more are made. -/
import Derived.Test.YtjlbchkdiaomjaaDoorTrieOps
namespace Go.Proofs.YtjlbchkdiaomjaaDoor.trie
open Go.RowKit Go.Shelf mem tri mix

theorem infoMap : (Tryd.prog.info? 26).map (fun i => (i.zero, i.size, i.bytes)) = some (some (.agg #[.pointer none, .int .i64 0]), 2, 16) := by kernel_rfl
theorem infoList : (Tryd.prog.info? 28).map (fun i => (i.zero, i.size, i.bytes)) = some (some (.slice none 0 0), 1, 24) := by kernel_rfl
def mapsV (l : List (Option Addr × Nat)) : List Value := l.flatMap fun q => [.pointer q.1, .int .i64 (q.2 : Nat)]
theorem mapsV_snoc (l : List (Option Addr × Nat)) (q : Option Addr × Nat) : mapsV (l ++ [q]) = mapsV l ++ [.pointer q.1, .int .i64 (q.2 : Nat)] := by unfold mapsV; rw [List.flatMap_append]; rfl
theorem mapsV_cons (q : Option Addr × Nat) (l : List (Option Addr × Nat)) : mapsV (q :: l) = .pointer q.1 :: .int .i64 (q.2 : Nat) :: mapsV l := rfl
theorem mapsV_at : ∀ (l : List (Option Addr × Nat)) (k : Nat) (h : k < l.length), (mapsV l)[k * 2]? = some (.pointer l[k].1) ∧ (mapsV l)[k * 2 + 1]? = some (.int .i64 (l[k].2 : Nat))
  | q :: l, 0, _ => ⟨rfl, rfl⟩
  | q :: l, k + 1, h => by
    have ih := mapsV_at l k (by simpa using h)
    rw [mapsV_cons, show (k + 1) * 2 = k * 2 + 1 + 1 by omega]
    exact ih
/-- each map that was made, and each list -/
def Maps (L : List (Bool × Int × Int)) (l : List (Option Addr × Nat)) (w : World) : Prop :=
  ∀ j q, l[j]? = some q → ∃ t, ptr t = .pointer q.1 ∧ q.2 = (runS (L.take j)).length ∧ MapOf t (runS (L.take j)) ∧ Lies w.heap.size w t
def Lists (L : List (Bool × Int × Int)) (K : Nat) (vs : List Value) (w : World) : Prop :=
  ∀ j v, vs[j]? = some v → w.ownsRow K 40 2 v (runS (L.take j)).length (pairV (runS (L.take j)))
theorem Maps.below {L : List (Bool × Int × Int)} {l : List (Option Addr × Nat)} {w w' : World} (h : Maps L l w) (hb : Below w.heap.size w w') : Maps L l w' := fun j q hj => by
  obtain ⟨t, h1, h2, h3, h4⟩ := h j q hj
  exact ⟨t, h1, h2, h3, (h4.below hb).more hb.size⟩
theorem Maps.keep {L : List (Bool × Int × Int)} {l : List (Option Addr × Nat)} {w w' : World} (h : Maps L l w) (hk : Keeps w w') (hz : w.heap.size ≤ w'.heap.size) : Maps L l w' := fun j q hj => by
  obtain ⟨t, h1, h2, h3, h4⟩ := h j q hj
  exact ⟨t, h1, h2, h3, (h4.keep hk).more hz⟩
theorem Maps.snoc {L : List (Bool × Int × Int)} {l : List (Option Addr × Nat)} {w : World} {t : Tr} {p : Option Addr} {m : Nat} (h : Maps L l w) (hp : ptr t = .pointer p) (hm : m = (runS (L.take l.length)).length) (ht : MapOf t (runS (L.take l.length))) (hL : Lies w.heap.size w t) : Maps L (l ++ [(p, m)]) w := fun j q hj => by
  by_cases hlt : j < l.length
  · rw [List.getElem?_append_left hlt] at hj; exact h j q hj
  · rw [List.getElem?_append_right (by omega)] at hj
    obtain ⟨d, hd⟩ : ∃ d, d = j - l.length := ⟨_, rfl⟩
    rw [← hd] at hj
    match d, hd, hj with
    | 0, hd, hj =>
      obtain rfl : j = l.length := by omega
      simp at hj
      subst hj
      exact ⟨t, hp, hm, ht, hL⟩
    | d + 1, _, hj => simp at hj
theorem Lists.below {L : List (Bool × Int × Int)} {K : Nat} {vs : List Value} {w w' : World} (h : Lists L K vs w) (hb : Below w.heap.size w w') : Lists L K vs w' := fun j v hj => own_below (h j v hj) hb
theorem Lists.snoc {L : List (Bool × Int × Int)} {K : Nat} {vs : List Value} {w : World} {v : Value} (h : Lists L K vs w) (hv : w.ownsRow K 40 2 v (runS (L.take vs.length)).length (pairV (runS (L.take vs.length)))) : Lists L K (vs ++ [v]) w := fun j u hj => by
  by_cases hlt : j < vs.length
  · rw [List.getElem?_append_left hlt] at hj; exact h j u hj
  · rw [List.getElem?_append_right (by omega)] at hj
    obtain ⟨d, hd⟩ : ∃ d, d = j - vs.length := ⟨_, rfl⟩
    rw [← hd] at hj
    match d, hd, hj with
    | 0, hd, hj =>
      obtain rfl : j = vs.length := by omega
      simp at hj
      subst hj
      exact hv
    | d + 1, _, hj => simp at hj
theorem Lists.grown {L : List (Bool × Int × Int)} {K base size n : Nat} {e : TypeId} {vs : List Value} {w w' : World} {u : Value} {xs : List Value} (h : Lists L K vs w) (hu : w.ownsRow base e size u n xs) (hne : 40 ≠ e) (hg : w.grownBy w' u.ownBlock) : Lists L K vs w' := fun j v hj => (h j v hj).kept hg (own_apart (h j v hj) hu hne)
theorem Lists.set {L : List (Bool × Int × Int)} {K g i : Nat} {t : TypeId} {cs : Array Value} {vs : List Value} {w : World} (h : Lists L K vs w) (hb : Box w g t cs) (hne : t ≠ 40) (x : Value) : Lists L K vs (w.setCell ⟨g, i, none⟩ x) := fun j v hj => own_set_at (h j v hj) hb hne i x
theorem own_above {w : World} {K size n : Nat} {e : TypeId} {v : Value} {xs : List Value} (h : w.ownsRow (K + 1) e size v n xs) : some K ≠ v.ownBlock := by
  rcases h.2 with ⟨rfl, _⟩ | ⟨g, c, cur, rfl, hg, _⟩
  · simp [Value.ownBlock]
  · simp [Value.ownBlock]; omega
theorem shared_at (n m : Nat) (t u : Tr) (p q : Option Addr) (hp : ptr t = .pointer p) (hq : ptr u = .pointer q) (w : World) (ho : Ok t 0 0) (ht : Lies w.heap.size w t) (hu : Lies w.heap.size w u) (z : Nat) (hz : z = sh t u) :
    Calls Tryd.prog 19 #[.agg #[.pointer p, .int .i64 n], .agg #[.pointer q, .int .i64 m]] w fun e w' => e = .returned (.int .i64 (z : Nat)) ∧ Below w.heap.size w w' := by
  have h := shared2_any t u n m w ho ht hu
  unfold mapV at h
  rw [hp, hq, ← hz] at h; exact h
theorem sh_i64 (t u : Tr) (h : Ok t 0 0) : sh t u ≤ 1229782938247303441 := by
  have := sh_bound t 0 0 u h
  exact this
/-- the first loop: the map, its list, and all that were made -/
def StayRel (K n : Nat) (L : List (Bool × Int × Int)) (w0 : World) (o a b i : Value) (wr : World) : Prop :=
  ∃ (k m : Nat) (t : Tr) (p : Option Addr) (l : List (Option Addr × Nat)) (vs : List Value), k ≤ n ∧ m ≤ k ∧ i = .int .i64 k ∧ Hid (m = (runS (L.take k)).length ∧ ptr t = .pointer p ∧ MapOf t (runS (L.take k)) ∧ Lies wr.heap.size wr t) ∧
    wr.ownsRow K 40 2 o m (pairV (runS (L.take k))) ∧ Box wr K 26 #[.pointer p, .int .i64 m] ∧ Hid (l.length = k + 1 ∧ vs.length = k + 1 ∧ Maps L l wr ∧ Lists L K vs wr) ∧
    wr.ownsRow (K + 1) 26 2 a (k + 1) (mapsV l) ∧ wr.ownsRow K 28 1 b (k + 1) vs ∧ Below K w0 wr
theorem runS_len (L : List (Bool × Int × Int)) : ∀ k, k ≤ L.length → Up (runS (L.take k)) ∧ (runS (L.take k)).length ≤ k
  | 0, _ => by simp [runS, Up]
  | k + 1, h => by
    obtain ⟨h1, h2⟩ := runS_len L k (by omega)
    rw [runS_take L k h]
    exact ⟨opS_up _ _ h1, by have := opS_le _ L[k] h1; omega⟩
theorem map_new (w : World) (x : Option Addr) (y : Int) (t : TypeId) : ∀ j u, [Value.pointer x, Value.int .i64 y][j]? = some u → (w.alloc (.cells #[.pointer x, .int .i64 y] t)).cell? ((⟨w.heap.size, 0, none⟩ : Addr).add j) = some u := by
  intro j u hj
  match j, hj with
  | 0, hj => simp at hj; subst hj; simp [Addr.add]
  | 1, hj => simp at hj; subst hj; simp [Addr.add]
  | j + 2, hj => simp at hj
theorem map_ones (x : Option Addr) (y : Int) : ∀ u ∈ [Value.pointer x, Value.int .i64 y], u.oneCell' = true := by
  intro u hu; simp at hu; rcases hu with rfl | rfl <;> rfl
theorem slice_ones (A : Option Addr) (n c : Nat) : ∀ u ∈ [Value.slice A n c], u.oneCell' = true := by
  intro u hu; simp at hu; subst hu; rfl
theorem stay_next {K n k m' : Nat} {L : List (Bool × Int × Int)} {l' : List (Int × Int)} {u : Tr} {q : Option Addr} {r a b v1 v2 : Value} {l : List (Option Addr × Nat)} {vs : List Value} {w2 W5 a6 w7 w8 : World} {o1 o2 : Obj}
    (hkn : k < n) (hmk : m' ≤ k + 1) (hl' : l' = runS (L.take (k + 1))) (hm' : m' = l'.length) (hu : ptr u = .pointer q) (hmo : MapOf u l') (h6 : Below W5.heap.size W5 a6) (hK5 : K < W5.heap.size)
    (hbk : Box W5 K 26 #[.pointer q, .int .i64 m']) (hr : W5.ownsRow K 40 2 r m' (pairV l')) (hB5 : Below K w2 W5) (hlu : Lies W5.heap.size W5 u) (hma : Maps L l W5) (hli : Lists L K vs W5)
    (hll : l.length = k + 1) (hvl : vs.length = k + 1) (hoa : W5.ownsRow (K + 1) 26 2 a (k + 1) (mapsV l)) (hob : W5.ownsRow K 28 1 b (k + 1) vs)
    (hown1 : w7.ownsRow (K + 1) 26 2 v1 (k + 1 + 1) (mapsV l ++ [.pointer q, .int .i64 m'])) (hg1 : (a6.alloc o1).grownBy w7 a.ownBlock)
    (hown2 : w8.ownsRow K 28 1 v2 (k + 1 + 1) (vs ++ [r])) (hg2 : (w7.alloc o2).grownBy w8 b.ownBlock) : StayRel K n L w2 r v1 v2 (.int .i64 ((k + 1 : Nat) : Int)) w8 := by
  have ho6 : Below a6.heap.size a6 (a6.alloc o1) := (Below.refl _ a6).alloc (Nat.le_refl _) _
  have h61 : Below W5.heap.size W5 (a6.alloc o1) := h6.trans (ho6.mono h6.size)
  have hz6 := h61.size
  have oa6 := own_below hoa h61
  have ob6 := own_below hob h61
  have bk6 := hbk.below h61 hK5
  have r6 := own_below hr h61
  have lu6 := (hlu.below h61).more hz6
  have ma6 := hma.below h61
  have li6 := hli.below h61
  have hz7 : (a6.alloc o1).heap.size ≤ w7.heap.size := hg1.size
  -- behind the first append
  have k7 : Keeps (a6.alloc o1) w7 := Keeps.grown_own oa6 hg1 (by decide) (by decide)
  have ob7 := ob6.kept hg1 (own_apart ob6 oa6 (by decide))
  have bk7 := bk6.grown hg1 (own_above oa6)
  have r7 := r6.kept hg1 (own_apart r6 oa6 (by decide))
  have lu7 := (lu6.keep k7).more hz7
  have ma7 := ma6.keep k7 hz7
  have li7 := li6.grown oa6 (by decide) hg1
  -- the block of the second append
  have ho7 : Below w7.heap.size w7 (w7.alloc o2) := (Below.refl _ w7).alloc (Nat.le_refl _) _
  have hz72 := ho7.size
  have oa8 := own_below hown1 ho7
  have ob8 := own_below ob7 ho7
  have bk8 := bk7.below ho7 bk7.lt
  have r8 := own_below r7 ho7
  have lu8 := (lu7.below ho7).more hz72
  have ma8 := ma7.below ho7
  have li8 := li7.below ho7
  have hz8 : (w7.alloc o2).heap.size ≤ w8.heap.size := hg2.size
  have k8 : Keeps (w7.alloc o2) w8 := Keeps.grown_own ob8 hg2 (by decide) (by decide)
  have oa9 := oa8.kept hg2 (own_apart oa8 ob8 (by decide))
  have bk9 := bk8.grown hg2 (box_apart bk8 ob8 (by decide))
  have r9 := r8.kept hg2 (own_apart r8 ob8 (by decide))
  have lu9 := (lu8.keep k8).more hz8
  have ma9 := ma8.keep k8 hz8
  have li9 := li8.grown ob8 (by decide) hg2
  have hBB : Below K w2 w8 := by
    have h1 : Below K w2 (a6.alloc o1) := hB5.trans (h61.mono (Nat.le_of_lt hK5))
    have h2 : Below K w2 w7 := h1.grown hg1 (by have := hB5.size; omega) (fun g h => by have := (oa6.lt g h).1; omega)
    have h3 : Below K w2 (w7.alloc o2) := h2.trans (ho7.mono (by omega))
    exact h3.grown hg2 (by have := hB5.size; omega) (fun g h => (ob8.lt g h).1)
  have hr1 : runS (L.take l.length) = l' := by rw [hll, hl']
  have hr2 : runS (L.take vs.length) = l' := by rw [hvl, hl']
  unfold StayRel
  refine ⟨k + 1, m', u, q, l ++ [(q, m')], vs ++ [r], by omega, hmk, rfl, Lib.hid ⟨by rw [← hl']; exact hm', hu, by rw [← hl']; exact hmo, lu9⟩, by rw [← hl']; exact r9, bk9, Lib.hid ⟨by rw [List.length_append, hll]; rfl, by rw [List.length_append, hvl]; rfl, ?_, ?_⟩, ?_, hown2, hBB⟩
  · exact ma9.snoc hu (by rw [hr1]; exact hm') (by rw [hr1]; exact hmo) lu9
  · exact li9.snoc (by rw [hr2, ← hm']; exact r9)
  · rw [mapsV_snoc]; exact oa9
end Go.Proofs.YtjlbchkdiaomjaaDoor.trie

/- The map of pairs. -/
import Derived.Test.YtjlbchkdiaomjaaDoorTrieMDrop
namespace Go.Proofs.YtjlbchkdiaomjaaDoor.trie
open Go.RowKit mem tri mix

/-- a block known whole -/
def Box (w : World) (g : Nat) (t : TypeId) (cs : Array Value) : Prop := w.heap[g]? = some (.cells cs t (0, 0))
theorem Box.lt {w : World} {g : Nat} {t : TypeId} {cs : Array Value} (h : Box w g t cs) : g < w.heap.size := (Array.getElem?_eq_some_iff.1 h).1
theorem Box.cell {w : World} {g : Nat} {t : TypeId} {cs : Array Value} (h : Box w g t cs) (i : Nat) : w.cell? ⟨g, i, none⟩ = cs[i]? := cell_of_row w g i cs t (0, 0) h
theorem Box.frozen {w : World} {g : Nat} {t : TypeId} {cs : Array Value} (h : Box w g t cs) (i : Nat) : w.frozen? ⟨g, i, none⟩ = false := by
  unfold Box at h; unfold World.frozen?; rw [h]; simp
theorem Box.new (w : World) (t : TypeId) (cs : Array Value) (N : Nat) (h : N = w.heap.size) : Box (w.alloc (.cells cs t)) N t cs := heap_new_at w _ N h
theorem Box.below {w w' : World} {B g : Nat} {t : TypeId} {cs : Array Value} (h : Box w g t cs) (hb : Below B w w') (hg : g < B) : Box w' g t cs := (hb.block g hg).trans h
theorem Box.alloc {w : World} {g : Nat} {t : TypeId} {cs : Array Value} (h : Box w g t cs) (o : Obj) : Box (w.alloc o) g t cs := (Below.heap_alloc w o g h.lt).trans h
theorem Box.drew {w : World} {g : Nat} {t : TypeId} {cs : Array Value} (h : Box w g t cs) : Box w.drew g t cs := h
theorem Box.set {w : World} {g : Nat} {t : TypeId} {cs : Array Value} (h : Box w g t cs) (i : Nat) (u : Value) : Box (w.setCell ⟨g, i, none⟩ u) g t (cs.setIfInBounds i u) := heap_setCell_same w g i cs t u h
theorem Box.far {w : World} {g : Nat} {t : TypeId} {cs : Array Value} (h : Box w g t cs) {p : Addr} (hp : g ≠ p.block) (u : Value) : Box (w.setCell p u) g t cs := (Below.heap_setCell w p u g hp).trans h
theorem Box.two {w : World} {g : Nat} {t : TypeId} {x y : Value} (h : Box w g t #[x, y]) (u v : Value) : Box ((w.setCell ⟨g, 0, none⟩ u).setCell ⟨g, 1, none⟩ v) g t #[u, v] := (h.set 0 u).set 1 v
theorem Box.grown {w w' : World} {g : Nat} {t : TypeId} {cs : Array Value} {row : Option Nat} (h : Box w g t cs) (hb : w.grownBy w' row) (hg : some g ≠ row) : Box w' g t cs := (hb.block g h.lt hg).trans h

/-- the pairs of a list, put one by one -/
def ofS (L : List (Int × Int)) : List (Int × Int) := L.foldl (fun l p => putS l p.1 p.2) []
theorem ofS_take (L : List (Int × Int)) (k : Nat) (h : k < L.length) : ofS (L.take (k + 1)) = putS (ofS (L.take k)) L[k].1 L[k].2 := by
  unfold ofS; rw [List.take_succ_eq_append_getElem h, List.foldl_append]; rfl
theorem putS_le (l : List (Int × Int)) (k v : Int) (hu : Up l) : (putS l k v).length ≤ l.length + 1 := by
  obtain ⟨h1, h2⟩ := putS_len l k v hu
  rcases getS_is l k with ⟨u, _, h⟩ | ⟨_, h⟩
  · rw [h1 ⟨u, h⟩]; omega
  · rw [h2 h]; omega
/-- a map that lies in a world -/
def MapIn (t : Tr) (l : List (Int × Int)) (w : World) : Prop := MapOf t l ∧ Lies w.heap.size w t
def OfRel (L : List (Int × Int)) (N n : Nat) (w : World) (i : Value) (wr : World) : Prop :=
  ∃ (k m : Nat) (t : Tr) (p : Option Addr), k ≤ n ∧ m ≤ k ∧ i = .int .i64 k ∧ Hid (ptr t = .pointer p ∧ m = (ofS (L.take k)).length ∧ MapIn t (ofS (L.take k)) wr) ∧
    Box wr N 26 #[.pointer none, .int .i64 0] ∧ Box wr (N + 1) 26 #[.pointer p, .int .i64 m] ∧ Below w.heap.size w wr
def OfPost (L : List (Int × Int)) (w : World) (e : Ending) (w' : World) : Prop :=
  ∃ t, e = .returned (mapV t (ofS L).length) ∧ MapIn t (ofS L) w' ∧ Below w.heap.size w w'
set_option maxHeartbeats 2000000 in
theorem of_any (B C : Nat) (L : List (Int × Int)) (v : Value) (w : World) (hB : B ≤ w.heap.size) (hT : Laid B w) (hC : C ≤ w.heap.size) (hs : Sees C 2 w v L.length (pairV L)) (hl : L.length ≤ 1048576) (hk : ∀ p ∈ L, I64 p.1) :
    Calls Tryd.prog 10 #[v] w (OfPost L w) := by
  have HT := Lib.hid hT
  have HS := Lib.hid hs
  have HK := Lib.hid hk
  obtain ⟨A, cap, rfl⟩ := hs.form
  obtain ⟨n, hn⟩ : ∃ n, n = L.length := ⟨_, rfl⟩
  obtain ⟨N, hN⟩ : ∃ N, N = w.heap.size := ⟨_, rfl⟩
  rw [← hn] at hl ⊢
  have HN := Lib.hid hn
  have HNN := Lib.hid hN
  clear hT hs hk hn
  go_enter Tryd.func10, Tryd.ntmps10
  go_wp2_with (fail)
  rw [← HNN.out]
  clear hN
  go_loopw [8] (fun i wr => OfRel L N n w i wr) (fun i _ => n - (intOf i).toNat)
  case atStart =>
    unfold OfRel
    have h2 : Box ((w.alloc (.cells #[.pointer none, .int .i64 0] 26)).alloc (.cells #[.pointer none, .int .i64 0] 26)) (N + 1) 26 #[.pointer none, .int .i64 0] := Box.new _ _ _ _ (by rw [HNN.out]; simp)
    exact ⟨0, 0, .none, none, Nat.zero_le _, Nat.le_refl _, rfl, Lib.hid ⟨rfl, rfl, MapOf.none_, trivial⟩, (Box.new w _ _ N HNN.out).alloc _, h2, ((Below.refl _ w).alloc (Nat.le_refl _) _).alloc (by simp) _⟩
  case round =>
    obtain ⟨k, m, t, p, hk, hm, rfl, HM, hb1, hb2, HB⟩ := hrel
    have hsz := HB.size
    by_cases hlt : k < n
    · have hkl : k < L.length := by have := HN.out; omega
      obtain ⟨b, off, cap', hv, hb, hc1, hc2⟩ := ((HS.out.more hC).below HB).pair k hkl
      have hT := ofS_take L k hkl
      injection hv with hA hL hC
      subst hA
      subst hC
      clear hL
      have hkey := HK.out _ (List.getElem_mem hkl)
      obtain ⟨q, hq⟩ : ∃ q, q = L[k] := ⟨_, rfl⟩
      rw [← hq] at hc1 hc2 hT hkey
      obtain ⟨x, y⟩ := q
      have HTT := Lib.hid hT
      have HX := Lib.hid hkey
      have d0 : wr.cell? ⟨N + 1, 0, none⟩ = some (.pointer p) := hb2.cell 0
      have d1 : wr.cell? ⟨N + 1, 1, none⟩ = some (.int .i64 m) := hb2.cell 1
      have hlt2 := hb2.lt
      have hlt1 := hb1.lt
      have e0 := hb2.frozen 0
      have e1 := hb2.frozen 1
      clear hT hkey hq
      have hbA : Below w.heap.size w (wr.alloc (.cells #[.int .i64 x, .int .i64 y] 50)) := HB.alloc hsz _
      have hput := mput_any B t (ofS (L.take k)) x y (wr.alloc (.cells #[.int .i64 x, .int .i64 y] 50)) (by simp; omega) (HT.out.on (hbA.mono hB)) HX.out HM.out.2.2.1 ((HM.out.2.2.2.below ((Below.refl _ wr).alloc (Nat.le_refl _) _)).more (by simp)) (by rw [← HM.out.2.1]; omega)
      unfold mapV at hput
      rw [HM.out.1, ← HM.out.2.1] at hput
      have HPut := Lib.hid hput
      have hb1' := (hb1.alloc (.cells #[.int .i64 x, .int .i64 y] 50))
      have hb2' := (hb2.alloc (.cells #[.int .i64 x, .int .i64 y] 50))
      clear hput
      go_wp2_with (fail)
      refine HPut.out.mono ?_
      rintro e w2 ⟨u, rfl, hu, hul, hbu, _⟩
      obtain ⟨p2, hp2⟩ := ptr_is u
      unfold mapV
      rw [hp2]
      have hle := putS_le (ofS (L.take k)) x y HM.out.2.2.1.2.2.1
      obtain ⟨m2, hm2⟩ : ∃ m2, m2 = (putS (ofS (L.take k)) x y).length := ⟨_, rfl⟩
      rw [← hm2] at hle ⊢
      rw [← HM.out.2.1] at hle
      have g1 := hb1'.below hbu (by simp; omega)
      have g2 := hb2'.below hbu (by simp; omega)
      have z0 : w2.cell? ⟨N + 1, 0, none⟩ = some (.pointer p) := g2.cell 0
      have z1 : w2.cell? ⟨N + 1, 1, none⟩ = some (.int .i64 m) := g2.cell 1
      have f0 := g2.frozen 0
      have f1 := g2.frozen 1
      have hbw := hbA.trans (hbu.mono (by simp; omega))
      have HU : Hid (ptr u = .pointer p2 ∧ m2 = (putS (ofS (L.take k)) x y).length ∧ MapOf u (putS (ofS (L.take k)) x y) ∧ Lies w2.heap.size w2 u) := ⟨hp2, hm2, hu, hul⟩
      clear hp2 hm2 hu hul hbu hb1' hb2' d0 d1 e0 e1 hc1 hc2
      go_wp2_with (fail)
      go_roundw
      case rel =>
        unfold OfRel
        have hNN := HNN.out
        have hk2 := keeps_set2 g2 (by decide) (by decide) 0 1 (.pointer p2) (.int .i64 m2)
        refine ⟨k + 1, m2, u, p2, by omega, by omega, by go_num, Lib.hid ⟨HU.out.1, ?_, ?_⟩, ?_, g2.two _ _, ?_⟩
        · rw [HTT.out]; exact HU.out.2.1
        · rw [HTT.out]
          refine ⟨HU.out.2.2.1, ?_⟩
          rw [World.size_setCell, World.size_setCell]
          exact HU.out.2.2.2.keep hk2
        · exact (g1.far (p := ⟨N + 1, 0, none⟩) (by dsimp only; omega) _).far (p := ⟨N + 1, 1, none⟩) (by dsimp only; omega) _
        · exact (hbw.setCell (p := ⟨N + 1, 0, none⟩) (by dsimp only; omega) _).setCell (p := ⟨N + 1, 1, none⟩) (by dsimp only; omega) _
      case measure => simp [intOf]; omega
    · have hfin : Hid (ofS (L.take k) = ofS L) := by
        show _ = _
        rw [List.take_of_length_le (by have := HN.out; omega)]
      have d0 : wr.cell? ⟨N + 1, 0, none⟩ = some (.pointer p) := hb2.cell 0
      have d1 : wr.cell? ⟨N + 1, 1, none⟩ = some (.int .i64 m) := hb2.cell 1
      have e0 : wr.cell? ⟨N, 0, none⟩ = some (.pointer none) := hb1.cell 0
      have e1 : wr.cell? ⟨N, 1, none⟩ = some (.int .i64 0) := hb1.cell 1
      have f0 := hb1.frozen 0
      have f1 := hb1.frozen 1
      have hlt1 := hb1.lt
      go_wp2_with (fail)
      refine bodyPost_ret (v := .agg #[.pointer p, .int .i64 m]) (by simp [results, Tryd.results10, go_sem, e0, e1]) rfl ?_
      have hk2 := keeps_set2 hb1 (by decide) (by decide) 0 1 (.pointer p) (.int .i64 m)
      have hNN := HNN.out
      have h1 := HM.out
      rw [hfin.out] at h1
      refine ⟨t, by unfold mapV; rw [h1.1, ← h1.2.1], ⟨h1.2.2.1, ?_⟩, (HB.setCell (p := ⟨N, 0, none⟩) (by dsimp only; omega) _).setCell (p := ⟨N, 1, none⟩) (by dsimp only; omega) _⟩
      rw [World.size_setCell, World.size_setCell]
      exact h1.2.2.2.keep hk2
end Go.Proofs.YtjlbchkdiaomjaaDoor.trie

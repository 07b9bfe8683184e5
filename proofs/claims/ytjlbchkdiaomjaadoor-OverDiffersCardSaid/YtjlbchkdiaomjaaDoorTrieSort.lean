/- The library's sort of pairs by their keys. -/
import Derived.Test.YtjlbchkdiaomjaaDoorTriePairs
import Derived.Test.YtjlbchkdiaomjaaDoorShelf
namespace Go.Proofs.YtjlbchkdiaomjaaDoor.trie
open Go.RowKit mem tri mix
open Go.Sort hiding Below

theorem isnan_any (x : Int) (w : World) : Calls Tryd.prog 72 #[.int .i64 x] w fun e w' => e = .returned (.bool false) ∧ w = w' := by
  go_enter Tryd.func72, Tryd.ntmps72
  go_wp2
  go_ret
  exact ⟨rfl, rfl⟩
def cmpS (x y : Int) : Int := if x < y then -1 else if y < x then 1 else 0
theorem compare_any (x y : Int) (w : World) : Calls Tryd.prog 60 #[.int .i64 x, .int .i64 y] w fun e w' => e = .returned (.int .i64 (cmpS x y)) ∧ w = w' := by
  have H := Lib.hid isnan_any
  by_cases h1 : x < y
  · have HC : Hid (cmpS x y = -1) := by show _ = _; unfold cmpS; rw [if_pos h1]
    go_enter Tryd.func60, Tryd.ntmps60
    go_wp2_with (go_at_call 72; refine (H.out _ _).mono ?_; rintro e w' ⟨rfl, rfl⟩)
    go_ret
    exact ⟨by rw [HC.out]; rfl, rfl⟩
  · by_cases h2 : y < x
    · have HC : Hid (cmpS x y = 1) := by show _ = _; unfold cmpS; rw [if_neg h1, if_pos h2]
      go_enter Tryd.func60, Tryd.ntmps60
      go_wp2_with (go_at_call 72; refine (H.out _ _).mono ?_; rintro e w' ⟨rfl, rfl⟩)
      go_ret
      exact ⟨by rw [HC.out]; rfl, rfl⟩
    · have HC : Hid (cmpS x y = 0) := by show _ = _; unfold cmpS; rw [if_neg h1, if_neg h2]
      go_enter Tryd.func60, Tryd.ntmps60
      go_wp2_with (go_at_call 72; refine (H.out _ _).mono ?_; rintro e w' ⟨rfl, rfl⟩)
      go_ret
      exact ⟨by rw [HC.out]; rfl, rfl⟩
def encP (x : Int × Int) : List Value := [.int .i64 x.1, .int .i64 x.2]
theorem by_key (x y : Int × Int) (W : World) : Calls Tryd.prog 59 #[.agg #[.int .i64 x.1, .int .i64 x.2], .agg #[.int .i64 y.1, .int .i64 y.2]] W fun e w' => e = .returned (.int .i64 (cmpS x.1 y.1)) ∧ ∃ q os', w' = grow (W.drewN q) os' := by
  have H := Lib.hid compare_any
  generalize hr : cmpS x.1 y.1 = r
  have HR := Lib.hid hr
  clear hr
  go_enter Tryd.func59, Tryd.ntmps59
  go_wp2_with (go_at_call 60; refine (H.out _ _ _).mono ?_; rintro e w' ⟨rfl, rfl⟩)
  go_ret
  exact ⟨by rw [← HR.out]; rfl, 0, _, by rw [alloc_eq_grow, alloc_eq_grow, grow_grow]; rfl⟩
theorem lt_key (x y : Int × Int) : ltOf (fun x y : Int × Int => cmpS x.1 y.1) x y = decide (x.1 < y.1) := by
  unfold ltOf cmpS
  by_cases h1 : x.1 < y.1
  · simp [h1]
  · by_cases h2 : y.1 < x.1 <;> simp [h1, h2]
theorem swo_key : Sort.SWO (ltOf fun x y : Int × Int => cmpS x.1 y.1) where
  irrefl x := by rw [lt_key]; simp
  trans x y z h1 h2 := by rw [lt_key] at *; simp at *; omega
  ntrans x y z h1 h2 := by rw [lt_key] at *; simp at *; omega
theorem pairV_div (L : List (Int × Int)) (j : Nat) (h : j < L.length * 2) : (pairV L)[j]? = some ((flatK encP 2 L.toArray)[j]!) := by
  have hk : j / 2 < L.length := by omega
  rw [get_flatK encP 2 L.toArray j (by simpa using h)]
  obtain ⟨h1, h2⟩ := pairV_at L (j / 2) hk
  have hg : L.toArray[j / 2]! = L[j / 2] := by simp [hk]
  rw [hg]
  have : j % 2 = 0 ∨ j % 2 = 1 := by omega
  rcases this with h0 | h0
  · rw [h0]
    have e : j = j / 2 * 2 := by omega
    exact (congrArg (fun i => (pairV L)[i]?) e).trans h1
  · rw [h0]
    have e : j = j / 2 * 2 + 1 := by omega
    exact (congrArg (fun i => (pairV L)[i]?) e).trans h2
theorem below_sorted {B blk n : Nat} {w : World} {d : Array (Int × Int)} {os : Array Obj} (hB : B ≤ blk) (hlt : blk < w.heap.size) : Below B w (sortWorldK encP 2 w blk 0 n d os) := by
  refine ⟨rfl, rfl, rfl, size_sortWorldK_c encP 2 w blk 0 n d os, fun k hk => ?_⟩
  show (((Sort.ahead w n).heap.modify blk _) ++ os)[k]? = w.heap[k]?
  rw [Array.getElem?_append_left (by rw [Array.size_modify]; show k < w.heap.size; omega), Array.getElem?_modify, if_neg (by omega)]
  rfl
theorem sorted_type {blk n : Nat} {w : World} {d : Array (Int × Int)} {os : Array Obj} {cur : Array Value} {T : TypeId} (hlt : blk < w.heap.size) (h : w.heap[blk]? = some (.cells cur T (0, 0))) : ∃ cs, (sortWorldK encP 2 w blk 0 n d os).heap[blk]? = some (.cells cs T (0, 0)) := by
  refine ⟨putCells id 0 (flatK encP 2 d) cur, ?_⟩
  unfold sortWorldK putRowK putRow mapBlock grow
  show ((Sort.ahead w n).heap.modify blk (onCells (putCells id 0 (flatK encP 2 d))) ++ os)[blk]? = _
  rw [Array.getElem?_append_left (by rw [Array.size_modify]; exact hlt), Array.getElem?_modify, if_pos rfl]
  show (w.heap[blk]?).map _ = _
  rw [h]; rfl
/-- the row of pairs, behind the sort: the same pairs, by rising keys -/
theorem sort_any (B g cap n : Nat) (L : List (Int × Int)) (w : World) (hn : n = L.length) (hl : L.length ≤ 1048576) (hd : L.Pairwise fun p q => p.1 ≠ q.1) (hown : w.ownsRow B 50 2 (.slice (some ⟨g, 0, none⟩) n cap) n (pairV L)) :
    Calls Tryd.prog 58 #[.slice (some ⟨g, 0, none⟩) n cap, .func (.func 59) #[] #[]] w fun e w' =>
      e = .returned (.tuple #[]) ∧ ∃ M : List (Int × Int), M.Perm L ∧ (M.Pairwise fun p q => p.1 < q.1) ∧ Sees w'.heap.size 2 w' (.slice (some ⟨g, 0, none⟩) n cap) n (pairV M) ∧ Below B w w' ∧ ∃ cs, w'.heap[g]? = some (.cells cs 50 (0, 0)) := by
  subst hn
  obtain ⟨hBg, hgl⟩ := hown.lt g rfl
  obtain ⟨cur, hcur⟩ : ∃ cur, w.heap[g]? = some (.cells cur 50 (0, 0)) := by
    rcases hown.2 with ⟨h, _⟩ | ⟨g', c, cur, h, _, hh, _⟩
    · cases h
    · injection h with h1 _ _
      injection h1 with h1
      injection h1 with h1 _
      subst h1
      exact ⟨cur, hh⟩
  have eg : ∀ args w, (callFunc 59 args).run Tryd.prog w = .ok (.enter 59 args) w := enters_of Tryd.func59 (by kernel_rfl) rfl
  have hH : HoldsK encP 2 w g 0 L.toArray := by
    intro j hj
    rw [size_flatK] at hj
    have hj' : j < L.length * 2 := by simpa using hj
    rw [Nat.zero_add]
    exact ⟨(hown.cellAt j hj').trans (pairV_div L j hj'), hown.frozenAt j⟩
  have hcmp : CmpLays Tryd.prog 59 #[] encP 2 (fun x y => cmpS x.1 y.1) g 0 L.toArray.size w := fun _ _ _ _ x y => by_key x y _
  have hcon := AnyQ.slices_SortFunc Tryd.sortP 2 Tryd.isAgg50 Tryd.sizeOf50 encP (fun _ => rfl) (fun x v hv => by simp [encP] at hv; rcases hv with rfl | rfl <;> rfl) (fun x y => cmpS x.1 y.1) swo_key 59 #[] g 0 cap L.toArray w eg hcmp hH hgl (by simp; omega)
  change Calls Tryd.prog 58 _ _ _ at hcon
  rw [show L.toArray.size = L.length by simp] at hcon
  refine hcon.mono ?_
  rintro e w' ⟨rfl, d', k, os, hp, hs, rfl⟩
  obtain ⟨p1, p2, p3⟩ := hp
  have hsz : d'.size = L.length := by simpa using p1
  have hex : ∀ (d : Array (Int × Int)) (m : Nat), m = d.size → (d.extract 0 m).toList = d.toList := fun d m hm => by subst hm; simp
  rw [hex d' _ hsz.symm, hex L.toArray _ (by simp)] at p3
  have hperm : d'.toList.Perm L := p3
  refine ⟨rfl, d'.toList, hperm, ?_, ?_, below_sorted hBg hgl, ?_⟩
  · have hne : d'.toList.Pairwise fun p q => p.1 ≠ q.1 := (List.Perm.pairwise_iff (fun h => fun e => h e.symm) hperm).2 hd
    rw [List.pairwise_iff_getElem] at hne ⊢
    intro i j hi hj hij
    have h1 := hne i j hi hj hij
    have hj' : j < d'.size := by simpa using hj
    have hi' : i < d'.size := by simpa using hi
    have h2 := hs i j (Nat.zero_le _) hij (by omega)
    rw [lt_key, getElem!_pos d' i hi', getElem!_pos d' j hj'] at h2
    have h3 : ¬ (d'[j].1 < d'[i].1) := by simpa using h2
    simp only [Array.getElem_toList] at h1 ⊢
    omega
  · have hh := holdsK_sortWorldK encP 2 w g 0 k L.toArray d' os hgl hH (by simpa using hsz)
    refine ⟨by rw [pairV_length]; simp [hsz], _, cap, rfl, fun _ => ⟨g, 0, rfl, lt_sortWorldK encP 2 w g 0 k d' os hgl, fun j u hu => ?_⟩⟩
    have hj : j < d'.toList.length * 2 := by
      have := (List.getElem?_eq_some_iff.1 hu).1
      rwa [pairV_length] at this
    have h1 := (hh j (by rw [size_flatK]; simpa using hj)).1
    rw [pairV_div d'.toList j hj] at hu
    rw [show d'.toList.toArray = d' by simp] at hu
    rw [h1, ← hu]; rfl
  · exact sorted_type hgl hcur
end Go.Proofs.YtjlbchkdiaomjaaDoor.trie

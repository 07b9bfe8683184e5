/- A map without some keys. -/
import Derived.Test.YtjlbchkdiaomjaaDoorOverLay
namespace Go.Proofs.YtjlbchkdiaomjaaDoor.trie
open Go.RowKit Go.Shelf mem tri mix

/-- a list without some keys -/
def dropAll (X : List (Int × Int)) (K : List Int) : List (Int × Int) := K.foldl dropS X
theorem dropAll_take (X : List (Int × Int)) (K : List Int) (k : Nat) (h : k < K.length) : dropAll X (K.take (k + 1)) = dropS (dropAll X (K.take k)) K[k] := by
  unfold dropAll; rw [List.take_succ_eq_append_getElem h, List.foldl_append]; rfl
theorem dropS_le (X : List (Int × Int)) (k : Int) : (dropS X k).length ≤ X.length := by unfold dropS; exact List.length_filter_le _ _
theorem dropAll_le (X : List (Int × Int)) (K : List Int) : (dropAll X K).length ≤ X.length := by
  unfold dropAll
  induction K generalizing X with
  | nil => exact Nat.le_refl _
  | cons k K ih => exact Nat.le_trans (ih (dropS X k)) (dropS_le X k)
def WithoutRel (H n : Nat) (X : List (Int × Int)) (K : List Int) (w : World) (i : Value) (wr : World) : Prop :=
  ∃ (k m : Nat) (u : Tr) (q : Option Addr), k ≤ n ∧ i = .int .i64 k ∧ Hid (ptr u = .pointer q ∧ m = (dropAll X (K.take k)).length ∧ MapOf u (dropAll X (K.take k)) ∧ Lies wr.heap.size wr u) ∧
    Box wr H 26 #[.pointer q, .int .i64 m] ∧ Box wr (H + 1) 26 #[.pointer none, .int .i64 0] ∧ Below H w wr
set_option maxHeartbeats 2000000 in
set_option maxRecDepth 100000 in
theorem without_any (B C n m : Nat) (t : Tr) (p : Option Addr) (hp : ptr t = .pointer p) (X : List (Int × Int)) (hX : m = X.length) (K : List Int) (v : Value) (w : World) (hB : B ≤ w.heap.size) (hT : Laid B w) (hC : C ≤ w.heap.size) (hn : n = K.length) (hn2 : n ≤ 1000000)
    (hs : Sees C 1 w v n (intV K)) (hm : MapOf t X) (hL : Lies w.heap.size w t) (hl : X.length ≤ 1048576) :
    Calls Tryd.prog 28 #[.agg #[.pointer p, .int .i64 m], v] w (LaidPost (dropAll X K) w) := by
  obtain ⟨A, cap, rfl⟩ := hs.form
  obtain ⟨H, hH⟩ : ∃ H, H = w.heap.size := ⟨_, rfl⟩
  have HH := Lib.hid hH
  have HN := Lib.hid hn
  have HS := Lib.hid (hs.more hC)
  have HM := Lib.hid (And.intro hp (And.intro hX (And.intro hm hL)))
  have HT := Lib.hid hT
  clear hn hs hm hT hp hX hL
  go_enter Tryd.func28, Tryd.ntmps28
  go_wp2_with (fail)
  rw [← hH]
  have b0 : Box ((w.alloc (.cells #[.pointer p, .int .i64 m] 26)).alloc (.cells #[.pointer none, .int .i64 0] 26)) H 26 #[.pointer p, .int .i64 m] := (Box.new _ _ _ H hH).alloc _
  have b1 : Box ((w.alloc (.cells #[.pointer p, .int .i64 m] 26)).alloc (.cells #[.pointer none, .int .i64 0] 26)) (H + 1) 26 #[.pointer none, .int .i64 0] := Box.new _ _ _ (H + 1) (by rw [hH]; simp)
  have hBW : Below H w ((w.alloc (.cells #[.pointer p, .int .i64 m] 26)).alloc (.cells #[.pointer none, .int .i64 0] 26)) := by rw [hH]; exact ((Below.refl _ w).alloc (Nat.le_refl _) _).alloc (by simp) _
  have hL0 : Lies ((w.alloc (.cells #[.pointer p, .int .i64 m] 26)).alloc (.cells #[.pointer none, .int .i64 0] 26)).heap.size ((w.alloc (.cells #[.pointer p, .int .i64 m] 26)).alloc (.cells #[.pointer none, .int .i64 0] 26)) t := (HM.out.2.2.2.below (by rw [← hH]; exact hBW)).more (by simp; omega)
  have hBH : B ≤ H := by rw [hH]; exact hB
  clear hH
  go_loopw [9] (fun i wr => WithoutRel H n X K w i wr) (fun i _ => n - (intOf i).toNat)
  case atStart =>
    unfold WithoutRel
    exact ⟨0, m, t, p, Nat.zero_le _, rfl, Lib.hid ⟨HM.out.1, HM.out.2.1, HM.out.2.2.1, hL0⟩, b0, b1, hBW⟩
  case round =>
    clear b0 b1 hBW hL0
    obtain ⟨k, m, u, q, hk, rfl, HU, hb0, hb1, hBr⟩ := hrel
    have hsz := hBr.size
    rw [← HH.out] at hsz
    by_cases hlt : k < n
    · have hkl : k < K.length := by have := HN.out; omega
      have hbw : Below w.heap.size w wr := by rw [← HH.out]; exact hBr
      obtain ⟨_, A', cap', hva, hca⟩ := HS.out.below hbw
      obtain ⟨ba, oa, rfl, hba, hca⟩ := hca (by omega)
      injection hva with e1 _ e3
      subst e1
      subst e3
      obtain ⟨x, hx⟩ : ∃ x, x = K[k] := ⟨_, rfl⟩
      have htk := dropAll_take X K k hkl
      rw [← hx] at htk
      have hxv : (intV K)[k]? = some (.int .i64 x) := by unfold intV; rw [List.getElem?_map, List.getElem?_eq_getElem hkl, ← hx]; rfl
      have x0 : wr.cell? ⟨ba, oa + k, none⟩ = some (.int .i64 x) := hca _ _ hxv
      have hlen := dropAll_le X (K.take k)
      obtain ⟨m2, hm2⟩ : ∃ m2, m2 = (dropS (dropAll X (K.take k)) x).length := ⟨_, rfl⟩
      have HDrop := Lib.hid (mdrop_at B m m2 u q HU.out.1 (dropAll X (K.take k)) (dropS (dropAll X (K.take k)) x) HU.out.2.1 x wr (by omega) (HT.out.on (hBr.mono hBH)) HU.out.2.2.1 HU.out.2.2.2 (by omega) rfl hm2 _ rfl)
      obtain ⟨bb, hbb⟩ : ∃ bb, bb = (getS (dropAll X (K.take k)) x).2 := ⟨_, rfl⟩
      rw [← hbb] at HDrop
      have HTK := Lib.hid htk
      have HM2 := Lib.hid hm2
      have HBr := Lib.hid hBr
      have HB0 := Lib.hid hb0
      have HB1 := Lib.hid hb1
      have j0' : (0 : Int) ≤ (k : Int) := by omega
      have j1' : (k : Int) < (n : Int) := by omega
      have c0 : wr.cell? ⟨H, 0, none⟩ = some (.pointer q) := hb0.cell 0
      have c1 : wr.cell? ⟨H, 1, none⟩ = some (.int .i64 m) := hb0.cell 1
      have hl1 := hb0.lt
      have hl2 := hb1.lt
      clear hkl hbw hca hx htk hxv hlen hm2 hbb hBr hb0 hb1
      go_wp2_with (fail)
      refine HDrop.out.mono ?_
      rintro e w2 ⟨u2, r, rfl, hu2, hb2⟩
      have hr2 := HB0.out.below hb2 (by omega)
      have HR2 := Lib.hid hr2
      have y0 : w2.cell? ⟨H, 0, none⟩ = some (.pointer q) := hr2.cell 0
      have y1 : w2.cell? ⟨H, 1, none⟩ = some (.int .i64 m) := hr2.cell 1
      have g0 := hr2.frozen 0
      have g1 := hr2.frozen 1
      have HB2 := Lib.hid (HBr.out.trans (hb2.mono (by omega)))
      have HR0 := Lib.hid (HB1.out.below hb2 (by omega))
      clear hb2 hr2 c0 c1 x0
      go_wp2_with (fail)
      go_roundw
      case rel =>
        unfold WithoutRel
        refine ⟨k + 1, m2, u2, r, by omega, by go_num, Lib.hid ⟨hu2.out.1, by rw [HTK.out]; exact HM2.out, by rw [HTK.out]; exact hu2.out.2.1, ?_⟩, HR2.out.two _ _, ?_, ?_⟩
        · rw [World.size_setCell, World.size_setCell]
          exact hu2.out.2.2.1.keep (keeps_set2 HR2.out (by decide) (by decide) 0 1 (.pointer r) (.int .i64 m2))
        · exact (HR0.out.far (p := ⟨H, 0, none⟩) (by dsimp only; omega) _).far (p := ⟨H, 1, none⟩) (by dsimp only; omega) _
        · exact (HB2.out.setCell (p := ⟨H, 0, none⟩) (by dsimp only; omega) _).setCell (p := ⟨H, 1, none⟩) (by dsimp only; omega) _
      case measure => simp [intOf]; omega
    · have hfin : Hid (dropAll X (K.take k) = dropAll X K) := by
        show _ = _
        rw [List.take_of_length_le (by have := HN.out; omega)]
      have d0 : wr.cell? ⟨H, 0, none⟩ = some (.pointer q) := hb0.cell 0
      have d1 : wr.cell? ⟨H, 1, none⟩ = some (.int .i64 m) := hb0.cell 1
      have e0 : wr.cell? ⟨H + 1, 0, none⟩ = some (.pointer none) := hb1.cell 0
      have e1 : wr.cell? ⟨H + 1, 1, none⟩ = some (.int .i64 0) := hb1.cell 1
      have f0 := hb1.frozen 0
      have f1 := hb1.frozen 1
      have HB1 := Lib.hid hb1
      have HBr := Lib.hid hBr
      have j1' : ¬ (k : Int) < (n : Int) := by omega
      clear hb0 hb1 hBr
      go_wp2_with (fail)
      have hx := HB1.out.two (.pointer q) (.int .i64 m)
      have x0 := hx.cell 0
      have x1 := hx.cell 1
      refine bodyPost_ret (v := .agg #[.pointer q, .int .i64 m]) (by simp [results, Tryd.results28, go_sem, x0, x1]) rfl ?_
      have h1 := HU.out
      rw [hfin.out] at h1
      refine ⟨u, q, m, rfl, ⟨h1.1, h1.2.1, h1.2.2.1, ?_⟩, ?_⟩
      · rw [World.size_setCell, World.size_setCell]
        exact h1.2.2.2.keep (keeps_set2 HB1.out (by decide) (by decide) 0 1 (.pointer q) (.int .i64 m))
      · rw [← HH.out]; exact (HBr.out.setCell (p := ⟨H + 1, 0, none⟩) (by dsimp only; omega) _).setCell (p := ⟨H + 1, 1, none⟩) (by dsimp only; omega) _
end Go.Proofs.YtjlbchkdiaomjaaDoor.trie

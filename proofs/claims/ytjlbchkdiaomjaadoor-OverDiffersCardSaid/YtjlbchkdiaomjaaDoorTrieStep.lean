/- One call of both: package marlinelaw04's step, and what it makes of a map and its list. -/
import Derived.Test.YtjlbchkdiaomjaaDoorTrieOfLaw
namespace Go.Proofs.YtjlbchkdiaomjaaDoor.trie
open Go.RowKit Go.Shelf mem tri mix

theorem mdrop_at (B n m : Nat) (t : Tr) (p : Option Addr) (hp : ptr t = .pointer p) (l l' : List (Int × Int)) (hn : n = l.length) (k : Int) (w : World) (hB : B ≤ w.heap.size) (hT : Laid B w) (hm : MapOf t l) (hL : Lies w.heap.size w t) (hl : l.length ≤ 1048576) (he : dropS l k = l') (hn' : m = l'.length) (b : Bool) (hb : b = (getS l k).2) :
    Calls Tryd.prog 15 #[.agg #[.pointer p, .int .i64 n], .int .i64 k] w fun e w' => ∃ u q, e = .returned (.tuple #[.agg #[.pointer q, .int .i64 m], .bool b]) ∧ Hid (ptr u = .pointer q ∧ MapOf u l' ∧ Lies w'.heap.size w' u ∧ sh u u ≤ sh t u + 16) ∧ Below w.heap.size w w' := by
  subst hn
  subst he
  subst hn'
  subst hb
  have h := mdrop_any B t l k w hB hT hm hL hl
  unfold mapV at h
  rw [hp] at h
  refine h.mono ?_
  rintro e w' ⟨u, rfl, h1, h2, h3, h4⟩
  obtain ⟨q, hq⟩ := ptr_is u
  exact ⟨u, q, by unfold mapV; rw [hq], ⟨hq, h1, h2, h4⟩, h3⟩
theorem grown_at (W : World) (b i : Nat) (v : Value) : W.grownBy (W.setCell ⟨b, i, none⟩ v) (some b) :=
  ⟨rfl, rfl, rfl, by simp, fun k _ hk => Below.heap_setCell _ _ _ k (fun e => hk (by rw [e]))⟩
theorem own_set_at {w : World} {g base size n : Nat} {t e : TypeId} {cs : Array Value} {v : Value} {xs : List Value} (h : w.ownsRow base e size v n xs) (hb : Box w g t cs) (hne : t ≠ e) (i : Nat) (x : Value) : (w.setCell ⟨g, i, none⟩ x).ownsRow base e size v n xs :=
  h.kept (grown_at w g i x) (.inr (box_apart hb h hne).symm)
/-- what step tells: the map and the list behind the call -/
def StepPost (t : Tr) (l' : List (Int × Int)) (m : Nat) (w : World) (e : Ending) (w' : World) : Prop :=
  ∃ u q r, e = .returned (.tuple #[.agg #[.pointer q, .int .i64 m], r, .bool true]) ∧ Hid (ptr u = .pointer q ∧ MapOf u l' ∧ Lies w'.heap.size w' u ∧ sh u u ≤ sh t u + 16) ∧ Hid (w'.ownsRow w.heap.size 40 2 r m (pairV l')) ∧ Below w.heap.size w w'
set_option maxHeartbeats 2000000 in
set_option maxRecDepth 100000 in
theorem step_put (B n m : Nat) (t : Tr) (p : Option Addr) (hp : ptr t = .pointer p) (l l' : List (Int × Int)) (hn : n = l.length) (k v : Int) (V : Value) (w : World) (hB : B ≤ w.heap.size) (hT : Laid B w) (hk : I64 k) (hm : MapOf t l) (hL : Lies w.heap.size w t) (hl : l.length ≤ 1048576) (hs : Sees w.heap.size 2 w V n (pairV l)) (he : putS l k v = l') (hn' : m = l'.length) :
    Calls Tryd.prog 11 #[.agg #[.pointer p, .int .i64 n], V, .agg #[.bool false, .int .i64 k, .int .i64 v]] w (StepPost t l' m w) := by
  obtain ⟨H, hH⟩ : ∃ H, H = w.heap.size := ⟨_, rfl⟩
  have HH := Lib.hid hH
  have HPut := Lib.hid (fun w' h1 h2 h3 => mput_at B n m t p hp l l' hn k v w' h1 h2 hk hm h3 hl he hn')
  have HRef := Lib.hid (fun w' h => rput_any l k v V w' hl h)
  have HT := Lib.hid hT
  have HL := Lib.hid hL
  have HS := Lib.hid hs
  have HN := Lib.hid hn
  have HE := Lib.hid he
  have HM := Lib.hid hn'
  clear hm hL hs hl hk hT hn hp he hn'
  go_enter Tryd.func11, Tryd.ntmps11
  go_wp2_with (fail)
  obtain ⟨W, hW⟩ : ∃ W, W = (((w.alloc (.cells #[.pointer p, .int .i64 n] 26)).alloc (.cells #[.bool false, .int .i64 k, .int .i64 v] 32)).alloc (.cells #[.pointer none, .int .i64 0] 26)) := ⟨_, rfl⟩
  rw [← hW, ← hH]
  have b0 : Box W H 26 #[.pointer p, .int .i64 n] := by rw [hW]; exact (((Box.new w _ _ H HH.out).alloc _).alloc _)
  have b1 : Box W (H + 1) 32 #[.bool false, .int .i64 k, .int .i64 v] := by rw [hW]; exact (Box.new _ _ _ (H + 1) (by rw [HH.out]; simp)).alloc _
  have b2 : Box W (H + 2) 26 #[.pointer none, .int .i64 0] := by rw [hW]; exact Box.new _ _ _ (H + 2) (by rw [HH.out]; simp)
  have hBW : Below H w W := by rw [hW, HH.out]; exact (((Below.refl _ w).alloc (Nat.le_refl _) _).alloc (by simp) _).alloc (by simp; omega) _
  have hWz : W.heap.size = H + 3 := by rw [hW, HH.out]; simp
  have hBH : B ≤ H := by rw [HH.out]; exact hB
  have c0 : W.cell? ⟨H, 0, none⟩ = some (.pointer p) := b0.cell 0
  have c1 : W.cell? ⟨H, 1, none⟩ = some (.int .i64 n) := b0.cell 1
  have c2 : W.cell? ⟨H + 1, 0, none⟩ = some (.bool false) := b1.cell 0
  have c3 : W.cell? ⟨H + 1, 1, none⟩ = some (.int .i64 k) := b1.cell 1
  have c4 : W.cell? ⟨H + 1, 2, none⟩ = some (.int .i64 v) := b1.cell 2
  have hLW : Hid (Lies (H + 3) W t) := by show Lies _ _ _; have h := HL.out; rw [← HH.out] at h; exact (h.below hBW).more (by omega)
  have hSW : Hid (Sees (H + 3) 2 W V l.length (pairV l)) := by show Sees _ _ _ _ _ _; have h := HS.out; rw [← HH.out, HN.out] at h; exact (h.below hBW).more (by omega)
  have HWZ := Lib.hid hWz
  have HBW := Lib.hid hBW
  have hle : H + 3 ≤ W.heap.size := by omega
  have e0 : H + 1 + 1 = H + 2 := rfl
  rw [e0]
  clear hW hH hWz e0 hB
  go_region_held3 (fun w' => w'.cell? ⟨H, 0, none⟩ = some (.pointer p) ∧ w'.cell? ⟨H, 1, none⟩ = some (.int .i64 n) ∧ w'.cell? ⟨H + 1, 1, none⟩ = some (.int .i64 k) ∧ w'.cell? ⟨H + 1, 2, none⟩ = some (.int .i64 v)) (first | go_keep)
    (first
      | (go_at_call 38; refine (HPut.out W.drew (by simp; omega) (HT.out.on (HBW.out.drew.mono hBH)) ((hLW.out.below (Below.refl _ W).drew).more (by simp; omega))).mono ?_; rintro e w1 ⟨u, q, rfl, hu, hb1⟩; have hW1 : Below (H + 3) W w1 := (Below.refl _ W).drew.trans (hb1.mono (by simp; omega)); have q10 := (hW1.cell (p := ⟨H, 0, none⟩) (by dsimp only; omega)).trans c0; have q11 := (hW1.cell (p := ⟨H, 1, none⟩) (by dsimp only; omega)).trans c1; have q12 := (hW1.cell (p := ⟨H + 1, 1, none⟩) (by dsimp only; omega)).trans c3; have q13 := (hW1.cell (p := ⟨H + 1, 2, none⟩) (by dsimp only; omega)).trans c4; have z1 := hW1.size)
      | (go_at_call 20; refine (HRef.out w1 ((hSW.out.below hW1).more (by omega))).mono ?_; rintro e w2 ⟨r, rfl, hg2⟩; have hW2 : Below (H + 3) W w2 := hW1.trans (hg2.2.mono (by omega)); have q20 := (hW2.cell (p := ⟨H, 0, none⟩) (by dsimp only; omega)).trans c0; have q21 := (hW2.cell (p := ⟨H, 1, none⟩) (by dsimp only; omega)).trans c1; have q22 := (hW2.cell (p := ⟨H + 1, 1, none⟩) (by dsimp only; omega)).trans c3; have q23 := (hW2.cell (p := ⟨H + 1, 2, none⟩) (by dsimp only; omega)).trans c4; have z2 := hW2.size; have f0 := (b2.below hW2 (by omega)).frozen 0; have f1 := (b2.below hW2 (by omega)).frozen 1; have r0 := (b2.below hW2 (by omega)).cell 0; have r1 := (b2.below hW2 (by omega)).cell 1))
  all_goals
    have hb2' := b2.below hW2 (by omega)
    have hb3 : Box ((w2.setCell ⟨H + 2, 0, none⟩ (.pointer q)).setCell ⟨H + 2, 1, none⟩ (.int .i64 m)) (H + 2) 26 #[.pointer q, .int .i64 m] := hb2'.two _ _
    have x0 := hb3.cell 0
    have x1 := hb3.cell 1
    have hbw2 : Below H w w2 := HBW.out.trans (hW2.mono (by omega))
    have hfin := (hbw2.setCell (p := ⟨H + 2, 0, none⟩) (by dsimp only; omega) (.pointer q)).setCell (p := ⟨H + 2, 1, none⟩) (by dsimp only; omega) (.int .i64 m)
    have hown := hg2.1
    rw [HE.out, ← HM.out] at hown
    have hlies := hu.out.2.2.1.below hg2.2
    have hkeep := keeps_set2 hb2' (by decide) (by decide) 0 1 (.pointer q) (.int .i64 m)
    have hown2 := own_set_at (own_set_at (hown.mono (base' := H) (by omega)) hb2' (by decide) 0 (.pointer q)) (hb2'.set 0 _) (by decide) 1 (.int .i64 m)
    have HX := Lib.hid (And.intro hfin (And.intro hlies (And.intro hkeep hown2)))
    have HU := Lib.hid hu.out
    have hz12 : w1.heap.size ≤ w2.heap.size := hg2.2.size
    clear q10 q11 q12 q13 q20 q21 q22 q23 hb2' hb3 hbw2 hfin hown hlies hkeep hown2 hu hg2 c0 c1 c2 c3 c4 b0 b1 b2 hb1 hW1 hW2
    go_wp2_with (fail)
    refine bodyPost_ret (v := .tuple #[.agg #[.pointer q, .int .i64 m], r, .bool true]) (by simp [results, Tryd.results11, go_sem, x0, x1]) rfl ?_
    refine ⟨u, q, r, rfl, ⟨HU.out.1, HU.out.2.1, ?_, HU.out.2.2.2⟩, ?_, ?_⟩
    · rw [World.size_setCell, World.size_setCell]
      exact (HX.out.2.1.more hz12).keep HX.out.2.2.1
    · rw [← HH.out]; exact HX.out.2.2.2
    · rw [← HH.out]; exact HX.out.1
set_option maxHeartbeats 2000000 in
set_option maxRecDepth 100000 in
theorem step_drop (B n m : Nat) (t : Tr) (p : Option Addr) (hp : ptr t = .pointer p) (l l' : List (Int × Int)) (hn : n = l.length) (k v : Int) (V : Value) (w : World) (hB : B ≤ w.heap.size) (hT : Laid B w) (hm : MapOf t l) (hL : Lies w.heap.size w t) (hl : l.length ≤ 1048576) (hs : Sees w.heap.size 2 w V n (pairV l)) (he : dropS l k = l') (hn' : m = l'.length) :
    Calls Tryd.prog 11 #[.agg #[.pointer p, .int .i64 n], V, .agg #[.bool true, .int .i64 k, .int .i64 v]] w (StepPost t l' m w) := by
  obtain ⟨H, hH⟩ : ∃ H, H = w.heap.size := ⟨_, rfl⟩
  have HH := Lib.hid hH
  obtain ⟨bb, hbb⟩ : ∃ bb, bb = (getS l k).2 := ⟨_, rfl⟩
  have HGet := Lib.hid (fun w' h => rget_any l k V (H + 3) w' hl h)
  have HDrop := Lib.hid (fun w' h1 h2 h3 => mdrop_at B n m t p hp l l' hn k w' h1 h2 hm h3 hl he hn' bb hbb)
  have HRef := Lib.hid (fun w' h => rdrop_any l k V w' hl h)
  rw [← hbb] at HGet
  have HT := Lib.hid hT
  have HL := Lib.hid hL
  have HS := Lib.hid hs
  have HN := Lib.hid hn
  have HE := Lib.hid he
  have HM := Lib.hid hn'
  clear hm hL hs hl hT hn hp he hn' hbb
  go_enter Tryd.func11, Tryd.ntmps11
  go_wp2_with (fail)
  obtain ⟨W, hW⟩ : ∃ W, W = (((w.alloc (.cells #[.pointer p, .int .i64 n] 26)).alloc (.cells #[.bool true, .int .i64 k, .int .i64 v] 32)).alloc (.cells #[.pointer none, .int .i64 0] 26)) := ⟨_, rfl⟩
  rw [← hW, ← hH]
  have b0 : Box W H 26 #[.pointer p, .int .i64 n] := by rw [hW]; exact (((Box.new w _ _ H HH.out).alloc _).alloc _)
  have b1 : Box W (H + 1) 32 #[.bool true, .int .i64 k, .int .i64 v] := by rw [hW]; exact (Box.new _ _ _ (H + 1) (by rw [HH.out]; simp)).alloc _
  have b2 : Box W (H + 2) 26 #[.pointer none, .int .i64 0] := by rw [hW]; exact Box.new _ _ _ (H + 2) (by rw [HH.out]; simp)
  have hBW : Below H w W := by rw [hW, HH.out]; exact (((Below.refl _ w).alloc (Nat.le_refl _) _).alloc (by simp) _).alloc (by simp; omega) _
  have hWz : W.heap.size = H + 3 := by rw [hW, HH.out]; simp
  have hBH : B ≤ H := by rw [HH.out]; exact hB
  have c0 : W.cell? ⟨H, 0, none⟩ = some (.pointer p) := b0.cell 0
  have c1 : W.cell? ⟨H, 1, none⟩ = some (.int .i64 n) := b0.cell 1
  have c2 : W.cell? ⟨H + 1, 0, none⟩ = some (.bool true) := b1.cell 0
  have c3 : W.cell? ⟨H + 1, 1, none⟩ = some (.int .i64 k) := b1.cell 1
  have c4 : W.cell? ⟨H + 1, 2, none⟩ = some (.int .i64 v) := b1.cell 2
  have hLW : Hid (Lies (H + 3) W t) := by show Lies _ _ _; have h := HL.out; rw [← HH.out] at h; exact (h.below hBW).more (by omega)
  have hSW : Hid (Sees (H + 3) 2 W V l.length (pairV l)) := by show Sees _ _ _ _ _ _; have h := HS.out; rw [← HH.out, HN.out] at h; exact (h.below hBW).more (by omega)
  have HWZ := Lib.hid hWz
  have HBW := Lib.hid hBW
  have hle : H + 3 ≤ W.heap.size := by omega
  have e0 : H + 1 + 1 = H + 2 := rfl
  rw [e0]
  clear hW hH hWz e0 hB
  go_wp2_with (go_at_call 14; refine (HGet.out W hSW.out).mono ?_; rintro e w' ⟨rfl, rfl⟩)
  refine (HDrop.out W (by omega) (HT.out.on (HBW.out.mono hBH)) (hLW.out.more (by omega))).mono ?_
  rintro e w1 ⟨u, q, rfl, hu, hb1⟩
  have hW1 : Below (H + 3) W w1 := hb1.mono hle
  have z1 := hW1.size
  have q10 := (hW1.cell (p := ⟨H + 1, 1, none⟩) (by dsimp only; omega)).trans c3
  have d2 := b2.below hW1 (by omega)
  have HB2 := Lib.hid d2
  have HB1 := Lib.hid hW1
  clear c0 c1 c2 c3 c4 b0 b1 b2 hb1 hW1 d2
  go_wp2_with (fail)
  obtain ⟨G, hG⟩ : ∃ G, G = w1.heap.size := ⟨_, rfl⟩
  obtain ⟨X, hX⟩ : ∃ X, X = w1.alloc (.cells #[.pointer q, .int .i64 m] 26) := ⟨_, rfl⟩
  rw [← hX, ← hG]
  have bx : Box X G 26 #[.pointer q, .int .i64 m] := by rw [hX]; exact Box.new _ _ _ G hG
  have hXz : X.heap.size = G + 1 := by rw [hX, hG]; simp
  have hX1 : Below w1.heap.size w1 X := by rw [hX]; exact (Below.refl _ w1).alloc (Nat.le_refl _) _
  have c0 : X.cell? ⟨G, 0, none⟩ = some (.pointer q) := bx.cell 0
  have c1 : X.cell? ⟨G, 1, none⟩ = some (.int .i64 m) := bx.cell 1
  have c3 : X.cell? ⟨H + 1, 1, none⟩ = some (.int .i64 k) := (hX1.cell (p := ⟨H + 1, 1, none⟩) (by dsimp only; omega)).trans q10
  have hHG : H + 3 ≤ G := by omega
  have hWX := HB1.out.trans (hX1.mono (by omega))
  have HWX := Lib.hid hWX
  have HX1 := Lib.hid hX1
  have hbq : (bb == bb) = true := by simp
  have hGX : G < X.heap.size := by omega
  have HG := Lib.hid hG
  have hg1 : ¬ G = H + 2 := by omega
  have hg2' : ¬ H + 2 = G := by omega
  have hw1G : w1.heap.size ≤ G := by omega
  clear hX hXz hX1 q10 bx hWX hG
  go_region_held3 (fun w' => w'.cell? ⟨G, 0, none⟩ = some (.pointer q) ∧ w'.cell? ⟨G, 1, none⟩ = some (.int .i64 m) ∧ w'.cell? ⟨H + 1, 1, none⟩ = some (.int .i64 k)) (first | go_keep)
    (first
      | (go_at_call 27; refine (HRef.out X.drew ((hSW.out.below HWX.out.drew).more (by simp; omega))).mono ?_; rintro e w2 ⟨r, rfl, hg2⟩; have hX2 : Below X.heap.size X w2 := (Below.refl _ X).drew.trans (hg2.2.mono (by simp)); have hW2 : Below (H + 3) W w2 := HWX.out.trans (hX2.mono (by omega)); have q20 := (hX2.cell (p := ⟨G, 0, none⟩) (by dsimp only; omega)).trans c0; have q21 := (hX2.cell (p := ⟨G, 1, none⟩) (by dsimp only; omega)).trans c1; have q22 := (hX2.cell (p := ⟨H + 1, 1, none⟩) (by dsimp only; omega)).trans c3; have z2 := hX2.size; have d2 := HB2.out.below (HX1.out.trans (hX2.mono (by omega))) (by omega); have f0 := d2.frozen 0; have f1 := d2.frozen 1; have r0 := d2.cell 0; have r1 := d2.cell 1))
  all_goals
    have hb3 : Box ((w2.setCell ⟨H + 2, 0, none⟩ (.pointer q)).setCell ⟨H + 2, 1, none⟩ (.int .i64 m)) (H + 2) 26 #[.pointer q, .int .i64 m] := d2.two _ _
    have x0 := hb3.cell 0
    have x1 := hb3.cell 1
    have hbw2 : Below H w w2 := HBW.out.trans (hW2.mono (by omega))
    have hfin := (hbw2.setCell (p := ⟨H + 2, 0, none⟩) (by dsimp only; omega) (.pointer q)).setCell (p := ⟨H + 2, 1, none⟩) (by dsimp only; omega) (.int .i64 m)
    have hown := hg2.1
    rw [HE.out, ← HM.out] at hown
    have hlies := hu.out.2.2.1.below (HX1.out.trans (hX2.mono (by omega)))
    have hkeep := keeps_set2 d2 (by decide) (by decide) 0 1 (.pointer q) (.int .i64 m)
    have hown2 := own_set_at (own_set_at (hown.mono (base' := H) (by simp; omega)) d2 (by decide) 0 (.pointer q)) (d2.set 0 _) (by decide) 1 (.int .i64 m)
    have HX := Lib.hid (And.intro hfin (And.intro hlies (And.intro hkeep hown2)))
    have HU := Lib.hid hu.out
    clear q20 q21 q22 d2 hb3 hbw2 hfin hown hlies hkeep hown2 hu hg2 c0 c1 c3 hX2 hW2
    go_wp2_with (fail)
    refine bodyPost_ret (v := .tuple #[.agg #[.pointer q, .int .i64 m], r, .bool true]) (by simp [results, Tryd.results11, go_sem, x0, x1]) rfl ?_
    refine ⟨u, q, r, rfl, ⟨HU.out.1, HU.out.2.1, ?_, HU.out.2.2.2⟩, ?_, ?_⟩
    · rw [World.size_setCell, World.size_setCell]
      exact (HX.out.2.1.more (by omega)).keep HX.out.2.2.1
    · rw [← HH.out]; exact HX.out.2.2.2
    · rw [← HH.out]; exact HX.out.1
end Go.Proofs.YtjlbchkdiaomjaaDoor.trie

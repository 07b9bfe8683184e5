/- A map laid over another one: Fold at the method's expression Put. -/
import Derived.Test.YtjlbchkdiaomjaaDoorTrieWorks
import Derived.Test.YtjlbchkdiaomjaaDoorOverAll
import Derived.RecoverIn
namespace Go.Proofs.YtjlbchkdiaomjaaDoor.trie
open Go.RowKit Go.Shelf mem tri mix

attribute [local go_sem] Oper.semAt_some

theorem overS_snoc (a b : List (Int × Int)) (q : Int × Int) : overS a (b ++ [q]) = putS (overS a b) q.1 q.2 := by unfold overS; rw [List.foldl_append]; rfl
theorem overS_up (a : List (Int × Int)) (h : Up a) : ∀ b, Up (overS a b) := by
  intro b
  unfold overS
  induction b generalizing a with
  | nil => exact h
  | cons q b ih => exact ih _ (putS_up a q.1 q.2 h)
/-- a map in its variable's box -/
def HoldsMap (g : Nat) (l : List (Int × Int)) (W : World) : Prop := ∃ u q m, Box W g 26 #[.pointer q, .int .i64 (m : Nat)] ∧ ptr u = .pointer q ∧ m = l.length ∧ MapOf u l ∧ Lies W.heap.size W u
theorem not_cells {A : World} {row : Option Nat} {g : Nat} {t : TypeId} {cs : Array Value} (h : A.heap[g]? = some (.cells cs t (0, 0))) (hr : ∀ r, row = some r → ∃ o : Obj, A.heap[r]? = some o ∧ o.isCells = false) : some g ≠ row := by
  intro e
  obtain ⟨o, ho, hc⟩ := hr g e.symm
  rw [h] at ho; cases ho; cases hc
theorem keeps_own {A B : World} {row : Option Nat} (hg : A.grownBy B row) (hr : ∀ r, row = some r → ∃ o : Obj, A.heap[r]? = some o ∧ o.isCells = false) : Keeps A B := fun k cs h => by
  have hlt : k < A.heap.size := by rcases h with h | h <;> exact (Array.getElem?_eq_some_iff.1 h).1
  refine hg.block k hlt ?_
  rcases h with h | h <;> exact not_cells h hr
theorem holdsMap_own {β : Type} (g : Nat) (f : β → List (Int × Int)) : Own (fun s W => HoldsMap g (f s) W) := by
  rintro s A B row ⟨u, q, m, hb, hp, hm, ho, hl⟩ hg hr
  exact ⟨u, q, m, hb.grown hg (not_cells hb hr), hp, hm, ho, (hl.keep (keeps_own hg hr)).more hg.size⟩
theorem box_own {β : Type} (g : Nat) (t : TypeId) (cs : Array Value) : Own (fun (_ : β) W => Box W g t cs) := by
  rintro s A B row hb hg hr
  exact Box.grown hb hg (not_cells hb hr)
/-- the call that is put off finds nothing to recover -/
theorem idleM_any (w : World) : CallsDIn Fence.wide 8 Tryd.prog 73 #[] .returning w fun e u' w' => e = .returned (.tuple #[]) ∧ u' = .returning ∧ w' = w := by
  refine callsDIn_of_wpSIn Tryd.func73 rfl trivial fun c₀ cs hu => ?_
  apply wpSIn_region
  simp [wpOpsSIn, go_sem, recoverD, hu, Tryd.ntmps73]
  cases c₀
  simp_all [bodyPostS, results, Tryd.results73]
def LaidPost (l : List (Int × Int)) (w : World) (e : Ending) (w' : World) : Prop := ∃ u q m, e = .returned (.agg #[.pointer q, .int .i64 (m : Nat)]) ∧ Hid (ptr u = .pointer q ∧ m = l.length ∧ MapOf u l ∧ Lies w'.heap.size w' u) ∧ Below w.heap.size w w'
set_option maxHeartbeats 2000000 in
set_option maxRecDepth 100000 in
theorem fold_maps (B N M : Nat) (t t2 : Tr) (p q : Option Addr) (hp : ptr t = .pointer p) (hq : ptr t2 = .pointer q) (L L2 : List (Int × Int)) (hN : N = L.length) (hM : M = L2.length) (w : World) (hB : B ≤ w.heap.size) (hT : Laid B w) (hk : ∀ x ∈ L, I64 x.1)
    (hm : MapOf t L) (hL : Lies w.heap.size w t) (hm2 : MapOf t2 L2) (hL2 : Lies w.heap.size w t2) (hl : N + M ≤ 1048000) :
    Calls Tryd.prog 61 #[.agg #[.pointer p, .int .i64 N], .agg #[.pointer q, .int .i64 M], .func (.func 38) #[] #[]] w (LaidPost (overS L2 L) w) := by
  have hf : Fence.wide.fn 61 := trivial
  have hf3 : Fence.wide.fn 43 := trivial
  obtain ⟨H, hH⟩ : ∃ H, H = w.heap.size := ⟨_, rfl⟩
  have HH := Lib.hid hH
  have HN := Lib.hid hN
  have HMM := Lib.hid hM
  have HP := Lib.hid hp
  have HQ := Lib.hid hq
  have HM := Lib.hid hm
  have HM2 := Lib.hid hm2
  have HL := Lib.hid hL
  have HL2 := Lib.hid hL2
  have HT := Lib.hid hT
  have HK := Lib.hid hk
  clear hN hM hp hq hm hL hm2 hL2 hT hk
  refine (callsIn_wide (n := 9)).1 ?_
  refine callsIn_of_wp_marks Tryd.func61 rfl hf ?_ rfl
  simp only [Tryd.ntmps61, List.size_toArray, List.length_cons, List.length_nil, Nat.reduceAdd, Nat.reduceSub, Array.replicate_succ, Array.replicate_zero, List.push_toArray, List.append_toArray, List.nil_append, List.cons_append]
  have hmf : ∀ (fn : Fn) (first cap : Array Value) (w : World), (Instr.makeFunc fn first cap).run Tryd.prog w = .ok (.func fn first cap) w := fun _ _ _ _ => rfl
  refine wpIn_wide.2 ?_
  go_wp2_with (go_at_call 21; refine (mall_any t N _ p).mono ?_; rintro e w' ⟨rfl, rfl⟩)
  have e1 : H + 1 + 1 = H + 2 := rfl
  have e2 : H + 1 + 1 + 1 = H + 3 := rfl
  have e3 : H + 1 + 1 + 1 + 1 = H + 4 := rfl
  obtain ⟨W, hW⟩ : ∃ W, W = (((((w.alloc (.cells #[.pointer p, .int .i64 N] 26)).alloc (.cells #[.pointer q, .int .i64 M] 26)).alloc (.cells #[.func (.func 38) #[] #[]] 96)).alloc (.cells #[.pointer none, .int .i64 0] 26)).alloc (.cells #[.pointer p, .int .i64 N] 26)) := ⟨_, rfl⟩
  rw [← hW, ← hH, e1, e2, e3]
  have b1 : Box W (H + 1) 26 #[.pointer q, .int .i64 M] := by rw [hW]; exact (((Box.new _ _ _ (H + 1) (by rw [hH]; simp)).alloc _).alloc _).alloc _
  have b2 : Box W (H + 2) 96 #[.func (.func 38) #[] #[]] := by rw [hW]; exact ((Box.new _ _ _ (H + 2) (by rw [hH]; simp)).alloc _).alloc _
  have b3 : Box W (H + 3) 26 #[.pointer none, .int .i64 0] := by rw [hW]; exact (Box.new _ _ _ (H + 3) (by rw [hH]; simp)).alloc _
  have b4 : Box W (H + 4) 26 #[.pointer p, .int .i64 N] := by rw [hW]; exact Box.new _ _ _ (H + 4) (by rw [hH]; simp)
  have hBW : Below H w W := by rw [hW, hH]; exact (((((Below.refl _ w).alloc (Nat.le_refl _) _).alloc (by simp) _).alloc (by simp; omega) _).alloc (by simp; omega) _).alloc (by simp; omega) _
  have hWz : W.heap.size = H + 5 := by rw [hW, hH]; simp
  have hLW : Hid (Lies W.heap.size W t) := by show Lies _ _ _; have h := HL.out; rw [← hH] at h; exact (h.below hBW).more (by omega)
  have hLW2 : Hid (Lies W.heap.size W t2) := by show Lies _ _ _; have h := HL2.out; rw [← hH] at h; exact (h.below hBW).more (by omega)
  have m0 : W.cell? ⟨H + 4, 0, none⟩ = some (.pointer p) := b4.cell 0
  have m1 : W.cell? ⟨H + 4, 1, none⟩ = some (.int .i64 L.length) := by rw [← HN.out]; exact b4.cell 1
  have h0 : HoldsMap (H + 1) L2 W := ⟨t2, q, M, b1, HQ.out, HMM.out, HM2.out, hLW2.out⟩
  have HBW := Lib.hid hBW
  have HWZ := Lib.hid hWz
  have hBH : B ≤ H := by rw [hH]; exact hB
  clear hW hH e1 e2 e3 b1 b4 hBW hWz
  refine (wpIn_wide (n := 9)).1 ?_
  refine wpIn_rangeFunc_ownG rfl (by decide) (gf := 43) (lb := #[.pointer (some ⟨H + 4, 0, none⟩)]) rfl hf3 (enters_of Tryd.func43 (by kernel_rfl) rfl)
    (all_stops_kp 8 (H + 4) (by decide) t p L _ HP.out HM.out HK.out (by rw [← HN.out]; omega) (by rw [HWZ.out]; omega) m0 m1 hLW.out) (fun h1 h2 => KeepP.trans h1 h2) (fun W' l o o' h1 h2 h3 h4 => KeepP.put (w := W) W' l o o' h1 h2 h3 h4) (Below.refl _ _) (fun _ => rfl)
    (fun (pre : List KP) (W' : World) => ((HoldsMap (H + 1) (overS L2 (vals pre)) W' ∧ Box W' (H + 2) 96 #[.func (.func 38) #[] #[]]) ∧ Box W' (H + 3) 26 #[.pointer none, .int .i64 0]) ∧ Below H w W')
    (fun _ _ _ => False)
    (OwnFrom.and (OwnFrom.and (OwnFrom.and (Own.from (holdsMap_own (H + 1) (fun pre : List KP => overS L2 (vals pre))) _) (Own.from (box_own _ _ _) _)) (Own.from (box_own _ _ _) _)) (ownFrom_below (by rw [HH.out]; exact Nat.le_refl _) (by rw [HWZ.out]; omega)))
    (fun _ _ _ _ _ hs _ _ => hs)
    ⟨⟨⟨h0, b2⟩, b3⟩, HBW.out⟩
    (fun x => { tmps := #[.agg #[.pointer p, .int .i64 N], .agg #[.pointer q, .int .i64 M], .func (.func 38) #[] #[], .pointer (some ⟨H, 0, none⟩), .pointer (some ⟨H + 1, 0, none⟩), .pointer (some ⟨H + 2, 0, none⟩), .pointer (some ⟨H + 3, 0, none⟩), .int .i64 x.1.1, .int .i64 x.1.2, .agg #[.pointer p, .int .i64 N], .func (.func 43) #[] #[.pointer (some ⟨H + 4, 0, none⟩)], .int .i64 x.1.1, .int .i64 x.1.2, undef, undef, undef, undef, undef, undef], defers := [] }) ?assign ?body ?done ?stop
  case assign =>
    intro l x W K hK
    gi_wp2
    exact hK
  case body =>
    rintro l pre ⟨⟨kx, vx⟩, hkx⟩ W5 ⟨⟨⟨⟨u, r, m, hb, hu, hml, hmo, hli⟩, hfb⟩, hrb⟩, hB⟩ hlt
    have hz5 := hB.size
    obtain ⟨acc, hacc⟩ : ∃ acc, acc = overS L2 (vals pre) := ⟨_, rfl⟩
    have hsn := overS_snoc L2 (vals pre) (kx, vx)
    rw [← hacc] at hml hmo hsn
    have hlen : acc.length ≤ 1048000 := by rw [hacc]; have := overS_len (vals pre) L2; rw [vals_length] at this; have := HN.out; have := HMM.out; omega
    obtain ⟨m2, hm2⟩ : ∃ m2, m2 = (putS acc kx vx).length := ⟨_, rfl⟩
    have c0 : W5.cell? ⟨H + 1, 0, none⟩ = some (.pointer r) := hb.cell 0
    have c1 : W5.cell? ⟨H + 1, 1, none⟩ = some (.int .i64 m) := hb.cell 1
    have c2 : W5.cell? ⟨H + 2, 0, none⟩ = some (.func (.func 38) #[] #[]) := hfb.cell 0
    have hblt := hb.lt
    have HPut := Lib.hid (mput_at B m m2 u r hu acc (putS acc kx vx) hml kx vx W5 (by rw [← HH.out] at hz5; omega) (HT.out.on (hB.mono hBH)) hkx hmo hli (by omega) rfl hm2)
    have HSn := Lib.hid hsn
    have HM22 := Lib.hid hm2
    have HB5 := Lib.hid hb
    have HF5 := Lib.hid hfb
    have HR5 := Lib.hid hrb
    have HBe := Lib.hid hB
    clear m0 m1 b2 b3 h0 hb hu hml hmo hli hfb hrb hB hlt hsn hm2 hacc hlen
    gi_wp2_with (fail)
    refine ⟨trivial, ?_⟩
    refine (CallsIn.inRound l (callsIn_wide.2 HPut.out)).mono ?_
    rintro e w6 ⟨u2, r2, rfl, hu2, hb6⟩
    have g1 := HB5.out.below hb6 hblt
    have z0 := g1.frozen 0
    have z1 := g1.frozen 1
    have z2 : w6.cell? ⟨H + 1, 0, none⟩ = some (.pointer r) := g1.cell 0
    have z3 : w6.cell? ⟨H + 1, 1, none⟩ = some (.int .i64 m) := g1.cell 1
    have k2 := keeps_set2 g1 (by decide) (by decide) 0 1 (.pointer r2) (.int .i64 m2)
    have hkp : KeepP W5 ((w6.setCell ⟨H + 1, 0, none⟩ (.pointer r2)).setCell ⟨H + 1, 1, none⟩ (.int .i64 m2)) := ((KeepP.below hb6 (Nat.le_refl _)).trans (KeepP.set g1 (by decide) 0 _)).trans (KeepP.set (g1.set 0 _) (by decide) 1 _)
    have hko : KeepsOthers W5 ((w6.setCell ⟨H + 1, 0, none⟩ (.pointer r2)).setCell ⟨H + 1, 1, none⟩ (.int .i64 m2)) := ((KeepsOthers.of_grownBy (grown_none hb6) (fun j o e => by cases e)).trans (KeepsOthers.setCell _ _ _)).trans (KeepsOthers.setCell _ _ _)
    have hli2 := hu2.out.2.2.1.keep k2
    have hhold : HoldsMap (H + 1) (overS L2 (vals (pre ++ [⟨(kx, vx), hkx⟩]))) ((w6.setCell ⟨H + 1, 0, none⟩ (.pointer r2)).setCell ⟨H + 1, 1, none⟩ (.int .i64 m2)) := by
      rw [vals_snoc, HSn.out]
      refine ⟨u2, r2, m2, g1.two _ _, hu2.out.1, HM22.out, hu2.out.2.1, ?_⟩
      rw [World.size_setCell, World.size_setCell]; exact hli2
    have hf7 : Box ((w6.setCell ⟨H + 1, 0, none⟩ (.pointer r2)).setCell ⟨H + 1, 1, none⟩ (.int .i64 m2)) (H + 2) 96 #[.func (.func 38) #[] #[]] := ((HF5.out.below hb6 HF5.out.lt).far (by dsimp only; omega) _).far (by dsimp only; omega) _
    have hr7 : Box ((w6.setCell ⟨H + 1, 0, none⟩ (.pointer r2)).setCell ⟨H + 1, 1, none⟩ (.int .i64 m2)) (H + 3) 26 #[.pointer none, .int .i64 0] := ((HR5.out.below hb6 HR5.out.lt).far (by dsimp only; omega) _).far (by dsimp only; omega) _
    have hb7 : Below H w ((w6.setCell ⟨H + 1, 0, none⟩ (.pointer r2)).setCell ⟨H + 1, 1, none⟩ (.int .i64 m2)) := ((HBe.out.trans (hb6.mono (by rw [← HH.out] at hz5; omega))).setCell (p := ⟨H + 1, 0, none⟩) (by dsimp only; omega) _).setCell (p := ⟨H + 1, 1, none⟩) (by dsimp only; omega) _
    have HX := Lib.hid (And.intro hko (And.intro hkp (And.intro hhold (And.intro hf7 (And.intro hr7 hb7)))))
    clear k2 hkp hko hli2 hhold hf7 hr7 hb7 g1 hb6 hu2 c0 c1 c2
    gi_wp2_with (fail)
    exact ⟨HX.out.1.from _, HX.out.2.1, ⟨⟨HX.out.2.2.1, HX.out.2.2.2.1⟩, HX.out.2.2.2.2.1⟩, HX.out.2.2.2.2.2⟩
  case done =>
    rintro D ys W5 hD hys ⟨⟨⟨⟨u, r, m, hb, hu, hml, hmo, hli⟩, hfb⟩, hrb⟩, hB⟩ hK
    have hz5 := hB.size
    have c0 : W5.cell? ⟨H + 1, 0, none⟩ = some (.pointer r) := hb.cell 0
    have c1 : W5.cell? ⟨H + 1, 1, none⟩ = some (.int .i64 m) := hb.cell 1
    have d0 : W5.cell? ⟨H + 3, 0, none⟩ = some (.pointer none) := hrb.cell 0
    have d1 : W5.cell? ⟨H + 3, 1, none⟩ = some (.int .i64 0) := hrb.cell 1
    have f0 := hrb.frozen 0
    have f1 := hrb.frozen 1
    have hY : Hid (overS L2 (vals ys) = overS L2 L) := by show _ = _; rw [hys]
    have HU : Hid (ptr u = .pointer r ∧ m = (overS L2 (vals ys)).length ∧ MapOf u (overS L2 (vals ys)) ∧ Lies W5.heap.size W5 u) := ⟨hu, hml, hmo, hli⟩
    have HR5 := Lib.hid hrb
    have HBe := Lib.hid hB
    have HK' := Lib.hid hK
    have hD1 : H + 5 ≤ D := by have := HWZ.out; omega
    clear m0 m1 b2 b3 h0 hb hu hml hmo hli hfb hrb hB hys hK
    go_wp2_with (fail)
    have hr6 := HR5.out.two (.pointer r) (.int .i64 m)
    have hKL : ((W5.setCell ⟨H + 3, 0, none⟩ (.pointer r)).setCell ⟨H + 3, 1, none⟩ (.int .i64 m)).heap[D]? = some (.deferred (some [])) := (Below.heap_setCell _ _ _ D (by dsimp only; omega)).trans ((Below.heap_setCell _ _ _ D (by dsimp only; omega)).trans HK'.out)
    have hD6 : D < ((W5.setCell ⟨H + 3, 0, none⟩ (.pointer r)).setCell ⟨H + 3, 1, none⟩ (.int .i64 m)).heap.size := (Array.getElem?_eq_some_iff.1 hKL).1
    have hput : Below D ((W5.setCell ⟨H + 3, 0, none⟩ (.pointer r)).setCell ⟨H + 3, 1, none⟩ (.int .i64 m)) (((W5.setCell ⟨H + 3, 0, none⟩ (.pointer r)).setCell ⟨H + 3, 1, none⟩ (.int .i64 m)).putObj D (.deferred none)) := (Below.refl D _).grown (grownBy_putObj' _ D _) (Nat.le_of_lt hD6) (fun k e => by cases e; exact Nat.le_refl _)
    have hb6 : Below H w ((W5.setCell ⟨H + 3, 0, none⟩ (.pointer r)).setCell ⟨H + 3, 1, none⟩ (.int .i64 m)) := (HBe.out.setCell (p := ⟨H + 3, 0, none⟩) (by dsimp only; omega) _).setCell (p := ⟨H + 3, 1, none⟩) (by dsimp only; omega) _
    have r0 := (hr6.below hput (by omega)).cell 0
    have r1 := (hr6.below hput (by omega)).cell 1
    have hkeep := (keeps_set2 HR5.out (by decide) (by decide) 0 1 (.pointer r) (.int .i64 m)).trans (keeps_own (grownBy_putObj' ((W5.setCell ⟨H + 3, 0, none⟩ (.pointer r)).setCell ⟨H + 3, 1, none⟩ (.int .i64 m)) D (.deferred none)) (fun k e => by cases e; exact ⟨_, hKL, rfl⟩))
    have hlf := HU.out.2.2.2.keep hkeep
    refine ⟨by simp, .inl ⟨_, _, rfl, run_takeDeferred hKL, ?_⟩⟩
    refine ⟨by simp, .inr ⟨by simp [Fence.wide], _, _, 73, #[], rfl, by simp [go_sem], fun _ _ => trivial, ?_⟩⟩
    refine (idleM_any _).mono ?_
    rintro e u' w'' ⟨rfl, rfl, rfl⟩
    refine ⟨.agg #[.pointer r, .int .i64 m], by simp [results, Tryd.results61, go_sem, r0, r1], u, r, m, rfl, ?_, ?_⟩
    · rw [← hY.out]
      refine ⟨HU.out.1, HU.out.2.1, HU.out.2.2.1, hlf.more ?_⟩
      have := hput.size
      rw [World.size_setCell, World.size_setCell] at this
      exact this
    · rw [← HH.out]; exact hb6.trans (hput.mono (by omega))
  case stop =>
    rintro D c pre W _ _ h _
    exact h.elim
end Go.Proofs.YtjlbchkdiaomjaaDoor.trie

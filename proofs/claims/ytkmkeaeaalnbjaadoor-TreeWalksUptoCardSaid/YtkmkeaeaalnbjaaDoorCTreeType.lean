/- The package's Type; what a sort is asked with. -/
import Derived.Test.YtkmkeaeaalnbjaaDoorCTreeAre
import Derived.Test.YtkmkeaeaalnbjaaDoorCTreeSorts
namespace Go.Proofs.YtkmkeaeaalnbjaaDoor.nt
open Go.RowKit mem wd lx
open vt (I64 own_form)

theorem fns_nil (w : World) : FnsIn w [] (.slice none 0 0) := ⟨none, 0, rfl, fun h => absurd h (by simp)⟩
abbrev FnT : TypeId := 28
theorem fns_at (w : World) (l : List Value) (Fs : List FuncId) (hl : l = Fs.map fun F => Value.func (.func F) #[] #[]) (b : Nat) (hb : b = w.heap.size) : FnsIn (w.alloc (.cells l.toArray FnT)) Fs (.slice (some ⟨b, 0, none⟩) Fs.length Fs.length) :=
  ⟨_, _, rfl, fun _ => ⟨_, _, rfl, fun i hi => by
    have hb : Box (w.alloc (.cells l.toArray FnT)) b FnT l.toArray := Box.new w FnT _ _ hb
    have := hb.cell i
    rw [Nat.zero_add, this, hl]
    simp [hi]⟩⟩
/-- what the sorts are asked with: an argument, and all that is known of its kids -/
structure Ask (G : Nat → Prop) (w W : World) (H : Nat) (k a n : Int) (nm : List UInt8) (l : List NT) (A : Option Addr) (cap : Nat) : Prop where
  hW : W = w.alloc (.cells #[.int .i64 k, .int .i64 a, .int .i64 n, .string ⟨nm.toArray⟩, .slice A l.length cap] NodeT)
  hH : H = w.heap.size
  cells : W.cell? ⟨H, 0, none⟩ = some (.int .i64 k) ∧ W.cell? ⟨H, 1, none⟩ = some (.int .i64 a) ∧ W.cell? ⟨H, 2, none⟩ = some (.int .i64 n) ∧ W.cell? ⟨H, 3, none⟩ = some (.string ⟨nm.toArray⟩) ∧ W.cell? ⟨H, 4, none⟩ = some (.slice A l.length cap)
  bel : Below w.heap.size w W
  lt : H < W.heap.size
  kids : Kids G W l (.slice A l.length cap)
  ld : wd.LD W
  hd : Hd (.mk k a n nm l)
theorem ask_of {G : Nat → Prop} {w : World} {k a n : Int} {nm : List UInt8} {l : List NT} {A : Option Addr} {cap : Nat} (hd : Hd (.mk k a n nm l)) (hL : wd.LD w) (h : Kids G w l (.slice A l.length cap)) : ∃ W H, Ask G w W H k a n nm l A cap := by
  obtain ⟨x, HB, HHW⟩ := boxed (w := w) (k := k) (a := a) (n := n) (s := nm) (v := .slice A l.length cap) rfl rfl
  exact ⟨_, _, rfl, rfl, x, HB.out, HHW.out, h.below HB.out, hL.on HB.out, hd⟩
section
variable {G : Nat → Prop} {w W w' : World} {H : Nat} {k a n : Int} {nm : List UInt8} {l : List NT} {A : Option Addr} {cap : Nat}
theorem Ask.on (h : Ask G w W H k a n nm l A cap) (hb : Below W.heap.size W w') :
    w'.cell? ⟨H, 0, none⟩ = some (.int .i64 k) ∧ w'.cell? ⟨H, 1, none⟩ = some (.int .i64 a) ∧ w'.cell? ⟨H, 2, none⟩ = some (.int .i64 n) ∧ w'.cell? ⟨H, 3, none⟩ = some (.string ⟨nm.toArray⟩) ∧ w'.cell? ⟨H, 4, none⟩ = some (.slice A l.length cap) := boxed_on h.cells h.lt hb
/-- the two heads -/
theorem Ask.bare (_ : Ask G w W H k a n nm l A cap) (hb : Below W.heap.size W w') (v : Value) :
    Calls Tryd.prog 25 #[.agg #[.int .i64 k, .int .i64 a, .int .i64 n, .string ⟨nm.toArray⟩, v]] w' fun e w'' => e = .returned (.bool (aloneN n nm)) ∧ Below W.heap.size W w'' :=
  (pbare_any (.mk k a n nm l) v w').mono fun _ _ ⟨h1, h2⟩ => ⟨h1, hb.trans (h2.mono hb.size)⟩
theorem Ask.named (h : Ask G w W H k a n nm l A cap) (hb : Below W.heap.size W w') (v : Value) :
    Calls Tryd.prog 27 #[.agg #[.int .i64 k, .int .i64 a, .int .i64 n, .string ⟨nm.toArray⟩, v]] w' fun e w'' => e = .returned (.bool (nmN n nm)) ∧ Below W.heap.size W w'' :=
  (pnamed_any (.mk k a n nm l) h.hd v w' (h.ld.on hb)).mono fun _ _ ⟨h1, h2⟩ => ⟨h1, hb.trans (h2.mono hb.size)⟩
/-- a row of sorts -/
theorem Ask.are (h : Ask G w W H k a n nm l A cap) (hb : Below W.heap.size W w') (Fs : List FuncId) (ps : List (NT → Bool)) (hlen : Fs.length = ps.length) (hn : Fs.length ≤ 8) (hE : ∀ F ∈ Fs, IsFn F)
    (hf : ∀ (i : Nat) (hi : i < l.length) (hj : i < Fs.length) (hp : i < ps.length), SortOf Fs[i] ps[i] l[i]) (v : Value) (hv : FnsIn w' Fs v) :
    Calls Tryd.prog 26 #[.slice A l.length cap, v] w' fun e w'' => e = .returned (.bool (areP l ps)) ∧ Below W.heap.size W w'' :=
  (pare_any G l Fs ps hlen hE hf hn _ v w' (h.ld.on hb) (h.kids.below hb) hv).mono fun _ _ ⟨h1, h2⟩ => ⟨h1, hb.trans (h2.mono hb.size)⟩
theorem Ask.are_new (h : Ask G w W H k a n nm l A cap) (hb : Below W.heap.size W w') (Fs : List FuncId) (ps : List (NT → Bool)) (hlen : Fs.length = ps.length) (hn : Fs.length ≤ 8) (hE : ∀ F ∈ Fs, IsFn F)
    (hf : ∀ (i : Nat) (hi : i < l.length) (hj : i < Fs.length) (hp : i < ps.length), SortOf Fs[i] ps[i] l[i]) :
    Calls Tryd.prog 26 #[.slice A l.length cap, .slice (some ⟨w'.heap.size, 0, none⟩) Fs.length Fs.length] (w'.alloc (.cells (Fs.map fun F => Value.func (.func F) #[] #[]).toArray FnT)) fun e w'' => e = .returned (.bool (areP l ps)) ∧ Below W.heap.size W w'' :=
  h.are (hb.alloc hb.size _) Fs ps hlen hn hE hf _ (fns_at w' _ Fs rfl _ rfl)
theorem Ask.all (h : Ask G w W H k a n nm l A cap) (hb : Below W.heap.size W w') (F : FuncId) (p : NT → Bool) (hE : IsFn F) (hf : ∀ u ∈ l, SortOf F p u) :
    Calls Tryd.prog 29 #[.slice A l.length cap, .func (.func F) #[] #[]] w' fun e w'' => e = .returned (.bool (l.all p)) ∧ Below W.heap.size W w'' :=
  (pall_any G l F p hE hf _ w' (h.ld.on hb) (h.kids.below hb)).mono fun _ _ ⟨h1, h2⟩ => ⟨h1, hb.trans (h2.mono hb.size)⟩
end
section
variable {l : List NT} {F0 F1 F2 F3 : FuncId} {p0 p1 p2 p3 : NT → Bool}
theorem row1 (h0 : ∀ u ∈ l, SortOf F0 p0 u) : ∀ (i : Nat) (hi : i < l.length) (_ : i < [F0].length) (hp : i < [p0].length), SortOf [F0][i] [p0][i] l[i]
  | 0, hi, _, _ => h0 _ (List.getElem_mem hi)
theorem row2 (h0 : ∀ u ∈ l, SortOf F0 p0 u) (h1 : ∀ u ∈ l, SortOf F1 p1 u) : ∀ (i : Nat) (hi : i < l.length) (_ : i < [F0, F1].length) (hp : i < [p0, p1].length), SortOf [F0, F1][i] [p0, p1][i] l[i]
  | 0, hi, _, _ => h0 _ (List.getElem_mem hi)
  | 1, hi, _, _ => h1 _ (List.getElem_mem hi)
theorem row3 (h0 : ∀ u ∈ l, SortOf F0 p0 u) (h1 : ∀ u ∈ l, SortOf F1 p1 u) (h2 : ∀ u ∈ l, SortOf F2 p2 u) : ∀ (i : Nat) (hi : i < l.length) (_ : i < [F0, F1, F2].length) (hp : i < [p0, p1, p2].length), SortOf [F0, F1, F2][i] [p0, p1, p2][i] l[i]
  | 0, hi, _, _ => h0 _ (List.getElem_mem hi)
  | 1, hi, _, _ => h1 _ (List.getElem_mem hi)
  | 2, hi, _, _ => h2 _ (List.getElem_mem hi)
theorem row4 (h0 : ∀ u ∈ l, SortOf F0 p0 u) (h1 : ∀ u ∈ l, SortOf F1 p1 u) (h2 : ∀ u ∈ l, SortOf F2 p2 u) (h3 : ∀ u ∈ l, SortOf F3 p3 u) : ∀ (i : Nat) (hi : i < l.length) (_ : i < [F0, F1, F2, F3].length) (hp : i < [p0, p1, p2, p3].length), SortOf [F0, F1, F2, F3][i] [p0, p1, p2, p3][i] l[i]
  | 0, hi, _, _ => h0 _ (List.getElem_mem hi)
  | 1, hi, _, _ => h1 _ (List.getElem_mem hi)
  | 2, hi, _, _ => h2 _ (List.getElem_mem hi)
  | 3, hi, _, _ => h3 _ (List.getElem_mem hi)
end
theorem isf_typ : IsFn 10 := Go.Proofs.enters_of Tryd.func10 (by kernel_rfl) rfl
set_option maxHeartbeats 1000000 in
theorem ptyp_mk (k a n : Int) (nm : List UInt8) (l : List NT) (ih : ∀ u ∈ l, SortOf 10 NT.typ u) : SortOf 10 NT.typ (.mk k a n nm l) := by
  intro G hd s w hL h
  change Kids G w l s at h
  obtain ⟨A, cap, rfl, hl⟩ := h.form
  show Calls Tryd.prog 10 #[.agg #[.int .i64 k, .int .i64 a, .int .i64 n, .string ⟨nm.toArray⟩, .slice A l.length cap]] w fun e w' => e = .returned (.bool (NT.typ (NT.mk k a n nm l))) ∧ Below w.heap.size w w'
  obtain ⟨W, H, hA⟩ := ask_of hd hL h
  have HA := Lib.hid hA
  have HW := Lib.hid hA.hW
  have HHH := Lib.hid hA.hH
  have HB := Lib.hid hA.bel
  obtain ⟨x0, x1, x2, x3, x4⟩ := hA.cells
  have HX : Hid (∀ w', Below W.heap.size W w' → _) := Lib.hid fun w' hb => HA.out.on (w' := w') hb
  have HB0 : Hid (Below W.heap.size W W) := Lib.hid (Below.refl _ _)
  have HBARE : Hid (∀ w', Below W.heap.size W w' → _) := Lib.hid fun w' hb => HA.out.bare (w' := w') hb (.slice A l.length cap)
  have HNAMED : Hid (∀ w', Below W.heap.size W w' → _) := Lib.hid fun w' hb => HA.out.named (w' := w') hb (.slice A l.length cap)
  have HR0 : Hid (∀ w', Below W.heap.size W w' → Calls Tryd.prog 26 #[.slice A l.length cap, .slice none 0 0] w' fun e w'' => e = .returned (.bool (areP l [])) ∧ Below W.heap.size W w'') := Lib.hid fun w' hb => HA.out.are (w' := w') hb [] [] rfl (by simp) (by simp) (by simp) _ (fns_nil _)
  have HR1 : Hid (∀ w', Below W.heap.size W w' → Calls Tryd.prog 26 #[.slice A l.length cap, .slice (some ⟨w'.heap.size, 0, none⟩) 1 1] (w'.alloc (.cells #[.func (.func 10) #[] #[]] FnT)) fun e w'' => e = .returned (.bool (areP l [NT.typ])) ∧ Below W.heap.size W w'') := Lib.hid fun w' hb => HA.out.are_new (w' := w') hb [10] [NT.typ] rfl (by simp) (by simp [isf_typ]) (row1 (ih))
  obtain ⟨R, hR⟩ : ∃ R, R = NT.typ (NT.mk k a n nm l) := ⟨_, rfl⟩
  rw [← hR]
  obtain ⟨N, hN⟩ : ∃ N, N = l.length := ⟨_, rfl⟩
  rw [← hN] at x4 hl HW HX HBARE HNAMED HR0 HR1 ⊢
  obtain ⟨al, hal⟩ : ∃ al, al = aloneN n nm := ⟨_, rfl⟩
  rw [← hal] at HBARE
  obtain ⟨nb, hnb⟩ : ∃ nb, nb = nmN n nm := ⟨_, rfl⟩
  rw [← hnb] at HNAMED
  obtain ⟨rr0, hrr0⟩ : ∃ rr0, rr0 = areP l [] := ⟨_, rfl⟩
  rw [← hrr0] at HR0
  obtain ⟨rr1, hrr1⟩ : ∃ rr1, rr1 = areP l [NT.typ] := ⟨_, rfl⟩
  rw [← hrr1] at HR1
  have HN := Lib.hid hN
  clear hN hA hL h hd
  by_cases c1 : k = 1
  · subst c1
    have HR : Hid (R = _) := Lib.hid (hR.trans (typ_bare (by omega)))
    rw [← hal, ← hrr0] at HR
    clear hR hal hnb hrr0 hrr1 
    cases al
    · go_enter Tryd.func10, Tryd.ntmps10
      go_wp2_with (first | (rw [← HW.out, ← HHH.out]) | (go_at_call 25; (with_reducible refine (HBARE.out W HB0.out).mono ?_); rintro e w1 ⟨rfl, hb1⟩; obtain ⟨y10, y11, y12, y13, y14⟩ := HX.out w1 hb1))
      go_ret
      exact ⟨by rw [HR.out]; rfl, HB.out.trans (hb1.mono HB.out.size)⟩
    · go_enter Tryd.func10, Tryd.ntmps10
      go_wp2_with (first | (rw [← HW.out, ← HHH.out]) | (go_at_call 25; (with_reducible refine (HBARE.out W HB0.out).mono ?_); rintro e w1 ⟨rfl, hb1⟩; obtain ⟨y10, y11, y12, y13, y14⟩ := HX.out w1 hb1) | (go_at_call 26; (with_reducible refine (HR0.out w1 hb1).mono ?_); rintro e w2 ⟨rfl, hb2⟩; obtain ⟨y20, y21, y22, y23, y24⟩ := HX.out w2 hb2))
      go_ret
      exact ⟨by rw [HR.out]; rfl, HB.out.trans (hb2.mono HB.out.size)⟩
  have d1 : (k == 1) = false := beq_eq_false_iff_ne.2 c1
  by_cases c2 : k = 2
  · subst c2
    have HR : Hid (R = _) := Lib.hid (hR.trans (typ_bare (by omega)))
    rw [← hal, ← hrr0] at HR
    clear hR hal hnb hrr0 hrr1 
    cases al
    · go_enter Tryd.func10, Tryd.ntmps10
      go_wp2_with (first | (rw [← HW.out, ← HHH.out]) | (go_at_call 25; (with_reducible refine (HBARE.out W HB0.out).mono ?_); rintro e w1 ⟨rfl, hb1⟩; obtain ⟨y10, y11, y12, y13, y14⟩ := HX.out w1 hb1))
      go_ret
      exact ⟨by rw [HR.out]; rfl, HB.out.trans (hb1.mono HB.out.size)⟩
    · go_enter Tryd.func10, Tryd.ntmps10
      go_wp2_with (first | (rw [← HW.out, ← HHH.out]) | (go_at_call 25; (with_reducible refine (HBARE.out W HB0.out).mono ?_); rintro e w1 ⟨rfl, hb1⟩; obtain ⟨y10, y11, y12, y13, y14⟩ := HX.out w1 hb1) | (go_at_call 26; (with_reducible refine (HR0.out w1 hb1).mono ?_); rintro e w2 ⟨rfl, hb2⟩; obtain ⟨y20, y21, y22, y23, y24⟩ := HX.out w2 hb2))
      go_ret
      exact ⟨by rw [HR.out]; rfl, HB.out.trans (hb2.mono HB.out.size)⟩
  have d2 : (k == 2) = false := beq_eq_false_iff_ne.2 c2
  by_cases c3 : k = 3
  · subst c3
    have HR : Hid (R = _) := Lib.hid (hR.trans (typ_bare (by omega)))
    rw [← hal, ← hrr0] at HR
    clear hR hal hnb hrr0 hrr1 
    cases al
    · go_enter Tryd.func10, Tryd.ntmps10
      go_wp2_with (first | (rw [← HW.out, ← HHH.out]) | (go_at_call 25; (with_reducible refine (HBARE.out W HB0.out).mono ?_); rintro e w1 ⟨rfl, hb1⟩; obtain ⟨y10, y11, y12, y13, y14⟩ := HX.out w1 hb1))
      go_ret
      exact ⟨by rw [HR.out]; rfl, HB.out.trans (hb1.mono HB.out.size)⟩
    · go_enter Tryd.func10, Tryd.ntmps10
      go_wp2_with (first | (rw [← HW.out, ← HHH.out]) | (go_at_call 25; (with_reducible refine (HBARE.out W HB0.out).mono ?_); rintro e w1 ⟨rfl, hb1⟩; obtain ⟨y10, y11, y12, y13, y14⟩ := HX.out w1 hb1) | (go_at_call 26; (with_reducible refine (HR0.out w1 hb1).mono ?_); rintro e w2 ⟨rfl, hb2⟩; obtain ⟨y20, y21, y22, y23, y24⟩ := HX.out w2 hb2))
      go_ret
      exact ⟨by rw [HR.out]; rfl, HB.out.trans (hb2.mono HB.out.size)⟩
  have d3 : (k == 3) = false := beq_eq_false_iff_ne.2 c3
  by_cases c4 : k = 4
  · subst c4
    have HR : Hid (R = _) := Lib.hid (hR.trans (typ_4))
    rw [← hnb, ← hrr0] at HR
    clear hR hal hnb hrr0 hrr1 
    cases nb
    · go_enter Tryd.func10, Tryd.ntmps10
      go_wp2_with (first | (rw [← HW.out, ← HHH.out]) | (go_at_call 27; (with_reducible refine (HNAMED.out W HB0.out).mono ?_); rintro e w1 ⟨rfl, hb1⟩; obtain ⟨y10, y11, y12, y13, y14⟩ := HX.out w1 hb1))
      go_ret
      exact ⟨by rw [HR.out]; rfl, HB.out.trans (hb1.mono HB.out.size)⟩
    · go_enter Tryd.func10, Tryd.ntmps10
      go_wp2_with (first | (rw [← HW.out, ← HHH.out]) | (go_at_call 27; (with_reducible refine (HNAMED.out W HB0.out).mono ?_); rintro e w1 ⟨rfl, hb1⟩; obtain ⟨y10, y11, y12, y13, y14⟩ := HX.out w1 hb1) | (go_at_call 26; (with_reducible refine (HR0.out w1 hb1).mono ?_); rintro e w2 ⟨rfl, hb2⟩; obtain ⟨y20, y21, y22, y23, y24⟩ := HX.out w2 hb2))
      go_ret
      exact ⟨by rw [HR.out]; rfl, HB.out.trans (hb2.mono HB.out.size)⟩
  have d4 : (k == 4) = false := beq_eq_false_iff_ne.2 c4
  by_cases c5 : k = 5
  · subst c5
    have HR : Hid (R = _) := Lib.hid (hR.trans (typ_5))
    rw [← hal, ← hrr1] at HR
    clear hR hal hnb hrr0 hrr1 
    cases al
    · go_enter Tryd.func10, Tryd.ntmps10
      go_wp2_with (first | (rw [← HW.out, ← HHH.out]) | (go_at_call 25; (with_reducible refine (HBARE.out W HB0.out).mono ?_); rintro e w1 ⟨rfl, hb1⟩; obtain ⟨y10, y11, y12, y13, y14⟩ := HX.out w1 hb1))
      go_ret
      exact ⟨by rw [HR.out]; rfl, HB.out.trans (hb1.mono HB.out.size)⟩
    · go_enter Tryd.func10, Tryd.ntmps10
      go_wp2_with (first | (rw [← HW.out, ← HHH.out]) | (go_at_call 25; (with_reducible refine (HBARE.out W HB0.out).mono ?_); rintro e w1 ⟨rfl, hb1⟩; obtain ⟨y10, y11, y12, y13, y14⟩ := HX.out w1 hb1) | (go_at_call 26; (with_reducible refine (HR1.out w1 hb1).mono ?_); rintro e w2 ⟨rfl, hb2⟩; obtain ⟨y20, y21, y22, y23, y24⟩ := HX.out w2 hb2))
      go_ret
      exact ⟨by rw [HR.out]; rfl, HB.out.trans (hb2.mono HB.out.size)⟩
  have d5 : (k == 5) = false := beq_eq_false_iff_ne.2 c5
  have HR : Hid (R = false) := Lib.hid (hR.trans (typ_no c1 c2 c3 c4 c5))
  clear hR hal hnb hrr0 hrr1
  go_enter Tryd.func10, Tryd.ntmps10
  go_wp2_with (first | (rw [← HW.out, ← HHH.out]))
  go_ret
  exact ⟨by rw [HR.out]; rfl, HB.out⟩
theorem ptyp_of (t : NT) : SortOf 10 NT.typ t := by
  induction t using NT.ind with
  | h k a n nm l ih => exact ptyp_mk k a n nm l ih
end Go.Proofs.YtkmkeaeaalnbjaaDoor.nt

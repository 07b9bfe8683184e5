/- The document's own answers: which nodes are places. -/
import Derived.Test.YtkmkeaeaalnbjaaDoorCNodeExpr
namespace Go.Proofs.YtkmkeaeaalnbjaaDoor.nt
open Go.RowKit mem wd lx
open vt (I64 own_form)

/-- what is known of one of the kids, behind whatever came since -/
theorem kid_all {G : Nat → Prop} {W : World} {l : List NT} {A : Option Addr} {N cap : Nat} (h : Kids G W l (.slice A N cap)) (i : Nat) (hi : i < l.length) :
    ∃ b off A2 c2, A = some ⟨b, off, none⟩ ∧ Hd l[i] ∧ ∀ w', Below W.heap.size W w' →
      (w'.cell? ⟨b, off + i * 5, none⟩ = some (.int .i64 l[i].kind) ∧ w'.cell? ⟨b, off + i * 5 + 1, none⟩ = some (.int .i64 l[i].at_) ∧ w'.cell? ⟨b, off + i * 5 + 2, none⟩ = some (.int .i64 l[i].num) ∧ w'.cell? ⟨b, off + i * 5 + 3, none⟩ = some (.string ⟨l[i].name.toArray⟩) ∧ w'.cell? ⟨b, off + i * 5 + 4, none⟩ = some (.slice A2 l[i].kids.length c2)) ∧ Kids G w' l[i].kids (.slice A2 l[i].kids.length c2) := by
  obtain ⟨b, off, cq, s', hs, hlt, hd, c0, c1, c2, c3, c4, hk⟩ := h.kid (Below.refl _ _) i hi
  injection hs with hA _ _
  obtain ⟨A2, cc, rfl, _⟩ := hk.form
  refine ⟨b, off, A2, cc, hA, hd, fun w' hb => ⟨⟨?_, ?_, ?_, ?_, ?_⟩, hk.below hb⟩⟩
  · exact (hb.cell (p := ⟨b, off + i * 5, none⟩) hlt).trans c0
  · exact (hb.cell (p := ⟨b, off + i * 5 + 1, none⟩) hlt).trans c1
  · exact (hb.cell (p := ⟨b, off + i * 5 + 2, none⟩) hlt).trans c2
  · exact (hb.cell (p := ⟨b, off + i * 5 + 3, none⟩) hlt).trans c3
  · exact (hb.cell (p := ⟨b, off + i * 5 + 4, none⟩) hlt).trans c4
theorem placeH_cons (v : NT) (r : List NT) : placeH (v :: r) = v.place := by rw [placeH]
/-- an Index or a Field that is an expression has a first kid -/
theorem expr_some {k a n : Int} {s : List UInt8} {l : List NT} (h : (NT.mk k a n s l).expr = true) (hk : k = 13 ∨ k = 14) : 0 < l.length := by
  rw [expr_mk, if_neg (by omega), Bool.and_eq_true] at h
  have h := h.2
  unfold exprHead at h
  rcases hk with rfl | rfl
  · simp at h; omega
  · simp at h; omega
set_option maxHeartbeats 1000000 in
theorem rplace_any {G : Nat → Prop} (t : NT) : IsOf G 52 NT.place t := by
  induction t using NT.ind with
  | h k a n nm l ih =>
    intro hd s w h
    have hdd := hd
    obtain ⟨_, _, _, hnm⟩ := hd
    change nm.length ≤ _ at hnm
    change Kids G w l s at h
    obtain ⟨A, cap, rfl, hl⟩ := h.form
    show Calls Tryd.prog 52 #[.agg #[.int .i64 k, .int .i64 a, .int .i64 n, .string ⟨nm.toArray⟩, .slice A l.length cap]] w fun e w' => e = .returned (.bool (NT.mk k a n nm l).place) ∧ Below w.heap.size w w'
    have HT := Lib.hid (place_mk k a n nm l)
    obtain ⟨R, hR⟩ : ∃ R, R = (NT.mk k a n nm l).place := ⟨_, rfl⟩
    rw [← hR] at HT ⊢
    obtain ⟨H, hH⟩ : ∃ H, H = w.heap.size := ⟨_, rfl⟩
    obtain ⟨W, hW⟩ : ∃ W, W = w.alloc (.cells #[.int .i64 k, .int .i64 a, .int .i64 n, .string ⟨nm.toArray⟩, .slice A l.length cap] NodeT) := ⟨_, rfl⟩
    obtain ⟨⟨x0, x1, x2, x3, x4⟩, HB, HHW⟩ := boxed hH hW
    have HX := Lib.hid (And.intro x0 (And.intro x1 (And.intro x2 (And.intro x3 x4))))
    have hk := h.below HB.out
    have HEX := Lib.hid (rexpr_any (G := G) (.mk k a n nm l) hdd (.slice A l.length cap) W hk)
    simp only [NT.kind, NT.at_, NT.num, NT.name] at HEX
    have HSM := Lib.hid (expr_some (k := k) (a := a) (n := n) (s := nm) (l := l))
    have HK := Lib.hid hk
    have IH := Lib.hid ih
    obtain ⟨N, hN⟩ : ∃ N, N = l.length := ⟨_, rfl⟩
    rw [← hN] at hl x4 hW HX HK HEX ⊢
    have HW := Lib.hid hW
    have HHH := Lib.hid hH
    have HNN := Lib.hid hN
    obtain ⟨E, hE⟩ : ∃ E, E = (NT.mk k a n nm l).expr := ⟨_, rfl⟩
    rw [← hE] at HEX HT HSM
    clear h hk ih hN hW hH hR hE hdd
    cases E
    · have HR : Hid (R = false) := Lib.hid (by rw [HT.out]; rfl)
      go_enter Tryd.func52, Tryd.ntmps52
      go_wp2_with (first | (rw [← HW.out, ← HHH.out]))
      refine HEX.out.mono ?_
      rintro e w1 ⟨rfl, hb1⟩
      have HB1 := Lib.hid (HB.out.trans (hb1.mono HB.out.size))
      clear hb1
      go_wp2_with (fail)
      go_ret
      exact ⟨by rw [HR.out]; rfl, HB1.out⟩
    · by_cases c1 : k = 12
      · subst c1
        have HR : Hid (R = true) := Lib.hid (by rw [HT.out]; rfl)
        go_enter Tryd.func52, Tryd.ntmps52
        go_wp2_with (first | (rw [← HW.out, ← HHH.out]))
        refine HEX.out.mono ?_
        rintro e w1 ⟨rfl, hb1⟩
        obtain ⟨y0, y1, y2, y3, y4⟩ := boxed_on HX.out HHW.out hb1
        have HB1 := Lib.hid (HB.out.trans (hb1.mono HB.out.size))
        clear hb1 x0 x1 x2 x3 x4
        go_wp2_with (fail)
        go_ret
        exact ⟨by rw [HR.out]; rfl, HB1.out⟩
      · have e1 : (k == 12) = false := beq_eq_false_iff_ne.2 c1
        by_cases c2 : k = 13 ∨ k = 14
        · have hl0 : 0 < l.length := HSM.out rfl c2
          have HR : Hid (R = l[0].place) := Lib.hid (by
            rw [HT.out]
            cases l with
            | nil => exact absurd hl0 (by simp)
            | cons v r =>
              rw [placeH_cons]
              rcases c2 with rfl | rfl <;> rfl)
          obtain ⟨b0, off0, A2, c2', hA, hd0, HZ⟩ := kid_all HK.out 0 hl0
          subst hA
          have HZ := Lib.hid HZ
          have IH0 := Lib.hid (fun w' s' (hk : Kids G w' l[0].kids s') => IH.out l[0] (List.getElem_mem hl0) hd0 s' w' hk)
          obtain ⟨u, hu⟩ : ∃ u, u = l[0] := ⟨_, rfl⟩
          rw [← hu] at HZ IH0 HR
          have hN0 : 0 < (N : Int) := by have := HNN.out; omega
          obtain ⟨M, hM⟩ : ∃ M, M = u.kids.length := ⟨_, rfl⟩
          rw [← hM] at HZ
          clear hu hd0 hM c1
          have body : ∀ (kk : Int), True := fun _ => trivial
          clear body
          rcases c2 with rfl | rfl
          all_goals
            go_enter Tryd.func52, Tryd.ntmps52
            go_wp2_with (first | (rw [← HW.out, ← HHH.out]))
            refine HEX.out.mono ?_
            rintro e w1 ⟨rfl, hb1⟩
            obtain ⟨y0, y1, y2, y3, y4⟩ := boxed_on HX.out HHW.out hb1
            obtain ⟨⟨z0, z1, z2, z3, z4⟩, hkz⟩ := HZ.out w1 hb1
            rw [Nat.zero_mul, Nat.add_zero] at z0 z1 z2 z3 z4
            have HI := Lib.hid (IH0.out w1 _ hkz)
            have HB1 := Lib.hid (HB.out.trans (hb1.mono HB.out.size))
            clear hb1 x0 x1 x2 x3 x4 hkz
            go_wp2_with (fail)
            refine HI.out.mono ?_
            rintro e w2 ⟨rfl, hb2⟩
            have HB2 := Lib.hid (HB1.out.trans (hb2.mono HB1.out.size))
            clear hb2
            go_wp2_with (fail)
            go_ret
            exact ⟨by rw [HR.out]; rfl, HB2.out⟩
        · have e2 : (k == 13) = false := beq_eq_false_iff_ne.2 (by omega)
          have e3 : (k == 14) = false := beq_eq_false_iff_ne.2 (by omega)
          have HR : Hid (R = false) := Lib.hid (by rw [HT.out]; simp; omega)
          clear c1 c2
          go_enter Tryd.func52, Tryd.ntmps52
          go_wp2_with (first | (rw [← HW.out, ← HHH.out]))
          refine HEX.out.mono ?_
          rintro e w1 ⟨rfl, hb1⟩
          obtain ⟨y0, y1, y2, y3, y4⟩ := boxed_on HX.out HHW.out hb1
          have HB1 := Lib.hid (HB.out.trans (hb1.mono HB.out.size))
          clear hb1 x0 x1 x2 x3 x4
          go_wp2_with (fail)
          go_ret
          exact ⟨by rw [HR.out]; rfl, HB1.out⟩
end Go.Proofs.YtkmkeaeaalnbjaaDoor.nt

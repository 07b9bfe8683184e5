/- The package's functions over rows of nodes: each one of its sort; all of one sort. -/
import Derived.Test.YtkmkeaeaalnbjaaDoorCTreeSort1
import Derived.Shelf.Abstract
namespace Go.Proofs.YtkmkeaeaalnbjaaDoor.nt
open Go.RowKit mem wd lx
open vt (I64 own_form)

/-- a row of functions, as it lies -/
def FnsIn (w : World) (Fs : List FuncId) (v : Value) : Prop := ∃ A c, v = .slice A Fs.length c ∧ (0 < Fs.length → ∃ b off, A = some ⟨b, off, none⟩ ∧ ∀ (i : Nat) (hi : i < Fs.length), w.cell? ⟨b, off + i, none⟩ = some (.func (.func Fs[i]) #[] #[]))
theorem FnsIn.below {w w' : World} {Fs : List FuncId} {v : Value} (h : FnsIn w Fs v) (hb : Below w.heap.size w w') : FnsIn w' Fs v := by
  obtain ⟨A, c, hv, h⟩ := h
  refine ⟨A, c, hv, fun h0 => ?_⟩
  obtain ⟨b, off, hA, hc⟩ := h h0
  exact ⟨b, off, hA, fun i hi => (hb.cell (p := ⟨b, off + i, none⟩) (World.block_lt_of_cell? _ _ (hc i hi))).trans (hc i hi)⟩
theorem areP_take (l : List NT) (ps : List (NT → Bool)) (k : Nat) (hk : k < l.length) (hp : k < ps.length) : areP (l.take (k + 1)) (ps.take (k + 1)) = (areP (l.take k) (ps.take k) && ps[k] l[k]) := by
  rw [List.take_succ_eq_append_getElem hk, List.take_succ_eq_append_getElem hp, areP_append (by rw [List.length_take, List.length_take]; omega)]
  simp [areP]
theorem areP_bad (l : List NT) (ps : List (NT → Bool)) (k : Nat) (hl : l.length = ps.length) (hk : k < l.length) (hp : k < ps.length) (h : ps[k] l[k] = false) : areP l ps = false := by
  have e1 : l = l.take k ++ (l[k] :: l.drop (k + 1)) := by rw [← List.drop_eq_getElem_cons hk, List.take_append_drop]
  have e2 : ps = ps.take k ++ (ps[k] :: ps.drop (k + 1)) := by rw [← List.drop_eq_getElem_cons hp, List.take_append_drop]
  have : areP l ps = areP (l.take k ++ (l[k] :: l.drop (k + 1))) (ps.take k ++ (ps[k] :: ps.drop (k + 1))) := by rw [← e1, ← e2]
  rw [this, areP_append (by rw [List.length_take, List.length_take]; omega), areP, h]
  simp
def ArRel (w : World) (N : Nat) (l : List NT) (ps : List (NT → Bool)) (i : Value) (wr : World) : Prop := ∃ k : Nat, k ≤ N ∧ i = .int .i64 k ∧ Hid (areP (l.take k) (ps.take k) = true) ∧ Below w.heap.size w wr
def IsFn (F : FuncId) : Prop := ∀ args w, (callFunc F args).run Tryd.prog w = .ok (.enter F args) w
set_option maxHeartbeats 1000000 in
theorem pare_any (G : Nat → Prop) (l : List NT) (Fs : List FuncId) (ps : List (NT → Bool)) (hlen : Fs.length = ps.length) (hE : ∀ F ∈ Fs, IsFn F) (hf : ∀ (i : Nat) (hi : i < l.length) (hj : i < Fs.length) (hp : i < ps.length), SortOf Fs[i] ps[i] l[i]) (hn : Fs.length ≤ 8) (s v : Value) (w : World) (hL : wd.LD w) (h : Kids G w l s) (hv : FnsIn w Fs v) :
    Calls Tryd.prog 26 #[s, v] w fun e w' => e = .returned (.bool (areP l ps)) ∧ Below w.heap.size w w' := by
  have HK := Lib.hid h
  have HF := Lib.hid hf
  have HEN := Lib.hid hE
  have HLD := Lib.hid hL
  have HV := Lib.hid hv
  obtain ⟨A, cap, rfl, hl⟩ := h.form
  obtain ⟨A2, cap2, rfl, _⟩ := hv
  have HR : Hid (l.length ≠ Fs.length → areP l ps = false) := Lib.hid fun h => areP_len (by omega)
  obtain ⟨N, hN⟩ : ∃ N, N = l.length := ⟨_, rfl⟩
  obtain ⟨M, hM⟩ : ∃ M, M = Fs.length := ⟨_, rfl⟩
  rw [← hN] at hl HK HR ⊢
  rw [← hM] at hn HV HR ⊢
  have HN := Lib.hid hN
  have HM := Lib.hid hM
  have HP : Hid (M = ps.length) := Lib.hid (hM.trans hlen)
  have HB := Lib.hid (Below.refl w.heap.size w)
  clear h hf hE hL hN hM hlen
  by_cases hNM : N = M
  · subst hNM
    have HRF : Hid (l.length = ps.length) := Lib.hid (HN.out.symm.trans HP.out)
    clear HR
    go_enter Tryd.func26, Tryd.ntmps26
    go_wp2_with (fail)
    go_loopw [14] (fun i wr => ArRel w N l ps i wr) (fun i _ => N - (intOf i).toNat)
    case atStart => unfold ArRel; exact ⟨0, Nat.zero_le _, rfl, Lib.hid rfl, Below.refl _ _⟩
    case round =>
      unfold ArRel at hrel
      obtain ⟨k, hk, rfl, HT, hb⟩ := hrel
      by_cases hlt : k < N
      · have hkl : k < l.length := by have := HN.out; omega
        have hkf : k < Fs.length := by have := HM.out; omega
        have hkp : k < ps.length := by have := HP.out; omega
        obtain ⟨b, off, cq, q, hs, hlt', hd, c0, c1, c2, c3, c4, hkk⟩ := HK.out.kid hb k hkl
        injection hs with hA hL hC
        subst hA
        subst hC
        clear hL
        obtain ⟨A3, c3', hs3, hfn⟩ := HV.out.below hb
        obtain ⟨bf, offf, hA3, hfc⟩ := hfn (by omega)
        injection hs3 with hA4 hN3 hC4
        clear hN3
        subst hA4
        subst hC4
        subst hA3
        have hfk := hfc k hkf
        obtain ⟨A4, cc, rfl, _⟩ := hkk.form
        have HI := Lib.hid (HF.out k hkl hkf hkp G hd _ wr (HLD.out.on hb) hkk)
        have eg := HEN.out Fs[k] (List.getElem_mem hkf)
        have HU := Lib.hid (areP_take l ps k hkl hkp)
        have HU2 := Lib.hid (areP_bad l ps k HRF.out hkl hkp)
        unfold IsFn at eg
        obtain ⟨F, hF⟩ : ∃ F, F = Fs[k] := ⟨_, rfl⟩
        obtain ⟨u, hu⟩ : ∃ u, u = l[k] := ⟨_, rfl⟩
        rw [← hF] at hfk HI eg
        rw [← hu] at c0 c1 c2 c3 c4 HI HU HU2 hkk
        obtain ⟨Q, hQ⟩ : ∃ Q, Q = u.kids.length := ⟨_, rfl⟩
        rw [← hQ] at c4 HI
        obtain ⟨r, hr⟩ : ∃ r, r = ps[k] u := ⟨_, rfl⟩
        rw [← hr] at HI HU HU2
        have HB2 := Lib.hid hb
        clear hkk hQ hr hd hu hb hF hfc hfn
        cases r
        · go_wp2_with (go_at_fn F; refine HI.out.mono ?_; rintro e w1 ⟨rfl, hb1⟩)
          go_ret
          exact ⟨by rw [HU2.out (by simp)]; rfl, HB2.out.trans (hb1.mono HB2.out.size)⟩
        · go_wp2_with (go_at_fn F; refine HI.out.mono ?_; rintro e w1 ⟨rfl, hb1⟩)
          go_roundw
          case rel => unfold ArRel; exact ⟨k + 1, by omega, by go_num, Lib.hid (by rw [HU.out, HT.out]; rfl), HB2.out.trans (hb1.mono HB2.out.size)⟩
          case measure => simp [intOf]; omega
      · have HFin : Hid (areP l ps = true) := Lib.hid (by have h := HT.out; rw [List.take_of_length_le (by have := HN.out; omega), List.take_of_length_le (by have := HP.out; omega)] at h; exact h)
        have HB2 := Lib.hid hb
        clear hb
        go_wp2_with (fail)
        go_ret
        exact ⟨by rw [HFin.out]; rfl, HB2.out⟩
  · have HR2 := Lib.hid (HR.out (by have := HN.out; have := HM.out; omega))
    have e1 : ((N : Int) != (M : Int)) = true := by rw [bne_iff_ne]; omega
    clear HR
    go_enter Tryd.func26, Tryd.ntmps26
    go_wp2_with (fail)
    go_ret
    exact ⟨by rw [HR2.out]; rfl, HB.out⟩
theorem all_take2 (p : NT → Bool) (l : List NT) (k : Nat) (h : k < l.length) : (l.take (k + 1)).all p = ((l.take k).all p && p l[k]) := by
  rw [List.take_succ_eq_append_getElem h, List.all_append]; simp
theorem all_bad2 (p : NT → Bool) (l : List NT) (k : Nat) (h : k < l.length) (hr : p l[k] = false) : l.all p = false := by
  rw [List.all_eq_false]; exact ⟨l[k], List.getElem_mem h, by simp [hr]⟩
def AlRel (w : World) (N : Nat) (l : List NT) (p : NT → Bool) (i : Value) (wr : World) : Prop := ∃ k : Nat, k ≤ N ∧ i = .int .i64 k ∧ Hid ((l.take k).all p = true) ∧ Below w.heap.size w wr
set_option maxHeartbeats 1000000 in
theorem pall_any (G : Nat → Prop) (l : List NT) (F : FuncId) (p : NT → Bool) (hE : IsFn F) (hf : ∀ u ∈ l, SortOf F p u) (s : Value) (w : World) (hL : wd.LD w) (h : Kids G w l s) :
    Calls Tryd.prog 29 #[s, .func (.func F) #[] #[]] w fun e w' => e = .returned (.bool (l.all p)) ∧ Below w.heap.size w w' := by
  have HK := Lib.hid h
  have HF := Lib.hid hf
  have HLD := Lib.hid hL
  have eg := hE
  unfold IsFn at eg
  obtain ⟨A, cap, rfl, hl⟩ := h.form
  obtain ⟨N, hN⟩ : ∃ N, N = l.length := ⟨_, rfl⟩
  rw [← hN] at hl HK ⊢
  have HN := Lib.hid hN
  clear h hf hE hL hN
  go_enter Tryd.func29, Tryd.ntmps29
  go_wp2_with (fail)
  go_loopw [9] (fun i wr => AlRel w N l p i wr) (fun i _ => N - (intOf i).toNat)
  case atStart => unfold AlRel; exact ⟨0, Nat.zero_le _, rfl, Lib.hid rfl, Below.refl _ _⟩
  case round =>
    unfold AlRel at hrel
    obtain ⟨k, hk, rfl, HT, hb⟩ := hrel
    by_cases hlt : k < N
    · have hkl : k < l.length := by have := HN.out; omega
      obtain ⟨b, off, cq, q, hs, hlt', hd, c0, c1, c2, c3, c4, hkk⟩ := HK.out.kid hb k hkl
      injection hs with hA hL hC
      subst hA
      subst hC
      clear hL
      obtain ⟨A4, cc, rfl, _⟩ := hkk.form
      obtain ⟨u, hu⟩ : ∃ u, u = l[k] := ⟨_, rfl⟩
      obtain ⟨H, hH⟩ : ∃ H, H = wr.heap.size := ⟨_, rfl⟩
      obtain ⟨W, hW⟩ : ∃ W, W = wr.alloc (.cells #[.int .i64 u.kind, .int .i64 u.at_, .int .i64 u.num, .string ⟨u.name.toArray⟩, .slice A4 u.kids.length cc] NodeT) := ⟨_, rfl⟩
      obtain ⟨⟨x0, x1, x2, x3, x4⟩, HBW, HHW⟩ := boxed hH hW
      rw [← hu] at c0 c1 c2 c3 c4 hkk hd
      have hbW := hb.trans (HBW.out.mono hb.size)
      have HI := Lib.hid (HF.out u (by rw [hu]; exact List.getElem_mem hkl) G hd _ W (HLD.out.on hbW) (hkk.below HBW.out))
      have HU := Lib.hid (all_take2 p l k hkl)
      have HU2 := Lib.hid (all_bad2 p l k hkl)
      rw [← hu] at HU HU2
      obtain ⟨Q, hQ⟩ : ∃ Q, Q = u.kids.length := ⟨_, rfl⟩
      rw [← hQ] at c4 HI x4 hW
      obtain ⟨r, hr⟩ : ∃ r, r = p u := ⟨_, rfl⟩
      rw [← hr] at HI HU HU2
      have HB2 := Lib.hid hbW
      have HW := Lib.hid hW
      have HHH := Lib.hid hH
      clear hkk hQ hr hd hu hb hbW hW hH
      cases r
      · go_wp2_with (first | (rw [← HW.out, ← HHH.out]) | (go_at_fn F; refine HI.out.mono ?_; rintro e w1 ⟨rfl, hb1⟩))
        go_ret
        exact ⟨by rw [HU2.out (by simp)]; rfl, HB2.out.trans (hb1.mono HB2.out.size)⟩
      · go_wp2_with (first | (rw [← HW.out, ← HHH.out]) | (go_at_fn F; refine HI.out.mono ?_; rintro e w1 ⟨rfl, hb1⟩))
        go_roundw
        case rel => unfold AlRel; exact ⟨k + 1, by omega, by go_num, Lib.hid (by rw [HU.out, HT.out]; rfl), HB2.out.trans (hb1.mono HB2.out.size)⟩
        case measure => simp [intOf]; omega
    · have HFin : Hid (l.all p = true) := Lib.hid (by have h := HT.out; rw [List.take_of_length_le (by have := HN.out; omega)] at h; exact h)
      have HB2 := Lib.hid hb
      clear hb
      go_wp2_with (fail)
      go_ret
      exact ⟨by rw [HFin.out]; rfl, HB2.out⟩
end Go.Proofs.YtkmkeaeaalnbjaaDoor.nt

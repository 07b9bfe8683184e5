/- A value's copy in new memory. -/
import Derived.Test.YtjbdfckanabepaaDoorValMake
namespace Go.Proofs.YtjbdfckanabepaaDoor.vt
open Go.RowKit mem

theorem own_below {w w1 : World} {base : Nat} {e : TypeId} {size n : Nat} {v : Value} {xs : List Value} (h : w.ownsRow base e size v n xs) (hb : Below w.heap.size w w1) : w1.ownsRow base e size v n xs := by
  refine ⟨h.1, ?_⟩
  rcases h.2 with h' | ⟨g, cap, cur, hv, hg, hh, r⟩
  · exact .inl h'
  · exact .inr ⟨g, cap, cur, hv, hg, (hb.block g (Array.getElem?_eq_some_iff.1 hh).1).trans hh, r⟩
theorem set3 (xs : List Value) (a b c a' b' c' : Value) (rest : List Value) (n : Nat) (h : xs.length = n) :
    (((xs ++ (a :: b :: c :: rest)).set n a').set (n + 1) b').set (n + 2) c' = xs ++ (a' :: b' :: c' :: rest) := by
  subst h
  apply List.ext_getElem?
  intro i
  simp only [List.getElem?_set, List.getElem?_append, List.length_set, List.length_append, List.length_cons]
  by_cases h1 : i < xs.length
  · rw [if_neg (by omega), if_neg (by omega), if_neg (by omega)]
    simp [h1]
  · obtain ⟨d, rfl⟩ : ∃ d, i = xs.length + d := ⟨i - xs.length, by omega⟩
    match d with
    | 0 => simp
    | 1 => simp
    | 2 => simp
    | d + 3 => simp [show ¬ xs.length + (d + 3) < xs.length by omega, show xs.length + (d + 3) - xs.length = d + 3 by omega]
theorem clone_step {G : Nat → Prop} {H g k N cap L : Nat} {wr w1 : World} {l : List VT} {vs1 rest : List Value} {s0 s1 : Value} (hk : k < l.length) (hG : ∀ b, G b → b < H + 2)
    (h1 : Vals (fun b => H + 2 ≤ b ∧ b ≠ g) wr (l.take k) vs1) (h2 : Vals G wr (l.drop (k + 1)) rest) (i1 : I64 l[k].kind) (i2 : I64 l[k].num)
    (ho : wr.ownsRow (H + 2) 24 3 (.slice (some ⟨g, 0, none⟩) N cap) N (vs1 ++ (.int .i64 l[k].kind :: .int .i64 l[k].num :: s0 :: rest)))
    (hb : Below wr.heap.size wr w1) (hL : wr.heap.size ≤ L) (hO : Own L (fun b => L ≤ b) w1 l[k].kids s1) :
    ∃ vs, Vals (fun b => H + 2 ≤ b ∧ b ≠ g) (((w1.setCell ⟨g, k * 3, none⟩ (.int .i64 l[k].kind)).setCell ⟨g, k * 3 + 1, none⟩ (.int .i64 l[k].num)).setCell ⟨g, k * 3 + 2, none⟩ s1) (l.take (k + 1)) vs ∧
      Vals G (((w1.setCell ⟨g, k * 3, none⟩ (.int .i64 l[k].kind)).setCell ⟨g, k * 3 + 1, none⟩ (.int .i64 l[k].num)).setCell ⟨g, k * 3 + 2, none⟩ s1) (l.drop (k + 1)) rest ∧
      (((w1.setCell ⟨g, k * 3, none⟩ (.int .i64 l[k].kind)).setCell ⟨g, k * 3 + 1, none⟩ (.int .i64 l[k].num)).setCell ⟨g, k * 3 + 2, none⟩ s1).ownsRow (H + 2) 24 3 (.slice (some ⟨g, 0, none⟩) N cap) N (vs ++ rest) := by
  obtain ⟨hge, hlt⟩ := ho.lt g rfl
  have hlen : vs1.length = k * 3 := by rw [h1.len, List.length_take]; omega
  have o1 := own_below ho hb
  have o2 := (((o1.stored (k * 3) (.int .i64 l[k].kind)).1.stored (k * 3 + 1) (.int .i64 l[k].num)).1.stored (k * 3 + 2) s1).1
  rw [set3 _ _ _ _ _ _ _ _ _ hlen] at o2
  have hkid : Kids (fun b => H + 2 ≤ b ∧ b ≠ g) w1 l[k].kids s1 := hO.kids (fun b hb => ⟨by omega, by omega⟩) (fun b hb => ⟨by omega, by omega⟩)
  refine ⟨vs1 ++ (.int .i64 l[k].kind :: .int .i64 l[k].num :: s1 :: []), ?_, ?_, by simpa using o2⟩
  · rw [List.take_succ_eq_append_getElem hk]
    refine Vals.append ((((h1.below hb).set fun c hc _ => hc.2).set fun c hc _ => hc.2).set fun c hc _ => hc.2) ?_
    rw [Vals]
    exact ⟨s1, [], rfl, i1, i2, ((hkid.set fun c hc _ => hc.2).set fun c hc _ => hc.2).set fun c hc _ => hc.2, by rw [Vals]⟩
  · exact (((h2.below hb).set fun c hc _ => by have := hG c hc; omega).set fun c hc _ => by have := hG c hc; omega).set fun c hc _ => by have := hG c hc; omega
def CloneRel (G : Nat → Prop) (H g N cap : Nat) (l : List VT) (W : World) (i : Value) (wr : World) : Prop :=
  ∃ (k : Nat) (vs1 vs2 : List Value), k ≤ N ∧ i = .int .i64 k ∧ Vals (fun b => H + 2 ≤ b ∧ b ≠ g) wr (l.take k) vs1 ∧ Vals G wr (l.drop k) vs2 ∧ wr.ownsRow (H + 2) 24 3 (.slice (some ⟨g, 0, none⟩) N cap) N (vs1 ++ vs2) ∧ Below (H + 2) W wr
def ClonePost (t : VT) (w : World) (e : Ending) (w' : World) : Prop := ∃ s, e = .returned (.agg #[.int .i64 t.kind, .int .i64 t.num, s]) ∧ Below w.heap.size w w' ∧ Own w.heap.size (fun b => w.heap.size ≤ b) w' t.kids s
def CloneOf (t : VT) : Prop := ∀ (G : Nat → Prop) (s : Value) (w : World), Kids G w t.kids s → Calls Tryd.prog 8 #[.agg #[.int .i64 t.kind, .int .i64 t.num, s]] w (ClonePost t w)
set_option maxHeartbeats 1000000 in
set_option maxRecDepth 100000 in
theorem clone_any (t : VT) : t.size ≤ 1048576 → CloneOf t := by
  induction t using VT.ind with
  | h kd nm l ih =>
    intro hsz G s w h
    change Kids G w l s at h
    rw [size_mk] at hsz
    have hll := len_le_sizeL l
    have IH : Hid (∀ u ∈ l, CloneOf u) := Lib.hid fun u hu => ih u hu (by have := mem_sizeL hu; omega)
    obtain ⟨H, hH⟩ : ∃ H, H = w.heap.size := ⟨_, rfl⟩
    have hb2 : ∀ o o', Below w.heap.size w ((w.alloc o).alloc o') := fun o o' => ((Below.refl _ _).alloc (Nat.le_refl _) _).alloc (by simp) _
    have HC := Lib.hid (fun o o' => cloneL_any l s ((w.alloc o).alloc o') (h.lt.below (hb2 o o')) (by omega))
    have HB2 := Lib.hid hb2
    obtain ⟨A, cap, hs, _⟩ := h.form
    subst hs
    obtain ⟨N, hN⟩ : ∃ N, N = l.length := ⟨_, rfl⟩
    have HN := Lib.hid hN
    have hNl : N ≤ 1048576 := by omega
    show Calls Tryd.prog 8 #[.agg #[.int .i64 kd, .int .i64 nm, .slice A l.length cap]] w _
    rw [← hN] at HC ⊢
    clear h ih hN hb2 hll hsz
    go_enter Tryd.func8, Tryd.ntmps8
    go_wp2_with (fail)
    refine (HC.out _ _).mono ?_
    rintro e w1 ⟨s1, rfl, hb, ho⟩
    obtain ⟨W, hW⟩ : ∃ W, W = (w.alloc (.cells #[.int .i64 kd, .int .i64 nm, .slice A N cap] 24)).alloc (.cells #[.int .i64 0, .int .i64 0, .slice none 0 0] 24) := ⟨_, rfl⟩
    rw [← hW] at hb ho
    have hWs : W.heap.size = H + 2 := by rw [hW, hH]; simp
    rw [hWs] at hb ho
    obtain ⟨vs, hv, ho⟩ := ho
    have HZ : Hid (∀ wr, Below (H + 2) W wr → wr.cell? ⟨H, 0, none⟩ = some (.int .i64 kd) ∧ wr.cell? ⟨H, 1, none⟩ = some (.int .i64 nm) ∧ (∀ i, wr.cell? ⟨H + 1, i, none⟩ = #[.int .i64 0, .int .i64 0, .slice none 0 0][i]? ∧ wr.frozen? ⟨H + 1, i, none⟩ = false)) := Lib.hid (by
      intro wr hbr
      have hbr' : Below (H + 1) (w.alloc (.cells #[.int .i64 kd, .int .i64 nm, .slice A N cap] 24)) wr := ((Below.refl _ _).alloc (by rw [hH]; simp) _).trans (by rw [← hW]; exact hbr.mono (by omega))
      refine ⟨(cell_since hH hbr' 0).1, (cell_since hH hbr' 1).1, fun i => ?_⟩
      rw [hW] at hbr
      exact cell_since (N := H + 1) (by rw [hH]; simp) hbr i)
    have HBW : Hid (Below w.heap.size w W) := Lib.hid (by rw [hW]; exact HB2.out _ _)
    rw [← hH] at hv
    have hN' : N = l.length := HN.out
    have hvv2 : ∀ (wr : World) (vs : List Value), Below (H + 2) W wr → Vals (fun b => H + 2 ≤ b) wr l vs → Vals (fun b => H ≤ b ∧ b ≠ H + 1) wr l vs := fun wr vs _ h => h.mono fun b hb => ⟨by omega, by omega⟩
    have hGH : Hid (∀ b, (G b ∧ b < H) → b < H + 2) := Lib.hid fun _ h => by omega
    have HEND : Hid (∀ (wr : World) (s' : Value) (vs : List Value), Below (H + 2) W wr → Vals (fun b => H + 2 ≤ b) wr l vs → wr.ownsRow (H + 2) 24 3 s' N vs →
        ClonePost (.mk kd nm l) w (.returned (.agg #[.int .i64 kd, .int .i64 nm, s'])) (((wr.setCell ⟨H + 1, 0, none⟩ (.int .i64 kd)).setCell ⟨H + 1, 1, none⟩ (.int .i64 nm)).setCell ⟨H + 1, 2, none⟩ s')) := Lib.hid (by
      intro wr s' vs hbr hvv hoo
      refine ⟨s', rfl, ?_, own_told (B := H + 2) (b := H + 1) ⟨vs, hvv2 wr vs hbr hvv, by rw [← hN']; exact hoo⟩ (by omega) (fun c hc => by have := hc.2; omega) |>.mono (by omega) (fun b hb => by have := hb.1; omega)⟩
      exact below_told (HBW.out.trans (hbr.mono (by omega))) (by omega))
    rw [← hH]
    have HH := Lib.hid hH
    have HV := Lib.hid hv
    clear hW hH hv hN' hvv2
    by_cases h0 : N = 0
    · subst h0
      obtain ⟨A', c', rfl⟩ := own_form ho
      have HO := Lib.hid ho
      have HB := Lib.hid hb
      have hz := hb.size
      obtain ⟨z0, z1, z2⟩ := HZ.out _ hb
      have d0 := (z2 0).1
      have d1 := (z2 1).1
      have d2 := (z2 2).1
      have f0 := (z2 0).2
      have f1 := (z2 1).2
      have f2 := (z2 2).2
      have hl0 : l = [] := List.eq_nil_of_length_eq_zero (by have := HN.out; omega)
      clear z0 z1 z2 ho hb d0 d1 d2 f0 f1 f2 hz
      subst hl0
      go_wp2
      go_loopw [11] (fun i wr => i = .int .i64 0 ∧ wr = w1) (fun _ _ => 0)
      case atStart => exact ⟨rfl, rfl⟩
      case round =>
        obtain ⟨rfl, rfl⟩ := hrel
        obtain ⟨z0, z1, z2⟩ := HZ.out _ HB.out
        have hz := HB.out.size
        have d0 := (z2 0).1
        have d1 := (z2 1).1
        have d2 := (z2 2).1
        have f0 := (z2 0).2
        have f1 := (z2 1).2
        have f2 := (z2 2).2
        clear z2
        go_wp2
        refine bodyPost_ret (v := .agg #[.int .i64 kd, .int .i64 nm, .slice A' 0 c']) (by simp [results, Tryd.results8, go_sem, d0, d1, d2]) rfl ?_
        exact HEND.out wr _ [] HB.out (by rw [Vals]) (by have := HO.out; have e := this.1; simp at e; subst e; exact this)
    · obtain ⟨g, cc, rfl, hgb, hgl⟩ : ∃ g cc, s1 = .slice (some ⟨g, 0, none⟩) N cc ∧ H + 2 ≤ g ∧ g < w1.heap.size := by
        have hl := HN.out
        rcases ho.2 with ⟨_, h⟩ | ⟨g, cc, cur, h, hb', hg, _⟩
        · omega
        · exact ⟨g, cc, by rw [h, hl], hb', (Array.getElem?_eq_some_iff.1 hg).1⟩
      rw [← HN.out] at ho
      have HO := Lib.hid ho
      have HB := Lib.hid hb
      clear ho hb
      go_wp2
      go_loopw [11] (fun i wr => CloneRel (fun b => G b ∧ b < H) H g N cc l W i wr) (fun i _ => N - (intOf i).toNat)
      case atStart => unfold CloneRel; exact ⟨0, [], vs, Nat.zero_le _, rfl, by rw [List.take_zero, Vals], HV.out, HO.out, HB.out⟩
      case round =>
        obtain ⟨k, vs1, vs2, hk, rfl, hv1, hv2, hown, hbr⟩ := hrel
        have HV1 := Lib.hid hv1
        have HBR := Lib.hid hbr
        by_cases hlt : k < N
        · have hkl : k < l.length := by have := HN.out; omega
          rw [List.drop_eq_getElem_cons hkl, Vals] at hv2
          obtain ⟨s0, rest, rfl, i1, i2, hk0, hrest⟩ := hv2
          have hlen : vs1.length = k * 3 := by rw [hv1.len, List.length_take]; omega
          obtain ⟨A0, c0', rfl, _⟩ := hk0.form
          have c0 := hown.cellAt (k * 3) (by omega)
          have c1 := hown.cellAt (k * 3 + 1) (by omega)
          have c2 := hown.cellAt (k * 3 + 2) (by omega)
          rw [List.getElem?_append_right (by omega), show k * 3 - vs1.length = 0 by omega] at c0
          rw [List.getElem?_append_right (by omega), show k * 3 + 1 - vs1.length = 1 by omega] at c1
          rw [List.getElem?_append_right (by omega), show k * 3 + 2 - vs1.length = 2 by omega] at c2
          simp only [List.getElem?_cons_zero, List.getElem?_cons_succ] at c0 c1 c2
          have hgl2 := (hown.lt g rfl).2
          have HFZ := Lib.hid (fun j => hown.frozenAt j)
          have HI := Lib.hid (fun w' (hb' : Below wr.heap.size wr w') => IH.out l[k] (List.getElem_mem hkl) _ _ w' (hk0.below hb'))
          have HST := Lib.hid (fun w1 L s1 (hb : Below wr.heap.size wr w1) hL hO => clone_step (L := L) (w1 := w1) (s1 := s1) hkl hGH.out hv1 hrest i1 i2 hown hb hL hO)
          have HMEM : Hid (∀ (kd nm : Int) (A : Option Addr) (M c : Nat) w1, Below (wr.heap.size + 1) (wr.alloc (.cells #[.int .i64 kd, .int .i64 nm, .slice A M c] 24)) w1 → Below wr.heap.size wr w1) := Lib.hid fun _ _ _ _ _ w1 h => ((Below.refl _ _).alloc (Nat.le_refl _) _).trans (h.mono (by omega))
          obtain ⟨u, hu⟩ : ∃ u, u = l[k] := ⟨_, rfl⟩
          rw [← hu] at c0 c1 c2 HI HST
          obtain ⟨M, hM⟩ : ∃ M, M = u.kids.length := ⟨_, rfl⟩
          rw [← hM] at c2 HI
          have HM := Lib.hid hM
          clear hlen hown hv1 hrest hk0 hbr hu hM
          go_wp2_with (fail)
          refine (HI.out _ ((Below.refl _ _).alloc (Nat.le_refl _) _)).mono ?_
          rintro e w2 ⟨s2, rfl, hb2, ho2⟩
          obtain ⟨A2, q2, rfl⟩ : ∃ A2 q2, s2 = .slice A2 M q2 := by
            rw [HM.out]; obtain ⟨_, _, ho⟩ := ho2; exact own_form ho
          have hb3 := HMEM.out _ _ _ _ _ w2 (by simpa using hb2)
          have HST2 := Lib.hid (HST.out w2 _ _ hb3 (by simp) (ho2))
          have d0 := (hb3.cell (p := ⟨g, k * 3, none⟩) hgl2).trans c0
          have d1 := (hb3.cell (p := ⟨g, k * 3 + 1, none⟩) hgl2).trans c1
          have d2 := (hb3.cell (p := ⟨g, k * 3 + 2, none⟩) hgl2).trans c2
          have f0 := (hb3.frozen (p := ⟨g, k * 3, none⟩) hgl2).trans (HFZ.out _)
          have f1 := (hb3.frozen (p := ⟨g, k * 3 + 1, none⟩) hgl2).trans (HFZ.out _)
          have f2 := (hb3.frozen (p := ⟨g, k * 3 + 2, none⟩) hgl2).trans (HFZ.out _)
          have HB3 := Lib.hid hb3
          have hz3 := hb3.size
          clear hb2 ho2 hb3 c0 c1 c2
          go_wp2_with (fail)
          go_roundw
          case rel =>
            obtain ⟨vs', q1, q2, q3⟩ := HST2.out
            unfold CloneRel
            exact ⟨k + 1, vs', rest, by omega, by go_num, q1, q2, q3, (((HBR.out.trans (HB3.out.mono HBR.out.size |>.mono (by omega))).setCell (p := ⟨g, k * 3, none⟩) hgb _).setCell (p := ⟨g, k * 3 + 1, none⟩) hgb _).setCell (p := ⟨g, k * 3 + 2, none⟩) hgb _⟩
          case measure => simp [intOf]; omega
        · have hend : vs2 = [] := by
            rw [List.drop_of_length_le (by have := HN.out; omega), Vals] at hv2; exact hv2
          subst hend
          rw [List.append_nil] at hown
          rw [List.take_of_length_le (by have := HN.out; omega)] at hv1
          have HE := Lib.hid (HEND.out wr _ vs1 hbr (hv1.mono fun b hb => hb.1) hown)
          obtain ⟨z0, z1, z2⟩ := HZ.out _ hbr
          have hz := hbr.size
          have hWz : H + 1 < W.heap.size := by omega
          have d0 := (z2 0).1
          have d1 := (z2 1).1
          have d2 := (z2 2).1
          have f0 := (z2 0).2
          have f1 := (z2 1).2
          have f2 := (z2 2).2
          clear z2 hv2 hown hv1 hbr
          go_wp2
          refine bodyPost_ret (v := .agg #[.int .i64 kd, .int .i64 nm, .slice (some ⟨g, 0, none⟩) N cc]) (by simp [results, Tryd.results8, go_sem, d0, d1, d2]) rfl ?_
          exact HE.out
end Go.Proofs.YtjbdfckanabepaaDoor.vt

/- Clean's kids lie in a row of the call's own. -/
import Derived.Test.YtkmkeaeaalnbjaaDoorCTreeSame
--KEEP
namespace Go.Proofs.YtkmkeaeaalnbjaaDoor.nt
open Go.RowKit mem wd lx
open vt (I64 own_form own_base)

theorem five_heap (w : World) (R : Nat) (a b c d e : Value) (k : Nat) (h : k ≠ R) : (five w R a b c d e).heap[k]? = w.heap[k]? :=
  (Below.heap_setCell _ _ _ _ h).trans ((Below.heap_setCell _ _ _ _ h).trans ((Below.heap_setCell _ _ _ _ h).trans ((Below.heap_setCell _ _ _ _ h).trans (Below.heap_setCell _ _ _ _ h))))
theorem owns_five2 {w W : World} {n R : Nat} {v : Value} {xs : List Value} (h : w.ownsRow W.heap.size NodeT 5 v n xs) (hR : R < W.heap.size) (a b c d e : Value) : (five w R a b c d e).ownsRow W.heap.size NodeT 5 v n xs :=
  owns_keep h fun k hk => five_heap _ _ _ _ _ _ _ _ (by have := (h.lt k hk).1; omega)
theorem row_frozen {w : World} {B n m c : Nat} {A : Option Addr} {vs : List Value} (h : w.ownsRow B NodeT 5 (.slice A m c) n vs) (hm : 0 < m) : ∃ g, A = some ⟨g, 0, none⟩ ∧ ∀ j, w.frozen? ⟨g, j, none⟩ = false := by
  rcases h.2 with ⟨hv, _⟩ | ⟨g, cap, cur, hv, hg, hh, h1, h2, h3, h4⟩
  · injection hv with _ e _; omega
  · injection hv with e1 _ _
    exact ⟨g, e1, fun j => by unfold World.frozen?; rw [hh]; simp⟩
set_option maxHeartbeats 2000000 in
theorem pclean_own (t : NT) : ∀ (G : Nat → Prop), Hd t → t.size ≤ 1073741824 → ∀ (s : Value) (w : World), Kids G w t.kids s →
    Calls Tryd.prog 20 #[.agg #[.int .i64 t.kind, .int .i64 t.at_, .int .i64 t.num, .string ⟨t.name.toArray⟩, s]] w fun e w' => ∃ s', e = .returned (.agg #[.int .i64 t.kind, .int .i64 0, .int .i64 t.num, .string ⟨t.name.toArray⟩, s']) ∧ Kids (fun b => w.heap.size ≤ b) w' (cleanL t.kids) s' ∧ (∃ vs, w'.ownsRow w.heap.size NodeT 5 s' (cleanL t.kids).length vs) ∧ Below w.heap.size w w' := by
  obtain ⟨k, a, n, nm, l⟩ := t
  · intro G hd hz s w h
    have ih : ∀ u ∈ l, ∀ (G : Nat → Prop), Hd u → u.size ≤ 1073741824 → ∀ (s : Value) (w : World), Kids G w u.kids s → _ := fun u _ => pclean_of u
    obtain ⟨ik, ia, in_, hnm⟩ := hd
    rw [size_mk] at hz
    change nm.length ≤ _ at hnm
    change Kids G w l s at h
    obtain ⟨A, cap, rfl, hl⟩ := h.form
    show Calls Tryd.prog 20 #[.agg #[.int .i64 k, .int .i64 a, .int .i64 n, .string ⟨nm.toArray⟩, .slice A l.length cap]] w fun e w' => ∃ s', e = .returned (.agg #[.int .i64 k, .int .i64 0, .int .i64 n, .string ⟨nm.toArray⟩, s']) ∧ Kids (fun b => w.heap.size ≤ b) w' (cleanL l) s' ∧ (∃ vs, w'.ownsRow w.heap.size NodeT 5 s' (cleanL l).length vs) ∧ Below w.heap.size w w'
    obtain ⟨H, hH⟩ : ∃ H, H = w.heap.size := ⟨_, rfl⟩
    obtain ⟨W0, hW0⟩ : ∃ W, W = w.alloc (.cells #[.int .i64 k, .int .i64 a, .int .i64 n, .string ⟨nm.toArray⟩, .slice A l.length cap] NodeT) := ⟨_, rfl⟩
    obtain ⟨hx, HB0, HHW0⟩ := boxed hH hW0
    obtain ⟨R, hR⟩ : ∃ R, R = W0.heap.size := ⟨_, rfl⟩
    obtain ⟨W, hW⟩ : ∃ W, W = W0.alloc (.cells #[.int .i64 0, .int .i64 0, .int .i64 0, .string ⟨#[]⟩, .slice none 0 0] NodeT) := ⟨_, rfl⟩
    have hbx : Box W R NodeT #[.int .i64 0, .int .i64 0, .int .i64 0, .string ⟨#[]⟩, .slice none 0 0] := by rw [hW]; exact Box.new _ _ _ _ hR
    have hb0 : Below W0.heap.size W0 W := by rw [hW]; exact (Below.refl _ _).alloc (Nat.le_refl _) _
    obtain ⟨x0, x1, x2, x3, x4⟩ := boxed_on hx HHW0.out hb0
    have HX := Lib.hid (And.intro x0 (And.intro x1 (And.intro x2 (And.intro x3 x4))))
    have HBX := Lib.hid hbx
    have HBW : Hid (Below w.heap.size w W) := Lib.hid (HB0.out.trans (hb0.mono HB0.out.size))
    have HRW : Hid (w.heap.size ≤ R ∧ R < W.heap.size ∧ H < W.heap.size) := Lib.hid ⟨by have := HB0.out.size; omega, hbx.lt, by have := hb0.size; have := HHW0.out; omega⟩
    have HK := Lib.hid (h.below HBW.out)
    have IH := Lib.hid ih
    have HSZ := Lib.hid hz
    obtain ⟨N, hN⟩ : ∃ N, N = l.length := ⟨_, rfl⟩
    rw [← hN] at hl x4 hW0 HK HX ⊢
    have HW0 := Lib.hid hW0
    have HW := Lib.hid hW
    have HHH := Lib.hid hH
    have HHR := Lib.hid hR
    have HN := Lib.hid hN
    clear h ih hN hH hR hW hW0 hx HB0 HHW0 hb0 hbx hz
    go_enter Tryd.func20, Tryd.ntmps20
    go_wp2_with (first | (rw [← HW0.out, ← HHH.out]) | (rw [← HW.out, ← HHR.out]))
    go_loopw [3, 9] (fun o i wr => ClRel W N l o i wr) (fun _ i _ => N - (intOf i).toNat)
    case atStart => unfold ClRel; exact ⟨0, Nat.zero_le _, rfl, Lib.hid (Own2.nil_ _ _), Below.refl _ _⟩
    case round =>
      unfold ClRel at hrel
      obtain ⟨j, hj, rfl, ho, hb⟩ := hrel
      obtain ⟨Ao, co, rfl⟩ := ho.out.form
      rw [cleanL_len, List.length_take] at ho ⊢
      by_cases hlt : j < N
      · have hjl : j < l.length := by have := HN.out; omega
        rw [show min j l.length = j by omega] at ho ⊢
        obtain ⟨b, off, cq, q, hs, hlt1, hd1, c0, c1, c2, c3, c4, hkk⟩ := HK.out.kid hb j hjl
        injection hs with hA hL hC
        subst hA
        subst hC
        clear hL
        obtain ⟨Aq, cc, rfl, _⟩ := hkk.form
        have hszj : l[j].size ≤ 1073741824 := by have := mem_sizeL (List.getElem_mem hjl); have := HSZ.out; omega
        have HST := Lib.hid (cleanL_step l j hjl)
        have hIH := IH.out l[j] (List.getElem_mem hjl)
        have hjs : j ≤ 1099511627776 := by have := len_le_sizeL l; have := HSZ.out; omega
        obtain ⟨K2, hK2⟩ : ∃ K2, K2 = wr.heap.size := ⟨_, rfl⟩
        obtain ⟨⟨uk, ua, un, us, ul⟩, hu⟩ : ∃ u, u = l[j] := ⟨_, rfl⟩
        rw [← hu] at c0 c1 c2 c3 c4 hIH hkk hszj hd1 HST
        simp only [NT.kind, NT.at_, NT.num, NT.name, NT.kids] at c0 c1 c2 c3 c4 hIH hkk
        obtain ⟨V, hV⟩ : ∃ V, V = wr.alloc (.cells #[.int .i64 uk, .int .i64 ua, .int .i64 un, .string ⟨us.toArray⟩, .slice Aq ul.length cc] NodeT) := ⟨_, rfl⟩
        obtain ⟨⟨v0, v1, v2, v3, v4⟩, HBV, HHV⟩ := boxed hK2 hV
        have HI := Lib.hid (hIH G hd1 hszj _ V (hkk.below HBV.out))
        have hbV := hb.trans (HBV.out.mono hb.size)
        have HDC : Hid (Hd (NT.mk uk 0 un us (cleanL ul))) := Lib.hid ⟨hd1.1, by show I64 0; unfold I64; omega, hd1.2.2.1, hd1.2.2.2⟩
        obtain ⟨M, hM⟩ : ∃ M, M = ul.length := ⟨_, rfl⟩
        rw [← hM] at c4 HI hV v4
        have HBR := Lib.hid hb
        have HBRV := Lib.hid hbV
        have HV := Lib.hid hV
        have HK2 := Lib.hid hK2
        have HOV := Lib.hid (ho.out.below HBV.out)
        have HLEN : Hid (j = (cleanL (l.take j)).length) := Lib.hid (by rw [cleanL_len, List.length_take]; omega)
        obtain ⟨L, hLL⟩ : ∃ L, L = cleanL (l.take j) := ⟨_, rfl⟩
        rw [← hLL] at HOV HLEN HST
        clear hkk hM hu hszj hd1 hIH hV hK2 hb hbV ho hLL
        go_wp2_with (first | (rw [← HV.out, ← HK2.out]))
        refine HI.out.mono ?_
        rintro e w2 ⟨s2, rfl, hk2, hb2⟩
        obtain ⟨A5, c5, rfl, _⟩ := hk2.form
        have HB2 := Lib.hid (HBRV.out.trans (hb2.mono HBRV.out.size))
        have HO2 := Lib.hid (HOV.out.below hb2)
        have HG2 := Lib.hid (end_grown HB2.out)
        have HK5 : Hid (Kids (fun b => W.heap.size ≤ b ∧ some b ≠ (Value.slice Ao j co).ownBlock) w2 (cleanL ul) (.slice A5 (cleanL ul).length c5)) := Lib.hid (hk2.mono fun b hb => by
          have h1 := HBRV.out.size
          refine ⟨by omega, fun e => ?_⟩
          have := (HOV.out.lt b e.symm).2
          omega)
        obtain ⟨m5, hm5⟩ : ∃ m5, m5 = (cleanL ul).length := ⟨_, rfl⟩
        rw [← hm5] at HK5
        have hBr := HB2.out.size
        have hc5 : (cleanL ul).length = m5 := hm5.symm
        rw [hc5]
        clear hk2 hb2 HI hm5 hc5
        go_wp2_with (at_builtin; (refine wpList_node (p := W.heap.size) (w0 := W) (wr := w2) rfl (.tmp 13) (.tmp 16) rfl W.heap.size j L (NT.mk uk 0 un us (cleanL ul)) (.slice Ao j co) (.slice A5 m5 c5) w2.heap.size rfl rfl HO2.out HDC.out HK5.out HG2.out (Nat.le_refl _) hBr HLEN.out hjs rfl ?_); intro A4 c4 w4 ho4 hg4 hk4; have HO4 := Lib.hid ho4; have HG4 := Lib.hid hg4; clear ho4 hg4 hk4)
        go_roundw
        case rel =>
          unfold ClRel
          exact ⟨j + 1, by omega, by go_num, Lib.hid (by rw [HST.out, clean_mk]; exact HO4.out), grown_end HG4.out⟩
        case measure => simp [intOf]; omega
      · have hjN : j = N := by omega
        have hfull : l.take j = l := List.take_of_length_le (by have := HN.out; omega)
        rw [hfull] at ho
        rw [show min j l.length = N by have := HN.out; omega] at ho ⊢
        have BX := HBX.out.on hb
        have f0 := BX.frozen 0
        have f1 := BX.frozen 1
        have f2 := BX.frozen 2
        have f3 := BX.frozen 3
        have f4 := BX.frozen 4
        have y0 := BX.cell 0
        have y1 := BX.cell 1
        have y2 := BX.cell 2
        have y3 := BX.cell 3
        have y4 := BX.cell 4
        simp only [List.getElem?_toArray, List.getElem?_cons_zero, List.getElem?_cons_succ] at y0 y1 y2 y3 y4
        have HBX2 := Lib.hid BX
        obtain ⟨z0, z1, z2, z3, z4⟩ := boxed_on HX.out HRW.out.2.2 hb
        have HBR := Lib.hid hb
        clear hb BX hfull
        go_wp2_with (fail)
        try simp only [Exit.inBlock, Exit.then]
        refine bodyPost_ret (node_retc rfl rfl (box_five HBX2.out _ _ _ _ _)) rfl ?_
        exact ⟨_, rfl, (kids_five ho.out.kids (fun b hb => by have := HRW.out.2.1; omega) _ _ _ _ _).mono (fun b hb => by have := HBW.out.size; omega), ⟨_, own_base (owns_five2 ho.out.choose_spec.2 HRW.out.2.1 _ _ _ _ _) HBW.out.size⟩, below_fiveC (HBW.out.trans (HBR.out.mono HBW.out.size)) HRW.out.1 _ _ _ _ _⟩
end Go.Proofs.YtkmkeaeaalnbjaaDoor.nt

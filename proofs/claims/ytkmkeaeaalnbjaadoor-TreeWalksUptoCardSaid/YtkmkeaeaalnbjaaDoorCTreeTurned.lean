/- The law's function turn, walked. -/
import Derived.Test.YtkmkeaeaalnbjaaDoorCTreeTurn
namespace Go.Proofs.YtkmkeaeaalnbjaaDoor.nt
open Go.RowKit mem wd lx
open vt (I64 own_base own_form own_below)

def TuRel (N : Nat) (w : World) (Kn O : Nat) (t to : NT) (s st : Value) (k kd a num : Int) (nm : List UInt8) (m i : Value) (wr : World) : Prop :=
  ∃ (j M : Nat) (l : List NT) (v : Value), j ≤ N ∧ i = .int .i64 j ∧ m = .int .i64 M ∧ Hid (M = 1 + sizeL (t.kids.take j)) ∧ M ≤ 1073741824 ∧ Hid (l = turnL (t.kids.take j) (k - 1) to) ∧ l.length = j ∧ Hid (TSt w Kn (Kn + 1) (Kn + 1 + 1) O t to s st kd a num nm wr l v)
set_option maxHeartbeats 4000000 in
set_option maxRecDepth 100000 in
theorem turn_any (to : NT) (hto : Hd to) (st : Value) (hst : ∃ A n c, st = .slice A n c) : ∀ (t : NT), Hd t → t.size ≤ 1073741824 → ∀ (G : Nat → Prop) (k : Int) (s : Value) (w : World), -1099511627776 ≤ k - (t.size : Int) → k ≤ 1099511627776 → Kids G w t.kids s →
    Calls Tryd.prog 15 #[.agg #[.int .i64 t.kind, .int .i64 t.at_, .int .i64 t.num, .string ⟨t.name.toArray⟩, s], .int .i64 k, .agg #[.int .i64 to.kind, .int .i64 to.at_, .int .i64 to.num, .string ⟨to.name.toArray⟩, st]] w (TurnPost t to k w) := by
  obtain ⟨At, nt_, ct, rfl⟩ := hst
  intro t
  induction t using NT.ind with
  | h kd a n nm l ih =>
    intro hd hz G k s w hk1 hk2 h
    change Kids G w l s at h
    obtain ⟨A, cap, rfl, hl⟩ := h.form
    obtain ⟨T, hT⟩ : ∃ T, T = NT.mk kd a n nm l := ⟨_, rfl⟩
    rw [← hT] at hd hz hk1 ⊢
    have hTk : T.kids = l := by rw [hT]; rfl
    have e0 : T.kind = kd := by rw [hT]; rfl
    have e1 : T.at_ = a := by rw [hT]; rfl
    have e2 : T.num = n := by rw [hT]; rfl
    have e3 : T.name = nm := by rw [hT]; rfl
    have esz : T.size = sizeL l + 1 := by rw [hT, size_mk]
    have hNb : l.length ≤ 1073741824 := by have := len_le_sizeL l; omega
    obtain ⟨Kn, hKn⟩ : ∃ K, K = w.heap.size := ⟨_, rfl⟩
    obtain ⟨W0, hW0⟩ : ∃ W, W = ((w.alloc (.cells #[.int .i64 T.kind, .int .i64 T.at_, .int .i64 T.num, .string ⟨T.name.toArray⟩, .slice A l.length cap] NodeT)).alloc (.cells #[.int .i64 to.kind, .int .i64 to.at_, .int .i64 to.num, .string ⟨to.name.toArray⟩, .slice At nt_ ct] NodeT)).alloc (.cells ZN NodeT) := ⟨_, rfl⟩
    obtain ⟨O, hO⟩ : ∃ O, O = W0.heap.size := ⟨_, rfl⟩
    obtain ⟨w1, hw1⟩ : ∃ W, W = W0.alloc (.cells #[.int .i64 T.kind, .int .i64 T.at_, .int .i64 T.num, .string ⟨T.name.toArray⟩, .slice none 0 0] NodeT) := ⟨_, rfl⟩
    have b1 : ∀ (w1 : World) o, Below w1.heap.size w1 (w1.alloc o) := fun w1 o => (Below.refl _ _).alloc (Nat.le_refl _) o
    have bW0 : Below w.heap.size w W0 := by rw [hW0]; exact (((b1 w _).trans ((b1 _ _).mono (by simp))).trans ((b1 _ _).mono (by simp; omega)))
    have hOK : O = Kn + 3 := by rw [hO, hW0, hKn]; simp
    have hbn : Box W0 Kn NodeT (nodeC T (.slice A l.length cap)) := by rw [hW0]; exact ((Box.new w NodeT _ Kn hKn).on (b1 _ _)).on (b1 _ _)
    have hbt : Box W0 (Kn + 1) NodeT (nodeC to (.slice At nt_ ct)) := by rw [hW0]; exact (Box.new _ NodeT _ (Kn + 1) (by rw [hKn]; simp)).on (b1 _ _)
    have hbr : Box W0 (Kn + 1 + 1) NodeT ZN := by rw [hW0]; exact Box.new _ NodeT _ (Kn + 1 + 1) (by rw [hKn]; simp)
    have hbo : Box w1 O NodeT #[.int .i64 T.kind, .int .i64 T.at_, .int .i64 T.num, .string ⟨T.name.toArray⟩, .slice none 0 0] := by rw [hw1]; exact Box.new _ _ _ _ hO
    have b01 : Below W0.heap.size W0 w1 := by rw [hw1]; exact b1 _ _
    have T1 : Hid (TSt w Kn (Kn + 1) (Kn + 1 + 1) O T to (.slice A l.length cap) (.slice At nt_ ct) T.kind T.at_ T.num T.name w1 [] (.slice none 0 0)) := Lib.hid { hR := by omega, hK := by omega, hn := hbn.on b01, ht := hbt.on b01, hr := hbr.on b01, ho := hbo, hl := Own2.nil_ _ _, hb := bW0.trans (b01.mono bW0.size) }
    have HN0 := Lib.hid hbn
    have HKS := Lib.hid h
    have IH := Lib.hid ih
    have HHD := Lib.hid h.head
    have HTE : Hid (turnT T k to = .mk (if k = 0 then to.kind else T.kind) T.at_ (if k = 0 then to.num else T.num) (if k = 0 then to.name else T.name) (turnL l (k - 1) to)) := Lib.hid (by rw [hT, turn_mk]; rfl)
    have HW0 := Lib.hid hW0
    have HW1 := Lib.hid hw1
    have HKN := Lib.hid hKn
    have HOO := Lib.hid hO
    have HOK := Lib.hid hOK
    have HTK := Lib.hid hTk
    have HSZ := Lib.hid esz
    have HDT := Lib.hid hd
    obtain ⟨N, hN⟩ : ∃ N, N = l.length := ⟨_, rfl⟩
    rw [← hN] at hl hNb HN0 T1 HKS HW0 ⊢
    have HN := Lib.hid hN
    have bx := HN0.out
    have z0 := bx.cell 0
    have z1 := bx.cell 1
    have z2 := bx.cell 2
    have z3 := bx.cell 3
    have z4 := bx.cell 4
    simp only [nodeC, List.getElem?_toArray, List.getElem?_cons_zero, List.getElem?_cons_succ] at z0 z1 z2 z3 z4
    clear bx
    clear hKn hW0 hO hw1 b1 bW0 hOK hbn hbt hbr hbo b01 h ih hTk e0 e1 e2 e3 esz hN hT hd
    go_enter Tryd.func15, Tryd.ntmps15
    by_cases hk0 : k = 0
    · have hkt : (k == 0) = true := beq_iff_eq.2 hk0
      have HK0 := Lib.hid hk0
      clear hk0
      obtain ⟨w2, hw2⟩ : ∃ W, W = w1.setCell ⟨O, 0, none⟩ (.int .i64 to.kind) := ⟨_, rfl⟩
      have T2 := Lib.hid (T1.out.put 0 (.int .i64 to.kind) (kd' := to.kind) (num' := T.num) (nm' := T.name) rfl)
      obtain ⟨w3, hw3⟩ : ∃ W, W = w2.setCell ⟨O, 2, none⟩ (.int .i64 to.num) := ⟨_, rfl⟩
      rw [← hw2] at T2
      have T3 := Lib.hid (T2.out.put 2 (.int .i64 to.num) (kd' := to.kind) (num' := to.num) (nm' := T.name) rfl)
      obtain ⟨w4, hw4⟩ : ∃ W, W = w3.setCell ⟨O, 3, none⟩ (.string ⟨to.name.toArray⟩) := ⟨_, rfl⟩
      rw [← hw3] at T3
      have T4 := Lib.hid (T3.out.put 3 (.string ⟨to.name.toArray⟩) (kd' := to.kind) (num' := to.num) (nm' := to.name) rfl)
      rw [← hw4] at T4
      have HW2 := Lib.hid hw2
      have HW3 := Lib.hid hw3
      have HW4 := Lib.hid hw4
      clear hw2 hw3 hw4
      have bx := T1.out.ho
      have ao0 := bx.cell 0
      have ao1 := bx.cell 1
      have ao2 := bx.cell 2
      have ao3 := bx.cell 3
      have ao4 := bx.cell 4
      simp only [nodeC, List.getElem?_toArray, List.getElem?_cons_zero, List.getElem?_cons_succ] at ao0 ao1 ao2 ao3 ao4
      have aof0 := bx.frozen 0
      have aof1 := bx.frozen 1
      have aof2 := bx.frozen 2
      have aof3 := bx.frozen 3
      have aof4 := bx.frozen 4
      clear bx
      have bx := T1.out.ht
      have at0 := bx.cell 0
      have at1 := bx.cell 1
      have at2 := bx.cell 2
      have at3 := bx.cell 3
      have at4 := bx.cell 4
      simp only [nodeC, List.getElem?_toArray, List.getElem?_cons_zero, List.getElem?_cons_succ] at at0 at1 at2 at3 at4
      clear bx
      have bx := T2.out.ho
      have bo0 := bx.cell 0
      have bo1 := bx.cell 1
      have bo2 := bx.cell 2
      have bo3 := bx.cell 3
      have bo4 := bx.cell 4
      simp only [nodeC, List.getElem?_toArray, List.getElem?_cons_zero, List.getElem?_cons_succ] at bo0 bo1 bo2 bo3 bo4
      have bof0 := bx.frozen 0
      have bof1 := bx.frozen 1
      have bof2 := bx.frozen 2
      have bof3 := bx.frozen 3
      have bof4 := bx.frozen 4
      clear bx
      have bx := T2.out.ht
      have bt0 := bx.cell 0
      have bt1 := bx.cell 1
      have bt2 := bx.cell 2
      have bt3 := bx.cell 3
      have bt4 := bx.cell 4
      simp only [nodeC, List.getElem?_toArray, List.getElem?_cons_zero, List.getElem?_cons_succ] at bt0 bt1 bt2 bt3 bt4
      clear bx
      have bx := T3.out.ho
      have do0 := bx.cell 0
      have do1 := bx.cell 1
      have do2 := bx.cell 2
      have do3 := bx.cell 3
      have do4 := bx.cell 4
      simp only [nodeC, List.getElem?_toArray, List.getElem?_cons_zero, List.getElem?_cons_succ] at do0 do1 do2 do3 do4
      have dof0 := bx.frozen 0
      have dof1 := bx.frozen 1
      have dof2 := bx.frozen 2
      have dof3 := bx.frozen 3
      have dof4 := bx.frozen 4
      clear bx
      have bx := T3.out.ht
      have dt0 := bx.cell 0
      have dt1 := bx.cell 1
      have dt2 := bx.cell 2
      have dt3 := bx.cell 3
      have dt4 := bx.cell 4
      simp only [nodeC, List.getElem?_toArray, List.getElem?_cons_zero, List.getElem?_cons_succ] at dt0 dt1 dt2 dt3 dt4
      clear bx
      go_wp2_with (first | (rw [← HW0.out, ← HKN.out]) | (rw [← HW1.out, ← HOO.out]) | (rw [← HW2.out]) | (rw [← HW3.out]) | (rw [← HW4.out]))
      go_loopw [9, 10] (fun m i wr => TuRel N w Kn O T to (.slice A N cap) (.slice At nt_ ct) k to.kind T.at_ to.num to.name m i wr) (fun _ i _ => N - (intOf i).toNat)
      case atStart => unfold TuRel; exact ⟨0, 1, [], _, Nat.zero_le _, rfl, rfl, Lib.hid (by simp [sizeL]), by omega, Lib.hid (by simp [turnL]), rfl, T4⟩
      case round =>
        unfold TuRel at hrel
        obtain ⟨j, M, l', v, hj, rfl, rfl, hM, hMz, hl', hlen, D⟩ := hrel
        obtain ⟨A9, c9, rfl⟩ := D.out.hl.form
        clear T1
        have bx := D.out.hn
        have x0 := bx.cell 0
        have x1 := bx.cell 1
        have x2 := bx.cell 2
        have x3 := bx.cell 3
        have x4 := bx.cell 4
        simp only [nodeC, List.getElem?_toArray, List.getElem?_cons_zero, List.getElem?_cons_succ] at x0 x1 x2 x3 x4
        clear bx
        have bx := D.out.ht
        have y0 := bx.cell 0
        have y1 := bx.cell 1
        have y2 := bx.cell 2
        have y3 := bx.cell 3
        have y4 := bx.cell 4
        simp only [nodeC, List.getElem?_toArray, List.getElem?_cons_zero, List.getElem?_cons_succ] at y0 y1 y2 y3 y4
        clear bx
        have bx := D.out.ho
        have o0 := bx.cell 0
        have o1 := bx.cell 1
        have o2 := bx.cell 2
        have o3 := bx.cell 3
        have o4 := bx.cell 4
        simp only [nodeC, List.getElem?_toArray, List.getElem?_cons_zero, List.getElem?_cons_succ] at o0 o1 o2 o3 o4
        have of0 := bx.frozen 0
        have of1 := bx.frozen 1
        have of2 := bx.frozen 2
        have of3 := bx.frozen 3
        have of4 := bx.frozen 4
        clear bx
        by_cases hlt : j < N
        · have hlt' : (j : Int) < (N : Int) := by omega
          have hj0 : (0 : Int) ≤ (j : Int) := by omega
          have hjl : j < l.length := by rw [← HN.out]; exact hlt
          obtain ⟨b, off, cap', s', hs, hblt, hdk, c0, c1, c2, c3, c4, hkk⟩ := Kids.kid HKS.out D.out.hb j hjl
          injection hs with hs1 hs2 hs3
          subst hs1
          clear hs2 hs3
          have hM' : M = 1 + sizeL (l.take j) := by rw [hM.out, HTK.out]
          have htl := sizeL_take_le l (j + 1)
          rw [sizeL_take l j hjl] at htl
          have HSU : Hid (M + l[j].size ≤ T.size) := Lib.hid (by rw [HSZ.out]; omega)
          have hus : l[j].size ≤ 1073741824 := by have := HSU.out; omega
          have hkb : -1099511627776 ≤ k - (M : Int) - (l[j].size : Int) := by have := HSU.out; omega
          obtain ⟨A8, cap8, rfl, _⟩ := hkk.form
          have HI : Hid (∀ w', Below wr.heap.size wr w' → Calls Tryd.prog 15 #[.agg #[.int .i64 l[j].kind, .int .i64 l[j].at_, .int .i64 l[j].num, .string ⟨l[j].name.toArray⟩, .slice A8 l[j].kids.length cap8], .int .i64 (k - (M : Int)), .agg #[.int .i64 to.kind, .int .i64 to.at_, .int .i64 to.num, .string ⟨to.name.toArray⟩, .slice At nt_ ct]] w' fun e w'' => ∃ t2 A7 n7 c7, t2 = turnT l[j] (k - (M : Int)) to ∧ n7 = t2.kids.length ∧ e = .returned (.tuple #[.agg #[.int .i64 t2.kind, .int .i64 t2.at_, .int .i64 t2.num, .string ⟨t2.name.toArray⟩, .slice A7 n7 c7], .int .i64 (l[j].size : Nat)]) ∧ Kids (fun b => w'.heap.size ≤ b) w'' t2.kids (.slice A7 n7 c7) ∧ Below w'.heap.size w' w'') := Lib.hid (fun w' hb' => (IH.out _ (List.getElem_mem hjl) hdk hus _ _ _ w' hkb (by omega) (hkk.below hb')).mono fun e w'' ⟨s2, h1, h2, h3⟩ => by
            obtain ⟨A7, c7, hs7, _⟩ := h2.form
            subst hs7
            exact ⟨_, A7, _, c7, rfl, rfl, h1, h2, h3⟩)
          have HNL : Hid (l' ++ [turnT l[j] (k - (M : Int)) to] = turnL (T.kids.take (j + 1)) (k - 1) to) := Lib.hid (by
            rw [HTK.out, turnL_take to l j hjl, hl'.out, HTK.out, hM']
            congr 2
            rw [show k - ((1 + sizeL (l.take j) : Nat) : Int) = k - 1 - (sizeL (l.take j) : Int) by omega])
          have HMM : Hid (M + l[j].size = 1 + sizeL (T.kids.take (j + 1))) := Lib.hid (by rw [HTK.out, sizeL_take l j hjl, hM']; omega)
          have HDU := Lib.hid (turn_hd hdk hto (k - (M : Int)))
          obtain ⟨u, hu⟩ : ∃ u, u = l[j] := ⟨_, rfl⟩
          obtain ⟨cu, hcu⟩ : ∃ c, c = u.kids.length := ⟨_, rfl⟩
          rw [← hu] at c0 c1 c2 c3 HI HNL HMM HDU HSU hus
          rw [← hu, ← hcu] at c4
          rw [← hcu] at HI
          have hqw := IntWalk.i64_in (k - (M : Int)) (by omega)
          clear hu hcu hkk hdk hM' htl hkb hM hl'
          obtain ⟨n9, hn9⟩ : ∃ n9, n9 = l'.length := ⟨_, rfl⟩
          rw [← hn9] at D o4 hlen
          obtain rfl := hlen
          have HNN := Lib.hid hn9
          clear hn9
          have HBZ : Hid (Box (wr.alloc (.cells ZN NodeT)).drew wr.heap.size NodeT ZN) := Lib.hid (show Box (wr.alloc (.cells ZN NodeT)) wr.heap.size NodeT ZN from Box.new _ _ _ _ rfl)
          have HAL : Hid (Below wr.heap.size wr (wr.alloc (.cells ZN NodeT)).drew) := Lib.hid (((Below.refl _ _).alloc (Nat.le_refl _) _).drew)
          have HCE : Hid (∀ w', Below wr.heap.size wr w' → w'.cell? ⟨Kn, 4, none⟩ = some (.slice (some ⟨b, off, none⟩) N cap) ∧ w'.cell? ⟨b, off + n9 * 5, none⟩ = some (.int .i64 u.kind) ∧ w'.cell? ⟨b, off + n9 * 5 + 1, none⟩ = some (.int .i64 u.at_) ∧ w'.cell? ⟨b, off + n9 * 5 + 2, none⟩ = some (.int .i64 u.num) ∧ w'.cell? ⟨b, off + n9 * 5 + 3, none⟩ = some (.string ⟨u.name.toArray⟩) ∧ w'.cell? ⟨b, off + n9 * 5 + 4, none⟩ = some (.slice A8 cu cap8) ∧ w'.cell? ⟨Kn + 1, 0, none⟩ = some (.int .i64 to.kind) ∧ w'.cell? ⟨Kn + 1, 1, none⟩ = some (.int .i64 to.at_) ∧ w'.cell? ⟨Kn + 1, 2, none⟩ = some (.int .i64 to.num) ∧ w'.cell? ⟨Kn + 1, 3, none⟩ = some (.string ⟨to.name.toArray⟩) ∧ w'.cell? ⟨Kn + 1, 4, none⟩ = some (.slice At nt_ ct)) := Lib.hid (fun w' hb' =>
            have g := fun (a : Addr) (v : Value) (h : wr.cell? a = some v) => (hb'.cell (p := a) (World.block_lt_of_cell? _ _ h)).trans h
            ⟨g _ _ x4, g _ _ c0, g _ _ c1, g _ _ c2, g _ _ c3, g _ _ c4, g _ _ y0, g _ _ y1, g _ _ y2, g _ _ y3, g _ _ y4⟩)
          have hnb2 : Kn < wr.heap.size := D.out.hn.lt
          have hnb3 : Kn + 1 < wr.heap.size := D.out.ht.lt
          go_wp2_with (fail)
          go_region_held3 (fun w' => w'.cell? ⟨Kn, 4, none⟩ = some (.slice (some ⟨b, off, none⟩) N cap) ∧ w'.cell? ⟨b, off + n9 * 5, none⟩ = some (.int .i64 u.kind) ∧ w'.cell? ⟨b, off + n9 * 5 + 1, none⟩ = some (.int .i64 u.at_) ∧ w'.cell? ⟨b, off + n9 * 5 + 2, none⟩ = some (.int .i64 u.num) ∧ w'.cell? ⟨b, off + n9 * 5 + 3, none⟩ = some (.string ⟨u.name.toArray⟩) ∧ w'.cell? ⟨b, off + n9 * 5 + 4, none⟩ = some (.slice A8 cu cap8) ∧ w'.cell? ⟨Kn + 1, 0, none⟩ = some (.int .i64 to.kind) ∧ w'.cell? ⟨Kn + 1, 1, none⟩ = some (.int .i64 to.at_) ∧ w'.cell? ⟨Kn + 1, 2, none⟩ = some (.int .i64 to.num) ∧ w'.cell? ⟨Kn + 1, 3, none⟩ = some (.string ⟨to.name.toArray⟩) ∧ w'.cell? ⟨Kn + 1, 4, none⟩ = some (.slice At nt_ ct)) (first | go_keep)
            (first
              | (go_at_call 15; (with_reducible refine (HI.out _ ((Below.refl _ _).drew)).mono ?_); intro e w2 hp2; obtain ⟨t2, A7, n7, c7, ht2, hn7, rfl, hk2', hb2⟩ := hp2; have hb2' : Below wr.heap.size wr w2 := (Below.refl _ wr).drew.trans (hb2.mono (by simp)); obtain ⟨p0, p1, p2, p3, p4, p5, p6, p7, p8, p9, p10⟩ := HCE.out w2 hb2'; (obtain ⟨w3, hw3⟩ : ∃ W, W = w2.alloc (.cells #[.int .i64 t2.kind, .int .i64 t2.at_, .int .i64 t2.num, .string ⟨t2.name.toArray⟩, .slice A7 n7 c7] NodeT) := ⟨_, rfl⟩); have hb3 : Below wr.heap.size wr w3 := (by rw [hw3]; exact hb2'.alloc hb2'.size _); have hx3 : Box w3 w2.heap.size NodeT (nodeC t2 (.slice A7 n7 c7)) := (by rw [hw3]; exact Box.new _ _ _ _ rfl); have hk3 : Kids (fun b => O + 1 ≤ b ∧ some b ≠ (Value.slice A9 n9 c9).ownBlock) w3 t2.kids (.slice A7 n7 c7) := (by rw [hw3]; exact (D.out.apart hk2').below ((Below.refl _ _).alloc (Nat.le_refl _) _)); have hz2 := hb2'.size; have m1 : ¬ b = w2.heap.size := (by omega); have m2 : ¬ Kn = w2.heap.size := (by omega); have m3 : ¬ Kn + 1 = w2.heap.size := (by omega); have m4 : ¬ w2.heap.size = b := (by omega); have m5 : ¬ w2.heap.size = Kn := (by omega); have m6 : ¬ w2.heap.size = Kn + 1 := (by omega); (obtain ⟨H, hH⟩ : ∃ H, H = w2.heap.size := ⟨_, rfl⟩); have D3 := Lib.hid (D.out.below hb3); have HX3 := Lib.hid hx3; have HK3 := Lib.hid hk3; have HW3 := Lib.hid hw3; have HH3 := Lib.hid hH; have HT2 := Lib.hid ht2; have HN7 := Lib.hid hn7; rw [← hH] at HX3; clear hk2' hb2 hb2' hb3 hx3 hk3 hw3 hH ht2 hn7 hz2)
              | (go_at_call 15; (with_reducible refine (HI.out _ HAL.out).mono ?_); intro e w2 hp2; obtain ⟨t2, A7, n7, c7, ht2, hn7, rfl, hk2', hb2⟩ := hp2; have hb2' : Below wr.heap.size wr w2 := HAL.out.trans (hb2.mono HAL.out.size); obtain ⟨p0, p1, p2, p3, p4, p5, p6, p7, p8, p9, p10⟩ := HCE.out w2 hb2'; have bz := HBZ.out.on hb2; (have z50 := bz.cell 0); (have z51 := bz.cell 1); (have z52 := bz.cell 2); (have z53 := bz.cell 3); (have z54 := bz.cell 4); simp only [List.getElem?_toArray, List.getElem?_cons_zero, List.getElem?_cons_succ] at z50 z51 z52 z53 z54; (have zf50 := bz.frozen 0); (have zf51 := bz.frozen 1); (have zf52 := bz.frozen 2); (have zf53 := bz.frozen 3); (have zf54 := bz.frozen 4); (obtain ⟨w3, hw3⟩ : ∃ W, W = ((((w2.setCell ⟨wr.heap.size, 0, none⟩ (.int .i64 t2.kind)).setCell ⟨wr.heap.size, 1, none⟩ (.int .i64 t2.at_)).setCell ⟨wr.heap.size, 2, none⟩ (.int .i64 t2.num)).setCell ⟨wr.heap.size, 3, none⟩ (.string ⟨t2.name.toArray⟩)).setCell ⟨wr.heap.size, 4, none⟩ (.slice A7 n7 c7) := ⟨_, rfl⟩); have hb3 : Below wr.heap.size wr w3 := (by rw [hw3]; exact ((((hb2'.setCell (Nat.le_refl _) _).setCell (Nat.le_refl _) _).setCell (Nat.le_refl _) _).setCell (Nat.le_refl _) _).setCell (Nat.le_refl _) _); have hx3 : Box w3 wr.heap.size NodeT (nodeC t2 (.slice A7 n7 c7)) := (by rw [hw3]; exact box_five bz _ _ _ _ _); have hk3 : Kids (fun b => O + 1 ≤ b ∧ some b ≠ (Value.slice A9 n9 c9).ownBlock) w3 t2.kids (.slice A7 n7 c7) := (by rw [hw3]; exact D.out.apart ((kids_five hk2' (fun b hb => by have hb9 : (wr.alloc (.cells ZN NodeT)).heap.size ≤ b := hb; have h8 : wr.heap.size < (wr.alloc (.cells ZN NodeT)).heap.size := HBZ.out.lt; omega) _ _ _ _ _).mono fun b hb => by have hb9 : (wr.alloc (.cells ZN NodeT)).heap.size ≤ b := hb; have h8 : wr.heap.size < (wr.alloc (.cells ZN NodeT)).heap.size := HBZ.out.lt; show wr.heap.size ≤ b; omega)); have m1 : ¬ b = wr.heap.size := (by omega); have m2 : ¬ Kn = wr.heap.size := (by omega); have m3 : ¬ Kn + 1 = wr.heap.size := (by omega); have m4 : ¬ wr.heap.size = b := (by omega); have m5 : ¬ wr.heap.size = Kn := (by omega); have m6 : ¬ wr.heap.size = Kn + 1 := (by omega); (obtain ⟨H, hH⟩ : ∃ H, H = wr.heap.size := ⟨_, rfl⟩); have D3 := Lib.hid (D.out.below hb3); have HX3 := Lib.hid hx3; have HK3 := Lib.hid hk3; have HW3 := Lib.hid hw3; have HH3 := Lib.hid hH; have HT2 := Lib.hid ht2; have HN7 := Lib.hid hn7; rw [← hH] at HX3; clear hk2' hb2 hb2' hb3 hx3 hk3 hw3 hH ht2 hn7 bz))
          all_goals
            have bx := D3.out.ho
            have oo0 := bx.cell 0
            have oo1 := bx.cell 1
            have oo2 := bx.cell 2
            have oo3 := bx.cell 3
            have oo4 := bx.cell 4
            simp only [nodeC, List.getElem?_toArray, List.getElem?_cons_zero, List.getElem?_cons_succ] at oo0 oo1 oo2 oo3 oo4
            have oof0 := bx.frozen 0
            have oof1 := bx.frozen 1
            have oof2 := bx.frozen 2
            have oof3 := bx.frozen 3
            have oof4 := bx.frozen 4
            clear bx
            have bx := HX3.out
            have hh0 := bx.cell 0
            have hh1 := bx.cell 1
            have hh2 := bx.cell 2
            have hh3 := bx.cell 3
            have hh4 := bx.cell 4
            simp only [nodeC, List.getElem?_toArray, List.getElem?_cons_zero, List.getElem?_cons_succ] at hh0 hh1 hh2 hh3 hh4
            clear bx
            have HD2 : Hid (Hd t2) := Lib.hid (by rw [HT2.out]; exact HDU.out)
            have hsu := HSU.out
            go_wp2_with (first | (at_builtin; (refine wpList_node (p := O) (w0 := w) (wr := w3) rfl (.tmp 54) (.tmp 56) rfl (O + 1) n9 l' t2 (.slice A9 n9 c9) (.slice A7 n7 c7) w3.heap.size rfl rfl D3.out.hl HD2.out HK3.out D3.out.grow (by have := D3.out.hK; have := D3.out.hR; omega) D3.out.size HNN.out (by omega) rfl ?_); intro A4 c4 w4 ho4 hg4 hk4; have HAP := Lib.hid (D3.out.app ho4 hg4 hk4); have hbz := HAP.out.1; have zz4 := hbz.cell 4; simp only [List.getElem?_toArray, List.getElem?_cons_zero, List.getElem?_cons_succ] at zz4; have zzf := hbz.frozen 4; clear hbz; (obtain ⟨w5, hw5⟩ : ∃ W, W = w4.setCell ⟨O, 4, none⟩ (.slice A4 (n9 + 1) c4) := ⟨_, rfl⟩); have HW5 := Lib.hid hw5; have D5 := Lib.hid HAP.out.2; (rw [← hw5] at D5); clear ho4 hg4 hk4 hw5) | (rw [← HW5.out]) | (rw [← HW3.out, ← HH3.out]))
            go_roundw
            case rel =>
              unfold TuRel
              exact ⟨n9 + 1, M + u.size, l' ++ [t2], _, by omega, by go_num, by go_num, HMM, by omega, Lib.hid (by rw [HT2.out]; exact HNL.out), by rw [List.length_append, ← HNN.out]; rfl, D5⟩
            case measure => simp [intOf]; omega
        · have hjN : j = N := by omega
          have hE : turnT T k to = .mk to.kind T.at_ to.num to.name l' := by
            rw [HTE.out, hl'.out, HTK.out, hjN, HN.out, List.take_length]
            simp only [if_pos HK0.out]
          have hm : M = T.size := by rw [hM.out, HTK.out, hjN, HN.out, List.take_length, HSZ.out]; omega
          have HE := Lib.hid (D.out.tell hE hm)
          have hlt' : ¬ (j : Int) < (N : Int) := by omega
          obtain ⟨n9, hn9⟩ : ∃ n9, n9 = l'.length := ⟨_, rfl⟩
          rw [← hn9] at HE o4
          have bx := D.out.hr
          have r0 := bx.cell 0
          have r1 := bx.cell 1
          have r2 := bx.cell 2
          have r3 := bx.cell 3
          have r4 := bx.cell 4
          simp only [nodeC, List.getElem?_toArray, List.getElem?_cons_zero, List.getElem?_cons_succ] at r0 r1 r2 r3 r4
          have rf0 := bx.frozen 0
          have rf1 := bx.frozen 1
          have rf2 := bx.frozen 2
          have rf3 := bx.frozen 3
          have rf4 := bx.frozen 4
          clear bx
          clear hE hm hM hl' hn9 hlen hjN
          go_wp2_with (fail)
          exact bodyPost_ret (turn_ret rfl rfl HE.out.1) rfl HE.out.2
    · have hkt : (k == 0) = false := beq_eq_false_iff_ne.2 hk0
      have HK0 := Lib.hid hk0
      clear hk0
      go_wp2_with (first | (rw [← HW0.out, ← HKN.out]) | (rw [← HW1.out, ← HOO.out]))
      go_loopw [9, 10] (fun m i wr => TuRel N w Kn O T to (.slice A N cap) (.slice At nt_ ct) k T.kind T.at_ T.num T.name m i wr) (fun _ i _ => N - (intOf i).toNat)
      case atStart => unfold TuRel; exact ⟨0, 1, [], _, Nat.zero_le _, rfl, rfl, Lib.hid (by simp [sizeL]), by omega, Lib.hid (by simp [turnL]), rfl, T1⟩
      case round =>
        unfold TuRel at hrel
        obtain ⟨j, M, l', v, hj, rfl, rfl, hM, hMz, hl', hlen, D⟩ := hrel
        obtain ⟨A9, c9, rfl⟩ := D.out.hl.form
        clear T1
        have bx := D.out.hn
        have x0 := bx.cell 0
        have x1 := bx.cell 1
        have x2 := bx.cell 2
        have x3 := bx.cell 3
        have x4 := bx.cell 4
        simp only [nodeC, List.getElem?_toArray, List.getElem?_cons_zero, List.getElem?_cons_succ] at x0 x1 x2 x3 x4
        clear bx
        have bx := D.out.ht
        have y0 := bx.cell 0
        have y1 := bx.cell 1
        have y2 := bx.cell 2
        have y3 := bx.cell 3
        have y4 := bx.cell 4
        simp only [nodeC, List.getElem?_toArray, List.getElem?_cons_zero, List.getElem?_cons_succ] at y0 y1 y2 y3 y4
        clear bx
        have bx := D.out.ho
        have o0 := bx.cell 0
        have o1 := bx.cell 1
        have o2 := bx.cell 2
        have o3 := bx.cell 3
        have o4 := bx.cell 4
        simp only [nodeC, List.getElem?_toArray, List.getElem?_cons_zero, List.getElem?_cons_succ] at o0 o1 o2 o3 o4
        have of0 := bx.frozen 0
        have of1 := bx.frozen 1
        have of2 := bx.frozen 2
        have of3 := bx.frozen 3
        have of4 := bx.frozen 4
        clear bx
        by_cases hlt : j < N
        · have hlt' : (j : Int) < (N : Int) := by omega
          have hj0 : (0 : Int) ≤ (j : Int) := by omega
          have hjl : j < l.length := by rw [← HN.out]; exact hlt
          obtain ⟨b, off, cap', s', hs, hblt, hdk, c0, c1, c2, c3, c4, hkk⟩ := Kids.kid HKS.out D.out.hb j hjl
          injection hs with hs1 hs2 hs3
          subst hs1
          clear hs2 hs3
          have hM' : M = 1 + sizeL (l.take j) := by rw [hM.out, HTK.out]
          have htl := sizeL_take_le l (j + 1)
          rw [sizeL_take l j hjl] at htl
          have HSU : Hid (M + l[j].size ≤ T.size) := Lib.hid (by rw [HSZ.out]; omega)
          have hus : l[j].size ≤ 1073741824 := by have := HSU.out; omega
          have hkb : -1099511627776 ≤ k - (M : Int) - (l[j].size : Int) := by have := HSU.out; omega
          obtain ⟨A8, cap8, rfl, _⟩ := hkk.form
          have HI : Hid (∀ w', Below wr.heap.size wr w' → Calls Tryd.prog 15 #[.agg #[.int .i64 l[j].kind, .int .i64 l[j].at_, .int .i64 l[j].num, .string ⟨l[j].name.toArray⟩, .slice A8 l[j].kids.length cap8], .int .i64 (k - (M : Int)), .agg #[.int .i64 to.kind, .int .i64 to.at_, .int .i64 to.num, .string ⟨to.name.toArray⟩, .slice At nt_ ct]] w' fun e w'' => ∃ t2 A7 n7 c7, t2 = turnT l[j] (k - (M : Int)) to ∧ n7 = t2.kids.length ∧ e = .returned (.tuple #[.agg #[.int .i64 t2.kind, .int .i64 t2.at_, .int .i64 t2.num, .string ⟨t2.name.toArray⟩, .slice A7 n7 c7], .int .i64 (l[j].size : Nat)]) ∧ Kids (fun b => w'.heap.size ≤ b) w'' t2.kids (.slice A7 n7 c7) ∧ Below w'.heap.size w' w'') := Lib.hid (fun w' hb' => (IH.out _ (List.getElem_mem hjl) hdk hus _ _ _ w' hkb (by omega) (hkk.below hb')).mono fun e w'' ⟨s2, h1, h2, h3⟩ => by
            obtain ⟨A7, c7, hs7, _⟩ := h2.form
            subst hs7
            exact ⟨_, A7, _, c7, rfl, rfl, h1, h2, h3⟩)
          have HNL : Hid (l' ++ [turnT l[j] (k - (M : Int)) to] = turnL (T.kids.take (j + 1)) (k - 1) to) := Lib.hid (by
            rw [HTK.out, turnL_take to l j hjl, hl'.out, HTK.out, hM']
            congr 2
            rw [show k - ((1 + sizeL (l.take j) : Nat) : Int) = k - 1 - (sizeL (l.take j) : Int) by omega])
          have HMM : Hid (M + l[j].size = 1 + sizeL (T.kids.take (j + 1))) := Lib.hid (by rw [HTK.out, sizeL_take l j hjl, hM']; omega)
          have HDU := Lib.hid (turn_hd hdk hto (k - (M : Int)))
          obtain ⟨u, hu⟩ : ∃ u, u = l[j] := ⟨_, rfl⟩
          obtain ⟨cu, hcu⟩ : ∃ c, c = u.kids.length := ⟨_, rfl⟩
          rw [← hu] at c0 c1 c2 c3 HI HNL HMM HDU HSU hus
          rw [← hu, ← hcu] at c4
          rw [← hcu] at HI
          have hqw := IntWalk.i64_in (k - (M : Int)) (by omega)
          clear hu hcu hkk hdk hM' htl hkb hM hl'
          obtain ⟨n9, hn9⟩ : ∃ n9, n9 = l'.length := ⟨_, rfl⟩
          rw [← hn9] at D o4 hlen
          obtain rfl := hlen
          have HNN := Lib.hid hn9
          clear hn9
          have HBZ : Hid (Box (wr.alloc (.cells ZN NodeT)).drew wr.heap.size NodeT ZN) := Lib.hid (show Box (wr.alloc (.cells ZN NodeT)) wr.heap.size NodeT ZN from Box.new _ _ _ _ rfl)
          have HAL : Hid (Below wr.heap.size wr (wr.alloc (.cells ZN NodeT)).drew) := Lib.hid (((Below.refl _ _).alloc (Nat.le_refl _) _).drew)
          have HCE : Hid (∀ w', Below wr.heap.size wr w' → w'.cell? ⟨Kn, 4, none⟩ = some (.slice (some ⟨b, off, none⟩) N cap) ∧ w'.cell? ⟨b, off + n9 * 5, none⟩ = some (.int .i64 u.kind) ∧ w'.cell? ⟨b, off + n9 * 5 + 1, none⟩ = some (.int .i64 u.at_) ∧ w'.cell? ⟨b, off + n9 * 5 + 2, none⟩ = some (.int .i64 u.num) ∧ w'.cell? ⟨b, off + n9 * 5 + 3, none⟩ = some (.string ⟨u.name.toArray⟩) ∧ w'.cell? ⟨b, off + n9 * 5 + 4, none⟩ = some (.slice A8 cu cap8) ∧ w'.cell? ⟨Kn + 1, 0, none⟩ = some (.int .i64 to.kind) ∧ w'.cell? ⟨Kn + 1, 1, none⟩ = some (.int .i64 to.at_) ∧ w'.cell? ⟨Kn + 1, 2, none⟩ = some (.int .i64 to.num) ∧ w'.cell? ⟨Kn + 1, 3, none⟩ = some (.string ⟨to.name.toArray⟩) ∧ w'.cell? ⟨Kn + 1, 4, none⟩ = some (.slice At nt_ ct)) := Lib.hid (fun w' hb' =>
            have g := fun (a : Addr) (v : Value) (h : wr.cell? a = some v) => (hb'.cell (p := a) (World.block_lt_of_cell? _ _ h)).trans h
            ⟨g _ _ x4, g _ _ c0, g _ _ c1, g _ _ c2, g _ _ c3, g _ _ c4, g _ _ y0, g _ _ y1, g _ _ y2, g _ _ y3, g _ _ y4⟩)
          have hnb2 : Kn < wr.heap.size := D.out.hn.lt
          have hnb3 : Kn + 1 < wr.heap.size := D.out.ht.lt
          go_wp2_with (fail)
          go_region_held3 (fun w' => w'.cell? ⟨Kn, 4, none⟩ = some (.slice (some ⟨b, off, none⟩) N cap) ∧ w'.cell? ⟨b, off + n9 * 5, none⟩ = some (.int .i64 u.kind) ∧ w'.cell? ⟨b, off + n9 * 5 + 1, none⟩ = some (.int .i64 u.at_) ∧ w'.cell? ⟨b, off + n9 * 5 + 2, none⟩ = some (.int .i64 u.num) ∧ w'.cell? ⟨b, off + n9 * 5 + 3, none⟩ = some (.string ⟨u.name.toArray⟩) ∧ w'.cell? ⟨b, off + n9 * 5 + 4, none⟩ = some (.slice A8 cu cap8) ∧ w'.cell? ⟨Kn + 1, 0, none⟩ = some (.int .i64 to.kind) ∧ w'.cell? ⟨Kn + 1, 1, none⟩ = some (.int .i64 to.at_) ∧ w'.cell? ⟨Kn + 1, 2, none⟩ = some (.int .i64 to.num) ∧ w'.cell? ⟨Kn + 1, 3, none⟩ = some (.string ⟨to.name.toArray⟩) ∧ w'.cell? ⟨Kn + 1, 4, none⟩ = some (.slice At nt_ ct)) (first | go_keep)
            (first
              | (go_at_call 15; (with_reducible refine (HI.out _ ((Below.refl _ _).drew)).mono ?_); intro e w2 hp2; obtain ⟨t2, A7, n7, c7, ht2, hn7, rfl, hk2', hb2⟩ := hp2; have hb2' : Below wr.heap.size wr w2 := (Below.refl _ wr).drew.trans (hb2.mono (by simp)); obtain ⟨p0, p1, p2, p3, p4, p5, p6, p7, p8, p9, p10⟩ := HCE.out w2 hb2'; (obtain ⟨w3, hw3⟩ : ∃ W, W = w2.alloc (.cells #[.int .i64 t2.kind, .int .i64 t2.at_, .int .i64 t2.num, .string ⟨t2.name.toArray⟩, .slice A7 n7 c7] NodeT) := ⟨_, rfl⟩); have hb3 : Below wr.heap.size wr w3 := (by rw [hw3]; exact hb2'.alloc hb2'.size _); have hx3 : Box w3 w2.heap.size NodeT (nodeC t2 (.slice A7 n7 c7)) := (by rw [hw3]; exact Box.new _ _ _ _ rfl); have hk3 : Kids (fun b => O + 1 ≤ b ∧ some b ≠ (Value.slice A9 n9 c9).ownBlock) w3 t2.kids (.slice A7 n7 c7) := (by rw [hw3]; exact (D.out.apart hk2').below ((Below.refl _ _).alloc (Nat.le_refl _) _)); have hz2 := hb2'.size; have m1 : ¬ b = w2.heap.size := (by omega); have m2 : ¬ Kn = w2.heap.size := (by omega); have m3 : ¬ Kn + 1 = w2.heap.size := (by omega); have m4 : ¬ w2.heap.size = b := (by omega); have m5 : ¬ w2.heap.size = Kn := (by omega); have m6 : ¬ w2.heap.size = Kn + 1 := (by omega); (obtain ⟨H, hH⟩ : ∃ H, H = w2.heap.size := ⟨_, rfl⟩); have D3 := Lib.hid (D.out.below hb3); have HX3 := Lib.hid hx3; have HK3 := Lib.hid hk3; have HW3 := Lib.hid hw3; have HH3 := Lib.hid hH; have HT2 := Lib.hid ht2; have HN7 := Lib.hid hn7; rw [← hH] at HX3; clear hk2' hb2 hb2' hb3 hx3 hk3 hw3 hH ht2 hn7 hz2)
              | (go_at_call 15; (with_reducible refine (HI.out _ HAL.out).mono ?_); intro e w2 hp2; obtain ⟨t2, A7, n7, c7, ht2, hn7, rfl, hk2', hb2⟩ := hp2; have hb2' : Below wr.heap.size wr w2 := HAL.out.trans (hb2.mono HAL.out.size); obtain ⟨p0, p1, p2, p3, p4, p5, p6, p7, p8, p9, p10⟩ := HCE.out w2 hb2'; have bz := HBZ.out.on hb2; (have z50 := bz.cell 0); (have z51 := bz.cell 1); (have z52 := bz.cell 2); (have z53 := bz.cell 3); (have z54 := bz.cell 4); simp only [List.getElem?_toArray, List.getElem?_cons_zero, List.getElem?_cons_succ] at z50 z51 z52 z53 z54; (have zf50 := bz.frozen 0); (have zf51 := bz.frozen 1); (have zf52 := bz.frozen 2); (have zf53 := bz.frozen 3); (have zf54 := bz.frozen 4); (obtain ⟨w3, hw3⟩ : ∃ W, W = ((((w2.setCell ⟨wr.heap.size, 0, none⟩ (.int .i64 t2.kind)).setCell ⟨wr.heap.size, 1, none⟩ (.int .i64 t2.at_)).setCell ⟨wr.heap.size, 2, none⟩ (.int .i64 t2.num)).setCell ⟨wr.heap.size, 3, none⟩ (.string ⟨t2.name.toArray⟩)).setCell ⟨wr.heap.size, 4, none⟩ (.slice A7 n7 c7) := ⟨_, rfl⟩); have hb3 : Below wr.heap.size wr w3 := (by rw [hw3]; exact ((((hb2'.setCell (Nat.le_refl _) _).setCell (Nat.le_refl _) _).setCell (Nat.le_refl _) _).setCell (Nat.le_refl _) _).setCell (Nat.le_refl _) _); have hx3 : Box w3 wr.heap.size NodeT (nodeC t2 (.slice A7 n7 c7)) := (by rw [hw3]; exact box_five bz _ _ _ _ _); have hk3 : Kids (fun b => O + 1 ≤ b ∧ some b ≠ (Value.slice A9 n9 c9).ownBlock) w3 t2.kids (.slice A7 n7 c7) := (by rw [hw3]; exact D.out.apart ((kids_five hk2' (fun b hb => by have hb9 : (wr.alloc (.cells ZN NodeT)).heap.size ≤ b := hb; have h8 : wr.heap.size < (wr.alloc (.cells ZN NodeT)).heap.size := HBZ.out.lt; omega) _ _ _ _ _).mono fun b hb => by have hb9 : (wr.alloc (.cells ZN NodeT)).heap.size ≤ b := hb; have h8 : wr.heap.size < (wr.alloc (.cells ZN NodeT)).heap.size := HBZ.out.lt; show wr.heap.size ≤ b; omega)); have m1 : ¬ b = wr.heap.size := (by omega); have m2 : ¬ Kn = wr.heap.size := (by omega); have m3 : ¬ Kn + 1 = wr.heap.size := (by omega); have m4 : ¬ wr.heap.size = b := (by omega); have m5 : ¬ wr.heap.size = Kn := (by omega); have m6 : ¬ wr.heap.size = Kn + 1 := (by omega); (obtain ⟨H, hH⟩ : ∃ H, H = wr.heap.size := ⟨_, rfl⟩); have D3 := Lib.hid (D.out.below hb3); have HX3 := Lib.hid hx3; have HK3 := Lib.hid hk3; have HW3 := Lib.hid hw3; have HH3 := Lib.hid hH; have HT2 := Lib.hid ht2; have HN7 := Lib.hid hn7; rw [← hH] at HX3; clear hk2' hb2 hb2' hb3 hx3 hk3 hw3 hH ht2 hn7 bz))
          all_goals
            have bx := D3.out.ho
            have oo0 := bx.cell 0
            have oo1 := bx.cell 1
            have oo2 := bx.cell 2
            have oo3 := bx.cell 3
            have oo4 := bx.cell 4
            simp only [nodeC, List.getElem?_toArray, List.getElem?_cons_zero, List.getElem?_cons_succ] at oo0 oo1 oo2 oo3 oo4
            have oof0 := bx.frozen 0
            have oof1 := bx.frozen 1
            have oof2 := bx.frozen 2
            have oof3 := bx.frozen 3
            have oof4 := bx.frozen 4
            clear bx
            have bx := HX3.out
            have hh0 := bx.cell 0
            have hh1 := bx.cell 1
            have hh2 := bx.cell 2
            have hh3 := bx.cell 3
            have hh4 := bx.cell 4
            simp only [nodeC, List.getElem?_toArray, List.getElem?_cons_zero, List.getElem?_cons_succ] at hh0 hh1 hh2 hh3 hh4
            clear bx
            have HD2 : Hid (Hd t2) := Lib.hid (by rw [HT2.out]; exact HDU.out)
            have hsu := HSU.out
            go_wp2_with (first | (at_builtin; (refine wpList_node (p := O) (w0 := w) (wr := w3) rfl (.tmp 54) (.tmp 56) rfl (O + 1) n9 l' t2 (.slice A9 n9 c9) (.slice A7 n7 c7) w3.heap.size rfl rfl D3.out.hl HD2.out HK3.out D3.out.grow (by have := D3.out.hK; have := D3.out.hR; omega) D3.out.size HNN.out (by omega) rfl ?_); intro A4 c4 w4 ho4 hg4 hk4; have HAP := Lib.hid (D3.out.app ho4 hg4 hk4); have hbz := HAP.out.1; have zz4 := hbz.cell 4; simp only [List.getElem?_toArray, List.getElem?_cons_zero, List.getElem?_cons_succ] at zz4; have zzf := hbz.frozen 4; clear hbz; (obtain ⟨w5, hw5⟩ : ∃ W, W = w4.setCell ⟨O, 4, none⟩ (.slice A4 (n9 + 1) c4) := ⟨_, rfl⟩); have HW5 := Lib.hid hw5; have D5 := Lib.hid HAP.out.2; (rw [← hw5] at D5); clear ho4 hg4 hk4 hw5) | (rw [← HW5.out]) | (rw [← HW3.out, ← HH3.out]))
            go_roundw
            case rel =>
              unfold TuRel
              exact ⟨n9 + 1, M + u.size, l' ++ [t2], _, by omega, by go_num, by go_num, HMM, by omega, Lib.hid (by rw [HT2.out]; exact HNL.out), by rw [List.length_append, ← HNN.out]; rfl, D5⟩
            case measure => simp [intOf]; omega
        · have hjN : j = N := by omega
          have hE : turnT T k to = .mk T.kind T.at_ T.num T.name l' := by
            rw [HTE.out, hl'.out, HTK.out, hjN, HN.out, List.take_length]
            simp only [if_neg HK0.out]
          have hm : M = T.size := by rw [hM.out, HTK.out, hjN, HN.out, List.take_length, HSZ.out]; omega
          have HE := Lib.hid (D.out.tell hE hm)
          have hlt' : ¬ (j : Int) < (N : Int) := by omega
          obtain ⟨n9, hn9⟩ : ∃ n9, n9 = l'.length := ⟨_, rfl⟩
          rw [← hn9] at HE o4
          have bx := D.out.hr
          have r0 := bx.cell 0
          have r1 := bx.cell 1
          have r2 := bx.cell 2
          have r3 := bx.cell 3
          have r4 := bx.cell 4
          simp only [nodeC, List.getElem?_toArray, List.getElem?_cons_zero, List.getElem?_cons_succ] at r0 r1 r2 r3 r4
          have rf0 := bx.frozen 0
          have rf1 := bx.frozen 1
          have rf2 := bx.frozen 2
          have rf3 := bx.frozen 3
          have rf4 := bx.frozen 4
          clear bx
          clear hE hm hM hl' hn9 hlen hjN
          go_wp2_with (fail)
          exact bodyPost_ret (turn_ret rfl rfl HE.out.1) rfl HE.out.2
end Go.Proofs.YtkmkeaeaalnbjaaDoor.nt

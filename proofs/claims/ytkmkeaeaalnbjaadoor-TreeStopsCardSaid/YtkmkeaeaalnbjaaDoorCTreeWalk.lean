/- The package's iterator over a node and all below it: for every loop over it that leaves the iterator's own blocks alone. -/
import Derived.RangeFuncNested
import Derived.RangeFuncBound
import Derived.RangeFuncCalls
import Derived.RangeFuncLeaves
import Derived.RangeFuncBox
import Derived.Shelf.Abstract
import Derived.OwnWalkIn
import Derived.TacticsInMore
import Derived.LoopNIn
import Derived.LoopIn
import Derived.Test.YtkmkeaeaalnbjaaDoorCGNode
namespace Go.Proofs.YtkmkeaeaalnbjaaDoor.nt
open Go.RowKit Go.Shelf mem wd lx
open vt (I64 own_form)

attribute [local go_sem] Oper.semAt_some

/-- a node as it is handed out: the tree, and where its kids lie -/
abbrev NE (G : Nat → Prop) (w0 : World) := { p : NT × Value // Hd p.1 ∧ Kids G w0 p.1.kids p.2 }
def NE.t {G : Nat → Prop} {w0 : World} (x : NE G w0) : NT := x.1.1
def encN {G : Nat → Prop} {w0 : World} (x : NE G w0) : Array Value := #[.agg #[.int .i64 x.1.1.kind, .int .i64 x.1.1.at_, .int .i64 x.1.1.num, .string ⟨x.1.1.name.toArray⟩, x.1.2]]
def Wf (S : World → Nat → Prop) (W : World) : Prop := ∀ b, S W b → b < W.heap.size
/-- what a round keeps: cells, but those of which S holds; and all that lies below B -/
def KpS (S : World → Nat → Prop) (B : Nat) (W W' : World) : Prop := (∀ (b : Nat) (cs : Array Value) (t : TypeId) (fr : Nat × Nat), W.heap[b]? = some (.cells cs t fr) → ¬ S W b → W'.heap[b]? = W.heap[b]? ∧ ¬ S W' b) ∧ (Wf S W → Wf S W') ∧ Below B W W'
theorem KpS.trans {S : World → Nat → Prop} {B : Nat} {a b c : World} (h1 : KpS S B a b) (h2 : KpS S B b c) : KpS S B a c :=
  ⟨fun k cs t fr h hs => by
    obtain ⟨e1, s1⟩ := h1.1 k cs t fr h hs
    obtain ⟨e2, s2⟩ := h2.1 k cs t fr (e1.trans h) s1
    exact ⟨e2.trans e1, s2⟩, fun h => h2.2.1 (h1.2.1 h), h1.2.2.trans h2.2.2⟩
/-- a round's word -/
def RoundSays {G : Nat → Prop} {w0 : World} (S : World → Nat → Prop) (J Jx : List (NE G w0) → World → Prop) (pre : List (NE G w0)) (x : NE G w0) (W : World) (e : Ending) (W' : World) : Prop :=
  (e = .returned (.bool true) ∧ J (pre ++ [x]) W' ∧ KpS S w0.heap.size W W') ∨ (e = .returned (.bool false) ∧ Jx (pre ++ [x]) W')
theorem yield_any {m m' : Nat} {l : Nat} {args : Array Value} {W : World} {R : Ending → World → Prop} (h : YieldAt Fence.wide m Tryd.prog l args W R) : YieldAt Fence.wide m' Tryd.prog l args W R := by
  obtain ⟨fn, tmps, assign, body, hy, hR⟩ := h
  exact ⟨fn, tmps, assign, body, hy, hR.1, fun c cs _ => hR.2 c cs (room_wide _)⟩
/-- what a walk of a part leaves -/
def WalkSays {G : Nat → Prop} {w0 : World} (S : World → Nat → Prop) (J Jx : List (NE G w0) → World → Prop) (pre : List (NE G w0)) (t : NT) (e : Ending) (W' : World) : Prop :=
  (e = .returned (.bool true) ∧ ∃ xs : List (NE G w0), xs.map NE.t = t.walk ∧ J (pre ++ xs) W' ∧ Below w0.heap.size w0 W' ∧ Wf S W') ∨ (e = .returned (.bool false) ∧ ∃ q : List (NE G w0), q.map NE.t <+: t.walk ∧ Jx (pre ++ q) W')
def WkIn {G : Nat → Prop} {w0 : World} (S : World → Nat → Prop) (J : List (NE G w0) → World → Prop) (pre : List (NE G w0)) (N : Nat) (l : List NT) (i : Value) (wr : World) : Prop :=
  ∃ (j : Nat) (xs : List (NE G w0)), j ≤ N ∧ i = .int .i64 j ∧ Hid (xs.map NE.t = walkL (l.take j)) ∧ Hid (J (pre ++ xs) wr) ∧ Below w0.heap.size w0 wr ∧ Hid (Wf S wr)
theorem walk_pre {v : NT} {l : List NT} {j : Nat} {qs : List NT} (hj : j < l.length) (h : qs <+: l[j].walk) : v :: (walkL (l.take j) ++ qs) <+: v :: walkL l := by
  obtain ⟨r, hr⟩ := h
  refine ⟨r ++ walkL (l.drop (j + 1)), ?_⟩
  have e : walkL l = walkL (l.take j) ++ (l[j].walk ++ walkL (l.drop (j + 1))) := by
    conv => lhs; rw [← List.take_append_drop j l, List.drop_eq_getElem_cons hj, walkL_append]
    rw [walkL]
  rw [e, ← hr]
  simp
set_option maxRecDepth 100000 in
set_option maxHeartbeats 2000000 in
theorem walk_inside {G : Nat → Prop} {w0 : World} (ly NN B : Nat) (S : World → Nat → Prop) (J Jx : List (NE G w0) → World → Prop) (hJ : AbidesFrom B J)
    (hS1 : ∀ W o b, Wf S W → S (W.alloc o) b → S W b)
    (hY : ∀ m pre x W, J pre W → pre.length < NN → YieldAt Fence.wide m Tryd.prog ly (encN x) W (RoundSays S J Jx pre x W)) (t : NT) :
    ∀ (n : Nat) (s : Value) (pre : List (NE G w0)) (W : World), Hd t → Kids G w0 t.kids s → J pre W → Below w0.heap.size w0 W → Wf S W → pre.length + t.size ≤ NN →
      CallsIn Fence.wide n Tryd.prog 42 #[.agg #[.int .i64 t.kind, .int .i64 t.at_, .int .i64 t.num, .string ⟨t.name.toArray⟩, s], .func (.yield ly) #[] #[]] W (WalkSays S J Jx pre t) := by
  induction t using NT.ind with
  | h k a n nm l ih =>
    intro fu s pre W hd h hj0 hb0 hw0 hN0
    have HNE : Hid (∃ x : NE G w0, x.1 = (NT.mk k a n nm l, s)) := Lib.hid ⟨⟨(NT.mk k a n nm l, s), hd, h⟩, rfl⟩
    rw [size_mk] at hN0
    change Kids G w0 l s at h
    obtain ⟨A, cap, rfl, hl⟩ := h.form
    show CallsIn Fence.wide fu Tryd.prog 42 #[.agg #[.int .i64 k, .int .i64 a, .int .i64 n, .string ⟨nm.toArray⟩, .slice A l.length cap], .func (.yield ly) #[] #[]] W (WalkSays S J Jx pre (.mk k a n nm l))
    obtain ⟨H, hH⟩ : ∃ H, H = W.heap.size := ⟨_, rfl⟩
    obtain ⟨V, hV⟩ : ∃ V, V = W.alloc (.cells #[.int .i64 k, .int .i64 a, .int .i64 n, .string ⟨nm.toArray⟩, .slice A l.length cap] NodeT) := ⟨_, rfl⟩
    have hbx : Box V H NodeT #[.int .i64 k, .int .i64 a, .int .i64 n, .string ⟨nm.toArray⟩, .slice A l.length cap] := by rw [hV]; exact Box.new _ _ _ _ hH
    obtain ⟨⟨x0, x1, x2, x3, x4⟩, HBV, HHV⟩ := boxed hH hV
    have hjV : J pre V := by rw [hV]; exact hJ _ W _ none hj0 (World.grownBy_alloc W _ none) (fun r e => by cases e)
    have hsV : ¬ S V H := fun h => by
      rw [hV] at h
      have := hw0 _ (hS1 _ _ _ hw0 h)
      omega
    have hbV0 : Below w0.heap.size w0 V := by rw [hV]; exact hb0.alloc hb0.size _
    have hwV : Wf S V := fun b h => by
      rw [hV] at h ⊢
      have := hw0 _ (hS1 _ _ _ hw0 h)
      rw [World.size_alloc]; omega
    have HBV0 := Lib.hid hbV0
    have HWV := Lib.hid hwV
    have HS1 := Lib.hid hS1
    obtain ⟨x, hx⟩ := HNE.out
    obtain ⟨fn, tmps, assign, body, hy, hR⟩ := hY (fu - 1) pre x V hjV (by omega)
    unfold encN at hy
    rw [hx] at hy
    simp only [NT.kind, NT.at_, NT.num, NT.name] at hy
    have HX := Lib.hid hx
    have HK := Lib.hid h
    have HR := Lib.hid hR
    have HBX := Lib.hid hbx
    have HSV := Lib.hid hsV
    have HJ := Lib.hid hJ
    have HIH := Lib.hid ih
    have HNN := Lib.hid hN0
    obtain ⟨N, hN⟩ : ∃ N, N = l.length := ⟨_, rfl⟩
    rw [← hN] at hl x4 hV HK HBX hy ⊢
    have HV := Lib.hid hV
    have HHH := Lib.hid hH
    have HN := Lib.hid hN
    have hf : Fence.wide.fn 42 := trivial
    clear hx h hR hbx hsV hJ ih hN0 hV hH hN hd hj0 hjV hS1 hY HNE HBV HHV hb0 hw0 hbV0 hwV
    refine callsIn_of_wp Tryd.func42 rfl hf ?_ rfl
    simp only [Tryd.ntmps42, List.size_toArray, List.length_cons, List.length_nil, Nat.reduceAdd, Nat.reduceSub, Array.replicate_succ, Array.replicate_zero, List.push_toArray, List.append_toArray, List.nil_append, List.cons_append]
    gi_wp2_with (first | (rw [← HV.out, ← HHH.out]))
    refine ⟨fun h => absurd h (by decide), HR.out.mono ?_⟩
    rintro e W1 (⟨rfl, hj1, hk1⟩ | ⟨rfl, hjx⟩)
    · have hbx1 : Box W1 H NodeT #[.int .i64 k, .int .i64 a, .int .i64 n, .string ⟨nm.toArray⟩, .slice A N cap] := (hk1.1 H _ _ _ HBX.out HSV.out).1.trans HBX.out
      have z4 := hbx1.cell 4
      simp only [List.getElem?_toArray, List.getElem?_cons_zero, List.getElem?_cons_succ] at z4
      have HJ1 := Lib.hid hj1
      have HB1 := Lib.hid (HBV0.out.trans hk1.2.2)
      have HW1 := Lib.hid (hk1.2.1 HWV.out)
      clear hj1 hk1 hbx1 x0 x1 x2 x3 x4 hy HR
      gi_wp2_with (fail)
      gi_loopw [14] (fun i wr => WkIn S J (pre ++ [x]) N l i wr) (fun i _ => N - (intOf i).toNat)
      case atStart => unfold WkIn; exact ⟨0, [], Nat.zero_le _, rfl, Lib.hid (by rw [List.take_zero, walkL]; rfl), Lib.hid (by rw [List.append_nil]; exact HJ1.out), HB1.out, HW1⟩
      case round =>
        unfold WkIn at hrel
        obtain ⟨j, xs, hj, rfl, hxs, hjs, hb, hwr⟩ := hrel
        by_cases hlt : j < N
        · have hjl : j < l.length := by have := HN.out; omega
          obtain ⟨b, off, cq, q, hs, hlt1, hd1, c0, c1, c2, c3, c4, hkk⟩ := HK.out.kid (Below.refl _ _) j hjl
          injection hs with hA hL hC
          subst hA
          subst hC
          clear hL
          have c0 := (hb.cell (p := ⟨b, off + j * 5, none⟩) (World.block_lt_of_cell? _ _ c0)).trans c0
          have c1 := (hb.cell (p := ⟨b, off + j * 5 + 1, none⟩) (World.block_lt_of_cell? _ _ c1)).trans c1
          have c2 := (hb.cell (p := ⟨b, off + j * 5 + 2, none⟩) (World.block_lt_of_cell? _ _ c2)).trans c2
          have c3 := (hb.cell (p := ⟨b, off + j * 5 + 3, none⟩) (World.block_lt_of_cell? _ _ c3)).trans c3
          have c4 := (hb.cell (p := ⟨b, off + j * 5 + 4, none⟩) (World.block_lt_of_cell? _ _ c4)).trans c4
          obtain ⟨Aq, cc, rfl, _⟩ := hkk.form
          obtain ⟨K2, hK2⟩ : ∃ K2, K2 = wr.heap.size := ⟨_, rfl⟩
          obtain ⟨V2, hV2⟩ : ∃ V, V = wr.alloc (.cells #[.int .i64 l[j].kind, .int .i64 l[j].at_, .int .i64 l[j].num, .string ⟨l[j].name.toArray⟩, .slice Aq l[j].kids.length cc] NodeT) := ⟨_, rfl⟩
          obtain ⟨⟨v0, v1, v2, v3, v4⟩, _, _⟩ := boxed hK2 hV2
          have hjV2 : J (pre ++ [x] ++ xs) V2 := by rw [hV2]; exact HJ.out _ wr _ none hjs.out (World.grownBy_alloc wr _ none) (fun r e => by cases e)
          have hbV2 : Below w0.heap.size w0 V2 := by rw [hV2]; exact hb.alloc hb.size _
          have hwV2 : Wf S V2 := fun b h => by
            rw [hV2] at h ⊢
            have := hwr.out _ (HS1.out _ _ _ hwr.out h)
            rw [World.size_alloc]; omega
          have hlen : (pre ++ [x] ++ xs).length + l[j].size ≤ NN := by
            have h1 := congrArg List.length hxs.out
            rw [List.length_map, walkL_len] at h1
            have h2 := sizeL_take l j hjl
            have h3 := sizeL_take_le l (j + 1)
            have h4 := HNN.out
            simp only [List.length_append, List.length_cons, List.length_nil]
            omega
          have HI := Lib.hid (HIH.out l[j] (List.getElem_mem hjl) (fu - 1) _ (pre ++ [x] ++ xs) V2 hd1 hkk hjV2 hbV2 hwV2 hlen)
          have HT := Lib.hid (walkL_take l j hjl)
          have HP := Lib.hid (fun (qs : List NT) h => walk_pre (v := NT.mk k a n nm l) (qs := qs) hjl h)
          obtain ⟨u, hu⟩ : ∃ u, u = l[j] := ⟨_, rfl⟩
          rw [← hu] at c0 c1 c2 c3 c4 hV2 v0 v1 v2 v3 v4 HI HT HP
          obtain ⟨M, hM⟩ : ∃ M, M = u.kids.length := ⟨_, rfl⟩
          rw [← hM] at c4 hV2 v4 HI
          have HV2 := Lib.hid hV2
          have HK2 := Lib.hid hK2
          clear hkk hM hu hd1 hb hV2 hK2 hjV2 hbV2 hwV2 hwr hlen hlt1
          gi_wp2_with (first | (rw [← HV2.out, ← HK2.out]))
          refine ⟨fun h => absurd h (by decide), HI.out.mono ?_⟩
          rintro e W3 (⟨rfl, ys, hys, hj3, hb3, hw3⟩ | ⟨rfl, q, hq, hx3⟩)
          · have HJ3 := Lib.hid hj3
            have HYS := Lib.hid hys
            have HB3 := Lib.hid hb3
            have HW3 := Lib.hid hw3
            clear hj3 hys hb3 hw3 HI c0 c1 c2 c3 c4 v0 v1 v2 v3 v4
            gi_wp2_with (fail)
            go_roundw
            case rel =>
              unfold WkIn
              exact ⟨j + 1, xs ++ ys, by omega, by go_num, Lib.hid (by rw [List.map_append, hxs.out, HYS.out, HT.out]), Lib.hid (by have h := HJ3.out; rw [List.append_assoc] at h; exact h), HB3.out, HW3⟩
            case measure => simp [intOf]; omega
          · have HF : Hid (WalkSays S J Jx pre (NT.mk k a n nm l) (.returned (.bool false)) W3) := Lib.hid (.inr ⟨rfl, x :: (xs ++ q), by
              rw [walk_mk, List.map_cons, List.map_append, hxs.out, show NE.t x = NT.mk k a n nm l from congrArg Prod.fst HX.out]
              exact HP.out _ hq, by simpa using hx3⟩)
            clear hx3 hq HI c0 c1 c2 c3 c4 v0 v1 v2 v3 v4
            gi_wp2_with (fail)
            go_ret
            exact HF.out
        · have HF : Hid (WalkSays S J Jx pre (NT.mk k a n nm l) (.returned (.bool true)) wr) := Lib.hid (.inl ⟨rfl, x :: xs, by
            rw [walk_mk, List.map_cons, hxs.out, show NE.t x = NT.mk k a n nm l from congrArg Prod.fst HX.out, List.take_of_length_le (by have := HN.out; omega)], by have h := hjs.out; simpa using h, hb, hwr.out⟩)
          clear hjs hxs hb hwr
          gi_wp2_with (fail)
          go_ret
          exact HF.out
    · have HF : Hid (WalkSays S J Jx pre (NT.mk k a n nm l) (.returned (.bool false)) W1) := Lib.hid (.inr ⟨rfl, [x], ⟨walkL l, by rw [walk_mk, List.map_cons, show NE.t x = NT.mk k a n nm l from congrArg Prod.fst HX.out]; rfl⟩, hjx⟩)
      clear hjx
      gi_wp2_with (fail)
      go_ret
      exact HF.out
/-- the iterator's value, and its contract -/
theorem pwalk_any (t : NT) (s : Value) (w : World) :
    Calls Tryd.prog 17 #[.agg #[.int .i64 t.kind, .int .i64 t.at_, .int .i64 t.num, .string ⟨t.name.toArray⟩, s]] w fun e w' => e = .returned (.func (.func 41) #[] #[.pointer (some ⟨w.heap.size, 0, none⟩)]) ∧ w' = w.alloc (.cells #[.int .i64 t.kind, .int .i64 t.at_, .int .i64 t.num, .string ⟨t.name.toArray⟩, s] NodeT) := by
  go_enter Tryd.func17, Tryd.ntmps17
  go_wp2
  go_ret
  exact ⟨rfl, rfl⟩
set_option maxRecDepth 100000 in
set_option maxHeartbeats 2000000 in
theorem walk_stops {G : Nat → Prop} (n Bn : Nat) (S : World → Nat → Prop) (t : NT) (s : Value) (w0 w : World) (hb0 : Below w0.heap.size w0 w) (hd : Hd t) (hk : Kids G w0 t.kids s) (hBn : Box w Bn NodeT #[.int .i64 t.kind, .int .i64 t.at_, .int .i64 t.num, .string ⟨t.name.toArray⟩, s])
    (hS1 : ∀ W o b, Wf S W → S (W.alloc o) b → S W b) (hS0 : ∀ W, Below w.heap.size w W → Wf S W) :
    SeqStopsK Fence.wide n Tryd.prog 41 #[.pointer (some ⟨Bn, 0, none⟩)] (encN (G := G) (w0 := w0)) (KpS S w0.heap.size) (fun xs => xs.map NE.t = t.walk) (fun q => q.map NE.t <+: t.walk) t.size w := fun l J Jx W hW hJ _ hY h0 => by
  have hp := walk_inside (w0 := w0) l t.size W.heap.size S J Jx hJ hS1 (fun m pre x W' hj hl => yield_any (hY pre x W' hj hl)) t (n - 1) s [] W hd hk h0 (hb0.trans (hW.mono hb0.size)) (hS0 W hW) (by simp)
  have HP := Lib.hid hp
  have HBN := hBn.on hW
  have x0 := HBN.cell 0
  have x1 := HBN.cell 1
  have x2 := HBN.cell 2
  have x3 := HBN.cell 3
  have x4 := HBN.cell 4
  simp only [List.getElem?_toArray, List.getElem?_cons_zero, List.getElem?_cons_succ] at x0 x1 x2 x3 x4
  obtain ⟨A, cap, rfl, hl⟩ := hk.form
  obtain ⟨N, hN⟩ : ∃ N, N = t.kids.length := ⟨_, rfl⟩
  rw [← hN] at x4 HP
  have hf : Fence.wide.fn 41 := trivial
  have hf2 : Fence.wide.fn 42 := trivial
  clear hp hY h0 hJ hk hBn HBN hS1 hS0 hN hl
  refine callsIn_of_wp Tryd.func41 rfl hf ?_ rfl
  simp only [Tryd.ntmps41, List.size_toArray, List.length_cons, List.length_nil, Nat.reduceAdd, Nat.reduceSub, Array.replicate_succ, Array.replicate_zero, List.push_toArray, List.append_toArray, List.nil_append, List.cons_append]
  gi_wp2_with (fail)
  refine ⟨fun h => absurd h (by decide), HP.out.mono ?_⟩
  rintro e W1 (⟨rfl, xs, hxs, hj, _, _⟩ | ⟨rfl, q, hq, hx⟩)
  · gi_wp2_with (fail)
    go_end0
    exact ⟨⟨_, rfl⟩, .inl ⟨xs, hxs, by simpa using hj⟩⟩
  · gi_wp2_with (fail)
    go_end0
    exact ⟨⟨_, rfl⟩, .inr ⟨q, hq, by simpa using hx⟩⟩
/-! ### one cell that a loop counts in -/
theorem kps_put {S : World → Nat → Prop} {B : Nat} {w : World} (hB : B ≤ w.heap.size) (hS : ∀ W l o o' b, w.heap.size ≤ l → W.heap[l]? = some o → o.isCells = false → S (World.putObj W l o') b → S W b) : ∀ (W : World) (l : Nat) (o o' : Obj), w.heap.size ≤ l → W.heap[l]? = some o → o.isCells = false → o.isWalk = false → KpS S B W (W.putObj l o') := fun W l o o' h1 h2 h3 h4 => by
  have hb := belowK_b (w := w) hB W l o o' h1 h2 h3 h4
  refine ⟨fun b cs t fr hc hs => ⟨World.putObj_heap_other ?_, fun h => hs (hS W l o o' b h1 h2 h3 h)⟩, fun hw b h => ?_, hb⟩
  · rintro rfl
    rw [h2] at hc
    injection hc with hc
    subst hc
    simp [Obj.isCells] at h3
  · have := hw b (hS W l o o' b h1 h2 h3 h)
    have := hb.size
    omega
/-- a store into the one cell -/
theorem kps_cell {B R : Nat} {W : World} (hB : B ≤ R) (v : Value) : KpS (fun _ b => b = R) B W (W.setCell ⟨R, 0, none⟩ v) :=
  ⟨fun b cs t fr hc hs => ⟨Below.heap_setCell W _ v b hs, hs⟩, fun hw b h => by have := hw b h; have hb := ((Below.refl B W).setCell (p := ⟨R, 0, none⟩) hB v).size; omega, (Below.refl B W).setCell (p := ⟨R, 0, none⟩) hB v⟩
set_option maxRecDepth 100000 in
set_option maxHeartbeats 2000000 in
theorem pcount_of (G : Nat → Prop) (t : NT) (hd : Hd t) (hz : t.size ≤ 1073741824) (s : Value) (w : World) (h : Kids G w t.kids s) :
    Calls Tryd.prog 22 #[.agg #[.int .i64 t.kind, .int .i64 t.at_, .int .i64 t.num, .string ⟨t.name.toArray⟩, s]] w fun e w' => e = .returned (.int .i64 (t.size : Nat)) ∧ Below w.heap.size w w' := by
  have h1 : 1 ≤ 9 := by decide
  have hf : Fence.wide.fn 22 := trivial
  have hf2 : Fence.wide.fn 17 := trivial
  have hf3 : Fence.wide.fn 41 := trivial
  obtain ⟨H, hH⟩ : ∃ H, H = w.heap.size := ⟨_, rfl⟩
  obtain ⟨W0, hW0⟩ : ∃ W, W = w.alloc (.cells #[.int .i64 t.kind, .int .i64 t.at_, .int .i64 t.num, .string ⟨t.name.toArray⟩, s] NodeT) := ⟨_, rfl⟩
  obtain ⟨hx, HB0, HHW0⟩ := boxed hH hW0
  have hb1 : Below W0.heap.size W0 (W0.alloc (.cells #[.int .i64 0] 3)) := (Below.refl _ _).alloc (Nat.le_refl _) _
  have hbR : Boxed (W0.alloc (.cells #[.int .i64 0] 3)) W0.heap.size 3 (.int .i64 0) := Boxed.new _ _ _
  obtain ⟨x0, x1, x2, x3, x4⟩ := boxed_on hx HHW0.out hb1
  have HWK := Lib.hid (pwalk_any t s (W0.alloc (.cells #[.int .i64 0] 3)))
  have hb01 : Below w.heap.size w (W0.alloc (.cells #[.int .i64 0] 3)) := HB0.out.trans (hb1.mono HB0.out.size)
  have HB01 := Lib.hid hb01
  have HBR := Lib.hid hbR
  have hRw : w.heap.size < W0.heap.size := by have := HHW0.out; omega
  have HHK := Lib.hid h
  have hwl := walk_len t
  obtain ⟨A, cap, rfl, hl⟩ := h.form
  have HTB : Hid (∀ w2 : World, w2 = (W0.alloc (.cells #[.int .i64 0] 3)).alloc (.cells #[.int .i64 t.kind, .int .i64 t.at_, .int .i64 t.num, .string ⟨t.name.toArray⟩, .slice A t.kids.length cap] NodeT) → Box w2 (W0.alloc (.cells #[.int .i64 0] 3)).heap.size NodeT #[.int .i64 t.kind, .int .i64 t.at_, .int .i64 t.num, .string ⟨t.name.toArray⟩, .slice A t.kids.length cap]) := Lib.hid fun w2 hw2 => by rw [hw2]; exact Box.new _ _ _ _ rfl
  have hrun : ∀ pre : List (NE G w), pre.length < t.size → wrap64 ((pre.length : Int) + 1) = ((pre.length + 1 : Nat) : Int) := fun pre hp => by unfold wrap64; omega
  obtain ⟨N, hN⟩ : ∃ N, N = t.kids.length := ⟨_, rfl⟩
  have HKN := Lib.hid hN
  rw [← hN] at hW0 x4 HWK
  have HW0 := Lib.hid hW0
  have HHH := Lib.hid hH
  clear hW0 hH hx hb1 hbR hb01 h hN hl
  refine (callsIn_wide (n := 9)).1 ?_
  refine callsIn_of_wp_marks Tryd.func22 rfl hf ?_ rfl
  simp only [Tryd.ntmps22, List.size_toArray, List.length_cons, List.length_nil, Nat.reduceAdd, Nat.reduceSub, Array.replicate_succ, Array.replicate_zero, List.push_toArray, List.append_toArray, List.nil_append, List.cons_append]
  rw [← HKN.out]
  gi_wp2_with (first | (rw [← HW0.out, ← HHH.out]) | (gi_at_call 17; refine (callsIn_wide.2 HWK.out).mono ?_; rintro e w2 ⟨rfl, hw2⟩))
  obtain ⟨w2, hw2⟩ : ∃ w2, w2 = ((W0.alloc (.cells #[.int .i64 0] 3)).alloc (.cells #[.int .i64 t.kind, .int .i64 t.at_, .int .i64 t.num, .string ⟨t.name.toArray⟩, .slice A N cap] NodeT)) := ⟨_, rfl⟩
  have hb2 : Below w.heap.size w w2 := by rw [hw2]; exact HB01.out.alloc HB01.out.size _
  have hbx2 : Box w2 (W0.heap.size + 1) NodeT #[.int .i64 t.kind, .int .i64 t.at_, .int .i64 t.num, .string ⟨t.name.toArray⟩, .slice A t.kids.length cap] := by
    rw [hw2, ← HKN.out]; exact Box.new _ _ _ _ (by simp)
  have hbR2 : Boxed w2 W0.heap.size 3 (.int .i64 (([] : List (NE G w)).length : Nat)) := by rw [hw2]; exact HBR.out.alloc _
  have hz2 : w2.heap.size = W0.heap.size + 2 := by rw [hw2]; simp
  rw [← hw2]
  refine wpIn_rangeFunc_ownG rfl h1 (gf := 41) (lb := #[.pointer (some ⟨W0.heap.size + 1, 0, none⟩)]) rfl hf3 (enters_of Tryd.func41 (by kernel_rfl) rfl)
    (walk_stops (G := G) 8 (W0.heap.size + 1) (fun _ b => b = W0.heap.size) t _ w w2 hb2 hd HHK.out hbx2 (fun _ _ _ _ h => h) (fun W hb b h => by have := hb.size; omega))
    (fun h1 h2 => KpS.trans h1 h2) (kps_put hb2.size (fun _ _ _ _ _ _ _ _ h => h)) (Below.refl _ _) (fun _ => rfl)
    (fun (pre : List (NE G w)) (W : World) => Boxed W W0.heap.size 3 (.int .i64 pre.length) ∧ Below w.heap.size w W)
    (fun _ _ _ => False)
    (OwnFrom.and (Own.from (boxed_own W0.heap.size 3 (fun pre : List (NE G w) => .int .i64 pre.length)) _) (ownFrom_below (Nat.le_refl _) hb2.size))
    (fun _ _ _ _ _ hs _ _ => hs)
    ⟨hbR2, hb2⟩
    (fun x => { tmps := #[.agg #[.int .i64 t.kind, .int .i64 t.at_, .int .i64 t.num, .string ⟨t.name.toArray⟩, .slice A N cap], .pointer (some ⟨H, 0, none⟩), .int .i64 0, .pointer (some ⟨W0.heap.size, 0, none⟩), .agg #[.int .i64 t.kind, .int .i64 t.at_, .int .i64 t.num, .string ⟨t.name.toArray⟩, .slice A N cap], .func (.func 41) #[] #[.pointer (some ⟨W0.heap.size + 1, 0, none⟩)], .agg #[.int .i64 x.1.1.kind, .int .i64 x.1.1.at_, .int .i64 x.1.1.num, .string ⟨x.1.1.name.toArray⟩, x.1.2], undef, undef, undef], defers := [] }) ?assign ?body ?done ?stop
  case assign =>
    intro l x W K hK
    gi_wp2
    simpa [encN] using hK
  case body =>
    rintro l pre x W ⟨hv, hB⟩ hlt
    have hc := hv.cell
    have hfz := hv.frozen
    have hw := hrun pre hlt
    have HV := Lib.hid hv
    have HB := Lib.hid hB
    clear hv hB
    gi_wp2
    refine ⟨(KeepsOthers.setCell _ _ _).from _, kps_cell (by omega) _, ⟨?_, HB.out.setCell (p := ⟨W0.heap.size, 0, none⟩) (show w.heap.size ≤ W0.heap.size by omega) _⟩⟩
    rw [List.length_append]
    exact HV.out.set _
  case done =>
    rintro D ys W hD hys ⟨hv, hB⟩ hK
    have hc := hv.cell
    have hys2 : (ys.length : Int) = t.size := by have := congrArg List.length hys; rw [List.length_map, hwl] at this; omega
    gi_wp2
    refine ⟨by simp, .inl ⟨_, _, rfl, run_takeDeferred hK, ?_⟩⟩
    refine ⟨_, results_tmp rfl _ _ _, by rw [← hys2]; rfl, hB.trans (belowK_b (w := w) (Nat.le_refl _) W D _ _ (by omega) hK rfl rfl)⟩
  case stop =>
    rintro D c pre W _ _ h _
    exact h.elim
end Go.Proofs.YtkmkeaeaalnbjaaDoor.nt

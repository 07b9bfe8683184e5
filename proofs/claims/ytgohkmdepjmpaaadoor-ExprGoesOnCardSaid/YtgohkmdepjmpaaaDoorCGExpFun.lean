import Derived.Test.YtgohkmdepjmpaaaDoorCGExpGo
import Derived.Test.YtgohkmdepjmpaaaDoorCParTold
import Derived.BigQuiet
/- The package's functions Expr and Type. -/
--KEEP
namespace Go.Proofs.YtgohkmdepjmpaaaDoor.pm.em
open Go.RowKit wd lx nt ne pm mem
open vt (I64 own_base own_form own_below own_step set_same Typ)
variable {l : List Tk} {v : Value} {w0 : World} {rb : Nat} {A A' : Nat → Prop} {i j : Int} {wants over : Bool} {rs : List NT} {G : List Frm} {w w' : World}

/-- what a run of the reader tells -/
def ToldX (o : Out) (w : World) (e : Ending) (w' : World) : Prop :=
  match o with
  | .over n j => ∃ s, e = .returned (.tuple #[.agg #[.int .i64 n.kind, .int .i64 n.at_, .int .i64 n.num, .string ⟨n.name.toArray⟩, s], .int .i64 j, .int .i64 0]) ∧ nt.Kids (fun _ => True) w' n.kids s ∧ Hd n ∧ Below w.heap.size w w'
  | .no j => e = .returned (.tuple #[.agg ZZ, .int .i64 j, .int .i64 1]) ∧ Below w.heap.size w w'
  | .go _ => False
/-- a reader begins -/
theorem rd_new {W2 : World} (he : Env l v w) (hi : I64 i) (b : Bool) (hrb : rb = w.heap.size) (hW : W2 = w.alloc (.cells #[v, .int .i64 i, .bool b, .bool false, .slice none 0 0, .slice none 0 0] RdT)) : Rd l v w rb (fun _ => False) i b false [] [] W2 := by
  subst hW
  refine ⟨he, (Below.refl _ _).alloc (Nat.le_refl _) _, by omega, fun b q => q.elim, (fun f hf => by cases hf), hi, _, _, [], Box.new _ _ _ _ hrb, World.ownsRow_nil _ _ _ _, (by rw [Nods]), World.ownsRow_nil _ _ _ _, fun b q => q.elim⟩
theorem Env.on (h : Env l v w) (hb : Below w.heap.size w w') : Env l v w' := ⟨h.src.on hb, h.good, h.txt, h.ld.on hb⟩
theorem RdS.rd {s : MS} (h : RdS l v w0 rb s w) : ∃ wants rs, Rd l v w0 rb (fun _ => False) s.pos wants false rs s.stk w := by
  cases s with
  | want i G => exact ⟨_, _, h⟩
  | have_ i G n => exact ⟨_, _, h⟩
def ExRel (l : List Tk) (v : Value) (w0 : World) (rb : Nat) (o : Out) (g : Nat) (wr : World) : Prop :=
  (∃ s k, k = g ∧ Hid (RdS l v w0 rb s wr) ∧ Hid (InvS l s) ∧ Hid (Runs l k s o)) ∨ (∃ n j, o = .over n j ∧ g = 0 ∧ Hid (Rd l v w0 rb (fun _ => False) j false true [n] [] wr))
theorem five_heap {R k : Nat} {a b c d e : Value} (hk : k ≠ R) : (five w R a b c d e).heap[k]? = w.heap[k]? := by
  unfold five
  rw [Below.heap_setCell _ ⟨R, 4, none⟩ _ k hk, Below.heap_setCell _ ⟨R, 3, none⟩ _ k hk, Below.heap_setCell _ ⟨R, 2, none⟩ _ k hk, Below.heap_setCell _ ⟨R, 1, none⟩ _ k hk, Below.heap_setCell _ ⟨R, 0, none⟩ _ k hk]
theorem drew_heap (w : World) : w.drew.heap = w.heap := rfl
theorem five_drew {R k : Nat} {a b c d e : Value} (hk : k ≠ R) : (five w R a b c d e).drew.heap[k]? = w.heap[k]? := by
  rw [drew_heap]
  exact five_heap hk
theorem kids_other {n : List NT} {s : Value} {vr vo : Value} {R : Nat} (hk : nt.Kids (KP w0 rb vr vo) w n s) (hR : R < w0.heap.size) (h : ∀ k, k ≠ R → w'.heap[k]? = w.heap[k]?) : nt.Kids (fun _ => True) w' n s := by
  refine hk.carry fun k o u q hc => ⟨trivial, ?_⟩
  have hne : k ≠ R := fun e => by have h1 := q.1; rw [e] at h1; exact Nat.not_lt_of_le h1 hR
  exact (World.cell?_of_block (w := w) (w' := w') (a := ⟨k, o, none⟩) (h k hne)).trans hc
theorem kids_far {n : List NT} {s : Value} {vr vo : Value} {R : Nat} (hk : nt.Kids (KP w0 rb vr vo) w n s) (hR : R < w0.heap.size) (a b c d e : Value) : nt.Kids (fun _ => True) (five w R a b c d e).drew n s := kids_other hk hR fun _ h => five_drew h
set_option maxRecDepth 100000 in
set_option maxHeartbeats 4000000 in
theorem expr_walk (k : Nat) (o : Out) (he : Env l v w) (hi : I64 i) (hk : Runs l k (.want i []) o) :
    Calls Tryd.prog 8 #[v, .int .i64 i] w (ToldX o w) := by
  have HK := Lib.hid hk
  clear hk
  obtain ⟨R, hR⟩ : ∃ R, R = w.heap.size := ⟨_, rfl⟩
  obtain ⟨W, hW⟩ : ∃ W, W = w.alloc (.cells #[.int .i64 0, .int .i64 0, .int .i64 0, .string ⟨#[]⟩, .slice none 0 0] NodeT) := ⟨_, rfl⟩
  obtain ⟨B, hB⟩ : ∃ B, B = W.heap.size := ⟨_, rfl⟩
  obtain ⟨W2, hW2⟩ : ∃ W2, W2 = W.alloc (.cells #[v, .int .i64 i, .bool true, .bool false, .slice none 0 0, .slice none 0 0] RdT) := ⟨_, rfl⟩
  have hbW : Below w.heap.size w W := by rw [hW]; exact (Below.refl _ _).alloc (Nat.le_refl _) _
  have bR : Box W R NodeT #[.int .i64 0, .int .i64 0, .int .i64 0, .string ⟨#[]⟩, .slice none 0 0] := by rw [hW]; exact Box.new _ _ _ _ hR
  have heW := he.on hbW
  have HRD : Hid (RdS l v W B (.want i []) W2) := Lib.hid (rd_new heW hi true hB hW2)
  have HEW := Lib.hid heW
  have HBR := Lib.hid bR
  have HRW : Hid (R < W.heap.size) := Lib.hid bR.lt
  have hRB : ¬ R = B := by have := bR.lt; omega
  have hBR : ¬ B = R := fun e => hRB e.symm
  have HBW := Lib.hid hbW
  have HWR : Hid (w.heap.size ≤ R) := Lib.hid (by omega)
  have HW := Lib.hid hW
  have HR := Lib.hid hR
  have HW2 := Lib.hid hW2
  have HBB := Lib.hid hB
  have HLEN := Lib.hid he.src.len
  clear hR hW hB hW2 hbW bR heW he hi
  obtain ⟨Av, cv, rfl⟩ := HEW.out.src.lies.form
  go_enter Tryd.func8, Tryd.ntmps8
  go_wp2_with (first | (rw [← HW.out, ← HR.out]) | (rw [← HW2.out, ← HBB.out]))
  go_loopg [] k (fun g wr => ExRel l (.slice Av l.length cv) W B o g wr)
  case atStart => unfold ExRel; exact Or.inl ⟨_, k, rfl, HRD, Lib.hid (Or.inl ⟨rfl, fun f hf => by cases hf⟩), HK⟩
  case round =>
    unfold ExRel at hrel
    rcases hrel with ⟨s, g1, hg1, HS, HI, HRu⟩ | ⟨n, j, hov, hg, HRd⟩
    · obtain ⟨_, _, hrd⟩ := RdS.rd HS.out
      obtain ⟨_, _, _, ⟨_, _, _, c3, _⟩, _⟩ := hrd.cells
      have HST := Lib.hid (step_any s HS.out (HI.out.small HLEN.out) HI.out.kg)
      cases g1 with
      | zero => exact HRu.out.elim
      | succ g1 =>
        clear hrd
        go_wp2_with (fail)
        refine HST.out.mono ?_
        intro e w1 hp
        rcases HRu.out with ⟨s1, h1, h2⟩ | ⟨h1, h2⟩
        · rw [h1] at hp
          obtain ⟨rfl, hr1⟩ := hp
          have HR1 := Lib.hid hr1
          have HI1 := Lib.hid (HI.out.step h1)
          have HU1 := Lib.hid h2
          clear hr1 h1 h2 c3
          go_wp2_with (fail)
          go_roundg g1
          case measure => omega
          case rel => unfold ExRel; exact Or.inl ⟨s1, g1, rfl, HR1, HI1, HU1⟩
        · rw [h1] at hp
          cases o with
          | go s1 => exact absurd rfl (h2 s1)
          | no j =>
            obtain ⟨rfl, wn, ov, rs1, G1, hr1⟩ := hp
            have hbR := HBR.out.below hr1.low HRW.out
            obtain ⟨_, _, _, ⟨_, c1, _⟩, _⟩ := hr1.cells
            have r0 := hbR.cell 0
            have r1 := hbR.cell 1
            have r2 := hbR.cell 2
            have r3 := hbR.cell 3
            have r4 := hbR.cell 4
            simp only [List.getElem?_toArray, List.getElem?_cons_zero, List.getElem?_cons_succ] at r0 r1 r2 r3 r4
            have gr0 := hbR.frozen 0
            have gr1 := hbR.frozen 1
            have gr2 := hbR.frozen 2
            have gr3 := hbR.frozen 3
            have gr4 := hbR.frozen 4
            have HbR := Lib.hid hbR
            have HFIN := Lib.hid (below_five (HBW.out.trans (hr1.low.mono HBW.out.size)) HWR.out (.int .i64 0) (.int .i64 0) (.int .i64 0) (.string ⟨#[]⟩) (.slice none 0 0)).drew
            clear hr1 hbR h1 h2 c3
            go_wp2_with (fail)
            go_region
            all_goals go_wp2_with (fail)
            refine bodyPost_ret (node_ret3 rfl rfl rfl rfl (box_five HbR.out _ _ _ _ _).drew) rfl ?_
            exact ⟨rfl, HFIN.out⟩
          | over n j =>
            obtain ⟨rfl, hr1⟩ := hp
            have HR1 := Lib.hid hr1
            clear hr1 h1 h2 c3
            go_wp2_with (fail)
            go_roundg 0
            case measure => omega
            case rel => unfold ExRel; exact Or.inr ⟨n, j, rfl, rfl, HR1⟩
    · subst hov
      obtain ⟨vr, vo, vs, ⟨_, c1, _, c3, c4, _⟩, _, hbx, hr⟩ := HRd.out.cells
      obtain ⟨gg, c, xs, s, rfl, rfl, hxl, hgB, hgl, hgc, hdn, hkn, hxn, ⟨e0, e1, e2, e3, e4⟩, hfg⟩ := last_nod (rs := []) hr
      obtain ⟨As, cs, rfl, _⟩ := hkn.form
      have hbR := HBR.out.below HRd.out.low HRW.out
      have hgR : ¬ gg = R := by have := HRW.out; omega
      have hRg : ¬ R = gg := fun e => hgR e.symm
      have r0 := hbR.cell 0
      have r1 := hbR.cell 1
      have r2 := hbR.cell 2
      have r3 := hbR.cell 3
      have r4 := hbR.cell 4
      simp only [List.getElem?_toArray, List.getElem?_cons_zero, List.getElem?_cons_succ] at r0 r1 r2 r3 r4
      have gr0 := hbR.frozen 0
      have gr1 := hbR.frozen 1
      have gr2 := hbR.frozen 2
      have gr3 := hbR.frozen 3
      have gr4 := hbR.frozen 4
      change wr.cell? ⟨gg, 0, none⟩ = _ at e0
      change wr.cell? ⟨gg, 1, none⟩ = _ at e1
      change wr.cell? ⟨gg, 2, none⟩ = _ at e2
      change wr.cell? ⟨gg, 3, none⟩ = _ at e3
      change wr.cell? ⟨gg, 4, none⟩ = _ at e4
      change wr.cell? ⟨B, 4, none⟩ = some (.slice (some ⟨gg, 0, none⟩) 1 c) at c4
      have HbR := Lib.hid hbR
      have HFIN : Hid (ToldX (.over n j) w (.returned (.tuple #[.agg #[.int .i64 n.kind, .int .i64 n.at_, .int .i64 n.num, .string ⟨n.name.toArray⟩, .slice As n.kids.length cs], .int .i64 j, .int .i64 0])) (five wr R (.int .i64 n.kind) (.int .i64 n.at_) (.int .i64 n.num) (.string ⟨n.name.toArray⟩) (.slice As n.kids.length cs)).drew) := Lib.hid ⟨_, rfl, kids_far hkn HRW.out _ _ _ _ _, hdn, (below_five (HBW.out.trans (HRd.out.low.mono HBW.out.size)) HWR.out _ _ _ _ _).drew⟩
      obtain ⟨nl, hnl⟩ : ∃ nl, nl = n.kids.length := ⟨_, rfl⟩
      obtain ⟨nk, hnk⟩ : ∃ nk, nk = n.kind := ⟨_, rfl⟩
      obtain ⟨na, hna⟩ : ∃ na, na = n.at_ := ⟨_, rfl⟩
      obtain ⟨nn, hnn⟩ : ∃ nn, nn = n.num := ⟨_, rfl⟩
      obtain ⟨nm, hnm⟩ : ∃ nm, nm = n.name := ⟨_, rfl⟩
      rw [← hnl, ← hnk, ← hna, ← hnn, ← hnm] at HFIN
      rw [← hnk] at e0
      rw [← hna] at e1
      rw [← hnn] at e2
      rw [← hnm] at e3
      rw [← hnl] at e4
      clear hbx hr hxl hgB hgl hgc hdn hkn hxn hfg hbR hnl hnk hna hnn hnm
      go_wp2_with (fail)
      go_region
      all_goals go_wp2_with (fail)
      all_goals refine bodyPost_ret (node_ret3 rfl rfl rfl rfl (box_five HbR.out _ _ _ _ _).drew) rfl ?_
      all_goals exact HFIN.out
end Go.Proofs.YtgohkmdepjmpaaaDoor.pm.em

/- The package's functions Args and Type. -/
--KEEP
namespace Go.Proofs.YtgohkmdepjmpaaaDoor.pm.em
open Go.RowKit wd lx nt ne pm mem
open vt (I64 own_base own_form own_below own_step set_same Typ)
variable {l : List Tk} {v : Value} {w0 : World} {rb : Nat} {A A' : Nat → Prop} {i j : Int} {wants over : Bool} {rs : List NT} {G : List Frm} {w w' : World}

/-- what a reader of arguments tells -/
def ToldA (o : Out) (w : World) (e : Ending) (w' : World) : Prop :=
  match o with
  | .over n j => ∃ s, e = .returned (.tuple #[s, .int .i64 j, .int .i64 0]) ∧ nt.Kids (fun _ => True) w' n.kids s ∧ Below w.heap.size w w'
  | .no j => e = .returned (.tuple #[.slice none 0 0, .int .i64 j, .int .i64 1]) ∧ Below w.heap.size w w'
  | .go _ => False
/-- so many steps, each in something begun, lead to an outcome -/
def ARuns (l : List Tk) : Nat → MS → Out → Prop
  | 0, s, o => ∃ j n, s = .have_ j [] n ∧ o = .over n j
  | k + 1, s, o => 1 ≤ s.stk.length ∧ ((∃ s1, stepM l s = .go s1 ∧ ARuns l k s1 o) ∨ ∃ j, stepM l s = .no j ∧ o = .no j)
theorem Walk.aruns {k : Nat} {s : MS} {n : NT} (h : Walk l 1 k s (.have_ j [] n)) : ARuns l k s (.over n j) := by
  obtain ⟨t, ht⟩ : ∃ t, t = MS.have_ j [] n := ⟨_, rfl⟩
  rw [← ht] at h
  induction h with
  | refl s => exact ⟨j, n, ht, rfl⟩
  | step hd hs _ ih => exact ⟨hd, Or.inl ⟨_, hs, ih ht⟩⟩
theorem Walk.afails {k : Nat} {s s' : MS} (h : Walk l 1 k s s') (hd' : 1 ≤ s'.stk.length) (hs : stepM l s' = .no j) : ARuns l (k + 1) s (.no j) := by
  induction h with
  | refl s => exact ⟨hd', Or.inr ⟨j, hs, rfl⟩⟩
  | step hd h1 _ ih => exact ⟨hd, Or.inl ⟨_, h1, ih hd' hs⟩⟩
def AxRel (l : List Tk) (v : Value) (w0 : World) (rb : Nat) (o : Out) (g : Nat) (ok : Value) (wr : World) : Prop :=
  (∃ s k, ok = .bool true ∧ k = g ∧ Hid (RdS l v w0 rb s wr) ∧ Hid (InvS l s) ∧ Hid (ARuns l k s o)) ∨ (∃ j, ok = .bool false ∧ o = .no j ∧ Hid (∃ wn ov rs G, Rd l v w0 rb (fun _ => False) j wn ov rs G wr))
set_option maxRecDepth 100000 in
set_option maxHeartbeats 4000000 in
theorem args_walk (k : Nat) (o : Out) (he : Env l v w) (hi : I64 i) (hk : (∃ s1, argsM l i 17 0 [] [] [] = .go s1 ∧ InvS l s1 ∧ ARuns l k s1 o) ∨ ∃ j, argsM l i 17 0 [] [] [] = .no j ∧ o = .no j) :
    Calls Tryd.prog 15 #[v, .int .i64 i] w (ToldA o w) := by
  obtain ⟨B, hB⟩ : ∃ B, B = w.heap.size := ⟨_, rfl⟩
  obtain ⟨W2, hW2⟩ : ∃ W2, W2 = w.alloc (.cells #[v, .int .i64 i, .bool false, .bool false, .slice none 0 0, .slice none 0 0] RdT) := ⟨_, rfl⟩
  have hrd := rd_new he hi false hB hW2
  have HA : Hid (Calls Tryd.prog 29 #[.pointer (some ⟨B, 0, none⟩), .agg #[.int .i64 17, .int .i64 0, .int .i64 0, .string ⟨#[]⟩, .slice none 0 0], .slice none 0 0] W2 (OutP l v w B (argsM l i 17 0 [] [] []))) := Lib.hid (args_nil 17 0 [] hrd (by show 0 ≤ 1048580; omega) (by show 0 ≤ 1048580; omega) ⟨(by show I64 17; unfold I64; omega), (by show I64 0; unfold I64; omega), (by show I64 0; unfold I64; omega), (by show 0 ≤ 281474976710656; omega)⟩ (by decide))
  have HK := Lib.hid hk
  have HW2 := Lib.hid hW2
  have HBB := Lib.hid hB
  have HEW := Lib.hid he
  have HLEN := Lib.hid he.src.len
  clear hB hW2 hrd hk he hi
  obtain ⟨Av, cv, rfl⟩ := HEW.out.src.lies.form
  go_enter Tryd.func15, Tryd.ntmps15
  go_wp2_with (first | (rw [← HW2.out, ← HBB.out]))
  refine HA.out.mono ?_
  intro e w1 hp
  obtain ⟨b, rfl, hrel⟩ : ∃ b, e = .returned (.bool b) ∧ AxRel l (.slice Av l.length cv) w B o k (.bool b) w1 := by
    rcases HK.out with ⟨s1, h1, h2, h3⟩ | ⟨j, h1, h2⟩
    · rw [h1] at hp
      exact ⟨true, hp.1, Or.inl ⟨s1, k, rfl, rfl, Lib.hid hp.2, Lib.hid h2, Lib.hid h3⟩⟩
    · rw [h1] at hp
      exact ⟨false, hp.1, Or.inr ⟨j, rfl, h2, Lib.hid hp.2⟩⟩
  have HREL := Lib.hid hrel
  clear hp hrel
  go_wp2_with (fail)
  go_loopg [8] k (fun g vok wr => AxRel l (.slice Av l.length cv) w B o g vok wr)
  case atStart => exact HREL.out
  case round =>
    unfold AxRel at hrel
    rcases hrel with ⟨s, g1, rfl, hg1, HS, HI, HRu⟩ | ⟨j, rfl, hov, HRd⟩
    · cases g1 with
      | zero =>
        clear hg1
        obtain ⟨j, n, rfl, rfl⟩ := HRu.out
        have hrd : Rd l (.slice Av l.length cv) w B (fun _ => False) j false false ([] ++ [n]) [] wr := HS.out
        obtain ⟨vr, vo, vs, ⟨_, c1, _, _, c4, c5⟩, _, hbx, hr⟩ := hrd.cells
        obtain ⟨Ao, co, rfl⟩ := own_form hr.opn
        obtain ⟨gg, c, xs, s, rfl, rfl, hxl, hgB, hgl, hgc, hdn, hkn, hxn, ⟨e0, e1, e2, e3, e4⟩, hfg⟩ := last_nod (rs := []) hr
        obtain ⟨As, cs, rfl, _⟩ := hkn.form
        change wr.cell? ⟨gg, 4, none⟩ = _ at e4
        change wr.cell? ⟨B, 4, none⟩ = some (.slice (some ⟨gg, 0, none⟩) 1 c) at c4
        change wr.cell? ⟨B, 5, none⟩ = some (.slice Ao 0 co) at c5
        have HFIN : Hid (∀ q, ToldA (.over n j) w (.returned (.tuple #[.slice As n.kids.length cs, .int .i64 j, .int .i64 0])) (wr.drewN q)) := Lib.hid fun q => ⟨_, rfl, (hkn.mono fun _ _ => trivial).carry fun b o u h hc => ⟨h, hc⟩, below_drewN hrd.low q⟩
        obtain ⟨nl, hnl⟩ : ∃ nl, nl = n.kids.length := ⟨_, rfl⟩
        rw [← hnl] at HFIN e4
        clear hbx hr hxl hgB hgl hgc hdn hkn hxn hfg hnl e0 e1 e2 e3 hrd
        go_wp2_with (fail)
        go_quiet (fail)
        go_wp2_with (fail)
        go_ret3
        exact HFIN.out _
      | succ g1 =>
        have HG1 := Lib.hid hg1
        clear hg1
        obtain ⟨wn, rs1, hrd⟩ := RdS.rd HS.out
        obtain ⟨_, _, _, ⟨_, _, _, _, _, c5⟩, _, _, hr⟩ := hrd.cells
        obtain ⟨Ao, co, rfl⟩ := own_form hr.opn
        obtain ⟨M, hM⟩ : ∃ M, M = s.stk.length := ⟨_, rfl⟩
        rw [← hM] at c5
        have hM1 : (0 : Int) < (M : Int) := by have := HRu.out.1; omega
        have HST := Lib.hid (step_any s HS.out (HI.out.small HLEN.out) HI.out.kg)
        clear hrd hr hM
        go_wp2_with (fail)
        refine HST.out.mono ?_
        intro e w1 hp
        rcases HRu.out.2 with ⟨s1, h1, h2⟩ | ⟨j, h1, h2⟩
        · rw [h1] at hp
          obtain ⟨rfl, hr1⟩ := hp
          have HR1 := Lib.hid hr1
          have HI1 := Lib.hid (HI.out.step h1)
          have HU1 := Lib.hid h2
          clear hr1 h1 h2 c5
          go_wp2_with (fail)
          go_roundg g1
          case measure => have := HG1.out; omega
          case rel => unfold AxRel; exact Or.inl ⟨s1, g1, rfl, rfl, HR1, HI1, HU1⟩
        · rw [h1] at hp
          obtain ⟨rfl, hr1⟩ := hp
          have HR1 := Lib.hid hr1
          clear hr1 h1 c5
          go_wp2_with (fail)
          go_roundg 0
          case measure => have := HG1.out; omega
          case rel => unfold AxRel; exact Or.inr ⟨j, rfl, h2, HR1⟩
    · subst hov
      obtain ⟨wn, ov, rs1, G1, hrd⟩ := HRd.out
      obtain ⟨_, _, _, ⟨_, c1, _⟩, _⟩ := hrd.cells
      have HLOW := Lib.hid hrd.low
      clear hrd
      go_wp2_with (fail)
      go_quiet (fail)
      go_wp2_with (fail)
      go_ret3
      exact ⟨rfl, below_drewN HLOW.out _⟩
set_option maxRecDepth 100000 in
set_option maxHeartbeats 4000000 in
theorem type_no (htr : typR l i = .no j) (he : Env l v w) (hi : I64 i) :
    Calls Tryd.prog 12 #[v, .int .i64 i] w (ToldX (.no j) w) := by
  obtain ⟨R, hR⟩ : ∃ R, R = w.heap.size := ⟨_, rfl⟩
  obtain ⟨W, hW⟩ : ∃ W, W = w.alloc (.cells #[.int .i64 0, .int .i64 0, .int .i64 0, .string ⟨#[]⟩, .slice none 0 0] NodeT) := ⟨_, rfl⟩
  obtain ⟨B, hB⟩ : ∃ B, B = W.heap.size := ⟨_, rfl⟩
  obtain ⟨W2, hW2⟩ : ∃ W2, W2 = W.alloc (.cells #[v, .int .i64 i, .bool false, .bool false, .slice none 0 0, .slice none 0 0] RdT) := ⟨_, rfl⟩
  have hbW : Below w.heap.size w W := by rw [hW]; exact (Below.refl _ _).alloc (Nat.le_refl _) _
  have bR : Box W R NodeT #[.int .i64 0, .int .i64 0, .int .i64 0, .string ⟨#[]⟩, .slice none 0 0] := by rw [hW]; exact Box.new _ _ _ _ hR
  have heW := he.on hbW
  have hrd := rd_new heW hi false hB hW2
  have HTY := Lib.hid (typed_any hrd)
  rw [htr] at HTY
  have HEW := Lib.hid heW
  have HBR := Lib.hid bR
  have HRW : Hid (R < W.heap.size) := Lib.hid bR.lt
  have hRB : ¬ R = B := by have := bR.lt; omega
  have hBR : ¬ B = R := fun e => hRB e.symm
  have HBW := Lib.hid hbW
  have HWR : Hid (w.heap.size ≤ R) := Lib.hid (by omega)
  have HW := Lib.hid hW
  have HR := Lib.hid hR
  have HW2 := Lib.hid hW2
  have HBB := Lib.hid hB
  have HLEN := Lib.hid he.src.len
  clear hrd htr hR hW hB hW2 hbW bR heW he hi
  obtain ⟨Av, cv, rfl⟩ := HEW.out.src.lies.form
  go_enter Tryd.func12, Tryd.ntmps12
  go_wp2_with (first | (rw [← HW.out, ← HR.out]) | (rw [← HW2.out, ← HBB.out]))
  refine HTY.out.mono ?_
  intro e w1 hp
  obtain ⟨rfl, hr1, _⟩ := hp
  have hb3 : Below w1.heap.size w1 (w1.alloc (.cells #[.int .i64 0, .int .i64 0, .int .i64 0, .string ⟨#[]⟩, .slice none 0 0] NodeT)) := (Below.refl _ _).alloc (Nat.le_refl _) _
  have hr3 := hr1.on_ hb3
  have hbR := HBR.out.below hr3.low HRW.out
  obtain ⟨_, _, _, ⟨_, c1, _⟩, _⟩ := hr3.cells
  have HBL := Lib.hid hr3.low
  obtain ⟨X, hX⟩ : ∃ X, X = w1.alloc (.cells #[.int .i64 0, .int .i64 0, .int .i64 0, .string ⟨#[]⟩, .slice none 0 0] NodeT) := ⟨_, rfl⟩
  rw [← hX] at hbR c1 HBL
  have r0 := hbR.cell 0
  have r1 := hbR.cell 1
  have r2 := hbR.cell 2
  have r3 := hbR.cell 3
  have r4 := hbR.cell 4
  simp only [List.getElem?_toArray, List.getElem?_cons_zero, List.getElem?_cons_succ] at r0 r1 r2 r3 r4
  have gr0 := hbR.frozen 0
  have gr1 := hbR.frozen 1
  have gr2 := hbR.frozen 2
  have gr3 := hbR.frozen 3
  have gr4 := hbR.frozen 4
  have HbR := Lib.hid hbR
  have HFIN := Lib.hid (below_five (HBW.out.trans (HBL.out.mono HBW.out.size)) HWR.out (.int .i64 0) (.int .i64 0) (.int .i64 0) (.string ⟨#[]⟩) (.slice none 0 0)).drew
  have HX := Lib.hid hX
  clear hb3 hr3 hr1 hbR hX
  unfold ZZ
  go_wp2_with (fail)
  rw [← HX.out]
  go_region
  all_goals go_wp2_with (fail)
  all_goals refine bodyPost_ret (node_ret3 rfl rfl rfl rfl (box_five HbR.out _ _ _ _ _).drew) rfl ?_
  all_goals exact ⟨rfl, HFIN.out⟩
set_option maxRecDepth 100000 in
set_option maxHeartbeats 4000000 in
theorem type_some (n : NT) (htr : typR l i = .node n j) (he : Env l v w) (hi : I64 i) :
    Calls Tryd.prog 12 #[v, .int .i64 i] w (ToldX (.over n j) w) := by
  obtain ⟨R, hR⟩ : ∃ R, R = w.heap.size := ⟨_, rfl⟩
  obtain ⟨W, hW⟩ : ∃ W, W = w.alloc (.cells #[.int .i64 0, .int .i64 0, .int .i64 0, .string ⟨#[]⟩, .slice none 0 0] NodeT) := ⟨_, rfl⟩
  obtain ⟨B, hB⟩ : ∃ B, B = W.heap.size := ⟨_, rfl⟩
  obtain ⟨W2, hW2⟩ : ∃ W2, W2 = W.alloc (.cells #[v, .int .i64 i, .bool false, .bool false, .slice none 0 0, .slice none 0 0] RdT) := ⟨_, rfl⟩
  have hbW : Below w.heap.size w W := by rw [hW]; exact (Below.refl _ _).alloc (Nat.le_refl _) _
  have bR : Box W R NodeT #[.int .i64 0, .int .i64 0, .int .i64 0, .string ⟨#[]⟩, .slice none 0 0] := by rw [hW]; exact Box.new _ _ _ _ hR
  have heW := he.on hbW
  have hrd := rd_new heW hi false hB hW2
  have HTY := Lib.hid (typed_any hrd)
  rw [htr] at HTY
  have HEW := Lib.hid heW
  have HBR := Lib.hid bR
  have HRW : Hid (R < W.heap.size) := Lib.hid bR.lt
  have hRB : ¬ R = B := by have := bR.lt; omega
  have hBR : ¬ B = R := fun e => hRB e.symm
  have HBW := Lib.hid hbW
  have HWR : Hid (w.heap.size ≤ R) := Lib.hid (by omega)
  have HW := Lib.hid hW
  have HR := Lib.hid hR
  have HW2 := Lib.hid hW2
  have HBB := Lib.hid hB
  have HLEN := Lib.hid he.src.len
  have HZW : Hid (W.heap.size ≤ W2.heap.size) := Lib.hid hrd.low.size
  clear hrd htr hR hW hB hW2 hbW bR heW he hi
  obtain ⟨Av, cv, rfl⟩ := HEW.out.src.lies.form
  go_enter Tryd.func12, Tryd.ntmps12
  go_wp2_with (first | (rw [← HW.out, ← HR.out]) | (rw [← HW2.out, ← HBB.out]))
  refine HTY.out.mono ?_
  intro e w1 hp
  obtain ⟨s, rfl, hk1, hd1, hr1, _, hsz⟩ := hp
  obtain ⟨As, cs, rfl, _⟩ := hk1.form
  have HDN := Lib.hid hd1
  obtain ⟨O, hO⟩ : ∃ O, O = w1.heap.size := ⟨_, rfl⟩
  obtain ⟨X, hX⟩ : ∃ X, X = w1.alloc (.cells #[.int .i64 n.kind, .int .i64 n.at_, .int .i64 n.num, .string ⟨n.name.toArray⟩, .slice As n.kids.length cs] NodeT) := ⟨_, rfl⟩
  have hb3 : Below w1.heap.size w1 X := by rw [hX]; exact (Below.refl _ _).alloc (Nat.le_refl _) _
  have hr3 := hr1.on_ hb3
  have hbR := HBR.out.below hr3.low HRW.out
  have hbO : Box X O NodeT #[.int .i64 n.kind, .int .i64 n.at_, .int .i64 n.num, .string ⟨n.name.toArray⟩, .slice As n.kids.length cs] := by rw [hX]; exact Box.new _ _ _ _ hO
  obtain ⟨_, _, _, ⟨_, c1, _⟩, _⟩ := hr3.cells
  have HBL := Lib.hid hr3.low
  have hRO : ¬ R = O := by have := HRW.out; have := hr1.low.size; omega
  have hOR : ¬ O = R := fun e => hRO e.symm
  have hk3 : nt.Kids (fun _ => True) (five X R (.int .i64 n.kind) (.int .i64 n.at_) (.int .i64 n.num) (.string ⟨n.name.toArray⟩) (.slice As n.kids.length cs)).drew n.kids (.slice As n.kids.length cs) := by
    refine (hk1.below hb3).carry fun k o u q hc => ⟨trivial, ?_⟩
    have hne : k ≠ R := fun e => by
      have h1 := q.1
      have h2 := HRW.out
      have h3 := HZW.out
      rw [e] at h1
      omega
    exact (World.cell?_of_block (w := X) (w' := (five X R (.int .i64 n.kind) (.int .i64 n.at_) (.int .i64 n.num) (.string ⟨n.name.toArray⟩) (.slice As n.kids.length cs)).drew) (a := ⟨k, o, none⟩) (five_drew hne)).trans hc
  have HFIN : Hid (ToldX (.over n j) w (.returned (.tuple #[.agg #[.int .i64 n.kind, .int .i64 n.at_, .int .i64 n.num, .string ⟨n.name.toArray⟩, .slice As n.kids.length cs], .int .i64 j, .int .i64 0])) (five X R (.int .i64 n.kind) (.int .i64 n.at_) (.int .i64 n.num) (.string ⟨n.name.toArray⟩) (.slice As n.kids.length cs)).drew) := Lib.hid ⟨_, rfl, hk3, hd1, (below_five (HBW.out.trans (HBL.out.mono HBW.out.size)) HWR.out _ _ _ _ _).drew⟩
  obtain ⟨nl, hnl⟩ : ∃ nl, nl = n.kids.length := ⟨_, rfl⟩
  obtain ⟨nk, hnk⟩ : ∃ nk, nk = n.kind := ⟨_, rfl⟩
  obtain ⟨na, hna⟩ : ∃ na, na = n.at_ := ⟨_, rfl⟩
  obtain ⟨nn, hnn⟩ : ∃ nn, nn = n.num := ⟨_, rfl⟩
  obtain ⟨nm, hnm⟩ : ∃ nm, nm = n.name := ⟨_, rfl⟩
  rw [← hnl, ← hnk, ← hna, ← hnn, ← hnm] at HFIN hbO hX ⊢
  have r0 := hbR.cell 0
  have r1 := hbR.cell 1
  have r2 := hbR.cell 2
  have r3 := hbR.cell 3
  have r4 := hbR.cell 4
  simp only [List.getElem?_toArray, List.getElem?_cons_zero, List.getElem?_cons_succ] at r0 r1 r2 r3 r4
  have gr0 := hbR.frozen 0
  have gr1 := hbR.frozen 1
  have gr2 := hbR.frozen 2
  have gr3 := hbR.frozen 3
  have gr4 := hbR.frozen 4
  have x0 := hbO.cell 0
  have x1 := hbO.cell 1
  have x2 := hbO.cell 2
  have x3 := hbO.cell 3
  have x4 := hbO.cell 4
  simp only [List.getElem?_toArray, List.getElem?_cons_zero, List.getElem?_cons_succ] at x0 x1 x2 x3 x4
  have y0 := hbO.frozen 0
  have y1 := hbO.frozen 1
  have y2 := hbO.frozen 2
  have y3 := hbO.frozen 3
  have y4 := hbO.frozen 4
  have HbR := Lib.hid hbR
  have HX := Lib.hid hX
  have HOO := Lib.hid hO
  clear hb3 hr3 hr1 hbR hbO hX hO hk1 hk3 hd1 hsz HDN hnl hnk hna hnn hnm
  go_wp2_with (first | (rw [← HX.out, ← HOO.out]))
  go_region
  all_goals go_wp2_with (fail)
  all_goals refine bodyPost_ret (node_ret3 rfl rfl rfl rfl (box_five HbR.out _ _ _ _ _).drew) rfl ?_
  all_goals exact HFIN.out
end Go.Proofs.YtgohkmdepjmpaaaDoor.pm.em

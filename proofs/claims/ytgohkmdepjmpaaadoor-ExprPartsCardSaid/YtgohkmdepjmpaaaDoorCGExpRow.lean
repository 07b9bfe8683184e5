import Derived.Test.YtgohkmdepjmpaaaDoorCGExpBase
import Derived.BigQuiet
import Derived.StillTailTactics
import Derived.Deep.RegionLaw
import Derived.Deep.AppendLies
import Derived.Deep.RegionHeld3
import Derived.Deep.LoopGhost
/- The package's reader: the token at which it goes on, a mark that it takes, how tightly what was begun last binds. -/
--KEEP
namespace Go.Proofs.YtgohkmdepjmpaaaDoor.pm.em
open Go.RowKit wd lx nt ne pm mem
open vt (I64 own_base own_form own_below own_step set_same Typ)
variable {l : List Tk} {v : Value} {w0 : World} {rb : Nat} {A A' : Nat → Prop} {i j : Int} {wants over : Bool} {rs : List NT} {G : List Frm} {w w' : World}

theorem tok_ret2 {fn : Func} (hr : fn.results = #[ResultVar.cell 2 TkT]) {tm : Array Value} {w2 : World} {R : Nat} {a b c d : Value} (h4 : tm.getD 2 undef = .pointer (some ⟨R, 0, none⟩)) (hb : Box w2 R TkT #[a, b, c, d]) :
    (results fn tm).run Tryd.prog w2 = .ok (.agg #[a, b, c, d]) w2 := by
  have x0 := hb.cell 0
  have x1 := hb.cell 1
  have x2 := hb.cell 2
  have x3 := hb.cell 3
  simp only [List.getElem?_toArray, List.getElem?_cons_zero, List.getElem?_cons_succ] at x0 x1 x2 x3
  have h4' : tm[2]?.getD undef = .pointer (some ⟨R, 0, none⟩) := by simpa using h4
  simp [results, hr, go_sem, h4', x0, x1, x2, x3]
set_option maxRecDepth 100000 in
set_option maxHeartbeats 2000000 in
theorem token_any (h : Rd l v w0 rb A i wants over rs G w) :
    Calls Tryd.prog 37 #[.pointer (some ⟨rb, 0, none⟩)] w (fun e w' => e = .returned (tkA (tokAt l i)) ∧ Below w.heap.size w w') := by
  obtain ⟨R, hR⟩ : ∃ R, R = w.heap.size := ⟨_, rfl⟩
  obtain ⟨W, hW⟩ : ∃ W, W = w.alloc (.cells #[.int .i64 0, .int .i64 0, .int .i64 0, .string ⟨#[]⟩] TkT) := ⟨_, rfl⟩
  have HB : Hid (Below w.heap.size w W) := Lib.hid (by rw [hW]; exact (Below.refl _ _).alloc (Nat.le_refl _) _)
  have BX : Box W R TkT #[.int .i64 0, .int .i64 0, .int .i64 0, .string ⟨#[]⟩] := by rw [hW]; exact Box.new _ _ _ _ hR
  have HX := Lib.hid BX
  have f0 := BX.frozen 0
  have f1 := BX.frozen 1
  have f2 := BX.frozen 2
  have f3 := BX.frozen 3
  have y0 := BX.cell 0
  have y1 := BX.cell 1
  have y2 := BX.cell 2
  have y3 := BX.cell 3
  simp only [List.getElem?_toArray, List.getElem?_cons_zero, List.getElem?_cons_succ] at y0 y1 y2 y3
  have hrR : ¬ rb = R := by rw [hR]; have := h.lt; omega
  have hRr : ¬ R = rb := fun e => hrR e.symm
  obtain ⟨vr, vo, vs, ⟨c0, c1, _⟩, _⟩ := (h.on_ HB.out).cells
  have hs := h.srcw.on HB.out
  have hi := h.num
  obtain ⟨Av, cv, rfl⟩ := hs.lies.form
  have hl := hs.len
  have HS := Lib.hid hs.lies
  unfold I64 at hi
  obtain ⟨N, hN⟩ : ∃ N, N = l.length := ⟨_, rfl⟩
  rw [← hN] at c0 hl
  have HN := Lib.hid hN
  have HW := Lib.hid hW
  have HRR := Lib.hid hR
  have HBx := Lib.hid (fun q a b c d => below_four (g := R) (below_drewN HB.out q) (by rw [hR]; exact Nat.le_refl _) a b c d)
  obtain ⟨P, hP⟩ : ∃ P, P = (fun (e : Ending) (w' : World) => e = .returned (tkA (tokAt l i)) ∧ Below w.heap.size w w') := ⟨_, rfl⟩
  rw [← hP]
  have HP := Lib.hid hP
  clear hW BX hN hR hP h hs
  by_cases hin : 0 ≤ i ∧ i < (N : Int)
  · obtain ⟨k, rfl⟩ : ∃ k : Nat, i = k := ⟨i.toNat, by omega⟩
    have hk : k < l.length := by rw [← HN.out]; omega
    obtain ⟨b, off, rfl, hbl, x⟩ := TksS.cells HS.out (by omega)
    obtain ⟨x0, x1, x2, x3⟩ := x k hk
    have HT := Lib.hid (tok_at hk)
    obtain ⟨t, ht⟩ : ∃ t, t = l[k] := ⟨_, rfl⟩
    rw [← ht] at x0 x1 x2 x3 HT
    have h1 : decide ((k : Int) < 0) = false := by rw [decide_eq_false_iff_not]; omega
    have h2 : decide ((N : Int) ≤ (k : Int)) = false := by rw [decide_eq_false_iff_not]; omega
    have h3 : (k : Int) < (N : Int) := hin.2
    have h4 : (0 : Int) ≤ (k : Int) := hin.1
    clear ht x hin hbl
    go_enter Tryd.func37, Tryd.ntmps37
    go_wp2_with (first | (rw [← HW.out, ← HRR.out]))
    go_quiet (fail)
    go_wp2_with (fail)
    generalize hV : World.drewN W _ = V
    have HV := Lib.hid (And.intro (show Below w.heap.size w V from by rw [← hV]; exact below_drewN HB.out _) (show Box V R TkT _ from by rw [← hV]; exact HX.out))
    have ec : ∀ p, V.cell? p = W.cell? p := fun p => by rw [← hV]; rfl
    have ef : ∀ p, V.frozen? p = W.frozen? p := fun p => by rw [← hV]; rfl
    have c0 := (ec _).trans c0
    have c1 := (ec _).trans c1
    have x0 := (ec _).trans x0
    have x1 := (ec _).trans x1
    have x2 := (ec _).trans x2
    have x3 := (ec _).trans x3
    have y0 := (ec _).trans y0
    have y1 := (ec _).trans y1
    have y2 := (ec _).trans y2
    have y3 := (ec _).trans y3
    have f0 := (ef _).trans f0
    have f1 := (ef _).trans f1
    have f2 := (ef _).trans f2
    have f3 := (ef _).trans f3
    clear ec ef hV
    go_still_tail 10, (by kernel_rfl)
    change wpList _ _ _ _ _ V.drew
    go_wp2_with (fail)
    try simp only [Exit.inBlock, Exit.then]
    refine bodyPost_ret (tok_ret2 rfl rfl (box_four HV.out.2.drew _ _ _ _)) rfl ?_
    rw [HP.out]
    exact ⟨by rw [HT.out]; rfl, below_four HV.out.1.drew (by rw [HRR.out]; exact Nat.le_refl _) _ _ _ _⟩
  · have HT := Lib.hid (tok_out (l := l) (i := i) (by rw [← HN.out]; omega))
    by_cases h1 : i < 0
    · clear hin
      go_enter Tryd.func37, Tryd.ntmps37
      go_wp2_with (first | (rw [← HW.out, ← HRR.out]))
      go_quiet (fail)
      go_wp2_with (fail)
      try simp only [Exit.inBlock, Exit.then]
      refine bodyPost_ret (tok_ret2 rfl rfl (box_four HX.out _ _ _ _)) rfl ?_
      rw [HP.out]
      exact ⟨by rw [HT.out]; rfl, HBx.out _ _ _ _ _⟩
    · have h1' : decide (i < 0) = false := by rw [decide_eq_false_iff_not]; omega
      have h2 : (N : Int) ≤ i := by omega
      clear hin h1
      go_enter Tryd.func37, Tryd.ntmps37
      go_wp2_with (first | (rw [← HW.out, ← HRR.out]))
      go_quiet (fail)
      go_wp2_with (fail)
      try simp only [Exit.inBlock, Exit.then]
      refine bodyPost_ret (tok_ret2 rfl rfl (box_four HX.out _ _ _ _)) rfl ?_
      rw [HP.out]
      exact ⟨by rw [HT.out]; rfl, HBx.out _ _ _ _ _⟩
/-- no block but the reader's turns -/
def Only (rb : Nat) (w w' : World) : Prop := ∀ k, k < w.heap.size → k ≠ rb → w'.heap[k]? = w.heap[k]?
theorem Only.of (hb : Below w.heap.size w w') : Only rb w w' := fun k hk _ => hb.block k hk
theorem Only.box {Z : Nat} {T : TypeId} {cs : Array Value} (h : Only rb w w') (hz : Box w Z T cs) (hn : Z ≠ rb) : Box w' Z T cs := (h Z hz.lt hn).trans hz
set_option maxHeartbeats 2000000 in
theorem took_no (m : List UInt8) (h : Rd l v w0 rb A i wants over rs G w) (hm : isM l i m = false) :
    Calls Tryd.prog 38 #[.pointer (some ⟨rb, 0, none⟩), .string ⟨m.toArray⟩] w (fun e w' => e = .returned (.bool false) ∧ Below w.heap.size w w') := by
  have HC := Lib.hid (token_any h)
  rw [isM_tok] at hm
  have HM := Lib.hid (fun w' => mark_tok (tokAt l i) m w')
  rw [hm] at HM
  clear hm h
  go_enter Tryd.func38, Tryd.ntmps38
  go_wp2_with (fail)
  refine HC.out.mono ?_
  rintro e w1 ⟨rfl, hb1⟩
  have HB1 := Lib.hid hb1
  clear hb1
  go_wp2_with (fail)
  refine (HM.out _).mono ?_
  rintro e w2 ⟨rfl, hb2⟩
  have HB2 := Lib.hid (HB1.out.trans (hb2.mono HB1.out.size))
  clear hb2
  go_wp2_with (fail)
  go_ret
  exact ⟨rfl, HB2.out⟩
/-- the reader went on, and nothing else that lay -/
def Mv (v : Value) (rb : Nat) (wants over : Bool) (i j : Int) (w w' : World) : Prop :=
  Only rb w w' ∧ w.heap.size ≤ w'.heap.size ∧ ∀ vr vo, Box w rb RdT #[v, .int .i64 i, .bool wants, .bool over, vr, vo] → Box w' rb RdT #[v, .int .i64 j, .bool wants, .bool over, vr, vo]
theorem Mv.of (hb : Below w.heap.size w w') (i : Int) : Mv v rb wants over i i w w' := ⟨Only.of hb, hb.size, fun _ _ h => h.on hb⟩
theorem Mv.trans {k : Int} {w2 : World} (h : Mv v rb wants over i j w w') (h2 : Mv v rb wants over j k w' w2) : Mv v rb wants over i k w w2 :=
  ⟨fun b hb hn => (h2.1 b (Nat.lt_of_lt_of_le hb h.2.1) hn).trans (h.1 b hb hn), Nat.le_trans h.2.1 h2.2.1, fun vr vo q => h2.2.2 vr vo (h.2.2 vr vo q)⟩
set_option maxHeartbeats 2000000 in
theorem took_moves (m : List UInt8) (h : Rd l v w0 rb A i wants over rs G w) (hm : isM l i m = true) :
    Calls Tryd.prog 38 #[.pointer (some ⟨rb, 0, none⟩), .string ⟨m.toArray⟩] w (fun e w' => e = .returned (.bool true) ∧ Rd l v w0 rb (Up A w w') (i + 1) wants over rs G w' ∧ Only rb w w' ∧ Mv v rb wants over i (i + 1) w w') := by
  have HC := Lib.hid (token_any h)
  have hin := isM_in hm
  have hlen := h.env.src.len
  have hx : IntKind.i64.wrap (i + 1) = i + 1 := IntWalk.i64_in _ (by omega)
  have HJ : Hid (I64 (i + 1)) := Lib.hid (by unfold I64; omega)
  rw [isM_tok] at hm
  have HM := Lib.hid (fun w' => mark_tok (tokAt l i) m w')
  rw [hm] at HM
  have HR := Lib.hid h
  have HlR := Lib.hid h.lt
  clear hm h hin hlen
  go_enter Tryd.func38, Tryd.ntmps38
  go_wp2_with (fail)
  refine HC.out.mono ?_
  rintro e w1 ⟨rfl, hb1⟩
  have HB1 := Lib.hid hb1
  clear hb1
  go_wp2_with (fail)
  refine (HM.out _).mono ?_
  rintro e w2 ⟨rfl, hb2⟩
  have HB2 := Lib.hid (HB1.out.trans (hb2.mono HB1.out.size))
  clear hb2
  obtain ⟨vr, vo, vs, ⟨_, c1, _⟩, hf, _, _⟩ := (HR.out.on HB2.out).cells
  have f1 := hf 1
  clear hf
  go_wp2_with (fail)
  go_ret
  refine ⟨rfl, ((HR.out.on HB2.out).seti HJ.out).mono fun b q => ?_, fun k hk hn => (Below.heap_setCell w2 ⟨rb, 1, none⟩ _ k hn).trans (HB2.out.block k hk), fun k hk hn => (Below.heap_setCell w2 ⟨rb, 1, none⟩ _ k hn).trans (HB2.out.block k hk), by simpa [World.setCell] using HB2.out.size, fun vr vo hb => (hb.on HB2.out).set 1 _⟩
  simpa [Up, World.setCell] using q
theorem took_yes (m : List UInt8) (h : Rd l v w0 rb A i wants over rs G w) (hm : isM l i m = true) :
    Calls Tryd.prog 38 #[.pointer (some ⟨rb, 0, none⟩), .string ⟨m.toArray⟩] w (fun e w' => e = .returned (.bool true) ∧ Rd l v w0 rb (Up A w w') (i + 1) wants over rs G w' ∧ Only rb w w') :=
  (took_moves m h hm).mono fun _ _ q => ⟨q.1, q.2.1, q.2.2.1⟩
theorem Rd.moved (h : Rd l v w0 rb A i wants over rs G w) (m : Mv v rb wants over i j w w') (low : Below w0.heap.size w0 w') (hj : I64 j) : Rd l v w0 rb (Up A w w') j wants over rs G w' := by
  obtain ⟨ho, hz, hb⟩ := m
  obtain ⟨vr, vo, vs, hbx, hr⟩ := h.ex
  have ht : Typ w RdT rb := ⟨_, _, hbx⟩
  refine ⟨h.env, low, h.hB, fun b q => ?_, h.fit, hj, vr, vo, vs, hb vr vo hbx, ?_, hr.nods.carry fun b o u q hc => ?_, ?_, fun b q => ?_⟩
  · have := h.lt
    have := h.low.size
    rcases q with q | q
    · have := h.ap b q; omega
    · omega
  · exact own_step hr.own fun k hk => ho k (Typ.own hr.own hk).lt ((Typ.own hr.own hk).ne ht (by decide))
  · have hlt : b < w.heap.size := World.block_lt_of_cell? _ _ hc
    exact ⟨q, (World.cell?_of_block (w := w) (w' := w') (a := ⟨b, o, none⟩) (ho b hlt q.2.1)).trans hc⟩
  · exact own_step hr.opn fun k hk => ho k (Typ.own hr.opn hk).lt ((Typ.own hr.opn hk).ne ht (by decide))
  · rcases q with q | q
    · exact hr.apr b q
    · exact ⟨fun e => by have := (hr.own.lt b e.symm).2; omega, fun e => by have := (hr.opn.lt b e.symm).2; omega⟩
/-- the last of what is begun, as it lies -/
theorem last_frm {vr vo : Value} {vs : List Value} {f : Frm} (hr : Rows w0 rb A rs (f :: G) vr vo vs w) : ∃ g c, vo = .slice (some ⟨g, 0, none⟩) (G.length + 1) c ∧ w0.heap.size ≤ g ∧ g < w.heap.size ∧ G.length + 1 ≤ c ∧ ∀ j u, (opnC G f)[j]? = some u → w.cell? ⟨g, G.length * 9 + j, none⟩ = some u := by
  have ho := hr.opn
  have ho2 := ho.2
  rcases ho2 with ⟨_, hn⟩ | ⟨g, c, cur, hv, hb, hg, hc, _⟩
  · simp at hn
  · subst hv
    have hlo := opnV_len G
    refine ⟨g, c, rfl, hb, (Array.getElem?_eq_some_iff.1 hg).1, by simpa using hc, fun j u hu => ?_⟩
    have hj : j < 9 := by
      obtain ⟨h1, _⟩ := List.getElem?_eq_some_iff.1 hu
      simpa using h1
    rw [ho.cellAt _ (by rw [List.length_cons]; omega), opnV, List.getElem?_append_right (by omega), show G.length * 9 + j - (opnV G).length = j by omega]
    exact hu
set_option maxHeartbeats 2000000 in
theorem bind_nil (h : Rd l v w0 rb A i wants over rs [] w) :
    Calls Tryd.prog 61 #[.pointer (some ⟨rb, 0, none⟩)] w (fun e w' => e = .returned (.int .i64 0) ∧ Below w.heap.size w w') := by
  obtain ⟨vr, vo, vs, ⟨_, _, _, _, _, c5⟩, _, _, hr⟩ := h.cells
  obtain ⟨Ao, co, rfl⟩ := own_form hr.opn
  rw [List.length_nil] at c5
  have HB := Lib.hid (Below.refl w.heap.size w)
  clear h hr
  go_enter Tryd.func61, Tryd.ntmps61
  go_wp2_with (fail)
  go_ret
  exact ⟨rfl, HB.out⟩
set_option maxRecDepth 100000 in
set_option maxHeartbeats 2000000 in
theorem bind_cons (f : Frm) (h : Rd l v w0 rb A i wants over rs (f :: G) w) (hl : G.length ≤ 1048590) :
    Calls Tryd.prog 61 #[.pointer (some ⟨rb, 0, none⟩)] w (fun e w' => e = .returned (.int .i64 f.bind) ∧ Below w.heap.size w w') := by
  obtain ⟨vr, vo, vs, ⟨_, _, _, _, _, c5⟩, _, _, hr⟩ := h.cells
  obtain ⟨g, c, rfl, _, _, _, hc⟩ := last_frm hr
  have d6 := hc 6 _ rfl
  obtain ⟨M, hM⟩ : ∃ M, M = G.length := ⟨_, rfl⟩
  rw [← hM] at c5 d6 hl
  have x3 : IntKind.i64.wrap ((M : Int) + 1 - 1) = M := by rw [IntWalk.i64_in _ (by omega)]; omega
  have x5 : ((M : Int) + 1 == 0) = false := beq_eq_false_iff_ne.2 (by omega)
  have x6 : (0 : Int) ≤ (M : Int) := by omega
  have x7 : (M : Int) < (M : Int) + 1 := by omega
  have HB := Lib.hid (Below.refl w.heap.size w)
  obtain ⟨bd, hbd⟩ : ∃ bd, bd = f.bind := ⟨_, rfl⟩
  rw [← hbd] at d6 ⊢
  clear h hr hM hc hbd
  go_enter Tryd.func61, Tryd.ntmps61
  go_wp2_with (fail)
  go_quiet (fail)
  go_wp2_with (fail)
  go_ret
  exact ⟨rfl, below_drewN HB.out _⟩
theorem bind_any (h : Rd l v w0 rb A i wants over rs G w) (hl : G.length ≤ 1048590) :
    Calls Tryd.prog 61 #[.pointer (some ⟨rb, 0, none⟩)] w (fun e w' => e = .returned (.int .i64 (bindTop G)) ∧ Below w.heap.size w w') := by
  cases G with
  | nil => exact bind_nil h
  | cons f G => exact bind_cons f h (by simp at hl; omega)
end Go.Proofs.YtgohkmdepjmpaaaDoor.pm.em

/- The package's reader puts an expression behind what is read. -/
--KEEP
namespace Go.Proofs.YtgohkmdepjmpaaaDoor.pm.em
open Go.RowKit wd lx nt ne pm mem
open vt (I64 own_base own_form own_below own_step set_same Typ set_comm)
variable {l : List Tk} {v : Value} {w0 : World} {rb : Nat} {A A' : Nat → Prop} {i j : Int} {wants over : Bool} {rs : List NT} {G : List Frm} {w w' : World}

abbrev five' (w : World) (g o : Nat) (a b c d e : Value) : World := ((((w.setCell ⟨g, o, none⟩ a).setCell ⟨g, o + 1, none⟩ b).setCell ⟨g, o + 2, none⟩ c).setCell ⟨g, o + 3, none⟩ d).setCell ⟨g, o + 4, none⟩ e
theorem set5 (xs : List Value) (n : Nat) (a b c d e a' b' c' d' e' : Value) (hn : xs.length = n) : ((((((xs ++ [a, b, c, d, e]).set n a').set (n + 1) b').set (n + 2) c').set (n + 3) d').set (n + 4) e') = xs ++ [a', b', c', d', e'] := by
  subst hn
  simp [List.set_append]
set_option maxHeartbeats 1000000 in
theorem push_node {n : NT} {s vo : Value} {Ar : Option Addr} {cr g cap N : Nat} {vs : List Value} {V w3 : World} (h : Rd l v w0 rb A i wants over rs G V) (hb : Box V rb RdT #[v, .int .i64 i, .bool wants, .bool over, .slice Ar N cr, vo]) (hr : Rows w0 rb A rs G (.slice Ar N cr) vo vs V) (hN : N = rs.length) (hd : Hd n) (hk : nt.Kids (fun b => A b) V n.kids s)
    (hown : w3.ownsRow w0.heap.size NodeT 5 (.slice (some ⟨g, 0, none⟩) (N + 1) cap) (N + 1) (vs ++ [.int .i64 0, .int .i64 0, .int .i64 0, .string ⟨#[]⟩, .slice none 0 0])) (hg : V.grownBy w3 (Value.slice Ar N cr).ownBlock) (hat : (Value.slice Ar N cr).ownBlock = some g ∨ g = V.heap.size) :
    (Rd l v w0 rb A i wants over (rs ++ [n]) G ((five' w3 g (N * 5) (.int .i64 n.kind) (.int .i64 n.at_) (.int .i64 n.num) (.string ⟨n.name.toArray⟩) s).setCell ⟨rb, 4, none⟩ (.slice (some ⟨g, 0, none⟩) (N + 1) cap)) ∧
      Keep A V ((five' w3 g (N * 5) (.int .i64 n.kind) (.int .i64 n.at_) (.int .i64 n.num) (.string ⟨n.name.toArray⟩) s).setCell ⟨rb, 4, none⟩ (.slice (some ⟨g, 0, none⟩) (N + 1) cap))) ∧
    (w3.cell? ⟨rb, 4, none⟩ = some (.slice Ar N cr) ∧ w3.frozen? ⟨rb, 4, none⟩ = false ∧ w3.frozen? ⟨rb, 2, none⟩ = false ∧ w3.cell? ⟨rb, 2, none⟩ = some (.bool wants)) ∧ ¬ g = rb ∧
    (w3.cell? ⟨g, N * 5, none⟩ = some (.int .i64 0) ∧ w3.cell? ⟨g, N * 5 + 1, none⟩ = some (.int .i64 0) ∧ w3.cell? ⟨g, N * 5 + 2, none⟩ = some (.int .i64 0) ∧ w3.cell? ⟨g, N * 5 + 3, none⟩ = some (.string ⟨#[]⟩) ∧ w3.cell? ⟨g, N * 5 + 4, none⟩ = some (.slice none 0 0)) ∧ ∀ k, w3.frozen? ⟨g, k, none⟩ = false := by
  have ht : Typ V RdT rb := ⟨_, _, hb⟩
  have hat' : (Value.slice Ar N cr).ownBlock = some g ∨ V.heap.size ≤ g := hat.imp id fun h => by omega
  have hb3 : Box w3 rb RdT _ := hb.grown hg fun e => (Typ.own hr.own e.symm).ne ht (by decide) rfl
  have hgrb : ¬ g = rb := by
    rintro rfl
    rcases hat' with e | e
    · exact (Typ.own hr.own e).ne ht (by decide) rfl
    · have := hb.lt; omega
  have hlv := hr.nods.len
  have hlN : vs.length = N * 5 := by rw [hlv, hN]
  have c0 := hown.cellAt (N * 5) (by omega)
  have c1 := hown.cellAt (N * 5 + 1) (by omega)
  have c2 := hown.cellAt (N * 5 + 2) (by omega)
  have c3 := hown.cellAt (N * 5 + 3) (by omega)
  have c4 := hown.cellAt (N * 5 + 4) (by omega)
  rw [List.getElem?_append_right (by omega), show N * 5 - vs.length = 0 by omega] at c0
  rw [List.getElem?_append_right (by omega), show N * 5 + 1 - vs.length = 1 by omega] at c1
  rw [List.getElem?_append_right (by omega), show N * 5 + 2 - vs.length = 2 by omega] at c2
  rw [List.getElem?_append_right (by omega), show N * 5 + 3 - vs.length = 3 by omega] at c3
  rw [List.getElem?_append_right (by omega), show N * 5 + 4 - vs.length = 4 by omega] at c4
  have o5 := (((((hown.stored (N * 5) (.int .i64 n.kind)).1.stored (N * 5 + 1) (.int .i64 n.at_)).1.stored (N * 5 + 2) (.int .i64 n.num)).1.stored (N * 5 + 3) (.string ⟨n.name.toArray⟩)).1.stored (N * 5 + 4) s).1
  rw [set5 _ _ _ _ _ _ _ _ _ _ _ _ hlN] at o5
  have g5 := vt.grown_set (i := N * 5 + 4) (vt.grown_set (i := N * 5 + 3) (vt.grown_set (i := N * 5 + 2) (vt.grown_set (i := N * 5 + 1) (vt.grown_set (i := N * 5) hg hat' (.int .i64 n.kind)) hat' (.int .i64 n.at_)) hat' (.int .i64 n.num)) hat' (.string ⟨n.name.toArray⟩)) hat' s
  replace o5 : (five' w3 g (N * 5) (.int .i64 n.kind) (.int .i64 n.at_) (.int .i64 n.num) (.string ⟨n.name.toArray⟩) s).ownsRow w0.heap.size NodeT 5 (.slice (some ⟨g, 0, none⟩) (N + 1) cap) (N + 1) (vs ++ [.int .i64 n.kind, .int .i64 n.at_, .int .i64 n.num, .string ⟨n.name.toArray⟩, s]) := o5
  replace g5 : V.grownBy (five' w3 g (N * 5) (.int .i64 n.kind) (.int .i64 n.at_) (.int .i64 n.num) (.string ⟨n.name.toArray⟩) s) (Value.slice Ar N cr).ownBlock := g5
  obtain ⟨W4, hW4⟩ : ∃ W4, W4 = five' w3 g (N * 5) (.int .i64 n.kind) (.int .i64 n.at_) (.int .i64 n.num) (.string ⟨n.name.toArray⟩) s := ⟨_, rfl⟩
  rw [← hW4] at o5 g5 ⊢
  clear hW4
  have key : ∀ b o, b < V.heap.size → some b ≠ (Value.slice Ar N cr).ownBlock → W4.cell? ⟨b, o, none⟩ = V.cell? ⟨b, o, none⟩ := fun b o h1 h2 => World.cell?_of_block (w := V) (w' := W4) (a := ⟨b, o, none⟩) (g5.block b h1 h2)
  have hlen : (rs ++ [n]).length = N + 1 := by rw [List.length_append, hN]; rfl
  refine ⟨Rd.setr (w1 := W4) (vr' := .slice (some ⟨g, 0, none⟩) (N + 1) cap) h hb hr g5 (fun k hk => ?_) (by rw [hlen]; exact o5) ?_, ⟨hb3.cell 4, hb3.frozen 4, hb3.frozen 2, hb3.cell 2⟩, hgrb, ⟨c0, c1, c2, c3, c4⟩, fun k => hown.frozenAt k⟩
  · have e : g = k := by simpa [Value.ownBlock] using hk
    rw [← e]; exact hat'
  · refine Nods.append (hr.nods.carry fun b o u q hc => ?_) ?_
    · have hlt : b < V.heap.size := World.block_lt_of_cell? _ _ hc
      exact ⟨⟨q, hlt⟩, (key b o hlt q.2.2.1).trans hc⟩
    · rw [Nods]
      refine ⟨s, [], rfl, hd, hk.carry fun b o u q hc => ?_, by rw [Nods]⟩
      have hlt : b < V.heap.size := World.block_lt_of_cell? _ _ hc
      have ha := h.ap b q
      have hb2 := hr.apr b q
      exact ⟨⟨⟨ha.1, ha.2.2, hb2.1, hb2.2⟩, hlt⟩, (key b o hlt hb2.1).trans hc⟩
theorem set_comm5 (w : World) {g rb : Nat} (h : ¬ g = rb) (o k : Nat) (a b c d e u : Value) : (((((w.setCell ⟨rb, k, none⟩ u).setCell ⟨g, o, none⟩ a).setCell ⟨g, o + 1, none⟩ b).setCell ⟨g, o + 2, none⟩ c).setCell ⟨g, o + 3, none⟩ d).setCell ⟨g, o + 4, none⟩ e = (((((w.setCell ⟨g, o, none⟩ a).setCell ⟨g, o + 1, none⟩ b).setCell ⟨g, o + 2, none⟩ c).setCell ⟨g, o + 3, none⟩ d).setCell ⟨g, o + 4, none⟩ e).setCell ⟨rb, k, none⟩ u := by
  have h' : rb ≠ g := fun e => h e.symm
  rw [set_comm w h', set_comm _ h', set_comm _ h', set_comm _ h', set_comm _ h']
set_option maxRecDepth 100000 in
set_option maxHeartbeats 4000000 in
theorem put_any (n : NT) (s : Value) (h : Rd l v w0 rb A i wants over rs G w) (hl : rs.length ≤ 1048590) (hd : Hd n) (hk : nt.Kids (fun b => A b) w n.kids s) :
    Calls Tryd.prog 56 #[.pointer (some ⟨rb, 0, none⟩), .agg #[.int .i64 n.kind, .int .i64 n.at_, .int .i64 n.num, .string ⟨n.name.toArray⟩, s]] w (fun e w' => e = .returned (.tuple #[]) ∧ Rd l v w0 rb A i false over (rs ++ [n]) G w' ∧ Keep A w w') := by
  obtain ⟨As, cs, rfl, _⟩ := hk.form
  obtain ⟨H, hH⟩ : ∃ H, H = w.heap.size := ⟨_, rfl⟩
  obtain ⟨M, hM⟩ : ∃ M, M = n.kids.length := ⟨_, rfl⟩
  rw [← hM] at hk ⊢
  obtain ⟨W, hW⟩ : ∃ W, W = w.alloc (.cells #[.int .i64 n.kind, .int .i64 n.at_, .int .i64 n.num, .string ⟨n.name.toArray⟩, .slice As M cs] NodeT) := ⟨_, rfl⟩
  have bH : Box W H NodeT #[.int .i64 n.kind, .int .i64 n.at_, .int .i64 n.num, .string ⟨n.name.toArray⟩, .slice As M cs] := by rw [hW]; exact Box.new _ _ _ _ hH
  have hb : Below w.heap.size w W := by rw [hW]; exact (Below.refl _ _).alloc (Nat.le_refl _) _
  obtain ⟨vr, vo, vs, ⟨_, _, _, _, c4, _⟩, hf, hbx, hr⟩ := (h.on_ hb).cells
  obtain ⟨Ar, cr, rfl⟩ := own_form hr.own
  have f4 := hf 4
  have f2 := hf 2
  have y0 := bH.cell 0
  have y1 := bH.cell 1
  have y2 := bH.cell 2
  have y3 := bH.cell 3
  have y4 := bH.cell 4
  simp only [List.getElem?_toArray, List.getElem?_cons_zero, List.getElem?_cons_succ] at y0 y1 y2 y3 y4
  have HW := Lib.hid hW
  have HHH := Lib.hid hH
  have hrz : rb < W.heap.size := hbx.lt
  have hHz : H < W.heap.size := bH.lt
  have HA := Lib.hid (h.on_ hb)
  have HBX := Lib.hid hbx
  have HRW := Lib.hid hr
  obtain ⟨N, hN⟩ : ∃ N, N = rs.length := ⟨_, rfl⟩
  have HST : Hid (∀ V w3 g cap, Below W.heap.size W V → w3.ownsRow w0.heap.size NodeT 5 (.slice (some ⟨g, 0, none⟩) (N + 1) cap) (N + 1) (vs ++ [.int .i64 0, .int .i64 0, .int .i64 0, .string ⟨#[]⟩, .slice none 0 0]) → V.grownBy w3 (Value.slice Ar N cr).ownBlock → ((Value.slice Ar N cr).ownBlock = some g ∨ g = V.heap.size) → _) := Lib.hid (fun V w3 g cap hV h1 h2 h3 => have p := push_node (wants := wants) (N := N) ((h.on_ hb).on_ hV) (by rw [hN]; exact hbx.on hV) (by rw [hN]; exact ⟨own_below hr.own hV, hr.nods.below hV, own_below hr.opn hV, hr.apr⟩) hN hd ((hk.below hb).below hV) h1 h2 h3; And.intro (And.intro p.1.1 ((h.keep hb).trans (((h.on_ hb).keep hV).trans p.1.2))) p.2)
  have HO : Hid (W.ownsRow w0.heap.size NodeT 5 (.slice Ar N cr) N vs) := Lib.hid (by rw [hN]; exact hr.own)
  have HBz : Hid (w0.heap.size ≤ W.heap.size) := Lib.hid (Nat.le_trans h.low.size hb.size)
  have HKW := Lib.hid (h.keep hb)
  obtain ⟨i0, hi, hz0, hz1, hz2⟩ := info_parts infoN
  have h1c : Hid (∀ u ∈ [Value.int .i64 0, .int .i64 0, .int .i64 0, .string ⟨#[]⟩, .slice none 0 0], u.oneCell' = true) := Lib.hid (by intro u hu; simp at hu; rcases hu with rfl | rfl | rfl <;> rfl)
  rw [← hN] at c4 hl
  have hN0 : (0 : Int) ≤ N := by omega
  have hN1 : (N : Int) < N + 1 := by omega
  have HD := Lib.hid hd
  clear hW hH bH hb hbx hr hf h hN hk hd hM
  go_enter Tryd.func56, Tryd.ntmps56
  go_wp2_with (first | (rw [← HW.out, ← HHH.out]))
  go_region_law (first
    | (refine step_append_lies _ (by rfl) (.tmp 7) (.tmp 10) 27 (by rfl) w0.heap.size NodeT i0 (.agg #[.int .i64 0, .int .i64 0, .int .i64 0, .string ⟨#[]⟩, .slice none 0 0]) 5 64 Tryd.underlying27 hi hz0 hz1 hz2 (by rfl) (by decide) (.slice Ar N cr) N vs (by rfl) (HO.out.alloc _) ⟨W.heap.size, 0, none⟩ 1 1 [.int .i64 0, .int .i64 0, .int .i64 0, .string ⟨#[]⟩, .slice none 0 0] (by rfl) (by rfl) (World.news_of_block (heap_alloc_new W _)) h1c.out (by decide) (by unfold maxLen; omega) (by omega) (by simp; have := HBz.out; omega) (W.heap.size + 1) (by simp) ?_; intro g cap w3 hown hgrow hat hlt; obtain ⟨p1, ⟨p2, p3, p4, p5⟩, p6, ⟨q0, q1, q2, q3, q4⟩, p10⟩ := HST.out _ w3 g cap (((Below.refl W.heap.size W).alloc (Nat.le_refl _) _).drew) hown hgrow (hat.imp id fun h => by rw [h]; simp); have HP1 := Lib.hid p1; have x0 := p10 (N * 5); have x1 := p10 (N * 5 + 1); have x2 := p10 (N * 5 + 2); have x3 := p10 (N * 5 + 3); have x4 := p10 (N * 5 + 4); have p7 : ¬ rb = g := (fun e => p6 e.symm); have P6 := Lib.hid p6; clear p1 p10 hown hgrow hat))
  all_goals
    go_wp2_with (fail)
    go_end0
    try rw [set_comm5 _ P6.out]
    exact ⟨rfl, HP1.out.1.setw false, HP1.out.2.set HA.out.not⟩
end Go.Proofs.YtgohkmdepjmpaaaDoor.pm.em

/- The package's reader begins what a sign is to be. -/
--KEEP
namespace Go.Proofs.YtgohkmdepjmpaaaDoor.pm.em
open Go.RowKit wd lx nt ne pm mem
open vt (I64 own_base own_form own_below own_step set_same Typ set_comm)
variable {l : List Tk} {v : Value} {w0 : World} {rb : Nat} {A A' : Nat → Prop} {i j : Int} {wants over : Bool} {rs : List NT} {G : List Frm} {w w' : World}

theorem infoB : (Tryd.prog.info? 71).map (fun i => (i.zero, i.size, i.bytes)) = some (some (.agg #[.int .i64 0, .int .i64 0, .int .i64 0, .string ⟨#[]⟩, .slice none 0 0, .int .i64 0, .int .i64 0, .string ⟨#[]⟩, .bool false]), 9, 104) := by kernel_rfl
theorem push_frm {vr vo' : Value} {Ao : Option Addr} {co M : Nat} {vs : List Value} {V w3 : World} (f : Frm) (cs : List Value) (h : Rd l v w0 rb A i wants over rs G V) (hb : Box V rb RdT #[v, .int .i64 i, .bool wants, .bool over, vr, .slice Ao M co]) (hr : Rows w0 rb A rs G vr (.slice Ao M co) vs V) (hM : M = G.length) (hd : Hd f.node) (hcs : cs = opnC G f)
    (hown : w3.ownsRow w0.heap.size BgT 9 vo' (M + 1) (opnV G ++ cs)) (hg : V.grownBy w3 (Value.slice Ao M co).ownBlock) (hat : ∀ k, vo'.ownBlock = some k → (Value.slice Ao M co).ownBlock = some k ∨ V.heap.size ≤ k) :
    (Rd l v w0 rb A i wants over rs (f :: G) (w3.setCell ⟨rb, 5, none⟩ vo') ∧ Keep A V (w3.setCell ⟨rb, 5, none⟩ vo')) ∧
    (w3.cell? ⟨rb, 5, none⟩ = some (.slice Ao M co) ∧ w3.frozen? ⟨rb, 5, none⟩ = false ∧ w3.frozen? ⟨rb, 2, none⟩ = false ∧ w3.cell? ⟨rb, 2, none⟩ = some (.bool wants)) := by
  have ht : Typ V RdT rb := ⟨_, _, hb⟩
  have hb3 : Box w3 rb RdT _ := hb.grown hg fun e => (Typ.own hr.opn e.symm).ne ht (by decide) rfl
  refine ⟨Rd.setb h hb hr hg hat (by rw [List.length_cons, opnV, ← hM, ← hcs]; exact hown) (fun g hg => ?_), hb3.cell 5, hb3.frozen 5, hb3.frozen 2, hb3.cell 2⟩
  rcases List.mem_cons.1 hg with rfl | hg
  · exact hd
  · exact h.fit g hg
set_option maxRecDepth 100000 in
set_option maxHeartbeats 4000000 in
theorem sign_any (f : Frm) (k : Nat) (h : Rd l v w0 rb A i wants over rs G w) (hl : rs.length ≤ 1048590) (hG : G.length ≤ 1048590) (hd : Hd f.node) (hs : f.shut = []) (hm : f.many = false) (hk : (rs.length : Int) - k = f.first G) :
    Calls Tryd.prog 44 #[.pointer (some ⟨rb, 0, none⟩), .agg #[.int .i64 f.node.kind, .int .i64 f.node.at_, .int .i64 f.node.num, .string ⟨f.node.name.toArray⟩, .slice none 0 0], .int .i64 f.bind, .int .i64 k] w (fun e w' => e = .returned (.tuple #[]) ∧ Rd l v w0 rb A i true over rs (f :: G) w' ∧ Keep A w w') := by
  obtain ⟨H, hH⟩ : ∃ H, H = w.heap.size := ⟨_, rfl⟩
  obtain ⟨W, hW⟩ : ∃ W, W = w.alloc (.cells #[.int .i64 f.node.kind, .int .i64 f.node.at_, .int .i64 f.node.num, .string ⟨f.node.name.toArray⟩, .slice none 0 0] NodeT) := ⟨_, rfl⟩
  have bH : Box W H NodeT #[.int .i64 f.node.kind, .int .i64 f.node.at_, .int .i64 f.node.num, .string ⟨f.node.name.toArray⟩, .slice none 0 0] := by rw [hW]; exact Box.new _ _ _ _ hH
  have hb : Below w.heap.size w W := by rw [hW]; exact (Below.refl _ _).alloc (Nat.le_refl _) _
  obtain ⟨vr, vo, vs, ⟨_, _, _, _, c4, c5⟩, hf, hbx, hr⟩ := (h.on_ hb).cells
  obtain ⟨Ar, cr, rfl⟩ := own_form hr.own
  obtain ⟨Ao, co, rfl⟩ := own_form hr.opn
  have f5 := hf 5
  have f2 := hf 2
  have y0 := bH.cell 0
  have y1 := bH.cell 1
  have y2 := bH.cell 2
  have y3 := bH.cell 3
  have y4 := bH.cell 4
  simp only [List.getElem?_toArray, List.getElem?_cons_zero, List.getElem?_cons_succ] at y0 y1 y2 y3 y4
  have HW := Lib.hid hW
  have HHH := Lib.hid hH
  have hrz : rb < W.heap.size := hbx.lt
  have hHz : H < W.heap.size := bH.lt
  have HA := Lib.hid (h.on_ hb)
  obtain ⟨N, hN⟩ : ∃ N, N = rs.length := ⟨_, rfl⟩
  obtain ⟨M, hM⟩ : ∃ M, M = G.length := ⟨_, rfl⟩
  obtain ⟨F, hF⟩ : ∃ F, F = f.first G := ⟨_, rfl⟩
  have hx : IntKind.i64.wrap ((N : Int) - k) = F := by rw [hF, ← hk, hN]; exact IntWalk.i64_in _ (by omega)
  have hcs : [.int .i64 f.node.kind, .int .i64 f.node.at_, .int .i64 f.node.num, .string ⟨f.node.name.toArray⟩, .slice none 0 0, .int .i64 (F : Int), .int .i64 f.bind, .string ⟨#[]⟩, .bool false] = opnC G f := by unfold opnC; rw [hs, hm, hF]
  have HST : Hid (∀ V w3 vo', Below W.heap.size W V → w3.ownsRow w0.heap.size BgT 9 vo' (M + 1) (opnV G ++ [.int .i64 f.node.kind, .int .i64 f.node.at_, .int .i64 f.node.num, .string ⟨f.node.name.toArray⟩, .slice none 0 0, .int .i64 (F : Int), .int .i64 f.bind, .string ⟨#[]⟩, .bool false]) → V.grownBy w3 (Value.slice Ao M co).ownBlock → (∀ k, vo'.ownBlock = some k → (Value.slice Ao M co).ownBlock = some k ∨ V.heap.size ≤ k) → _) := Lib.hid (fun V w3 vo' hV h1 h2 h3 => have p := push_frm (wants := wants) (M := M) f _ ((h.on_ hb).on_ hV) (by rw [hM]; exact hbx.on hV) (by rw [hM]; exact ⟨own_below hr.own hV, hr.nods.below hV, own_below hr.opn hV, hr.apr⟩) hM hd hcs h1 h2 h3; And.intro (And.intro p.1.1 ((h.keep hb).trans (((h.on_ hb).keep hV).trans p.1.2))) p.2)
  have HO : Hid (W.ownsRow w0.heap.size BgT 9 (.slice Ao M co) M (opnV G)) := Lib.hid (by rw [hM]; exact hr.opn)
  have HBz : Hid (w0.heap.size ≤ W.heap.size) := Lib.hid (Nat.le_trans h.low.size hb.size)
  have HLN : Hid ((opnV G).length = M * 9) := Lib.hid (by rw [hM]; exact opnV_len G)
  obtain ⟨i0, hi, hz0, hz1, hz2⟩ := info_parts infoB
  rw [← hN] at c4 hl
  rw [← hM] at c5 hG
  obtain ⟨bd, hbd⟩ : ∃ bd, bd = f.bind := ⟨_, rfl⟩
  obtain ⟨nk, hnk⟩ : ∃ nk, nk = f.node.kind := ⟨_, rfl⟩
  obtain ⟨na, hna⟩ : ∃ na, na = f.node.at_ := ⟨_, rfl⟩
  obtain ⟨nn, hnn⟩ : ∃ nn, nn = f.node.num := ⟨_, rfl⟩
  obtain ⟨nm, hnm⟩ : ∃ nm, nm = f.node.name := ⟨_, rfl⟩
  rw [← hnk] at y0 HST HW ⊢
  rw [← hna] at y1 HST HW ⊢
  rw [← hnn] at y2 HST HW ⊢
  rw [← hnm] at y3 HST HW ⊢
  rw [← hbd] at HST ⊢
  have h1c : Hid (∀ u ∈ [Value.int .i64 nk, .int .i64 na, .int .i64 nn, .string ⟨nm.toArray⟩, .slice none 0 0, .int .i64 (F : Int), .int .i64 bd, .string ⟨#[]⟩, .bool false], u.oneCell' = true) := Lib.hid (by intro u hu; simp at hu; rcases hu with rfl | rfl | rfl | rfl | rfl | rfl | rfl | rfl | rfl <;> rfl)
  clear hW hH bH hb hbx hr hf h hN hM hF hk hd hs hm hcs hbd hnk hna hnn hnm
  go_enter Tryd.func44, Tryd.ntmps44
  go_wp2_with (first | (rw [← HW.out, ← HHH.out]))
  go_region_law (first
    | (refine step_append_lies _ (by rfl) (.tmp 12) (.tmp 23) 47 (by rfl) w0.heap.size BgT i0 _ 9 104 Tryd.underlying47 hi hz0 hz1 hz2 (by rfl) (by decide) (.slice Ao M co) M (opnV G) (by rfl) (HO.out.alloc _) ⟨W.heap.size, 0, none⟩ 1 1 [.int .i64 nk, .int .i64 na, .int .i64 nn, .string ⟨nm.toArray⟩, .slice none 0 0, .int .i64 (F : Int), .int .i64 bd, .string ⟨#[]⟩, .bool false] (by rfl) (by rfl) (World.news_of_block (heap_alloc_new W _)) h1c.out (by decide) (by unfold maxLen; omega) (by omega) (by simp; have := HBz.out; omega) (W.heap.size + 1) (by simp) ?_; intro g cap w3 hown hgrow hat hlt; obtain ⟨p1, p2, p3, p4, p5⟩ := HST.out _ w3 _ (((Below.refl W.heap.size W).alloc (Nat.le_refl _) _).drew) hown hgrow (fun k hk => by have e : g = k := (by simpa [Value.ownBlock] using hk); subst e; exact hat.imp id fun h => by rw [h]; simp); have HP1 := Lib.hid p1; clear p1 hown hgrow hat))
  all_goals
    go_wp2_with (fail)
    go_end0
    exact ⟨rfl, HP1.out.1.setw true, HP1.out.2.set HA.out.not⟩
end Go.Proofs.YtgohkmdepjmpaaaDoor.pm.em

/- The package's reader ends what was begun last. -/
--KEEP
namespace Go.Proofs.YtgohkmdepjmpaaaDoor.pm.em
open Go.RowKit wd lx nt ne pm mem
open vt (I64 own_base own_form own_below own_step set_same Typ set_comm)
variable {l : List Tk} {v : Value} {w0 : World} {rb : Nat} {A A' : Nat → Prop} {i j : Int} {wants over : Bool} {rs : List NT} {G : List Frm} {w w' : World}

theorem sizeN (w : World) : (sizeOf (Tryd.prog.elem 27)).run Tryd.prog w = .ok 5 w := by kernel_rfl
theorem elemN : Tryd.prog.underlying 27 = some (.slice (Tryd.prog.elem 27)) := by kernel_rfl
theorem nslice_from (n D : Nat) (hn : n ≤ D) (A : Option Addr) (c : Nat) (w : World) :
    (Instr.slice 27 (.slice A D c) (some (.int .i64 n)) none none).run Tryd.prog w = .ok (sliced A n D c 5) w := by
  have h := run_slice_l (P := Tryd.prog) (w := w) 27 A D c elemN .i64 (n : Int) (by omega) (by omega)
  rw [h, sizeN, Int.toNat_natCast]
  rfl
theorem nslice_to (n D : Nat) (A : Option Addr) (c : Nat) (hn : n ≤ c) (w : World) :
    (Instr.slice 27 (.slice A D c) none (some (.int .i64 n)) none).run Tryd.prog w = .ok (.slice A n c) w := by
  have h := run_slice_h (P := Tryd.prog) (w := w) 27 A D c elemN .i64 (n : Int) (by omega) (by omega)
  rw [h, sizeN, Int.toNat_natCast]
  show Result.ok (Value.slice (if c = 0 then A else A.map (·.add (0 * 5))) (n - 0) (c - 0)) w = _
  have e : (if c = 0 then A else A.map (·.add (0 * 5))) = A := by
    split
    · rfl
    · cases A with
      | none => rfl
      | some a => rfl
  rw [e]
  rfl
theorem nods_split {G : Nat → Prop} {w : World} : ∀ {a b : List NT} {vs : List Value}, Nods G w (a ++ b) vs → ∃ xs ys, vs = xs ++ ys ∧ Nods G w a xs ∧ Nods G w b ys
  | [], b, vs, h => ⟨[], vs, rfl, by rw [Nods], h⟩
  | x :: a, b, vs, h => by
    rw [List.cons_append, Nods] at h
    obtain ⟨s, rest, rfl, h1, h2, h3⟩ := h
    obtain ⟨xs, ys, rfl, h4, h5⟩ := nods_split h3
    refine ⟨_ :: _ :: _ :: _ :: s :: xs, ys, rfl, ?_, h5⟩
    rw [Nods]
    exact ⟨s, xs, rfl, h1, h2, h4⟩
/-- the nodes ahead, and those behind, of a row -/
theorem row_two {B n m c : Nat} {Ar : Option Addr} {w : World} {xs ys : List Value} (ho : w.ownsRow B NodeT 5 (.slice Ar (n + m) c) (n + m) (xs ++ ys)) (hx : xs.length = n * 5) (hy : ys.length = m * 5) :
    n ≤ c ∧ w.ownsRow B NodeT 5 (.slice Ar n c) n xs ∧ ((sliced Ar n (n + m) c 5 = .slice none 0 0 ∧ m = 0) ∨ ∃ ad c', sliced Ar n (n + m) c 5 = .slice (some ad) m c' ∧ ∀ j u, ys[j]? = some u → w.cell? (ad.add j) = some u) := by
  rcases ho.2 with ⟨hs, hn⟩ | ⟨g, cap, cur, hs, hb, hg, hnc, hcm, hcs, htake⟩
  · injection hs with hA _ hc
    subst hA
    subst hc
    obtain rfl : n = 0 := by omega
    obtain rfl : m = 0 := by omega
    have h1 : xs = [] := List.eq_nil_of_length_eq_zero (by omega)
    subst h1
    exact ⟨Nat.le_refl _, World.ownsRow_nil _ _ _ _, Or.inl ⟨rfl, rfl⟩⟩
  · injection hs with hA _ hc
    subst hA
    subst hc
    refine ⟨by omega, ⟨hx, .inr ⟨g, c, cur, rfl, hb, hg, by omega, hcm, hcs, ?_⟩⟩, Or.inr ⟨if c = n then ⟨g, 0, none⟩ else (⟨g, 0, none⟩ : Addr).add (n * 5), c - n, ?_, fun j u hu => ?_⟩⟩
    · have e1 : (cur.toList.take ((n + m) * 5)).take (n * 5) = cur.toList.take (n * 5) := by rw [List.take_take, Nat.min_eq_left (by omega)]
      rw [← e1, htake, List.take_append_of_le_length (by omega), List.take_of_length_le (by omega)]
    · unfold sliced
      rw [show n + m - n = m by omega]
      split <;> rfl
    · have hjl := (List.getElem?_eq_some_iff.1 hu).1
      have hne : ¬ c = n := by omega
      rw [if_neg hne, vt.cells_add, vt.cells_add, Nat.zero_add, ho.cellAt _ (by omega), List.getElem?_append_right (by omega), ← hu]
      congr 1; omega
/-- the last of what is begun is gone -/
theorem Rd.pop {f : Frm} {vr : Value} {vs : List Value} {g c M : Nat} (h : Rd l v w0 rb A i wants over rs (f :: G) w) (hb : Box w rb RdT #[v, .int .i64 i, .bool wants, .bool over, vr, .slice (some ⟨g, 0, none⟩) (M + 1) c]) (hr : Rows w0 rb A rs (f :: G) vr (.slice (some ⟨g, 0, none⟩) (M + 1) c) vs w) (hM : M = G.length) :
    Rd l v w0 rb A i wants over rs G (w.setCell ⟨rb, 5, none⟩ (.slice (some ⟨g, 0, none⟩) M c)) ∧ Keep A w (w.setCell ⟨rb, 5, none⟩ (.slice (some ⟨g, 0, none⟩) M c)) := by
  have ho := hr.opn
  rw [List.length_cons, opnV, ← hM] at ho
  have h2 := ownsRow_pop (by rw [opnV_len, hM]) ho
  exact Rd.setb h hb hr ⟨rfl, rfl, rfl, Nat.le_refl _, fun _ _ _ => rfl⟩ (fun k hk => Or.inl hk) (by rw [← hM]; exact h2) (fun f' hf' => h.fit f' (List.mem_cons_of_mem _ hf'))
theorem Rd.kp {vr vo : Value} {vs : List Value} (h : Rd l v w0 rb A i wants over rs G w) (hb : Box w rb RdT #[v, .int .i64 i, .bool wants, .bool over, vr, vo]) (hr : Rows w0 rb A rs G vr vo vs w) : Rd l v w0 rb (fun b => A b ∨ (KP w0 rb vr vo b ∧ b < w.heap.size)) i wants over rs G w :=
  ⟨h.env, h.low, h.hB, fun b q => q.elim (h.ap b) fun q => ⟨q.1.1, q.2, q.1.2.1⟩, h.fit, h.num, vr, vo, vs, hb, hr.own, hr.nods, hr.opn, fun b q => q.elim (hr.apr b) fun q => ⟨q.1.2.2.1, q.1.2.2.2⟩⟩
/-- what is read is cut at the first of the kids -/
theorem Rd.cut {vo : Value} {xs ys : List Value} {rs' ks : List NT} {Ar : Option Addr} {c : Nat} (h : Rd l v w0 rb A i wants over (rs' ++ ks) G w) (hb : Box w rb RdT #[v, .int .i64 i, .bool wants, .bool over, .slice Ar (rs'.length + ks.length) c, vo]) (hr : Rows w0 rb A (rs' ++ ks) G (.slice Ar (rs'.length + ks.length) c) vo (xs ++ ys) w) (hx : Nods (KP w0 rb (.slice Ar (rs'.length + ks.length) c) vo) w rs' xs) (hy : ys.length = ks.length * 5) :
    Rd l v w0 rb A i wants over rs' G (w.setCell ⟨rb, 4, none⟩ (.slice Ar rs'.length c)) ∧ Keep A w (w.setCell ⟨rb, 4, none⟩ (.slice Ar rs'.length c)) := by
  have ho := hr.own
  rw [List.length_append] at ho
  obtain ⟨_, h1, _⟩ := row_two ho hx.len hy
  have e : (Value.slice Ar rs'.length c).ownBlock = (Value.slice Ar (rs'.length + ks.length) c).ownBlock := by cases Ar <;> rfl
  exact Rd.setr h hb hr ⟨rfl, rfl, rfl, Nat.le_refl _, fun _ _ _ => rfl⟩ (fun k hk => Or.inl (e.symm.trans hk)) h1 hx.lt
theorem lift9 {w : World} {L : Nat} {a b c d e f g h k : Value} (hb : Box w L BgT #[a, b, c, d, e, f, g, h, k]) : w.cell? ⟨L, 0, none⟩ = some a ∧ w.cell? ⟨L, 1, none⟩ = some b ∧ w.cell? ⟨L, 2, none⟩ = some c ∧ w.cell? ⟨L, 3, none⟩ = some d ∧ w.cell? ⟨L, 4, none⟩ = some e ∧ w.cell? ⟨L, 5, none⟩ = some f ∧ w.cell? ⟨L, 6, none⟩ = some g ∧ w.cell? ⟨L, 7, none⟩ = some h ∧ w.cell? ⟨L, 8, none⟩ = some k := ⟨hb.cell 0, hb.cell 1, hb.cell 2, hb.cell 3, hb.cell 4, hb.cell 5, hb.cell 6, hb.cell 7, hb.cell 8⟩
theorem Rd.drew_ (h : Rd l v w0 rb A i wants over rs G w) : Rd l v w0 rb A i wants over rs G w.drew := h.on_ (Below.refl _ _).drew
theorem Rows.drew_ {vr vo : Value} {vs : List Value} (h : Rows w0 rb A rs G vr vo vs w) : Rows w0 rb A rs G vr vo vs w.drew := ⟨h.own.drew, h.nods.below (Below.refl _ _).drew, h.opn.drew, h.apr⟩
set_option maxRecDepth 100000 in
set_option maxHeartbeats 4000000 in
theorem end_brk (h : Rd l v w0 rb A i wants over rs (.brk :: G) w) (hG : G.length ≤ 1048590) :
    Calls Tryd.prog 41 #[.pointer (some ⟨rb, 0, none⟩)] w (fun e w' => e = .returned (.tuple #[]) ∧ Rd l v w0 rb A i wants over rs G w' ∧ Keep A w w') := by
  obtain ⟨f, hf0⟩ : ∃ f, f = Frm.brk := ⟨_, rfl⟩
  rw [← hf0] at h
  obtain ⟨vr, vo, vs, ⟨_, _, _, _, _, c5⟩, hf, hbx, hr⟩ := h.cells
  obtain ⟨g, c, rfl, hgB, hgl, hMc, hc⟩ := last_frm hr
  have f5 := hf 5
  have e0 := hc 0 _ rfl
  rw [Nat.add_zero] at e0
  have e1 := hc 1 _ rfl
  have e2 := hc 2 _ rfl
  have e3 := hc 3 _ rfl
  have e4 := hc 4 _ rfl
  have e5 := hc 5 _ rfl
  have e6 := hc 6 _ rfl
  have e7 := hc 7 _ rfl
  have e8 := hc 8 _ rfl
  obtain ⟨M, hM⟩ : ∃ M, M = G.length := ⟨_, rfl⟩
  obtain ⟨bd, hbd⟩ : ∃ bd, bd = f.bind := ⟨_, rfl⟩
  obtain ⟨nk, hnk⟩ : ∃ nk, nk = f.node.kind := ⟨_, rfl⟩
  obtain ⟨na, hna⟩ : ∃ na, na = f.node.at_ := ⟨_, rfl⟩
  obtain ⟨nn, hnn⟩ : ∃ nn, nn = f.node.num := ⟨_, rfl⟩
  obtain ⟨nm, hnm⟩ : ∃ nm, nm = f.node.name := ⟨_, rfl⟩
  obtain ⟨sh, hsh⟩ : ∃ sh, sh = f.shut := ⟨_, rfl⟩
  obtain ⟨mn, hmn⟩ : ∃ mn, mn = f.many := ⟨_, rfl⟩
  obtain ⟨F, hF⟩ : ∃ F, F = f.first G := ⟨_, rfl⟩
  rw [← hM] at c5 e0 e1 e2 e3 e4 e5 e6 e7 e8 hMc hG
  rw [← hnk] at e0
  rw [← hna] at e1
  rw [← hnn] at e2
  rw [← hnm] at e3
  rw [← hF] at e5
  rw [← hbd] at e6
  rw [← hsh] at e7
  rw [← hmn] at e8
  have hgrb : ¬ g = rb := fun e => by
    have ht : Typ w RdT rb := ⟨_, _, hbx⟩
    exact (Typ.own hr.opn (k := g) rfl).ne ht (by decide) e
  have x3 : IntKind.i64.wrap ((M : Int) + 1 - 1) = M := by rw [IntWalk.i64_in _ (by omega)]; omega
  have x4 : IntKind.i64.wrap (M : Int) = M := IntWalk.i64_in _ (by omega)
  have x6 : (0 : Int) ≤ (M : Int) := by omega
  have x7 : (M : Int) < (M : Int) + 1 := by omega
  have hrz : rb < w.heap.size := hbx.lt
  obtain ⟨L, hL⟩ : ∃ L, L = w.heap.size := ⟨_, rfl⟩
  obtain ⟨W1, hW1⟩ : ∃ W1, W1 = (w.alloc (.cells #[.int .i64 nk, .int .i64 na, .int .i64 nn, .string ⟨nm.toArray⟩, .slice none 0 0, .int .i64 (F : Int), .int .i64 bd, .string ⟨sh.toArray⟩, .bool mn] BgT)).drew := ⟨_, rfl⟩
  have hb1 : Below w.heap.size w W1 := by rw [hW1]; exact ((Below.refl _ _).alloc (Nat.le_refl _) _).drew
  have bL : Box W1 L BgT #[.int .i64 nk, .int .i64 na, .int .i64 nn, .string ⟨nm.toArray⟩, .slice none 0 0, .int .i64 (F : Int), .int .i64 bd, .string ⟨sh.toArray⟩, .bool mn] := by rw [hW1]; exact (Box.new _ _ _ _ hL).drew
  have hR1 := h.on hb1
  have hbx1 := hbx.on hb1
  have hr1 : Rows w0 rb (Up A w W1) rs (f :: G) vr (.slice (some ⟨g, 0, none⟩) (G.length + 1) c) vs W1 := by
    refine ⟨own_below hr.own hb1, hr.nods.below hb1, own_below hr.opn hb1, fun b q => ?_⟩
    rcases q with q | q
    · exact hr.apr b q
    · exact ⟨fun e => by have := (hr.own.lt b e.symm).2; omega, fun e => by have := (hr.opn.lt b e.symm).2; omega⟩
  rw [← hM] at hbx1 hr1
  have hP := Rd.pop hR1 hbx1 hr1 hM
  have HAL : Hid (Up A w W1 L) := Lib.hid (Or.inr ⟨by omega, bL.lt⟩)
  have c5w : W1.cell? ⟨rb, 5, none⟩ = some (.slice (some ⟨g, 0, none⟩) (M + 1) c) := hbx1.cell 5
  have f5w : W1.frozen? ⟨rb, 5, none⟩ = false := hbx1.frozen 5
  have HK1 := Lib.hid (h.keep hb1)
  have hMc' : (M : Int) ≤ c := by omega
  have hnl : ¬ L = rb := by omega
  have HP := Lib.hid hP
  have HBL := Lib.hid bL
  have HW1 := Lib.hid hW1
  have HL := Lib.hid hL
  clear hL hW1 hb1 bL hR1 hbx1 hr1 hP hc hr hbx hf hM hbd hsh hmn h hgB
  have hnk0 : nk = 0 := by rw [hnk, hf0]; rfl
  subst hnk0
  clear hnk hna hnn hnm hF hf0
  go_enter Tryd.func41, Tryd.ntmps41
  go_wp2_with (fail)
  go_region_held3 (fun w' => w'.cell? ⟨rb, 5, none⟩ = some (.slice (some ⟨g, 0, none⟩) (M + 1) c) ∧ w'.cell? ⟨g, M * 9, none⟩ = some (.int .i64 0) ∧ w'.cell? ⟨g, M * 9 + 1, none⟩ = some (.int .i64 na) ∧ w'.cell? ⟨g, M * 9 + 2, none⟩ = some (.int .i64 nn) ∧ w'.cell? ⟨g, M * 9 + 3, none⟩ = some (.string ⟨nm.toArray⟩) ∧ w'.cell? ⟨g, M * 9 + 4, none⟩ = some (.slice none 0 0) ∧ w'.cell? ⟨g, M * 9 + 5, none⟩ = some (.int .i64 (F : Int)) ∧ w'.cell? ⟨g, M * 9 + 6, none⟩ = some (.int .i64 bd) ∧ w'.cell? ⟨g, M * 9 + 7, none⟩ = some (.string ⟨sh.toArray⟩) ∧ w'.cell? ⟨g, M * 9 + 8, none⟩ = some (.bool mn)) (first | go_keep) (first | fail)
  clear e0 e1 e2 e3 e4 e5 e6 e7 e8 c5 f5
  rw [← HW1.out, ← HL.out]
  go_wp2_with (fail)
  go_still_tail 14, (by kernel_rfl)
  change wpList _ _ _ _ _ W1.drew
  obtain ⟨m0, _⟩ := lift9 HBL.out
  go_wp2_with (fail)
  refine bodyPost_ret (results_none rfl _ _ _) rfl ?_
  exact ⟨rfl, (HP.out.1.mono fun b q => Or.inl q).drew_, HK1.out.trans fun b q => HP.out.2 b (Or.inl q)⟩
set_option maxRecDepth 100000 in
set_option maxHeartbeats 4000000 in
theorem end_node (f : Frm) (ks : List NT) (hf0 : f ≠ .brk) (hk0 : f.node.kind ≠ 0) (h : Rd l v w0 rb A i wants over (rdL G ++ ks) (f :: G) w) (hl : (rdL G ++ ks).length ≤ 1048590) (hG : G.length ≤ 1048590) :
    Calls Tryd.prog 41 #[.pointer (some ⟨rb, 0, none⟩)] w (fun e w' => e = .returned (.tuple #[]) ∧ Rd l v w0 rb A i false over (rdL G ++ [.mk f.node.kind f.node.at_ f.node.num f.node.name ks]) G w' ∧ Keep A w w') := by
  have hHd : Hd (.mk f.node.kind f.node.at_ f.node.num f.node.name ks) := h.fit f (List.mem_cons_self ..)
  obtain ⟨rs, hrs⟩ : ∃ rs, rs = rdL G ++ ks := ⟨_, rfl⟩
  rw [← hrs] at h
  obtain ⟨vr, vo, vs, ⟨_, _, _, _, _, c5⟩, hf, hbx, hr⟩ := h.cells
  obtain ⟨g, c, rfl, hgB, hgl, hMc, hc⟩ := last_frm hr
  have f5 := hf 5
  have e0 := hc 0 _ rfl
  rw [Nat.add_zero] at e0
  have e1 := hc 1 _ rfl
  have e2 := hc 2 _ rfl
  have e3 := hc 3 _ rfl
  have e4 := hc 4 _ rfl
  have e5 := hc 5 _ rfl
  have e6 := hc 6 _ rfl
  have e7 := hc 7 _ rfl
  have e8 := hc 8 _ rfl
  obtain ⟨M, hM⟩ : ∃ M, M = G.length := ⟨_, rfl⟩
  obtain ⟨bd, hbd⟩ : ∃ bd, bd = f.bind := ⟨_, rfl⟩
  obtain ⟨nk, hnk⟩ : ∃ nk, nk = f.node.kind := ⟨_, rfl⟩
  obtain ⟨na, hna⟩ : ∃ na, na = f.node.at_ := ⟨_, rfl⟩
  obtain ⟨nn, hnn⟩ : ∃ nn, nn = f.node.num := ⟨_, rfl⟩
  obtain ⟨nm, hnm⟩ : ∃ nm, nm = f.node.name := ⟨_, rfl⟩
  obtain ⟨sh, hsh⟩ : ∃ sh, sh = f.shut := ⟨_, rfl⟩
  obtain ⟨mn, hmn⟩ : ∃ mn, mn = f.many := ⟨_, rfl⟩
  obtain ⟨F, hF⟩ : ∃ F, F = f.first G := ⟨_, rfl⟩
  rw [← hM] at c5 e0 e1 e2 e3 e4 e5 e6 e7 e8 hMc hG
  rw [← hnk] at e0
  rw [← hna] at e1
  rw [← hnn] at e2
  rw [← hnm] at e3
  rw [← hF] at e5
  rw [← hbd] at e6
  rw [← hsh] at e7
  rw [← hmn] at e8
  have hgrb : ¬ g = rb := fun e => by
    have ht : Typ w RdT rb := ⟨_, _, hbx⟩
    exact (Typ.own hr.opn (k := g) rfl).ne ht (by decide) e
  have x3 : IntKind.i64.wrap ((M : Int) + 1 - 1) = M := by rw [IntWalk.i64_in _ (by omega)]; omega
  have x4 : IntKind.i64.wrap (M : Int) = M := IntWalk.i64_in _ (by omega)
  have x6 : (0 : Int) ≤ (M : Int) := by omega
  have x7 : (M : Int) < (M : Int) + 1 := by omega
  have hrz : rb < w.heap.size := hbx.lt
  obtain ⟨L, hL⟩ : ∃ L, L = w.heap.size := ⟨_, rfl⟩
  obtain ⟨W1, hW1⟩ : ∃ W1, W1 = (w.alloc (.cells #[.int .i64 nk, .int .i64 na, .int .i64 nn, .string ⟨nm.toArray⟩, .slice none 0 0, .int .i64 (F : Int), .int .i64 bd, .string ⟨sh.toArray⟩, .bool mn] BgT)).drew := ⟨_, rfl⟩
  have hb1 : Below w.heap.size w W1 := by rw [hW1]; exact ((Below.refl _ _).alloc (Nat.le_refl _) _).drew
  have bL : Box W1 L BgT #[.int .i64 nk, .int .i64 na, .int .i64 nn, .string ⟨nm.toArray⟩, .slice none 0 0, .int .i64 (F : Int), .int .i64 bd, .string ⟨sh.toArray⟩, .bool mn] := by rw [hW1]; exact (Box.new _ _ _ _ hL).drew
  have hR1 := h.on hb1
  have hbx1 := hbx.on hb1
  have hr1 : Rows w0 rb (Up A w W1) rs (f :: G) vr (.slice (some ⟨g, 0, none⟩) (G.length + 1) c) vs W1 := by
    refine ⟨own_below hr.own hb1, hr.nods.below hb1, own_below hr.opn hb1, fun b q => ?_⟩
    rcases q with q | q
    · exact hr.apr b q
    · exact ⟨fun e => by have := (hr.own.lt b e.symm).2; omega, fun e => by have := (hr.opn.lt b e.symm).2; omega⟩
  rw [← hM] at hbx1 hr1
  have hP := Rd.pop hR1 hbx1 hr1 hM
  have HAL : Hid (Up A w W1 L) := Lib.hid (Or.inr ⟨by omega, bL.lt⟩)
  have c5w : W1.cell? ⟨rb, 5, none⟩ = some (.slice (some ⟨g, 0, none⟩) (M + 1) c) := hbx1.cell 5
  have f5w : W1.frozen? ⟨rb, 5, none⟩ = false := hbx1.frozen 5
  have HK1 := Lib.hid (h.keep hb1)
  have hMc' : (M : Int) ≤ c := by omega
  have hnl : ¬ L = rb := by omega
  have HP := Lib.hid hP
  have HBL := Lib.hid bL
  have HW1 := Lib.hid hW1
  have HL := Lib.hid hL
  clear hL hW1 hb1 bL hR1 hbx1 hr1 hP hc hr hbx hf hM hbd hsh hmn h hgB
  have hk0' : (nk == 0) = false := beq_eq_false_iff_ne.2 (by rw [hnk]; exact hk0)
  have HFIT : Hid (Hd (.mk f.node.kind f.node.at_ f.node.num f.node.name ks)) := Lib.hid hHd
  have HF0 := Lib.hid (And.intro hnk (And.intro hna (And.intro hnn (And.intro hnm hF))))
  have HRS := Lib.hid hrs
  clear hk0 hnk hna hnn hnm hF hrs
  go_enter Tryd.func41, Tryd.ntmps41
  go_wp2_with (fail)
  go_region_held3 (fun w' => w'.cell? ⟨rb, 5, none⟩ = some (.slice (some ⟨g, 0, none⟩) (M + 1) c) ∧ w'.cell? ⟨g, M * 9, none⟩ = some (.int .i64 nk) ∧ w'.cell? ⟨g, M * 9 + 1, none⟩ = some (.int .i64 na) ∧ w'.cell? ⟨g, M * 9 + 2, none⟩ = some (.int .i64 nn) ∧ w'.cell? ⟨g, M * 9 + 3, none⟩ = some (.string ⟨nm.toArray⟩) ∧ w'.cell? ⟨g, M * 9 + 4, none⟩ = some (.slice none 0 0) ∧ w'.cell? ⟨g, M * 9 + 5, none⟩ = some (.int .i64 (F : Int)) ∧ w'.cell? ⟨g, M * 9 + 6, none⟩ = some (.int .i64 bd) ∧ w'.cell? ⟨g, M * 9 + 7, none⟩ = some (.string ⟨sh.toArray⟩) ∧ w'.cell? ⟨g, M * 9 + 8, none⟩ = some (.bool mn)) (first | go_keep) (first | fail)
  clear e0 e1 e2 e3 e4 e5 e6 e7 e8 c5 f5
  rw [← HW1.out, ← HL.out]
  go_wp2_with (fail)
  go_still_tail 14, (by kernel_rfl)
  change wpList _ _ _ _ _ W1.drew
  obtain ⟨m0, m1, m2, m3, m4, m5, _⟩ := lift9 HBL.out
  go_wp2_with (fail)
  obtain ⟨U, hU⟩ : ∃ U, U = W1.setCell ⟨rb, 5, none⟩ (.slice (some ⟨g, 0, none⟩) M c) := ⟨_, rfl⟩
  have hP := HP.out
  rw [← hU] at hP ⊢
  obtain ⟨N, hN⟩ : ∃ N, N = W1.heap.size := ⟨_, rfl⟩
  have hNU : N = U.heap.size := by rw [hN, hU]; simp [World.setCell]
  rw [← hN]
  obtain ⟨W4, hW4⟩ : ∃ W4, W4 = (U.alloc (.cells #[.int .i64 nk, .int .i64 na, .int .i64 nn, .string ⟨nm.toArray⟩, .slice none 0 0] NodeT)).drew := ⟨_, rfl⟩
  rw [show (U.alloc (.cells #[.int .i64 nk, .int .i64 na, .int .i64 nn, .string ⟨nm.toArray⟩, .slice none 0 0] 29)).drew = W4 from hW4.symm]
  have bU : Below U.heap.size U W4 := by rw [hW4]; exact ((Below.refl _ _).alloc (Nat.le_refl _) _).drew
  have bN : Box W4 N NodeT #[.int .i64 nk, .int .i64 na, .int .i64 nn, .string ⟨nm.toArray⟩, .slice none 0 0] := by rw [hW4]; exact (Box.new _ _ _ _ hNU).drew
  have bL : Box W4 L BgT _ := (show Box U L BgT _ from by rw [hU]; exact HBL.out.far hnl _).on bU
  clear m0 m1 m2 m3 m4 m5 c5w f5w
  obtain ⟨hRU, hKU⟩ := hP
  obtain ⟨vr4, vo4, vs4, _, _, hbxU, hrU⟩ := hRU.cells
  have hkp := hRU.kp hbxU hrU
  have hrk : Rows w0 rb (fun b => Up A w W1 b ∨ (KP w0 rb vr4 vo4 b ∧ b < U.heap.size)) rs G vr4 vo4 vs4 U := ⟨hrU.own, hrU.nods, hrU.opn, fun b q => q.elim (hrU.apr b) fun q => ⟨q.1.2.2.1, q.1.2.2.2⟩⟩
  obtain ⟨Ar, cr, rfl⟩ := own_form hrU.own
  obtain ⟨xs, ys, rfl, hxs, hys⟩ := nods_split (by have := hrU.nods; rw [HRS.out] at this; exact this)
  have hlx := hxs.len
  have hly := hys.len
  obtain ⟨m, hm⟩ : ∃ m, m = ks.length := ⟨_, rfl⟩
  have hFn : F = (rdL G).length := by
    rw [HF0.out.2.2.2.2, rdL_len]
    cases f <;> first | rfl | exact absurd rfl hf0
  have hD : rs.length = F + m := by rw [HRS.out, List.length_append, hFn, hm]
  rw [List.length_append, ← hFn, ← hm] at hxs hys
  have hown4 := own_below hrU.own bU
  rw [hD] at hown4 hbxU hrk hkp
  have hbx4 := hbxU.on bU
  have c4 := hbx4.cell 4
  simp only [List.getElem?_toArray, List.getElem?_cons_zero, List.getElem?_cons_succ] at c4
  obtain ⟨hFc, _, htl⟩ := row_two hown4 (by rw [hlx, hFn]) (by rw [hly, hm])
  rw [← hm] at hly
  have hsf := fun w => nslice_from F (F + m) (by omega) Ar cr w
  have hst := fun w => nslice_to F (F + m) Ar cr hFc w
  obtain ⟨_, _, _, _, _, m5, _⟩ := lift9 bL
  have n4 := bN.cell 4
  have g4 := bN.frozen 4
  simp only [List.getElem?_toArray, List.getElem?_cons_zero, List.getElem?_cons_succ] at n4
  have hLz := bL.lt
  have hNz := bN.lt
  have hrz4 := hbx4.lt
  have q1 : ¬ rb = N := by have := hRU.lt; omega
  have q2 : ¬ L = N := by have := HBL.out.lt; omega
  have q3 : ¬ N = rb := fun e => q1 e.symm
  have q4 : ¬ N = L := fun e => q2 e.symm
  have q5 : ¬ rb = L := fun e => hnl e.symm
  have hDl : F + m ≤ 1048590 := by rw [← hD, HRS.out]; exact hl
  have z0 : (0 : Int) ≤ (F : Int) := by omega
  have z1 : (F : Int) ≤ ((F + m : Nat) : Int) := by omega
  have z2 : (F : Int) ≤ cr := by omega
  have HNIL : Hid (W4.drew.ownsRow W4.heap.size NodeT 5 (.slice none 0 0) 0 []) := Lib.hid (World.ownsRow_nil _ _ _ _)
  obtain ⟨i0, hi, hz0, hz1, hz2⟩ := info_parts infoN
  have HBN := Lib.hid bN
  have HBLL := Lib.hid bL
  have HKP := Lib.hid (And.intro hkp (And.intro hbxU hrk))
  have HXS := Lib.hid hxs
  have HYS := Lib.hid hys
  have HYL := Lib.hid hly
  have HFN := Lib.hid hFn
  have HM := Lib.hid hm
  have HKU := Lib.hid hKU
  have HbU := Lib.hid bU
  have HNN := Lib.hid hNU
  have HN4 : Hid (W4.heap.size = N + 1) := Lib.hid (by rw [hW4, hNU]; simp)
  have HRL := Lib.hid hRU
  clear bN bL hkp hbxU hrk hbx4 hrU hxs hys hlx hly hFn hm hKU hRU hown4 hD bU hW4 hN hU hNU
  have HHD : Hid (Hd (.mk nk na nn nm ks)) := Lib.hid (by
    obtain ⟨e1, e2, e3, e4, _⟩ := HF0.out
    rw [e1, e2, e3, e4]
    exact HFIT.out)
  rcases htl with ⟨hX, hm0⟩ | ⟨ad, c', hX, hcy⟩
  · rw [hX] at hsf
    have hks : ks = [] := List.eq_nil_of_length_eq_zero (by rw [← HM.out, hm0])
    obtain ⟨Av, hAv⟩ : ∃ Av : Option Addr, Av = none := ⟨_, rfl⟩
    obtain ⟨cv, hcv⟩ : ∃ cv : Nat, cv = 0 := ⟨_, rfl⟩
    obtain ⟨w5, hw5⟩ : ∃ w5, w5 = W4.drew := ⟨_, rfl⟩
    have HB5 : Hid (Below W4.heap.size W4 w5) := Lib.hid (by rw [hw5]; exact (Below.refl _ _).drew)
    have HSV : Hid (Value.slice none 0 0 = .slice Av m cv) := Lib.hid (by rw [hAv, hcv, hm0])
    have HW5 := Lib.hid hw5
    have HKS := Lib.hid hks
    have HM0 := Lib.hid hm0
    clear hX hks hAv hcv hw5 hm0
    go_still_tail 9, (by kernel_rfl)
    change wpList _ _ _ _ _ W4.drew
    go_wp2_with (at_builtin; refine wpList_append_own_none rfl (.tmp 37) (.tmp 44) 27 rfl W4.heap.size NodeT i0 5 Tryd.underlying27 hi (.slice none 0 0) 0 [] rfl HNIL.out rfl ?_)
    rw [show (W4.setCell ⟨N, 4, none⟩ (.slice none 0 0)).drew = w5.setCell ⟨N, 4, none⟩ (.slice none 0 0) from by rw [HW5.out]; rfl, HSV.out]
    have HKK : Hid (nt.Kids (fun b => W4.heap.size ≤ b ∨ (KP w0 rb (.slice Ar (F + m) cr) vo4 b ∧ b < U.heap.size)) w5 ks (.slice Av m cv)) := Lib.hid (by rw [HKS.out, ← HSV.out]; exact nt.Kids.nil_ _ _)
    obtain ⟨W6, hW6⟩ : ∃ W6, W6 = w5.setCell ⟨N, 4, none⟩ (.slice Av m cv) := ⟨_, rfl⟩
    rw [← hW6]
    have hN5 := HNN.out
    have hb4 := HbU.out
    have b6 : Below U.heap.size U W6 := by rw [hW6]; exact (hb4.trans (HB5.out.mono hb4.size)).setCell (p := ⟨N, 4, none⟩) (by show U.heap.size ≤ N; omega) _
    have bN6 : Box W6 N NodeT #[.int .i64 nk, .int .i64 na, .int .i64 nn, .string ⟨nm.toArray⟩, .slice Av m cv] := by rw [hW6]; exact (HBN.out.on HB5.out).set 4 _
    have bL6 : Box W6 L BgT #[.int .i64 nk, .int .i64 na, .int .i64 nn, .string ⟨nm.toArray⟩, .slice none 0 0, .int .i64 (F : Int), .int .i64 bd, .string ⟨sh.toArray⟩, .bool mn] := by rw [hW6]; exact (HBLL.out.on HB5.out).far q2 _
    obtain ⟨hkp, hbxU, hrk⟩ := HKP.out
    have hR6 := hkp.on b6
    have hbx6 := hbxU.on b6
    have hz6 := b6.size
    have hr6 : Rows w0 rb (Up (fun b => Up A w W1 b ∨ (KP w0 rb (.slice Ar (F + m) cr) vo4 b ∧ b < U.heap.size)) U W6) rs G (.slice Ar (F + m) cr) vo4 (xs ++ ys) W6 := by
      refine ⟨own_below hrk.own b6, hrk.nods.below b6, own_below hrk.opn b6, fun b q => ?_⟩
      rcases q with q | q
      · exact hrk.apr b q
      · exact ⟨fun e => by have := (hrk.own.lt b e.symm).2; omega, fun e => by have := (hrk.opn.lt b e.symm).2; omega⟩
    rw [HRS.out] at hR6 hr6
    have hR6c := hR6
    rw [HFN.out, HM.out] at hR6c hbx6 hr6
    obtain ⟨hR7, hK7⟩ := Rd.cut (rs' := rdL G) (ks := ks) hR6c hbx6 hr6 (by rw [HFN.out, HM.out] at HXS; exact HXS.out.below b6) (by rw [HYL.out, HM.out])
    rw [← HFN.out, ← HM.out] at hR7 hK7
    clear hR6c
    have hkids : nt.Kids (fun b => Up (fun b => Up A w W1 b ∨ (KP w0 rb (.slice Ar (F + m) cr) vo4 b ∧ b < U.heap.size)) U W6 b) W6 ks (.slice Av m cv) := by
      refine HKK.out.carry fun b o u q hc => ?_
      have hlt : b < w5.heap.size := World.block_lt_of_cell? _ _ hc
      have hne : b ≠ N := fun e => by
        have h4 : W4.heap.size = N + 1 := HN4.out
        rcases q with q | q <;> omega
      have hz5 : w5.heap.size = W6.heap.size := by rw [hW6]; simp [World.setCell]
      refine ⟨?_, ?_⟩
      · rcases q with q | q
        · have h4 : W4.heap.size = N + 1 := HN4.out
          exact Or.inr ⟨by omega, by omega⟩
        · exact Or.inl (Or.inr q)
      · rw [hW6]; exact (World.cell?_of_block (w := w5) (w' := w5.setCell ⟨N, 4, none⟩ (.slice Av m cv)) (a := ⟨b, o, none⟩) (Below.heap_setCell w5 ⟨N, 4, none⟩ _ b hne)).trans hc
    have hkids7 : nt.Kids (fun b => Up (fun b => Up A w W1 b ∨ (KP w0 rb (.slice Ar (F + m) cr) vo4 b ∧ b < U.heap.size)) U W6 b) (W6.setCell ⟨rb, 4, none⟩ (.slice Ar F cr)) ks (.slice Av m cv) := by
      refine hkids.carry fun b o u q hc => ⟨q, ?_⟩
      exact (World.cell?_of_block (w := W6) (w' := W6.setCell ⟨rb, 4, none⟩ (.slice Ar F cr)) (a := ⟨b, o, none⟩) (Below.heap_setCell W6 ⟨rb, 4, none⟩ _ b (hR6.ap b q).2.2)).trans hc
    have HPUT := Lib.hid (put_any (.mk nk na nn nm ks) (.slice Av m cv) hR7.drew_ (by have h1 := HFN.out; omega) (HHD.out) (hkids7.carry fun b o u q hc => ⟨q, hc⟩))
    have HK6 : Hid (Keep A U W6) := Lib.hid fun b q => b6.block b (HRL.out.ap b (Or.inl q)).2.1
    have HK7 : Hid (Keep A W6 (W6.setCell ⟨rb, 4, none⟩ (.slice Ar F cr))) := Lib.hid fun b q => hK7 b (Or.inl (Or.inl (Or.inl q)))
    obtain ⟨_, _, _, _, _, m5, _⟩ := lift9 bL6
    have c4 := hbx6.cell 4
    have g4 := hbx6.frozen 4
    have n0 := bN6.cell 0
    have n1 := bN6.cell 1
    have n2 := bN6.cell 2
    have n3 := bN6.cell 3
    have n4 := bN6.cell 4
    rw [← HFN.out, ← HM.out] at c4
    simp only [List.getElem?_toArray, List.getElem?_cons_zero, List.getElem?_cons_succ] at c4 n0 n1 n2 n3 n4
    have HRA := Lib.hid HPUT
    clear hW6 hN5 hb4 b6 bN6 bL6 hkp hbxU hrk hR6 hbx6 hr6 hz6 hR7 hK7 hkids hkids7 hsf HPUT
    go_still_tail 10, (by kernel_rfl)
    change wpList _ _ _ _ _ W6.drew
    go_wp2_with (fail)
    refine HRA.out.out.mono ?_
    rintro e w8 ⟨rfl, hR8, hK8⟩
    have HR8 := Lib.hid hR8
    have HK8 : Hid (Keep A w w8) := Lib.hid (HK1.out.trans fun b q => (hK8 b (Or.inl (Or.inl (Or.inl q)))).trans ((HK7.out b q).trans ((HK6.out b q).trans (HKU.out b (Or.inl q)))))
    clear hR8 hK8
    go_wp2_with (fail)
    go_end0
    refine ⟨rfl, ?_, HK8.out⟩
    rw [← HF0.out.1, ← HF0.out.2.1, ← HF0.out.2.2.1, ← HF0.out.2.2.2.1]
    exact HR8.out.mono fun b q => Or.inl (Or.inl (Or.inl q))
  · rw [hX] at hsf
    have HCY : Hid (∀ j u, ys[j]? = some u → W4.drew.cell? (ad.add j) = some u) := Lib.hid hcy
    have HY1 := Lib.hid HYS.out.one
    clear hX hcy
    go_still_tail 9, (by kernel_rfl)
    change wpList _ _ _ _ _ W4.drew
    go_wp2_with (at_builtin; refine wpList_append_own _ rfl (.tmp 37) (.tmp 44) 27 rfl W4.heap.size NodeT i0 (.agg #[.int .i64 0, .int .i64 0, .int .i64 0, .string ⟨#[]⟩, .slice none 0 0]) 5 64 Tryd.underlying27 hi hz0 hz1 hz2 rfl (by decide) (.slice none 0 0) 0 [] rfl HNIL.out ad m c' ys rfl HYL.out HCY.out HY1.out (by unfold maxLen; omega) (by omega) (Nat.le_refl _) ?_; intro v' w5 hown hgrow _; rw [Nat.zero_add, List.nil_append] at hown; obtain ⟨Av, cv, rfl⟩ := own_form hown; have hb5 : Below W4.heap.size W4 w5 := ((Below.refl W4.heap.size W4).drew).trans (show Below W4.heap.size W4.drew w5 from vt.below_grown hgrow); have bN5 := HBN.out.on hb5; have n4' := bN5.cell 4; have g4' := bN5.frozen 4; have HB5 := Lib.hid hb5; have HOW := Lib.hid hown; clear hown hgrow hb5 bN5)
    have HKK : Hid (nt.Kids (fun b => W4.heap.size ≤ b ∨ (KP w0 rb (.slice Ar (F + m) cr) vo4 b ∧ b < U.heap.size)) w5 ks (.slice Av m cv)) := Lib.hid (by
      have hb5U := HbU.out.trans (HB5.out.mono HbU.out.size)
      have h1 := HOW.out
      rw [HM.out] at h1
      rw [HM.out]
      have h2 : nt.Own W4.heap.size (fun b => KP w0 rb (.slice Ar (F + ks.length) cr) vo4 b ∧ b < U.heap.size) w5 ks (.slice Av ks.length cv) := ⟨ys, by have := HYS.out.lt.below hb5U; rw [HM.out] at this; exact this, h1⟩
      exact h2.kids (fun b q => Or.inr q) (fun b q => Or.inl q))
    obtain ⟨W6, hW6⟩ : ∃ W6, W6 = w5.setCell ⟨N, 4, none⟩ (.slice Av m cv) := ⟨_, rfl⟩
    rw [← hW6]
    have hN5 := HNN.out
    have hb4 := HbU.out
    have b6 : Below U.heap.size U W6 := by rw [hW6]; exact (hb4.trans (HB5.out.mono hb4.size)).setCell (p := ⟨N, 4, none⟩) (by show U.heap.size ≤ N; omega) _
    have bN6 : Box W6 N NodeT #[.int .i64 nk, .int .i64 na, .int .i64 nn, .string ⟨nm.toArray⟩, .slice Av m cv] := by rw [hW6]; exact (HBN.out.on HB5.out).set 4 _
    have bL6 : Box W6 L BgT #[.int .i64 nk, .int .i64 na, .int .i64 nn, .string ⟨nm.toArray⟩, .slice none 0 0, .int .i64 (F : Int), .int .i64 bd, .string ⟨sh.toArray⟩, .bool mn] := by rw [hW6]; exact (HBLL.out.on HB5.out).far q2 _
    obtain ⟨hkp, hbxU, hrk⟩ := HKP.out
    have hR6 := hkp.on b6
    have hbx6 := hbxU.on b6
    have hz6 := b6.size
    have hr6 : Rows w0 rb (Up (fun b => Up A w W1 b ∨ (KP w0 rb (.slice Ar (F + m) cr) vo4 b ∧ b < U.heap.size)) U W6) rs G (.slice Ar (F + m) cr) vo4 (xs ++ ys) W6 := by
      refine ⟨own_below hrk.own b6, hrk.nods.below b6, own_below hrk.opn b6, fun b q => ?_⟩
      rcases q with q | q
      · exact hrk.apr b q
      · exact ⟨fun e => by have := (hrk.own.lt b e.symm).2; omega, fun e => by have := (hrk.opn.lt b e.symm).2; omega⟩
    rw [HRS.out] at hR6 hr6
    have hR6c := hR6
    rw [HFN.out, HM.out] at hR6c hbx6 hr6
    obtain ⟨hR7, hK7⟩ := Rd.cut (rs' := rdL G) (ks := ks) hR6c hbx6 hr6 (by rw [HFN.out, HM.out] at HXS; exact HXS.out.below b6) (by rw [HYL.out, HM.out])
    rw [← HFN.out, ← HM.out] at hR7 hK7
    clear hR6c
    have hkids : nt.Kids (fun b => Up (fun b => Up A w W1 b ∨ (KP w0 rb (.slice Ar (F + m) cr) vo4 b ∧ b < U.heap.size)) U W6 b) W6 ks (.slice Av m cv) := by
      refine HKK.out.carry fun b o u q hc => ?_
      have hlt : b < w5.heap.size := World.block_lt_of_cell? _ _ hc
      have hne : b ≠ N := fun e => by
        have h4 : W4.heap.size = N + 1 := HN4.out
        rcases q with q | q <;> omega
      have hz5 : w5.heap.size = W6.heap.size := by rw [hW6]; simp [World.setCell]
      refine ⟨?_, ?_⟩
      · rcases q with q | q
        · have h4 : W4.heap.size = N + 1 := HN4.out
          exact Or.inr ⟨by omega, by omega⟩
        · exact Or.inl (Or.inr q)
      · rw [hW6]; exact (World.cell?_of_block (w := w5) (w' := w5.setCell ⟨N, 4, none⟩ (.slice Av m cv)) (a := ⟨b, o, none⟩) (Below.heap_setCell w5 ⟨N, 4, none⟩ _ b hne)).trans hc
    have hkids7 : nt.Kids (fun b => Up (fun b => Up A w W1 b ∨ (KP w0 rb (.slice Ar (F + m) cr) vo4 b ∧ b < U.heap.size)) U W6 b) (W6.setCell ⟨rb, 4, none⟩ (.slice Ar F cr)) ks (.slice Av m cv) := by
      refine hkids.carry fun b o u q hc => ⟨q, ?_⟩
      exact (World.cell?_of_block (w := W6) (w' := W6.setCell ⟨rb, 4, none⟩ (.slice Ar F cr)) (a := ⟨b, o, none⟩) (Below.heap_setCell W6 ⟨rb, 4, none⟩ _ b (hR6.ap b q).2.2)).trans hc
    have HPUT := Lib.hid (put_any (.mk nk na nn nm ks) (.slice Av m cv) hR7.drew_ (by have h1 := HFN.out; omega) (HHD.out) (hkids7.carry fun b o u q hc => ⟨q, hc⟩))
    have HK6 : Hid (Keep A U W6) := Lib.hid fun b q => b6.block b (HRL.out.ap b (Or.inl q)).2.1
    have HK7 : Hid (Keep A W6 (W6.setCell ⟨rb, 4, none⟩ (.slice Ar F cr))) := Lib.hid fun b q => hK7 b (Or.inl (Or.inl (Or.inl q)))
    obtain ⟨_, _, _, _, _, m5, _⟩ := lift9 bL6
    have c4 := hbx6.cell 4
    have g4 := hbx6.frozen 4
    have n0 := bN6.cell 0
    have n1 := bN6.cell 1
    have n2 := bN6.cell 2
    have n3 := bN6.cell 3
    have n4 := bN6.cell 4
    rw [← HFN.out, ← HM.out] at c4
    simp only [List.getElem?_toArray, List.getElem?_cons_zero, List.getElem?_cons_succ] at c4 n0 n1 n2 n3 n4
    have HRA := Lib.hid HPUT
    clear hW6 hN5 hb4 b6 bN6 bL6 hkp hbxU hrk hR6 hbx6 hr6 hz6 hR7 hK7 hkids hkids7 hsf HPUT
    go_still_tail 10, (by kernel_rfl)
    change wpList _ _ _ _ _ W6.drew
    go_wp2_with (fail)
    refine HRA.out.out.mono ?_
    rintro e w8 ⟨rfl, hR8, hK8⟩
    have HR8 := Lib.hid hR8
    have HK8 : Hid (Keep A w w8) := Lib.hid (HK1.out.trans fun b q => (hK8 b (Or.inl (Or.inl (Or.inl q)))).trans ((HK7.out b q).trans ((HK6.out b q).trans (HKU.out b (Or.inl q)))))
    clear hR8 hK8
    go_wp2_with (fail)
    go_end0
    refine ⟨rfl, ?_, HK8.out⟩
    rw [← HF0.out.1, ← HF0.out.2.1, ← HF0.out.2.2.1, ← HF0.out.2.2.2.1]
    exact HR8.out.mono fun b q => Or.inl (Or.inl (Or.inl q))
end Go.Proofs.YtgohkmdepjmpaaaDoor.pm.em

/- The package's reader ends signs, from the last one on. -/
--KEEP
namespace Go.Proofs.YtgohkmdepjmpaaaDoor.pm.em
open Go.RowKit wd lx nt ne pm mem
open vt (I64)
variable {l : List Tk} {v : Value} {w0 : World} {rb : Nat} {A A' : Nat → Prop} {i j : Int} {wants over : Bool} {rs : List NT} {G : List Frm} {w w' : World}

theorem close_of {f : Frm} {n : NT} (hf : f ≠ .brk) : f.close n = .mk f.node.kind f.node.at_ f.node.num f.node.name (f.kids ++ [n]) := by
  cases f <;> first | rfl | exact absurd rfl hf
theorem bind_not {f : Frm} (h : 1 ≤ f.bind) : f ≠ .brk ∧ f.node.kind ≠ 0 := by
  cases f with
  | brk => exact absurd h (by decide)
  | un a s => exact ⟨fun e => (by cases e), (by show (15 : Int) ≠ 0; decide)⟩
  | bin a s b x => exact ⟨fun e => (by cases e), (by show (16 : Int) ≠ 0; decide)⟩
  | idx a x => exact absurd h (by show ¬ ((1 : Int) ≤ 0); decide)
  | arg k a nm ks => exact absurd h (by show ¬ ((1 : Int) ≤ 0); decide)
def SetRel (l : List Tk) (v : Value) (w0 : World) (rb : Nat) (A : Nat → Prop) (i : Int) (over : Bool) (t : Int) (G : List Frm) (n : NT) (w : World) (g : Nat) (wr : World) : Prop :=
  ∃ (G' : List Frm) (n' : NT), Hid (settle t G' n' = settle t G n) ∧ Hid (Rd l v w0 rb A i false over (rdL G' ++ [n']) G' wr) ∧ Hid (Keep A w wr) ∧ G'.length = g ∧ Hid ((rdL G' ++ [n']).length ≤ 1048590) ∧ Hid (G'.length ≤ 1048590)
set_option maxHeartbeats 2000000 in
theorem settle_any (t : Int) (n : NT) (ht : 1 ≤ t) (ht2 : t ≤ 10) (h : Rd l v w0 rb A i false over (rdL G ++ [n]) G w) (hl : (rdL G ++ [n]).length ≤ 1048590) (hG : G.length ≤ 1048590) :
    Calls Tryd.prog 59 #[.pointer (some ⟨rb, 0, none⟩), .int .i64 t] w (fun e w' => e = .returned (.tuple #[]) ∧ Rd l v w0 rb A i false over (rdL (settle t G n).1 ++ [(settle t G n).2]) (settle t G n).1 w' ∧ Keep A w w') := by
  have HR := Lib.hid h
  have HL := Lib.hid hl
  have HG := Lib.hid hG
  clear h hl hG
  go_enter Tryd.func59, Tryd.ntmps59
  go_wp2_with (fail)
  go_loopg [] G.length (fun g wr => SetRel l v w0 rb A i over t G n w g wr)
  case atStart => unfold SetRel; exact ⟨G, n, Lib.hid rfl, HR, Lib.hid (Keep.refl _ _), rfl, HL, HG⟩
  case round =>
    unfold SetRel at hrel
    obtain ⟨G', n', HE, HRR, HK, hg, HL', HG'⟩ := hrel
    have HB := Lib.hid (bind_any HRR.out HG'.out)
    by_cases h1 : t ≤ bindTop G'
    · cases G' with
      | nil => exact absurd h1 (by show ¬ (t ≤ 0); omega)
      | cons f G2 =>
        have hb1 : (1 : Int) ≤ f.bind := by have : t ≤ f.bind := h1; omega
        obtain ⟨hf1, hf2⟩ := bind_not hb1
        have HC : Hid (f.close n' = .mk f.node.kind f.node.at_ f.node.num f.node.name (f.kids ++ [n'])) := Lib.hid (close_of hf1)
        have HE2 : Hid (settle t G2 (f.close n') = settle t G n) := Lib.hid (by rw [← HE.out]; exact (if_pos h1).symm)
        have e1 : rdL (f :: G2) ++ [n'] = rdL G2 ++ (f.kids ++ [n']) := by rw [rdL, List.append_assoc]
        rw [e1] at HRR HL'
        have HEND := Lib.hid (fun (wr' : World) (hb : Below wr.heap.size wr wr') => end_node f (f.kids ++ [n']) hf1 hf2 (HRR.out.on_ hb) HL'.out (by have := HG'.out; simp at this; omega))
        have HL2 : Hid ((rdL G2 ++ [f.close n']).length ≤ 1048590) := Lib.hid (by have := HL'.out; simp only [List.length_append, List.length_cons, List.length_nil] at this ⊢; omega)
        have HG2 : Hid (G2.length ≤ 1048590) := Lib.hid (by have := HG'.out; simp at this; omega)
        have HRk := Lib.hid (fun (wr' : World) (hb : Below wr.heap.size wr wr') => HRR.out.keep hb)
        rw [List.length_cons] at hg
        obtain ⟨b, hb⟩ : ∃ b, b = bindTop (f :: G2) := ⟨_, rfl⟩
        rw [← hb] at HB h1
        clear hb hb1 hf1 hf2 e1 HE
        go_wp2_with (fail)
        refine HB.out.mono ?_
        rintro e w1 ⟨rfl, hb1⟩
        have HEN := Lib.hid (HEND.out w1 hb1)
        have HKK := Lib.hid (HRk.out w1 hb1)
        clear hb1
        go_wp2_with (fail)
        refine HEN.out.mono ?_
        rintro e w2 ⟨rfl, hr2, hk2⟩
        have HR2 := Lib.hid hr2
        have HK2 : Hid (Keep A w w2) := Lib.hid (HK.out.trans (HKK.out.trans hk2))
        clear hr2 hk2
        go_wp2_with (fail)
        go_roundg G2.length
        case measure => omega
        case rel => unfold SetRel; exact ⟨G2, f.close n', HE2, Lib.hid (by rw [HC.out]; exact HR2.out), HK2, rfl, HL2, HG2⟩
    · have HE2 : Hid (settle t G n = (G', n')) := Lib.hid (by rw [← HE.out]; exact settle_stop (by omega))
      obtain ⟨b, hb⟩ : ∃ b, b = bindTop G' := ⟨_, rfl⟩
      rw [← hb] at HB h1
      have h1' : b < t := by omega
      have HRk := Lib.hid (fun (wr' : World) (hb : Below wr.heap.size wr wr') => HRR.out.keep hb)
      clear hb h1
      go_wp2_with (fail)
      refine HB.out.mono ?_
      rintro e w1 ⟨rfl, hb1⟩
      have HR2 := Lib.hid (HRR.out.on_ hb1)
      have HK2 : Hid (Keep A w w1) := Lib.hid (HK.out.trans (HRk.out w1 hb1))
      clear hb1
      go_wp2_with (fail)
      go_end0
      rw [HE2.out]
      exact ⟨rfl, HR2.out, HK2.out⟩
end Go.Proofs.YtgohkmdepjmpaaaDoor.pm.em

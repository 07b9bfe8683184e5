/- The law on walks: what is handed out, found, counted; sameness; clean copies. -/
import Derived.Test.YtkmkeaeaalnbjaaDoorCTreeStopsLaw
import Derived.Test.YtkmkeaeaalnbjaaDoorCFastLex
import Derived.Test.YtkmkeaeaalnbjaaDoorCCleanOwn
import Derived.Test.YtkmkeaeaalnbjaaDoorCQuietTail
import Derived.Laws.Bits64
import Derived.Sort.Row
import Derived.Lib.QuietBelow
import Derived.BigQuiet
--KEEP
namespace Go.Proofs.YtkmkeaeaalnbjaaDoor.nt
open Go.RowKit Go.Shelf mem wd lx
open vt (I64 own_form)

attribute [local go_sem] Oper.semAt_some

theorem region_round_quiet {P : Program} {id : Nat} {ops : List Oper} {Q : Exit → Act → World → Prop} {a : Act} {w : World} {l n : Nat} (hm : P.follows .mixedOrders = true) (hnd : noDefer ops.toArray = true) (hB : Region.lexB .any ops.toArray = true)
    (h : wpQuiet P ops.toArray (fun w' => ∃ p : Regrown, w' = Go.Sort.grow (redrawn w p.d) p.os) (fun a' => ∀ w', (∃ p : Regrown, w' = Go.Sort.grow (redrawn w p.d) p.os) → Q .normal a' w') ops a) : (Code.region id ops.toArray true).wpIn (Fence.wide.inRound l) n P Q a w := by
  simp only [Region.lexB, Bool.and_eq_true] at hB
  have hC : ∃ p : Regrown, ({ w with drawn := w.drawn + 1 } : World) = Go.Sort.grow (redrawn w p.d) p.os := ⟨⟨w.drawn + 1, #[]⟩, by rw [Go.Sort.grow_empty]; rfl⟩
  have h2 := wpAnyQ_lex (C := fun w' => ∃ p : Regrown, w' = Go.Sort.grow (redrawn w p.d) p.os) (md := .any) hB.1 ops 0 (Array.replicate ops.toArray.size false) a (by simp) (by simpa using hB.2) h
  have h3 := wpAny_of_quiet (Q' := OnlyN Q) (fun _ w' hw' h => h w' hw') _ _ _ _ hC h2
  exact Code.wpIn_mono only_imp (wpIn_region_any hm (any_round (no_defer hnd) (only_out Q) _ _ _ _ (by simpa using h3)))
theorem nods_at {G : Nat → Prop} {w : World} : ∀ {l : List NT} {vs : List Value}, Nods G w l vs → ∀ (j : Nat) (hj : j < l.length), ∃ s, vs[j * 5]? = some (.int .i64 l[j].kind) ∧ vs[j * 5 + 1]? = some (.int .i64 l[j].at_) ∧ vs[j * 5 + 2]? = some (.int .i64 l[j].num) ∧ vs[j * 5 + 3]? = some (.string ⟨l[j].name.toArray⟩) ∧ vs[j * 5 + 4]? = some s ∧ Hd l[j] ∧ Kids G w l[j].kids s
  | [], _, _, j, hj => absurd hj (Nat.not_lt_zero _)
  | v :: r, vs, h, 0, _ => by
    rw [Nods] at h
    obtain ⟨s, rest, rfl, i1, hk, _⟩ := h
    exact ⟨s, rfl, rfl, rfl, rfl, rfl, i1, hk⟩
  | v :: r, vs, h, j + 1, hj => by
    rw [Nods] at h
    obtain ⟨s, rest, rfl, _, _, hr⟩ := h
    obtain ⟨s', h0, h1, h2, h3, h4, h5, h6⟩ := nods_at hr j (by simpa using hj)
    have e : ∀ m, (Value.int .i64 v.kind :: .int .i64 v.at_ :: .int .i64 v.num :: .string ⟨v.name.toArray⟩ :: s :: rest)[(j + 1) * 5 + m]? = rest[j * 5 + m]? := fun m => by
      rw [show (j + 1) * 5 + m = (j * 5 + m) + 5 by omega]; rfl
    exact ⟨s', (e 0).trans h0, (e 1).trans h1, (e 2).trans h2, (e 3).trans h3, (e 4).trans h4, h5, h6⟩
theorem own_node {B : Nat} {G : Nat → Prop} {w : World} {l : List NT} {g o n c : Nat} (h : Own B G w l (.slice (some ⟨g, o, none⟩) n c)) (j : Nat) (hj : j < l.length) : ∃ q, w.cell? ⟨g, o + j * 5, none⟩ = some (.int .i64 l[j].kind) ∧ w.cell? ⟨g, o + j * 5 + 1, none⟩ = some (.int .i64 l[j].at_) ∧ w.cell? ⟨g, o + j * 5 + 2, none⟩ = some (.int .i64 l[j].num) ∧ w.cell? ⟨g, o + j * 5 + 3, none⟩ = some (.string ⟨l[j].name.toArray⟩) ∧ w.cell? ⟨g, o + j * 5 + 4, none⟩ = some q ∧ Kids G w l[j].kids q ∧ Hd l[j] := by
  obtain ⟨vs, hv, hc⟩ := own_at h
  obtain ⟨s, h0, h1, h2, h3, h4, h5, h6⟩ := nods_at hv j hj
  exact ⟨s, hc g o rfl _ _ h0, hc g o rfl _ _ h1, hc g o rfl _ _ h2, hc g o rfl _ _ h3, hc g o rfl _ _ h4, h6, h5⟩
theorem own_one2 {w : World} {G : Nat → Prop} (v : NT) (hd : Hd v) (q : Value) (hk : Kids G (w.alloc (.cells #[.int .i64 v.kind, .int .i64 v.at_, .int .i64 v.num, .string ⟨v.name.toArray⟩, q] NodeT)) v.kids q) : Own w.heap.size G (w.alloc (.cells #[.int .i64 v.kind, .int .i64 v.at_, .int .i64 v.num, .string ⟨v.name.toArray⟩, q] NodeT)) [v] (.slice (some ⟨w.heap.size, 0, none⟩) 1 1) := by
  obtain ⟨A, c, rfl, _⟩ := hk.form
  refine ⟨[.int .i64 v.kind, .int .i64 v.at_, .int .i64 v.num, .string ⟨v.name.toArray⟩, .slice A v.kids.length c], ?_, ?_⟩
  · rw [Nods]
    exact ⟨_, [], rfl, hd, hk, by rw [Nods]⟩
  · exact World.ownsRow_lit (size := 5) (e := NodeT) w #[.int .i64 v.kind, .int .i64 v.at_, .int .i64 v.num, .string ⟨v.name.toArray⟩, .slice A v.kids.length c] 1 (base := w.heap.size) (Nat.le_refl _) (by decide) (by simp)
theorem own_wk {w : World} {B : Nat} {G : Nat → Prop} {l : List NT} {A : Option Addr} {n c : Nat} (h : Own B G w l (.slice A n c)) : Kids (fun _ => True) w l (.slice A n c) ∧ ∃ vs, Nods G w l vs ∧ ∀ b off, A = some ⟨b, off, none⟩ → ∀ j u, vs[j]? = some u → w.cell? ⟨b, off + j, none⟩ = some u :=
  ⟨h.kids (fun _ _ => trivial) (fun _ _ => trivial), own_at h⟩
def WsRel (G : Nat → Prop) (s : Nat) (V : World) (Za : Nat) (t : NT) (ks : List Int) (o i : Value) (wr : World) : Prop :=
  ∃ k : Nat, k ≤ Za ∧ i = .int .i64 k ∧ Hid (Own V.heap.size (fun b => (G b ∧ b < s) ∧ b < V.heap.size) wr ((t.walk.take k).filter fun u => ks.contains u.kind) o) ∧ Below V.heap.size V wr
def WiRel (V : World) (N : Nat) (ks : List Int) (x : Int) (b i : Value) (wr : World) : Prop :=
  ∃ j : Nat, j ≤ N ∧ i = .int .i64 j ∧ b = .bool ((ks.take j).contains x) ∧ Below V.heap.size V wr
theorem clean_eta (a : NT) : (NT.mk a.kind a.at_ a.num a.name a.kids).clean = a.clean := by cases a; rfl
theorem Box_five {W : World} {b : Nat} {v0 v1 v2 v3 v4 : Value} (h : Box W b NodeT #[v0, v1, v2, v3, v4]) : W.cell? ⟨b, 0, none⟩ = some v0 ∧ W.cell? ⟨b, 1, none⟩ = some v1 ∧ W.cell? ⟨b, 2, none⟩ = some v2 ∧ W.cell? ⟨b, 3, none⟩ = some v3 ∧ W.cell? ⟨b, 4, none⟩ = some v4 :=
  ⟨h.cell 0, h.cell 1, h.cell 2, h.cell 3, h.cell 4⟩
theorem ofInt_wrap (v : BitVec 64) : BitVec.ofInt 64 (IntKind.i64.wrap (v.toNat : Int)) = v := by
  apply BitVec.eq_of_toNat_eq
  have h := v.isLt
  rw [BitVec.toNat_ofInt, IntKind.wrap_i64]
  omega
theorem wrap_ofInt (n : Int) (h : I64 n) : IntKind.i64.wrap ((BitVec.ofInt 64 n).toNat : Int) = n := by
  unfold I64 at h
  rw [BitVec.toNat_ofInt, IntKind.wrap_i64]
  omega
theorem xor_back (n : Int) (h : I64 n) : bits .xor .i64 (bits .xor .i64 n 1) 1 = n := by
  show IntKind.i64.wrap ((BitVec.ofInt 64 (IntKind.i64.wrap ((BitVec.ofInt 64 n ^^^ BitVec.ofInt 64 1).toNat : Int)) ^^^ BitVec.ofInt 64 1).toNat : Int) = n
  rw [ofInt_wrap, BitVec.xor_assoc, BitVec.xor_self, BitVec.xor_zero]
  exact wrap_ofInt n h
theorem set_back (w : World) (b o : Nat) (v z : Value) (h : w.cell? ⟨b, o, none⟩ = some v) : (w.setCell ⟨b, o, none⟩ z).setCell ⟨b, o, none⟩ v = w := by
  rw [Go.Sort.setCell_eq, Go.Sort.setCell_eq, Go.Sort.mapBlock_mapBlock]
  have e : Go.Sort.mapBlock w b (fun c => (c.setIfInBounds o z).setIfInBounds o v) = Go.Sort.mapBlock w b (fun c => c) := Go.Sort.mapBlock_congr _ _ _ _ fun c e fr hc => by
    have hv := h
    rw [cell_of_row w b o c e fr hc] at hv
    apply Array.ext_getElem?
    intro k
    rw [Array.getElem?_setIfInBounds, Array.getElem?_setIfInBounds, Array.size_setIfInBounds]
    by_cases hk : o = k
    · subst hk
      have hlt := (Array.getElem?_eq_some_iff.1 hv).1
      rw [if_pos rfl, if_pos hlt, hv]
    · rw [if_neg hk, if_neg hk]
  rw [e]
  unfold Go.Sort.mapBlock
  have e2 : w.heap.modify b (Go.Sort.onCells fun c => c) = w.heap := by
    apply Array.ext_getElem?
    intro k
    rw [Array.getElem?_modify]
    split
    · cases w.heap[k]? with
      | none => rfl
      | some o => cases o <;> rfl
    · rfl
  rw [e2]
theorem set_get {w : World} {b o : Nat} {v z : Value} (h : w.cell? ⟨b, o, none⟩ = some v) (hf : w.frozen? ⟨b, o, none⟩ = false) : (w.setCell ⟨b, o, none⟩ z).cell? ⟨b, o, none⟩ = some z ∧ (w.setCell ⟨b, o, none⟩ z).frozen? ⟨b, o, none⟩ = false := by
  exact ⟨World.cell?_setCell_same _ _ _ h, (World.frozen?_setCell _ _ _ _).trans hf⟩
def GlRel (V : World) (N : Nat) (i : Value) (wr : World) : Prop := ∃ j : Nat, j ≤ N ∧ i = .int .i64 j ∧ Below V.heap.size V wr
theorem has_snoc (ks : List Int) (x : Int) (j : Nat) (h : j < ks.length) : (ks.take (j + 1)).contains x = ((ks.take j).contains x || ks[j] == x) := by
  rw [List.take_succ_eq_append_getElem h, List.contains_append]
  congr 1
  rw [List.contains_cons, List.contains_nil, Bool.or_false, Bool.beq_comm]
theorem pick_snoc (l : List NT) (p : NT → Bool) (k : Nat) (h : k < l.length) : (l.take (k + 1)).filter p = (l.take k).filter p ++ (if p l[k] then [l[k]] else []) := by
  rw [List.take_succ_eq_append_getElem h, List.filter_append, List.filter_cons, List.filter_nil]
theorem keeps_below {W wc : World} (h : Below W.heap.size W wc) : KeepsOthers W wc := ⟨h.size, fun k _ hk _ => (h.block k (Array.getElem?_eq_some_iff.1 hk).1).trans hk⟩
theorem kps_below {S : Nat → Prop} {B : Nat} {W wc : World} (hB : B ≤ W.heap.size) (h : Below W.heap.size W wc) : KpS (fun _ b => S b) B W wc :=
  ⟨fun b cs t fr hc hs => ⟨h.block b (Array.getElem?_eq_some_iff.1 hc).1, hs⟩, fun hw b hb => by have := hw b hb; have := h.size; omega, h.mono hB⟩
theorem bool_ret {fn : Func} (hr : fn.results = #[ResultVar.cell 6 4]) {tm : Array Value} {w2 : World} {R : Nat} {a : Value} (h4 : tm.getD 6 undef = .pointer (some ⟨R, 0, none⟩)) (hb : w2.cell? ⟨R, 0, none⟩ = some a) :
    (results fn tm).run Tryd.prog w2 = .ok a w2 := by
  have h4' : tm[6]?.getD undef = .pointer (some ⟨R, 0, none⟩) := by simpa using h4
  simp [results, hr, go_sem, h4', hb]
set_option maxRecDepth 100000 in
set_option maxHeartbeats 4000000 in
theorem walks_law (G : Nat → Prop) (a b : NT) (hda : Hd a) (hdb : Hd b) (hza : a.size ≤ 1048576) (hzb : b.size ≤ 1048576) (sa sb : Value) (ks : List Int) (kv : Value) (w : World) (hL : LD w) (ha : Kids G w a.kids sa) (hb : Kids G w b.kids sb) (hk : IntsIn w ks kv) (hk63 : ks.length ≤ 9223372036854775807) :
    Calls Tryd.prog 5 #[.agg #[.int .i64 a.kind, .int .i64 a.at_, .int .i64 a.num, .string ⟨a.name.toArray⟩, sa], .agg #[.int .i64 b.kind, .int .i64 b.at_, .int .i64 b.num, .string ⟨b.name.toArray⟩, sb], kv] w fun e w' => e = .returned (.bool true) ∧ Below w.heap.size w w' := by
  have h1 : 1 ≤ 9 := by decide
  have hf : Fence.wide.fn 5 := trivial
  have hf3 : Fence.wide.fn 41 := trivial
  obtain ⟨Aa, ca, rfl, _⟩ := ha.form
  obtain ⟨Ab, cb, rfl, _⟩ := hb.form
  obtain ⟨Ak, ck, rfl, hkc⟩ := hk
  have hki : IntsIn w ks (.slice Ak ks.length ck) := ⟨Ak, ck, rfl, hkc⟩
  obtain ⟨H, hH⟩ : ∃ H, H = w.heap.size := ⟨_, rfl⟩
  obtain ⟨W0, hW0⟩ : ∃ W, W = w.alloc (.cells #[.int .i64 a.kind, .int .i64 a.at_, .int .i64 a.num, .string ⟨a.name.toArray⟩, .slice Aa a.kids.length ca] NodeT) := ⟨_, rfl⟩
  obtain ⟨H1, hH1⟩ : ∃ H1, H1 = W0.heap.size := ⟨_, rfl⟩
  obtain ⟨W1, hW1⟩ : ∃ W, W = W0.alloc (.cells #[.int .i64 b.kind, .int .i64 b.at_, .int .i64 b.num, .string ⟨b.name.toArray⟩, .slice Ab b.kids.length cb] NodeT) := ⟨_, rfl⟩
  obtain ⟨R, hR⟩ : ∃ R, R = W1.heap.size := ⟨_, rfl⟩
  obtain ⟨W, hW⟩ : ∃ W, W = W1.alloc (.cells #[.bool false] 4) := ⟨_, rfl⟩
  have b0 : Below w.heap.size w W0 := by rw [hW0]; exact (Below.refl _ _).alloc (Nat.le_refl _) _
  have b1 : Below W0.heap.size W0 W1 := by rw [hW1]; exact (Below.refl _ _).alloc (Nat.le_refl _) _
  have b2 : Below W1.heap.size W1 W := by rw [hW]; exact (Below.refl _ _).alloc (Nat.le_refl _) _
  have bb : Below w.heap.size w W := b0.trans ((b1.trans (b2.mono b1.size)).mono b0.size)
  have xa : NodeAt W H a (.slice Aa a.kids.length ca) := by
    have h : NodeAt W0 H a (.slice Aa a.kids.length ca) := by rw [hW0, hH]; exact NodeAt.new w a _
    exact (h.below b1).below b2
  have xb : NodeAt W H1 b (.slice Ab b.kids.length cb) := by
    have h : NodeAt W1 H1 b (.slice Ab b.kids.length cb) := by rw [hW1, hH1]; exact NodeAt.new W0 b _
    exact h.below b2
  have xr : Box W R 4 #[.bool false] := by rw [hW]; exact Box.new _ _ _ _ hR
  have hzz : H < H1 ∧ H1 < R ∧ R < W.heap.size ∧ w.heap.size ≤ H := by
    have e0 : W0.heap.size = w.heap.size + 1 := by rw [hW0]; simp
    have e1 : W1.heap.size = W0.heap.size + 1 := by rw [hW1]; simp
    have e2 : W.heap.size = W1.heap.size + 1 := by rw [hW]; simp
    omega
  have HXA : Hid (∀ w', Below W.heap.size W w' → NodeAt w' H a (.slice Aa a.kids.length ca)) := Lib.hid fun w' hb => xa.below hb
  have HXB : Hid (∀ w', Below W.heap.size W w' → NodeAt w' H1 b (.slice Ab b.kids.length cb)) := Lib.hid fun w' hb => xb.below hb
  have HXR : Hid (∀ w', Below W.heap.size W w' → Box w' R 4 #[.bool false]) := Lib.hid fun w' hb => xr.on hb
  have HKA : Hid (∀ w', Below W.heap.size W w' → Kids G w' a.kids (.slice Aa a.kids.length ca)) := Lib.hid fun w' hb => (ha.below bb).below hb
  have HKB : Hid (∀ w', Below W.heap.size W w' → Kids G w' b.kids (.slice Ab b.kids.length cb)) := Lib.hid fun w' hb' => (hb.below bb).below hb'
  have HKK : Hid (∀ w', Below W.heap.size W w' → IntsIn w' ks (.slice Ak ks.length ck)) := Lib.hid fun w' hb' => (hki.below bb).below hb'
  have HLW : Hid (∀ w', Below W.heap.size W w' → LD w') := Lib.hid fun w' hb => (hL.on bb).on hb
  have HB := Lib.hid bb
  have HWK : Hid (∀ w', Below W.heap.size W w' → _) := Lib.hid fun w' hb => pworks_any w' (HLW.out w' hb)
  have HSA := Lib.hid (fun w' (hb : Below W.heap.size W w') => psmall_any G a hda (by omega) _ w' (HKA.out w' hb))
  have HSB := Lib.hid (fun w' (hb : Below W.heap.size W w') => psmall_any G b hdb (by omega) _ w' (HKB.out w' hb))
  have HW0 := Lib.hid hW0
  have HW1 := Lib.hid hW1
  have HW := Lib.hid hW
  have HH := Lib.hid hH
  have HH1 := Lib.hid hH1
  have HR := Lib.hid hR
  have HZZ := Lib.hid hzz
  have HDA := Lib.hid hda
  have HDB := Lib.hid hdb
  obtain ⟨Na, hNa⟩ : ∃ n, n = a.kids.length := ⟨_, rfl⟩
  obtain ⟨Nb, hNb⟩ : ∃ n, n = b.kids.length := ⟨_, rfl⟩
  obtain ⟨Nk, hNk⟩ : ∃ n, n = ks.length := ⟨_, rfl⟩
  rw [← hNa] at HXA HKA HSA HW0 ⊢
  rw [← hNb] at HXB HKB HSB HW1 ⊢
  rw [← hNk] at HKK hk63 ⊢
  obtain ⟨Za, hZa⟩ : ∃ Z, Z = a.size := ⟨_, rfl⟩
  obtain ⟨Zb, hZb⟩ : ∃ Z, Z = b.size := ⟨_, rfl⟩
  rw [← hZa] at HSA hza
  rw [← hZb] at HSB hzb
  have HNA := Lib.hid hNa
  have HNB := Lib.hid hNb
  have HNK := Lib.hid hNk
  have HZA := Lib.hid hZa
  have HZB := Lib.hid hZb
  have RET : Hid (∀ w3 w4 : World, Below W.heap.size W w3 → Below w3.heap.size w3 w4 → Below w.heap.size w (w4.setCell ⟨R, 0, none⟩ (.bool true)) ∧ (w4.setCell ⟨R, 0, none⟩ (.bool true)).cell? ⟨R, 0, none⟩ = some (.bool true)) := Lib.hid fun w3 w4 h3 h4 => by
    have h5 := h3.trans (h4.mono h3.size)
    exact ⟨(HB.out.trans (h5.mono HB.out.size)).setCell (p := ⟨R, 0, none⟩) (show w.heap.size ≤ R by have := HZZ.out; omega) _, ((HXR.out _ h5).set 0 _).cell 0⟩
  clear hW0 hW1 hW hH hH1 hR b0 b1 b2 bb xa xb xr hzz hda hdb hL ha hb hkc hki hNa hNb hNk hZa hZb
  refine (callsIn_wide (n := 9)).1 ?_
  refine callsIn_of_wp_marks Tryd.func5 rfl hf ?_ rfl
  simp only [Tryd.ntmps5, List.size_toArray, List.length_cons, List.length_nil, Nat.reduceAdd, Nat.reduceSub, Array.replicate_succ, Array.replicate_zero, List.push_toArray, List.append_toArray, List.nil_append, List.cons_append]
  refine wpIn_wide.2 ?_
  go_wp2_with (first | (rw [← HW0.out, ← HH.out]) | (rw [← HW1.out, ← HH1.out]) | (rw [← HW.out, ← HR.out]))
  refine (HWK.out W (Below.refl _ _)).mono ?_
  rintro e w1 ⟨rfl, hb1⟩
  have HB1 := Lib.hid hb1
  have HSA1 := Lib.hid (HSA.out w1 hb1)
  obtain ⟨y0, y1, y2, y3, y4⟩ := HXA.out w1 hb1
  clear hb1 HSA
  go_wp2_with (fail)
  refine HSA1.out.mono ?_
  rintro e w2 ⟨rfl, hb2⟩
  have HB2 := Lib.hid (HB1.out.trans (hb2.mono HB1.out.size))
  clear hb2 HB1 y0 y1 y2 y3 y4 HSA1
  by_cases h4 : 400 < Za
  · rw [if_pos h4]
    have HWK2 := Lib.hid (HWK.out w2 HB2.out)
    go_wp2_with (fail)
    refine HWK2.out.mono ?_
    rintro e w3 ⟨rfl, hb3⟩
    have xr := HXR.out w3 (HB2.out.trans (hb3.mono HB2.out.size))
    have xrc := xr.cell 0
    have xrf := xr.frozen 0
    simp only [List.getElem?_toArray, List.getElem?_cons_zero] at xrc
    obtain ⟨q1, q2⟩ := RET.out _ _ HB2.out hb3
    have HQ1 := Lib.hid q1
    have HQ2 := Lib.hid q2
    clear hb3 q1 q2 xr
    go_wp2_with (fail)
    exact ⟨_, bool_ret rfl rfl HQ2.out, rfl, HQ1.out⟩
  rw [if_neg h4]
  have HSB2 := Lib.hid (HSB.out w2 HB2.out)
  obtain ⟨y0, y1, y2, y3, y4⟩ := HXB.out w2 HB2.out
  clear HSB
  go_wp2_with (fail)
  refine HSB2.out.mono ?_
  rintro e w3 ⟨rfl, hb3⟩
  have HB3 := Lib.hid (HB2.out.trans (hb3.mono HB2.out.size))
  clear hb3 HB2 y0 y1 y2 y3 y4 HSB2
  by_cases h5 : 400 < Zb
  · rw [if_pos h5]
    have HWK3 := Lib.hid (HWK.out w3 HB3.out)
    go_wp2_with (fail)
    refine HWK3.out.mono ?_
    rintro e w4 ⟨rfl, hb4⟩
    have xr := HXR.out w4 (HB3.out.trans (hb4.mono HB3.out.size))
    have xrc := xr.cell 0
    have xrf := xr.frozen 0
    simp only [List.getElem?_toArray, List.getElem?_cons_zero] at xrc
    obtain ⟨q1, q2⟩ := RET.out _ _ HB3.out hb4
    have HQ1 := Lib.hid q1
    have HQ2 := Lib.hid q2
    clear hb4 q1 q2 xr
    go_wp2_with (fail)
    exact ⟨_, bool_ret rfl rfl HQ2.out, rfl, HQ1.out⟩
  rw [if_neg h5]
  by_cases h6 : 20 < Nk
  · have h6' : (20 : Int) < (Nk : Int) := by omega
    have HWK3 := Lib.hid (HWK.out w3 HB3.out)
    go_wp2_with (fail)
    refine HWK3.out.mono ?_
    rintro e w4 ⟨rfl, hb4⟩
    have xr := HXR.out w4 (HB3.out.trans (hb4.mono HB3.out.size))
    have xrc := xr.cell 0
    have xrf := xr.frozen 0
    simp only [List.getElem?_toArray, List.getElem?_cons_zero] at xrc
    obtain ⟨q1, q2⟩ := RET.out _ _ HB3.out hb4
    have HQ1 := Lib.hid q1
    have HQ2 := Lib.hid q2
    clear hb4 q1 q2 xr
    go_wp2_with (fail)
    exact ⟨_, bool_ret rfl rfl HQ2.out, rfl, HQ1.out⟩
  have h6' : decide ((20 : Int) < (Nk : Int)) = false := by rw [decide_eq_false_iff_not]; omega
  have h6'' : (Nk : Int) ≤ 20 := by omega
  have HWL := Lib.hid (rwalk_any (G := G) a HDA.out (.slice Aa Na ca) w3 (HKA.out w3 HB3.out) (by rw [← HZA.out]; omega))
  obtain ⟨y0, y1, y2, y3, y4⟩ := HXA.out w3 HB3.out
  clear HWK RET
  go_wp2_with (fail)
  refine HWL.out.mono ?_
  intro e w4 hp
  unfold WalkPost at hp
  obtain ⟨v, rfl, ho, hb4⟩ := hp
  obtain ⟨Aw, cw, rfl⟩ := ho.form
  have hwl := walk_len a
  rw [hwl, ← HZA.out] at ho ⊢
  have HB4 := Lib.hid (HB3.out.trans (hb4.mono HB3.out.size))
  obtain ⟨Wt, hWt⟩ : ∃ Wt, Wt = w4.heap.size := ⟨_, rfl⟩
  obtain ⟨w5, hw5⟩ : ∃ w5, w5 = w4.alloc (.cells #[.slice Aw Za cw] RowT) := ⟨_, rfl⟩
  have hb5 : Below w4.heap.size w4 w5 := by rw [hw5]; exact (Below.refl _ _).alloc (Nat.le_refl _) _
  have hbt : Boxed w5 Wt RowT (.slice Aw Za cw) := by rw [hw5, hWt]; exact Boxed.new _ _ _
  have HB5 := Lib.hid (HB4.out.trans (hb5.mono HB4.out.size))
  have HOW : Hid (∀ w', Below w5.heap.size w5 w' → Own w3.heap.size (fun b => G b ∧ b < w3.heap.size) w' a.walk (.slice Aw Za cw)) := Lib.hid fun w' hb => (ho.below hb5).below hb
  have HBT : Hid (∀ w', Below w5.heap.size w5 w' → Boxed w' Wt RowT (.slice Aw Za cw)) := Lib.hid fun w' hb => (show Box w5 Wt RowT _ from hbt).on hb
  have HW5 := Lib.hid hw5
  have HWT := Lib.hid hWt
  obtain ⟨z0, z1, z2, z3, z4⟩ := HXA.out w5 HB5.out
  have HWA := Lib.hid (pwalk_any a (.slice Aa Na ca) w5)
  have hsn := fun w => seq_nil w5.heap.size w
  have hZ0 : 0 < Za := by rw [HZA.out]; exact size_pos a
  have HW3S : Hid (w3.heap.size ≤ w5.heap.size) := Lib.hid (Nat.le_trans hb4.size hb5.size)
  clear ho hb4 hw5 hWt hb5 hbt y0 y1 y2 y3 y4 HWL
  go_wp2_with (first | (rw [← HW5.out, ← HWT.out]))
  refine HWA.out.mono ?_
  rintro e w6 ⟨rfl, hw6⟩
  go_wp2_with (fail)
  obtain ⟨gw, ow, hAw⟩ : ∃ gw ow, Aw = some ⟨gw, ow, none⟩ := by
    have h := (HOW.out w5 (Below.refl _ _)).kids (G' := fun _ => True) (fun _ _ => trivial) (fun _ _ => trivial)
    obtain ⟨b, off, cap, hs, _⟩ := h.at_ 0 (by rw [hwl, ← HZA.out]; exact hZ0)
    injection hs with h1 _ _
    exact ⟨b, off, h1⟩
  subst hAw
  have HWC : Hid (∀ W', Below w5.heap.size w5 W' → ∀ (j : Nat) (hj : j < a.walk.length), ∃ q, W'.cell? ⟨gw, ow + j * 5, none⟩ = some (.int .i64 a.walk[j].kind) ∧ W'.cell? ⟨gw, ow + j * 5 + 1, none⟩ = some (.int .i64 a.walk[j].at_) ∧ W'.cell? ⟨gw, ow + j * 5 + 2, none⟩ = some (.int .i64 a.walk[j].num) ∧ W'.cell? ⟨gw, ow + j * 5 + 3, none⟩ = some (.string ⟨a.walk[j].name.toArray⟩) ∧ W'.cell? ⟨gw, ow + j * 5 + 4, none⟩ = some q ∧ Kids (fun _ => True) W' a.walk[j].kids q ∧ Hd a.walk[j]) := Lib.hid fun W' hb j hj => by
    have h := (HOW.out W' hb).kids (G' := fun _ => True) (fun _ _ => trivial) (fun _ _ => trivial)
    obtain ⟨b, off, cap, hs, _, hd, c0, c1, c2, c3, q, c4, hk⟩ := h.at_ j hj
    injection hs with h1 _ _
    injection h1 with h1
    injection h1 with h1 h2 _
    subst h1; subst h2
    exact ⟨q, c0, c1, c2, c3, c4, hk, hd⟩
  obtain ⟨w7, hw7⟩ : ∃ w7, w7 = ((w5.alloc (.cells #[.int .i64 a.kind, .int .i64 a.at_, .int .i64 a.num, .string ⟨a.name.toArray⟩, .slice Aa Na ca] NodeT)).alloc (.cells #[.int .i64 0] 3)) := ⟨_, rfl⟩
  have hb7 : Below w5.heap.size w5 w7 := by rw [hw7]; exact ((Below.refl _ _).alloc (Nat.le_refl _) _).alloc (by rw [World.size_alloc]; omega) _
  have hbx7 : Box w7 w5.heap.size NodeT #[.int .i64 a.kind, .int .i64 a.at_, .int .i64 a.num, .string ⟨a.name.toArray⟩, .slice Aa Na ca] := by
    rw [hw7]; exact Box.alloc (Box.new _ _ _ _ rfl) _
  have hbN : Boxed w7 (w5.heap.size + 1) 3 (.int .i64 (([] : List (NE G w5)).length : Nat)) := by
    rw [hw7]
    have h := Boxed.new (w5.alloc (.cells #[.int .i64 a.kind, .int .i64 a.at_, .int .i64 a.num, .string ⟨a.name.toArray⟩, .slice Aa Na ca] NodeT)) 3 (.int .i64 0)
    rw [World.size_alloc] at h
    exact h
  have hz7 : w7.heap.size = w5.heap.size + 2 := by rw [hw7]; simp
  rw [← hw7]
  have hR5 : R < w5.heap.size := by have := HB5.out.size; have := HZZ.out; omega
  have hWt5 : Wt < w5.heap.size := (HBT.out w5 (Below.refl _ _)).lt
  clear hw7 hw6 hsn HWA z0 z1 z2 z3 z4
  refine (wpIn_wide (n := 9)).1 ?_
  refine wpIn_rangeFunc_ownH rfl h1 (gf := 41) (lb := #[.pointer (some ⟨w5.heap.size, 0, none⟩)]) rfl hf3 (enters_of Tryd.func41 (by kernel_rfl) rfl)
    (walk_stops (G := G) 8 w5.heap.size (fun _ b => b = w5.heap.size + 1) a (.slice Aa Na ca) w5 w7 hb7 HDA.out (HKA.out w5 HB5.out) hbx7 (fun _ _ _ _ h => h) (fun W hb b h => by have := hb.size; omega))
    (fun h1 h2 => KpS.trans h1 h2) (kps_put hb7.size (fun _ _ _ _ _ _ _ _ h => h)) (Below.refl _ _) (fun _ => rfl)
    (fun (pre : List (NE G w5)) (W : World) => Boxed W (w5.heap.size + 1) 3 (.int .i64 pre.length) ∧ Below w5.heap.size w5 W ∧ w7.heap.size ≤ W.heap.size)
    (fun c q W => ∃ (pre : List (NE G w5)) (x : NE G w5), q = pre ++ [x] ∧ a.walk[pre.length]? ≠ some x.t) ?own
    (fun _ _ _ _ _ hs _ _ => hs)
    ⟨hbN, hb7, Nat.le_refl _⟩
    (fun x a' W => ∃ Bx, Box W Bx NodeT #[.int .i64 x.1.1.kind, .int .i64 x.1.1.at_, .int .i64 x.1.1.num, .string ⟨x.1.1.name.toArray⟩, x.1.2] ∧ w7.heap.size ≤ Bx ∧ a' = { tmps := #[.agg #[.int .i64 a.kind, .int .i64 a.at_, .int .i64 a.num, .string ⟨a.name.toArray⟩, .slice Aa Na ca], .agg #[.int .i64 b.kind, .int .i64 b.at_, .int .i64 b.num, .string ⟨b.name.toArray⟩, .slice Ab Nb cb], .slice Ak Nk ck, .pointer (some ⟨H, 0, none⟩), .pointer (some ⟨H1, 0, none⟩), undef, .pointer (some ⟨R, 0, none⟩), .pointer (some ⟨Wt, 0, none⟩), .func (.func 41) #[] #[.pointer (some ⟨w5.heap.size, 0, none⟩)], .pointer (some ⟨w5.heap.size + 1, 0, none⟩), .pointer (some ⟨Bx, 0, none⟩), undef, undef, undef, undef, undef, undef, undef, undef, undef, undef, .bool true, .bool false, .bool false, .agg #[.int .i64 a.kind, .int .i64 a.at_, .int .i64 a.num, .string ⟨a.name.toArray⟩, .slice Aa Na ca], .int .i64 1, .bool false, .bool false, .bool false, .agg #[.int .i64 b.kind, .int .i64 b.at_, .int .i64 b.num, .string ⟨b.name.toArray⟩, .slice Ab Nb cb], .int .i64 1, .bool false, .bool false, .bool false, .slice Ak Nk ck, .int .i64 Nk, .bool false, .bool false, undef, .agg #[.int .i64 a.kind, .int .i64 a.at_, .int .i64 a.num, .string ⟨a.name.toArray⟩, .slice Aa Na ca], .slice (some ⟨gw, ow, none⟩) Za cw, .agg #[.int .i64 a.kind, .int .i64 a.at_, .int .i64 a.num, .string ⟨a.name.toArray⟩, .slice Aa Na ca], .func (.func 41) #[] #[.pointer (some ⟨w5.heap.size, 0, none⟩)], .func (.func 41) #[] #[.pointer (some ⟨w5.heap.size, 0, none⟩)], .bool false, .func (.func 41) #[] #[.pointer (some ⟨w5.heap.size, 0, none⟩)], .agg #[.int .i64 x.1.1.kind, .int .i64 x.1.1.at_, .int .i64 x.1.1.num, .string ⟨x.1.1.name.toArray⟩, x.1.2], undef, undef, undef, undef, undef, undef, undef, undef, undef, undef, undef, undef, undef, undef, undef, undef, undef, undef, undef, undef, undef, undef, undef, undef, undef, undef, undef, undef, undef, undef, undef, undef, undef, undef, undef, undef, undef, undef, undef, undef, undef, undef, undef, undef, undef, undef, undef, undef, undef, undef, undef, undef, undef, undef, undef, undef, undef, undef, undef, undef, undef, undef, undef, undef, undef, undef, undef, undef, undef, undef, undef, undef, undef, undef, undef, undef, undef, undef, undef, undef, undef, undef, undef, undef, undef, undef, undef, undef, undef, undef, undef, undef, undef, undef, undef, undef, undef, undef, undef, undef, undef, undef, undef, undef, undef, undef, undef, undef, undef, undef, undef, undef, undef, undef, undef, undef, undef, undef, undef, undef, undef, undef, undef, undef, undef, undef, undef, undef, undef, undef, undef, undef, undef, undef, undef, undef, undef, undef, undef, undef, undef, undef, undef, undef, undef, undef, undef, undef, undef, undef, undef, undef, undef, undef, undef, undef, undef, undef, undef, undef, undef, undef, undef, undef, undef, undef, undef, undef, undef, undef, undef], defers := [] }) ?ax ?assign ?body ?done ?stop
  case own =>
    rintro pre W W' row ⟨hv, hB, hsz⟩ hg hr
    exact ⟨(boxed_own (w5.heap.size + 1) 3 (fun _ : Unit => .int .i64 pre.length)) () W W' row hv hg (fun r e => (hr r e).2), hB.grown hg hB.size (fun k e => by have := (hr k e).1; omega), Nat.le_trans hsz hg.size⟩
  case ax =>
    rintro x a' _ W W' row ⟨Bx, hbx, hlt, rfl⟩ hg hr
    exact ⟨Bx, (grownBy_keeps_cells hg (fun r e => (hr r e).2) hbx rfl).trans hbx, hlt, rfl⟩
  case assign =>
    rintro l pre x W K' ⟨hv, hB, hsz⟩ hK'
    have HV := Lib.hid hv
    have HBW := Lib.hid hB
    obtain ⟨⟨u, q⟩, hdx, hkx⟩ := x
    change Kids _ w5 u.kids q at hkx
    obtain ⟨Aq, cq, rfl, _⟩ := hkx.form
    clear hv hB
    unfold encN
    dsimp only at hK' ⊢
    gi_wp2
    exact hK' _ _ ((KeepsOthers.alloc _ _).from _) ⟨fun b cs t fr hc hs => ⟨Below.heap_alloc W _ b (Array.getElem?_eq_some_iff.1 hc).1, hs⟩, fun hw b h => by have := hw b h; rw [World.size_alloc]; omega, (Below.refl _ W).alloc HBW.out.size _⟩ ⟨HV.out.alloc _, HBW.out.alloc HBW.out.size _, by rw [World.size_alloc]; omega⟩ ⟨W.heap.size, Box.new _ _ _ _ rfl, hsz, rfl⟩
  case stop =>
    rintro D c q W hD hq ⟨pre, x, rfl, hne⟩ hK
    refine absurd ?_ hne
    obtain ⟨r, hr⟩ := hq
    rw [← hr, List.map_append, List.append_assoc, List.getElem?_append_right (by simp), List.length_map, Nat.sub_self]
    rfl
  case body =>
    rintro l pre x a' W hll _ ⟨hv, hB, hsz⟩ ⟨Bx, hbx, hBx, rfl⟩ hlt
    have HNX : Hid (∀ t : NT, a.walk[pre.length]? = some t → t ≠ x.t → ∃ (pre2 : List (NE G w5)) (x2 : NE G w5), pre ++ [x] = pre2 ++ [x2] ∧ a.walk[pre2.length]? ≠ some x2.t) := Lib.hid fun t h1 h2 => ⟨pre, x, rfl, fun h3 => h2 (Option.some.inj (h1.symm.trans h3))⟩
    have HSL : Hid ((pre ++ [x]).length = pre.length + 1) := Lib.hid (by simp)
    obtain ⟨qx, hqx⟩ : ∃ qx, qx = pre ++ [x] := ⟨_, rfl⟩
    rw [← hqx] at HNX HSL ⊢
    have hux : x.t = x.1.1 := rfl
    rw [hux] at HNX
    obtain ⟨⟨u, q⟩, hdx, hkx⟩ := x
    change Kids _ w5 u.kids q at hkx
    obtain ⟨Aq, cq, rfl, _⟩ := hkx.form
    dsimp only at hbx HNX ⊢
    clear hqx hux
    obtain ⟨j, hj⟩ : ∃ j, j = pre.length := ⟨_, rfl⟩
    rw [← hj] at hv hlt HNX HSL
    clear hj
    have hlt2 : j < a.walk.length := by rw [hwl]; exact hlt
    obtain ⟨qv, d0, d1, d2, d3, d4, hkv, hdv⟩ := HWC.out W hB j hlt2
    have hwj : a.walk[j]? = some a.walk[j] := List.getElem?_eq_getElem hlt2
    obtain ⟨v, hvv⟩ : ∃ v, v = a.walk[j] := ⟨_, rfl⟩
    rw [← hvv] at d0 d1 d2 d3 hkv hdv hwj
    have HNV := Lib.hid (HNX.out v hwj)
    obtain ⟨Av, cv, rfl, _⟩ := hkv.form
    obtain ⟨Mv, hMv⟩ : ∃ n, n = v.kids.length := ⟨_, rfl⟩
    have HSMC := Lib.hid (fun d os => Calls.regrown_of (rsame_any (G := fun _ => True) u hdx v (.slice Aq u.kids.length cq) (.slice Av v.kids.length cv) (Go.Sort.grow (redrawn W d) os) hdv (((hkx.below hB).mono (fun _ _ => trivial)).below (below_regrown W d os)) (hkv.below (below_regrown W d os))))
    rw [← hMv] at d4 HSMC
    have HV := Lib.hid hv
    have HBW := Lib.hid hB
    have HBX := Lib.hid hbx
    have hltZ : j < Za := by rw [HZA.out]; exact hlt
    have hjZ : (j : Int) < (Za : Int) := by omega
    have hjZ3 : decide (Za ≤ j) = false := by rw [decide_eq_false_iff_not]; omega
    have hjZ4 : ¬ Za ≤ j := by omega
    have hjZ2 : decide ((Za : Int) ≤ (j : Int)) = false := by rw [decide_eq_false_iff_not]; omega
    have HS : Hid (∀ w', Below W.heap.size W w' → w'.cell? ⟨w5.heap.size + 1, 0, none⟩ = some (.int .i64 j) ∧ w'.cell? ⟨Wt, 0, none⟩ = some (.slice (some ⟨gw, ow, none⟩) Za cw) ∧ w'.cell? ⟨Bx, 0, none⟩ = some (.int .i64 u.kind) ∧ w'.cell? ⟨Bx, 1, none⟩ = some (.int .i64 u.at_) ∧ w'.cell? ⟨Bx, 2, none⟩ = some (.int .i64 u.num) ∧ w'.cell? ⟨Bx, 3, none⟩ = some (.string ⟨u.name.toArray⟩) ∧ w'.cell? ⟨Bx, 4, none⟩ = some (.slice Aq u.kids.length cq) ∧ w'.cell? ⟨gw, ow + j * 5, none⟩ = some (.int .i64 v.kind) ∧ w'.cell? ⟨gw, ow + j * 5 + 1, none⟩ = some (.int .i64 v.at_) ∧ w'.cell? ⟨gw, ow + j * 5 + 2, none⟩ = some (.int .i64 v.num) ∧ w'.cell? ⟨gw, ow + j * 5 + 3, none⟩ = some (.string ⟨v.name.toArray⟩) ∧ w'.cell? ⟨gw, ow + j * 5 + 4, none⟩ = some (.slice Av Mv cv)) := Lib.hid fun w' hb => by
      have e1 : Boxed w' _ _ _ := (hb.block _ HV.out.lt).trans HV.out
      have e2 := HBT.out w' (hB.trans (hb.mono hB.size))
      have e3 := HBX.out.on hb
      have k : ∀ {o : Nat} {y : Value}, W.cell? ⟨gw, o, none⟩ = some y → w'.cell? ⟨gw, o, none⟩ = some y := fun h => (hb.cell (p := ⟨gw, _, none⟩) (World.block_lt_of_cell? _ _ h)).trans h
      exact ⟨e1.cell, e2.cell, e3.cell 0, e3.cell 1, e3.cell 2, e3.cell 3, e3.cell 4, k d0, k d1, k d2, k d3, k d4⟩
    have HRX : Hid (∀ w', Below W.heap.size W w' → Box w' R 4 #[.bool false]) := Lib.hid fun w' hb => HXR.out w' (HB5.out.trans ((hB.trans (hb.mono hB.size)).mono HB5.out.size))
    clear hv hB hbx d0 d1 d2 d3 d4 hkv hdv hwj hvv HNX hMv hlt2
    have k0 := cell_regrown (HS.out W (Below.refl _ _)).1
    obtain ⟨_, k1, k2, k3, k4, k5, k6, k7, k8, k9, k10, k11⟩ := HS.out W (Below.refl _ _)
    have k1 := cell_regrown k1
    have k2 := cell_regrown k2
    have k3 := cell_regrown k3
    have k4 := cell_regrown k4
    have k5 := cell_regrown k5
    have k6 := cell_regrown k6
    have k7 := cell_regrown k7
    have k8 := cell_regrown k8
    have k9 := cell_regrown k9
    have k10 := cell_regrown k10
    have k11 := cell_regrown k11
    by_cases hat : u.at_ = v.at_
    · have hatb : (u.at_ != v.at_) = false := by rw [bne_eq_false_iff_eq]; exact hat
      have hatv : u.at_ = v.at_ := hat
      obtain ⟨r, hr⟩ : ∃ r, r = sameN u v := ⟨_, rfl⟩
      rw [← hr, hatv] at HSMC
      have HRR := Lib.hid hr
      clear hr hat
      cases r
      · gi_wp2_with (fail)
        refine region_round_quiet (by kernel_rfl) (by kernel_rfl) (lexB_fast (by kernel_rfl)) ?_
        repeat (go_big_quiet_step (exact HSMC.out _ _))
        refine wpQuiet_nil ?_
        rintro _ ⟨pp, rfl⟩
        have hbc := below_regrown W pp.d pp.os
        clear k0 k1 k2 k3 k4 k5 k6 k7 k8 k9 k10 k11
        generalize Go.Sort.grow (redrawn W pp.d) pp.os = wc at hbc ⊢
        have HBC := Lib.hid hbc
        clear hbc
        have xr := HRX.out wc HBC.out
        have xrc := xr.cell 0
        have xrf := xr.frozen 0
        simp only [List.getElem?_toArray, List.getElem?_cons_zero] at xrc
        clear xr
        gi_wp2
        exact ⟨((keeps_below HBC.out).trans (KeepsOthers.setCell _ _ _)).from _, HNV.out (fun e => by have h := HRR.out; rw [← e, sameN_self] at h; cases h)⟩
      · gi_wp2_with (fail)
        refine region_round_quiet (by kernel_rfl) (by kernel_rfl) (lexB_fast (by kernel_rfl)) ?_
        repeat (go_big_quiet_step (exact HSMC.out _ _))
        refine wpQuiet_nil ?_
        rintro _ ⟨pp, rfl⟩
        have hbc := below_regrown W pp.d pp.os
        clear k0 k1 k2 k3 k4 k5 k6 k7 k8 k9 k10 k11
        generalize Go.Sort.grow (redrawn W pp.d) pp.os = wc at hbc ⊢
        have HBC := Lib.hid hbc
        clear hbc
        have xn : Boxed wc (w5.heap.size + 1) 3 (.int .i64 j) := (HBC.out.block _ HV.out.lt).trans HV.out
        have xnc := xn.cell
        have xnf := xn.frozen
        have XN := Lib.hid xn
        clear xn
        gi_wp2
        refine ⟨((keeps_below HBC.out).trans (KeepsOthers.setCell _ _ _)).from _, (kps_below HBW.out.size HBC.out).trans (kps_cell (by omega) _), ?_, (HBW.out.trans (HBC.out.mono HBW.out.size)).setCell (p := ⟨w5.heap.size + 1, 0, none⟩) (show w5.heap.size ≤ w5.heap.size + 1 by omega) _, by rw [World.size_setCell]; exact Nat.le_trans hsz HBC.out.size⟩
        rw [HSL.out]
        exact XN.out.set _
    · have hatb : (u.at_ != v.at_) = true := by rw [bne_iff_ne]; exact hat
      gi_wp2_with (fail)
      refine region_round_quiet (by kernel_rfl) (by kernel_rfl) (lexB_fast (by kernel_rfl)) ?_
      repeat (go_big_quiet_step (fail))
      refine wpQuiet_nil ?_
      rintro _ ⟨pp, rfl⟩
      have hbc := below_regrown W pp.d pp.os
      clear k0 k1 k2 k3 k4 k5 k6 k7 k8 k9 k10 k11
      generalize Go.Sort.grow (redrawn W pp.d) pp.os = wc at hbc ⊢
      have HBC := Lib.hid hbc
      clear hbc
      have xr := HRX.out wc HBC.out
      have xrc := xr.cell 0
      have xrf := xr.frozen 0
      simp only [List.getElem?_toArray, List.getElem?_cons_zero] at xrc
      clear xr
      gi_wp2
      exact ⟨((keeps_below HBC.out).trans (KeepsOthers.setCell _ _ _)).from _, HNV.out (fun e => hat (by rw [← e]))⟩
  case done =>
    rintro D ys W hD hys ⟨hv, hB, hsz⟩ hK
    have hjZ : ys.length = Za := by have := congrArg List.length hys; rw [List.length_map, hwl] at this; rw [HZA.out]; exact this
    rw [hjZ] at hv
    have hDW : D < W.heap.size := (Array.getElem?_eq_some_iff.1 hK).1
    have HKD : Hid (∀ w', Below W.heap.size W w' → w'.heap[D]? = some (.deferred (some []))) := Lib.hid fun w' hb => (hb.block D hDW).trans hK
    have HV : Hid (∀ w', Below W.heap.size W w' → Boxed w' (w5.heap.size + 1) 3 (.int .i64 Za)) := Lib.hid fun w' hb => (hb.block _ hv.lt).trans hv
    have HBW := Lib.hid hB
    have HB5W : Hid (∀ w', Below W.heap.size W w' → Below w5.heap.size w5 w') := Lib.hid fun w' hb => HBW.out.trans (hb.mono HBW.out.size)
    have HB0W := Lib.hid fun w' (hb : Below W.heap.size W w') => HB5.out.trans ((HB5W.out w' hb).mono HB5.out.size)
    have HKS : Hid (∀ w', Below W.heap.size W w' → IntsIn w' ks (.slice Ak Nk ck)) := Lib.hid fun w' hb => HKK.out w' (HB0W.out w' hb)
    have HTC : Hid (∀ w', Below W.heap.size W w' → w'.cell? ⟨Wt, 0, none⟩ = some (.slice (some ⟨gw, ow, none⟩) Za cw)) := Lib.hid fun w' hb => (HBT.out w' (HB5W.out w' hb)).cell
    have HWD : Hid (∀ w', Below W.heap.size W w' → ∀ (j : Nat) (hj : j < a.walk.length), ∃ q, w'.cell? ⟨gw, ow + j * 5, none⟩ = some (.int .i64 a.walk[j].kind) ∧ w'.cell? ⟨gw, ow + j * 5 + 1, none⟩ = some (.int .i64 a.walk[j].at_) ∧ w'.cell? ⟨gw, ow + j * 5 + 2, none⟩ = some (.int .i64 a.walk[j].num) ∧ w'.cell? ⟨gw, ow + j * 5 + 3, none⟩ = some (.string ⟨a.walk[j].name.toArray⟩) ∧ w'.cell? ⟨gw, ow + j * 5 + 4, none⟩ = some q ∧ Kids (fun b => G b ∧ b < w3.heap.size) w' a.walk[j].kids q ∧ Hd a.walk[j]) := Lib.hid fun w' hb j hj => own_node (HOW.out w' (HB5W.out w' hb)) j hj
    have hwZ : a.walk.length = Za := by rw [hwl]; exact HZA.out.symm
    have hsW : w3.heap.size ≤ W.heap.size := Nat.le_trans HW3S.out HBW.out.size
    clear hv hB hK hys HWC
    gi_wp2_with (fail)
    go_wp2_with (fail)
    go_loopw [11, 12] (fun o i wr => WsRel G w3.heap.size W Za a ks o i wr) (fun _ i _ => Za - (intOf i).toNat)
    case atStart => unfold WsRel; exact ⟨0, Nat.zero_le _, rfl, Lib.hid (Own.nil_ _ _ _), Below.refl _ _⟩
    case round =>
      obtain ⟨k, hk, rfl, ho, hb⟩ := hrel
      have xt := HTC.out _ hb
      by_cases hlt : k < Za
      · have hlt2 : k < a.walk.length := by rw [hwZ]; exact hlt
        obtain ⟨qv, d0, d1, d2, d3, d4, hkv, hdv⟩ := HWD.out _ hb k hlt2
        have HST := Lib.hid (pick_snoc a.walk (fun u => ks.contains u.kind) k hlt2)
        obtain ⟨v, hvv⟩ : ∃ v, v = a.walk[k] := ⟨_, rfl⟩
        rw [← hvv] at d0 d1 d2 d3 hkv hdv HST
        obtain ⟨Av, cv, rfl, _⟩ := hkv.form
        obtain ⟨Mv, hMv⟩ : ∃ n, n = v.kids.length := ⟨_, rfl⟩
        rw [← hMv] at d4 hkv
        obtain ⟨o1, co, rfl⟩ := ho.out.form
        obtain ⟨L1, hL1⟩ : ∃ L1, L1 = (a.walk.take k).filter (fun u => ks.contains u.kind) := ⟨_, rfl⟩
        rw [← hL1] at HST ho ⊢
        have HSZ1 : Hid (L1.length + 1 ≤ 1099511627776) := Lib.hid (by rw [hL1]; have := List.length_filter_le (fun u : NT => ks.contains u.kind) (a.walk.take k); have := List.length_take_le k a.walk; omega)
        obtain ⟨m1, hm1⟩ : ∃ m1, m1 = L1.length := ⟨_, rfl⟩
        have HM1 := Lib.hid hm1
        rw [← hm1]
        have HKV := Lib.hid hkv
        have HDV := Lib.hid hdv
        have HBR := Lib.hid hb
        have HVC : Hid (∀ w', Below wr.heap.size wr w' → w'.cell? ⟨Wt, 0, none⟩ = some (.slice (some ⟨gw, ow, none⟩) Za cw) ∧ w'.cell? ⟨gw, ow + k * 5, none⟩ = some (.int .i64 v.kind) ∧ w'.cell? ⟨gw, ow + k * 5 + 1, none⟩ = some (.int .i64 v.at_) ∧ w'.cell? ⟨gw, ow + k * 5 + 2, none⟩ = some (.int .i64 v.num) ∧ w'.cell? ⟨gw, ow + k * 5 + 3, none⟩ = some (.string ⟨v.name.toArray⟩) ∧ w'.cell? ⟨gw, ow + k * 5 + 4, none⟩ = some (.slice Av Mv cv)) := Lib.hid fun w' hbb => by
          have kk : ∀ {o : Nat} {y : Value}, wr.cell? ⟨gw, o, none⟩ = some y → w'.cell? ⟨gw, o, none⟩ = some y := fun h => (hbb.cell (p := ⟨gw, _, none⟩) (World.block_lt_of_cell? _ _ h)).trans h
          exact ⟨(hbb.cell (p := ⟨Wt, 0, none⟩) (World.block_lt_of_cell? _ _ xt)).trans xt, kk d0, kk d1, kk d2, kk d3, kk d4⟩
        clear hdv hkv hvv hMv hL1 hb d0 d1 d2 d3 d4 hm1
        go_wp2_with (fail)
        go_loopw [13, 14] (fun b i w' => WiRel wr Nk ks v.kind b i w') (fun _ i _ => Nk - (intOf i).toNat)
        case atStart => unfold WiRel; exact ⟨0, Nat.zero_le _, rfl, rfl, Below.refl _ _⟩
        case round =>
          obtain ⟨m, hm, rfl, rfl, hb1⟩ := hrel
          obtain ⟨e0, e1, e2, e3, e4, e5⟩ := HVC.out _ hb1
          obtain ⟨r, hr⟩ : ∃ r, r = (ks.take m).contains v.kind := ⟨_, rfl⟩
          rw [← hr]
          by_cases hmk : m < Nk
          · have hmk2 : m < ks.length := by rw [← HNK.out]; exact hmk
            obtain ⟨Ax, cx, hsx, hcx⟩ := HKS.out _ (HBR.out.trans (hb1.mono HBR.out.size))
            obtain ⟨bx, ox, hAx, hcx⟩ := hcx (by omega)
            have hcy := hcx m hmk2
            obtain ⟨y, hy⟩ : ∃ y, y = ks[m] := ⟨_, rfl⟩
            rw [← hy] at hcy
            injection hsx with hsx1 hsx2 hsx3
            rw [hAx] at hsx1
            subst hsx1
            have HSN := Lib.hid (has_snoc ks v.kind m hmk2)
            rw [← hr, ← hy] at HSN
            have HB1 := Lib.hid hb1
            clear hb1 hcx hsx2 hsx3 hAx hy hr
            cases r
            · go_wp2_with (fail)
              go_quiet (fail)
              go_wp2_with (fail)
              go_roundw
              case rel => unfold WiRel; exact ⟨m + 1, by omega, by go_num, by rw [HSN.out]; rfl, below_drewN HB1.out _⟩
              case measure => simp [intOf]; omega
            · go_wp2_with (fail)
              go_quiet (fail)
              go_wp2_with (fail)
              go_roundw
              case rel => unfold WiRel; exact ⟨m + 1, by omega, by go_num, by rw [HSN.out]; rfl, below_drewN HB1.out _⟩
              case measure => simp [intOf]; omega
          · have hmN : m = Nk := by omega
            have hr2 : r = ks.contains v.kind := by rw [hr, hmN, HNK.out, List.take_length]
            have HB1 := Lib.hid hb1
            have HO1 := Lib.hid (ho.out.below hb1)
            rw [← hr2] at HST
            clear ho hr hr2 hb1
            cases r
            · go_wp2_with (fail)
              go_roundw
              case rel => unfold WsRel; exact ⟨k + 1, by omega, by go_num, Lib.hid (by rw [HST.out]; simpa [← HM1.out] using HO1.out), HBR.out.trans (HB1.out.mono HBR.out.size)⟩
              case measure => simp [intOf]; omega
            · have hbU : Below wr.heap.size wr (wr.alloc (.cells #[.int .i64 v.kind, .int .i64 v.at_, .int .i64 v.num, .string ⟨v.name.toArray⟩, .slice Av Mv cv] NodeT)) := (Below.refl _ _).alloc (Nat.le_refl _) _
              have HN1 := Lib.hid (own_wk (own_one2 (G := fun b => (G b ∧ b < w3.heap.size) ∧ b < W.heap.size) v HDV.out (.slice Av Mv cv) (((HKV.out.below HB1.out).below hbU).mono fun b h => ⟨h, Nat.lt_of_lt_of_le h.2 hsW⟩)))
              have HOU := Lib.hid (HO1.out.below hbU)
              have hbw := HBR.out.trans (HB1.out.mono HBR.out.size)
              have HBU := Lib.hid (hbw.trans (hbU.mono hbw.size))
              rw [← HM1.out] at HOU
              clear hbw hbU
              go_wp2_with (at_builtin; refine wpList_nodes (G := fun b => G b ∧ b < w3.heap.size) (w0 := W) rfl (.tmp 98) (.tmp 103) rfl L1 [v] (.slice o1 m1 co) (some ⟨wr.heap.size, 0, none⟩) 1 1 rfl rfl HOU.out HN1.out.1 HN1.out.2 (by simp) rfl HBU.out HSZ1.out ?_; intro A4 c4 wx ho4 hb4; have HO4 := Lib.hid ho4; have HBX4 := Lib.hid hb4; clear ho4 hb4)
              go_roundw
              case rel => unfold WsRel; exact ⟨k + 1, by omega, by go_num, Lib.hid (by rw [HST.out, if_pos rfl]; have q := HO4.out; rw [List.length_append] at q; exact q), HBX4.out⟩
              case measure => simp [intOf]; omega
      · have hkZ : k = Za := by omega
        obtain ⟨y0, y1, y2, y3, y4⟩ := HXA.out _ (HB0W.out _ hb)
        have HPF := Lib.hid (pfind_any G a HDA.out (by rw [← HZA.out]; omega) ks (.slice Aa Na ca) (.slice Ak Nk ck) wr (HLW.out _ (HB0W.out _ hb)) (HKA.out _ (HB0W.out _ hb)) (HKS.out _ hb) (by rw [← HNK.out]; omega))
        go_wp2_with (fail)
        refine HPF.out.mono ?_
        rintro e w8 ⟨v8, rfl, hk8, hb8⟩
        obtain ⟨A8, c8, rfl, _⟩ := hk8.form
        obtain ⟨L, hL⟩ : ∃ L, L = findN a ks := ⟨_, rfl⟩
        have hLf : (a.walk.take k).filter (fun u => ks.contains u.kind) = L := by
          rw [hL, hkZ, ← hwZ, List.take_length]; rfl
        obtain ⟨o1, co, rfl⟩ := ho.out.form
        rw [hLf] at ho ⊢
        rw [← hL] at hk8 ⊢
        obtain ⟨M, hM⟩ : ∃ M, M = L.length := ⟨_, rfl⟩
        rw [← hM] at hk8 ho ⊢
        have HMM := Lib.hid hM
        have hMZ : M ≤ 1048576 := by rw [hM, hL]; unfold findN; have := List.length_filter_le (fun u : NT => ks.contains u.kind) a.walk; omega
        have HB8 := Lib.hid (hb.trans (hb8.mono hb.size))
        have hn8 := (HV.out w8 HB8.out).cell
        have ht8 := HTC.out w8 HB8.out
        have HK8 : Hid (∀ w', Below w8.heap.size w8 w' → Kids (fun _ => True) w' L (.slice A8 M c8)) := Lib.hid fun w' hbb => hk8.below hbb
        have HO8 : Hid (∀ w', Below w8.heap.size w8 w' → Kids (fun _ => True) w' L (.slice o1 M co)) := Lib.hid fun w' hbb => ((ho.out.kids (fun _ _ => trivial) (fun _ _ => trivial)).below hb8).below hbb
        clear hb hb8 hk8 ho y0 y1 y2 y3 y4 xt HPF hLf hL hM HWD HKS hn8 ht8
        have hn8 := (HV.out w8 HB8.out).cell
        have ht8 := HTC.out w8 HB8.out
        go_wp2_with (fail)
        go_loopw [16] (fun i w' => GlRel w8 M i w') (fun i _ => M - (intOf i).toNat)
        case atStart => unfold GlRel; exact ⟨0, Nat.zero_le _, rfl, Below.refl _ _⟩
        case round =>
          obtain ⟨j, hj, rfl, hb⟩ := hrel
          by_cases hjM : j < M
          · have hj2 : j < L.length := by rw [← HMM.out]; exact hjM
            obtain ⟨bg, og, cg, hs1, _, hd1, x0, x1, x2, x3, q1, x4, hk1⟩ := (HK8.out _ hb).at_ j hj2
            obtain ⟨bs, os, cs, hs2, _, hd2, z0, z1, z2, z3, q2, z4, hk2⟩ := (HO8.out _ hb).at_ j hj2
            injection hs1 with hs1 _ hs1c
            injection hs2 with hs2 _ hs2c
            subst hs1; subst hs2; subst hs1c; subst hs2c
            have HSM := Lib.hid (fun d os => Calls.regrown_of (rsame_any (G := fun _ => True) L[j] hd1 L[j] q1 q2 (Go.Sort.grow (redrawn wr d) os) hd2 (hk1.below (below_regrown wr d os)) (hk2.below (below_regrown wr d os))))
            rw [sameN_self] at HSM
            obtain ⟨u, hu⟩ : ∃ u, u = L[j] := ⟨_, rfl⟩
            rw [← hu] at HSM x0 x1 x2 x3 z0 z1 z2 z3
            have HB := Lib.hid hb
            have k0 := cell_regrown x0
            have k1 := cell_regrown x1
            have k2 := cell_regrown x2
            have k3 := cell_regrown x3
            have k4 := cell_regrown x4
            have l0 := cell_regrown z0
            have l1 := cell_regrown z1
            have l2 := cell_regrown z2
            have l3 := cell_regrown z3
            have l4 := cell_regrown z4
            clear hd1 hd2 hk1 hk2 hu hb x0 x1 x2 x3 x4 z0 z1 z2 z3 z4
            go_wp2_with (fail)
            refine wp_region_quiet_below (by kernel_rfl) (lexB_fast (by kernel_rfl)) ?_
            repeat (go_big_quiet_step (exact HSM.out _ _))
            refine wpQuiet_nil ?_
            rintro _ ⟨pp, rfl⟩
            have hbc := below_regrown wr pp.d pp.os
            clear k0 k1 k2 k3 k4 l0 l1 l2 l3 l4
            generalize Go.Sort.grow (redrawn wr pp.d) pp.os = wc at hbc ⊢
            have HBC := Lib.hid hbc
            clear hbc HSM
            go_wp2_with (fail)
            go_roundw
            case rel => unfold GlRel; exact ⟨j + 1, by omega, by go_num, HB.out.trans (HBC.out.mono HB.out.size)⟩
            case measure => simp [intOf]; omega
          · have hb9 := HB8.out.trans (hb.mono HB8.out.size)
            obtain ⟨y0, y1, y2, y3, y4⟩ := HXA.out _ (HB0W.out _ hb9)
            have HPC := Lib.hid (pclean_own a G HDA.out (by rw [← HZA.out]; omega) (.slice Aa Na ca) wr (HKA.out _ (HB0W.out _ hb9)))
            have HAB : Hid (0 < Na → ∃ ba oa x, Aa = some ⟨ba, oa, none⟩ ∧ ba < wr.heap.size ∧ ∀ w', Below wr.heap.size wr w' → w'.cell? ⟨ba, oa + 2, none⟩ = some (.int .i64 x)) := Lib.hid fun h0 => by
              obtain ⟨ba, oa, cc, hs, _, _, _, _, x2, _⟩ := (HKA.out _ (HB0W.out _ hb9)).at_ 0 (by rw [← HNA.out]; exact h0)
              injection hs with hs _ _
              rw [Nat.zero_mul, Nat.add_zero] at x2
              exact ⟨ba, oa, _, hs, World.block_lt_of_cell? _ _ x2, fun w' hbb => (hbb.cell (p := ⟨ba, _, none⟩) (World.block_lt_of_cell? _ _ x2)).trans x2⟩
            have hHwr : H < wr.heap.size := by have := HZZ.out; have := (HB0W.out _ hb9).size; omega
            have HB9 := Lib.hid hb9
            clear hb hb9 HK8 HO8 HB8
            go_wp2_with (fail)
            refine HPC.out.mono ?_
            rintro e w9 ⟨s9, rfl, hk9, ⟨vs9, hr9⟩, hb9⟩
            obtain ⟨A9, c9, rfl, _⟩ := hk9.form
            obtain ⟨c, hc⟩ : ∃ c, c = NT.mk a.kind 0 a.num a.name (cleanL a.kids) := ⟨_, rfl⟩
            have hcl : c = a.clean := by rw [hc, ← clean_mk, clean_eta]
            have hcz : c.size = Za := by rw [hcl, clean_size]; exact HZA.out.symm
            have hcd : Hd c := by rw [hc]; exact ⟨HDA.out.1, (by unfold I64; omega : I64 0), HDA.out.2.2.1, HDA.out.2.2.2⟩
            have hck : c.kids = cleanL a.kids := by rw [hc]; rfl
            obtain ⟨m9, hm9⟩ : ∃ m, m = (cleanL a.kids).length := ⟨_, rfl⟩
            rw [← hck] at hk9
            rw [← hm9]
            have hm9k : m9 = c.kids.length := by rw [hck]; exact hm9
            rw [← hm9k] at hk9
            have hmN : m9 = Na := by rw [hm9, cleanL_len]; exact HNA.out.symm
            obtain ⟨C, hC⟩ : ∃ C, C = w9.heap.size := ⟨_, rfl⟩
            obtain ⟨w10, hw10⟩ : ∃ W, W = w9.alloc (.cells #[.int .i64 a.kind, .int .i64 0, .int .i64 a.num, .string ⟨a.name.toArray⟩, .slice A9 m9 c9] NodeT) := ⟨_, rfl⟩
            have hb10 : Below w9.heap.size w9 w10 := by rw [hw10]; exact (Below.refl _ _).alloc (Nat.le_refl _) _
            have hxC : Box w10 C NodeT #[.int .i64 a.kind, .int .i64 0, .int .i64 a.num, .string ⟨a.name.toArray⟩, .slice A9 m9 c9] := by rw [hw10]; exact Box.new _ _ _ _ hC
            have HW10 := Lib.hid hw10
            have HC := Lib.hid hC
            have hbA := hb9.trans (hb10.mono hb9.size)
            rw [← hm9] at hr9
            have HCK : Hid (0 < m9 → ∃ g9 y, A9 = some ⟨g9, 0, none⟩ ∧ wr.heap.size ≤ g9 ∧ g9 ≠ C ∧ I64 y ∧ ∀ w', Below w10.heap.size w10 w' → w'.cell? ⟨g9, 2, none⟩ = some (.int .i64 y) ∧ w'.frozen? ⟨g9, 2, none⟩ = false) := Lib.hid fun h0 => by
              obtain ⟨g9, hA9, hfz⟩ := row_frozen hr9 h0
              obtain ⟨b9, o9, cc, hs, hG, hd, _, _, x2, _⟩ := hk9.at_ 0 (by rw [← hm9k]; exact h0)
              injection hs with hs _ _
              rw [hA9] at hs
              injection hs with hs
              injection hs with e1 e2 _
              rw [← e1, ← e2] at x2
              simp only [Nat.zero_mul, Nat.zero_add] at x2
              have hlt9 := World.block_lt_of_cell? _ _ x2
              refine ⟨g9, _, hA9, by rw [e1]; exact hG, by rw [hC]; exact Nat.ne_of_lt hlt9, hd.2.2.1, fun w' hbb => ?_⟩
              have hbl := (hb10.trans (hbb.mono hb10.size)).block _ hlt9
              refine ⟨(World.cell?_of_block hbl).trans x2, ?_⟩
              have := hfz 2
              unfold World.frozen? at this ⊢
              rw [hbl]
              exact this
            have HK9 : Hid (∀ w', Below w10.heap.size w10 w' → Kids (fun b => wr.heap.size ≤ b) w' c.kids (.slice A9 m9 c9)) := Lib.hid fun w' hbb => (hk9.below hb10).below hbb
            have HXC : Hid (∀ w', Below w10.heap.size w10 w' → Box w' C NodeT #[.int .i64 a.kind, .int .i64 0, .int .i64 a.num, .string ⟨a.name.toArray⟩, .slice A9 m9 c9]) := Lib.hid fun w' hbb => hxC.on hbb
            have HB10 := Lib.hid (HB9.out.trans (hbA.mono HB9.out.size))
            have HBA := Lib.hid hbA
            have HRW := Lib.hid (rwalk_any (G := fun b => wr.heap.size ≤ b) c hcd (.slice A9 m9 c9) w10 (HK9.out _ (Below.refl _ _)) (by rw [hcz]; omega))
            have hcx : c.kind = a.kind ∧ c.at_ = 0 ∧ c.num = a.num ∧ c.name = a.name := by rw [hc]; exact ⟨rfl, rfl, rfl, rfl⟩
            rw [hcx.1, hcx.2.1, hcx.2.2.1, hcx.2.2.2] at HRW
            have HCD := Lib.hid hcd
            have HCX := Lib.hid hcx
            have HCL := Lib.hid hcl
            have HCZ := Lib.hid hcz
            have HM9 := Lib.hid hm9k
            have HMN := Lib.hid hmN
            have HCsz : Hid (C < w10.heap.size) := Lib.hid hxC.lt
            obtain ⟨y0, y1, y2, y3, y4⟩ := Box_five (HXC.out _ (Below.refl _ _))
            clear hc hcl hcz hcd hck hm9 hm9k hmN hC hw10 hb10 hxC hbA hcx hk9 hb9 hr9
            go_wp2_with (first | (rw [← HW10.out, ← HC.out]))
            refine HRW.out.mono ?_
            intro e w11 hp
            unfold WalkPost at hp
            obtain ⟨v11, rfl, ho11, hb11⟩ := hp
            obtain ⟨Aq, cq, rfl⟩ := ho11.form
            rw [walk_len, HCZ.out] at ho11 ⊢
            have HO11 : Hid (∀ w', Below w11.heap.size w11 w' → Own w10.heap.size (fun b => (wr.heap.size ≤ b) ∧ b < w10.heap.size) w' c.walk (.slice Aq Za cq)) := Lib.hid fun w' hbb => ho11.below hbb
            have HB11 := Lib.hid hb11
            clear ho11 hb11 HRW y0 y1 y2 y3 y4
            go_wp2_with (fail)
            go_loopw [19] (fun i w' => GlRel w11 Za i w') (fun i _ => Za - (intOf i).toNat)
            case atStart => unfold GlRel; exact ⟨0, Nat.zero_le _, rfl, Below.refl _ _⟩
            case round =>
              obtain ⟨i, hi, rfl, hb⟩ := hrel
              by_cases hiZ : i < Za
              · have hi2 : i < c.walk.length := by rw [walk_len, HCZ.out]; exact hiZ
                have hc0 : c.walk[i].at_ = 0 := by
                  have hm : c.walk[i] ∈ a.clean.walk := by rw [← HCL.out]; exact List.getElem_mem hi2
                  exact clean_at a _ hm
                obtain ⟨bq, oq, cq', hsq, _, hd1, x0, x1, x2, x3, q1, x4, hk1⟩ := ((HO11.out _ hb).kids (G' := fun _ => True) (fun _ _ => trivial) (fun _ _ => trivial)).at_ i hi2
                injection hsq with hsq _ hsqc
                subst hsq
                rw [hc0] at x1
                have HB := Lib.hid hb
                clear hd1 hk1 hb x0 x2 x3 x4 hc0
                go_wp2_with (fail)
                go_roundw
                case rel => unfold GlRel; exact ⟨i + 1, by omega, by go_num, HB.out⟩
                case measure => simp [intOf]; omega
              · have hbz := HBA.out.trans ((HB11.out.trans (hb.mono HB11.out.size)).mono HBA.out.size)
                have HBZ := Lib.hid hbz
                have HBY := Lib.hid (HB11.out.trans (hb.mono HB11.out.size))
                have HBV := Lib.hid (HB10.out.trans (HBY.out.mono HB10.out.size))
                obtain ⟨y0, y1, y2, y3, y4⟩ := Box_five (HXC.out _ HBY.out)
                clear hb hbz
                by_cases hm0 : 0 < m9
                · have hm0' : (0 : Int) < (m9 : Int) := by omega
                  obtain ⟨ba, oa, x, rfl, hba, hxa⟩ := HAB.out (by have := HMN.out; omega)
                  obtain ⟨g9, y, rfl, hg9, hgC, hy, hyc⟩ := HCK.out hm0
                  have p1 := hxa _ HBZ.out
                  obtain ⟨p2, p3⟩ := hyc _ HBY.out
                  have z4 := (HXA.out _ (HB0W.out _ HBV.out)).2.2.2.2
                  have hNa0 : (0 : Int) < (Na : Int) := by have := HMN.out; omega
                  have hNa1 : 0 < Na := by have := HMN.out; omega
                  go_wp2_with (fail)
                  go_still_tail 10, (by kernel_rfl)
                  change wpList _ _ _ _ _ wr.drew
                  obtain ⟨V, hV⟩ : ∃ V, V = wr.drew := ⟨_, rfl⟩
                  have hbV : Below wr.heap.size wr V := by rw [hV]; exact (Below.refl _ _).drew
                  rw [← hV]
                  have HBV2 := Lib.hid hbV
                  have hbYV := HBY.out.trans (hbV.mono HBY.out.size)
                  have hbVV := HBV.out.trans (hbV.mono HBV.out.size)
                  have hbZV := HBZ.out.trans (hbV.mono HBZ.out.size)
                  have HBYV := Lib.hid hbYV
                  have HBVV := Lib.hid hbVV
                  obtain ⟨p2, p3⟩ := hyc _ hbYV
                  obtain ⟨z, hz⟩ : ∃ z, z = bits .xor .i64 y 1 := ⟨_, rfl⟩
                  have hzy : bits .xor .i64 z 1 = y := by rw [hz]; exact xor_back y hy
                  obtain ⟨V2, hV2⟩ : ∃ V2, V2 = V.setCell ⟨g9, 2, none⟩ (.int .i64 z) := ⟨_, rfl⟩
                  obtain ⟨s1, s2⟩ := set_get (z := .int .i64 z) p2 p3
                  have hbk := set_back V g9 2 (.int .i64 y) (.int .i64 z) p2
                  have q1 := (World.cell?_setCell_far V ⟨g9, 2, none⟩ ⟨ba, oa + 2, none⟩ (.int .i64 z) (by show g9 ≠ ba; omega)).trans (hxa _ hbZV)
                  have q2 := (World.cell?_setCell_far V ⟨g9, 2, none⟩ ⟨H, 4, none⟩ (.int .i64 z) (by show g9 ≠ H; omega)).trans (HXA.out _ (HB0W.out _ hbVV)).2.2.2.2
                  have q3 := (World.cell?_setCell_far V ⟨g9, 2, none⟩ ⟨C, 4, none⟩ (.int .i64 z) (by show g9 ≠ C; omega)).trans (Box_five (HXC.out _ hbYV)).2.2.2.2
                  rw [← hV2] at s1 s2 q1 q2 q3 hbk
                  have HZ9 := Lib.hid hz
                  have HV2 := Lib.hid hV2
                  have HBK := Lib.hid hbk
                  clear hV hz hV2 hbk hbYV hbVV hbZV hbV z4 y0 y1 y2 y3 y4 p1 hxa hyc
                  go_wp2_with (first | (rw [← HZ9.out]) | (rw [← HV2.out]))
                  go_still_tail 10, (by kernel_rfl)
                  change wpList _ _ _ _ _ V2.drew
                  obtain ⟨V3, hV3⟩ : ∃ V3, V3 = V2.drew := ⟨_, rfl⟩
                  obtain ⟨VF, hVF⟩ : ∃ VF, VF = V3.setCell ⟨g9, 2, none⟩ (.int .i64 y) := ⟨_, rfl⟩
                  have hEQ : VF = V.drew := by rw [hVF, hV3, ← HBK.out]; rfl
                  have s3 : V3.cell? ⟨g9, 2, none⟩ = some (.int .i64 z) := by rw [hV3]; exact s1
                  have s4 : V3.frozen? ⟨g9, 2, none⟩ = false := by rw [hV3]; exact s2
                  have q5 : V3.cell? ⟨C, 4, none⟩ = some (.slice (some ⟨g9, 0, none⟩) m9 c9) := by rw [hV3]; exact q3
                  rw [← hV3]
                  have HBYF : Hid (Below w10.heap.size w10 VF) := Lib.hid (by rw [hEQ]; exact HBYV.out.drew)
                  have HBVF : Hid (Below W.heap.size W VF) := Lib.hid (by rw [hEQ]; exact HBVV.out.drew)
                  have HVF := Lib.hid hVF
                  clear hV3 hVF hEQ s1 s2 q1 q2 q3 p2 p3 HBK HV2 HZ9
                  go_wp2_with (first | (rw [hzy]) | (rw [← HVF.out]))
                  have BV : ∀ d os, Below W.heap.size W (Go.Sort.grow (redrawn VF d) os) := fun d os => HBVF.out.trans ((below_regrown VF d os).mono HBVF.out.size)
                  have BY : ∀ d os, Below w10.heap.size w10 (Go.Sort.grow (redrawn VF d) os) := fun d os => HBYF.out.trans ((below_regrown VF d os).mono HBYF.out.size)
                  have HS1 := Lib.hid (fun d os => Calls.regrown_of (rsame_any (G := fun _ => True) a HDA.out c (.slice (some ⟨ba, oa, none⟩) Na ca) (.slice (some ⟨g9, 0, none⟩) m9 c9) (Go.Sort.grow (redrawn VF d) os) HCD.out ((HKA.out _ (HB0W.out _ (BV d os))).mono (fun _ _ => trivial)) ((HK9.out _ (BY d os)).mono (fun _ _ => trivial))))
                  have HS2 := Lib.hid (fun d os => Calls.regrown_of (psame_any G a b HDA.out HDB.out (.slice (some ⟨ba, oa, none⟩) Na ca) (.slice Ab Nb cb) (Go.Sort.grow (redrawn VF d) os) (HLW.out _ (HB0W.out _ (BV d os))) (HKA.out _ (HB0W.out _ (BV d os))) (HKB.out _ (HB0W.out _ (BV d os)))))
                  have HS3 := Lib.hid (fun d os => Calls.regrown_of (rsame_any (G := G) a HDA.out b (.slice (some ⟨ba, oa, none⟩) Na ca) (.slice Ab Nb cb) (Go.Sort.grow (redrawn VF d) os) HDB.out (HKA.out _ (HB0W.out _ (BV d os))) (HKB.out _ (HB0W.out _ (BV d os)))))
                  have HS4 := Lib.hid (fun d os => Calls.regrown_of (psame_any (fun _ => True) a c HDA.out HCD.out (.slice (some ⟨ba, oa, none⟩) Na ca) (.slice (some ⟨g9, 0, none⟩) m9 c9) (Go.Sort.grow (redrawn VF d) os) (HLW.out _ (HB0W.out _ (BV d os))) ((HKA.out _ (HB0W.out _ (BV d os))).mono (fun _ _ => trivial)) ((HK9.out _ (BY d os)).mono (fun _ _ => trivial))))
                  have HS5 := Lib.hid (fun d os => Calls.regrown_of (pcount_any G a HDA.out (by rw [← HZA.out]; omega) (.slice (some ⟨ba, oa, none⟩) Na ca) (Go.Sort.grow (redrawn VF d) os) (HLW.out _ (HB0W.out _ (BV d os))) (HKA.out _ (HB0W.out _ (BV d os)))))
                  have HS6 := Lib.hid (fun d os => Calls.regrown_of (pdeep_any G a HDA.out (by rw [← HZA.out]; omega) (.slice (some ⟨ba, oa, none⟩) Na ca) (Go.Sort.grow (redrawn VF d) os) (HLW.out _ (HB0W.out _ (BV d os))) (HKA.out _ (HB0W.out _ (BV d os)))))
                  have HS7 := Lib.hid (fun d os => Calls.regrown_of (rdeep_any (G := G) a HDA.out (.slice (some ⟨ba, oa, none⟩) Na ca) (Go.Sort.grow (redrawn VF d) os) (HKA.out _ (HB0W.out _ (BV d os)))))
                  have hsac : sameN a c = true := by rw [HCL.out]; exact same_clean a
                  obtain ⟨r, hr⟩ : ∃ r, r = sameN a b := ⟨_, rfl⟩
                  rw [hsac, HCX.out.1, HCX.out.2.1, HCX.out.2.2.1, HCX.out.2.2.2] at HS1 HS4
                  rw [← hr] at HS2 HS3
                  rw [← HZA.out] at HS5
                  have f0 := cell_regrown (HXA.out _ (HB0W.out _ HBVF.out)).1
                  have f1 := cell_regrown (HXA.out _ (HB0W.out _ HBVF.out)).2.1
                  have f2 := cell_regrown (HXA.out _ (HB0W.out _ HBVF.out)).2.2.1
                  have f3 := cell_regrown (HXA.out _ (HB0W.out _ HBVF.out)).2.2.2.1
                  have f4 := cell_regrown (HXA.out _ (HB0W.out _ HBVF.out)).2.2.2.2
                  have g0 := cell_regrown (HXB.out _ (HB0W.out _ HBVF.out)).1
                  have g1 := cell_regrown (HXB.out _ (HB0W.out _ HBVF.out)).2.1
                  have g2 := cell_regrown (HXB.out _ (HB0W.out _ HBVF.out)).2.2.1
                  have g3 := cell_regrown (HXB.out _ (HB0W.out _ HBVF.out)).2.2.2.1
                  have g4 := cell_regrown (HXB.out _ (HB0W.out _ HBVF.out)).2.2.2.2
                  have e0 := cell_regrown (Box_five (HXC.out _ HBYF.out)).1
                  have e1 := cell_regrown (Box_five (HXC.out _ HBYF.out)).2.1
                  have e2 := cell_regrown (Box_five (HXC.out _ HBYF.out)).2.2.1
                  have e3 := cell_regrown (Box_five (HXC.out _ HBYF.out)).2.2.2.1
                  have e4 := cell_regrown (Box_five (HXC.out _ HBYF.out)).2.2.2.2
                  have t0 := cell_regrown (HTC.out _ HBVF.out)
                  clear hsac hr BV BY
                  cases r
                  all_goals
                    refine region_quiet_tail 31 rfl (by kernel_rfl) (by kernel_rfl) (lexB_fast (by kernel_rfl)) ?_
                    simp only [List.take_succ_cons, List.take_zero]
                    repeat (go_big_quiet_step (first | (with_reducible exact HS1.out _ _) | (with_reducible exact HS2.out _ _) | (with_reducible exact HS3.out _ _) | (with_reducible exact HS4.out _ _) | (with_reducible exact HS5.out _ _) | (with_reducible exact HS6.out _ _) | (with_reducible exact HS7.out _ _)))
                    refine wpQuiet_nil ?_
                    rintro _ ⟨pp, rfl⟩
                    have hbc := below_regrown VF pp.d pp.os
                    clear f0 f1 f2 f3 f4 g0 g1 g2 g3 g4 e0 e1 e2 e3 e4 t0 HS1 HS2 HS3 HS4 HS5 HS6 HS7
                    generalize Go.Sort.grow (redrawn VF pp.d) pp.os = wc at hbc ⊢
                    have HBC := Lib.hid (HBVF.out.trans (hbc.mono HBVF.out.size))
                    clear hbc
                    have xr := HXR.out wc (HB0W.out _ HBC.out)
                    have xrc := xr.cell 0
                    have xrf := xr.frozen 0
                    simp only [List.getElem?_toArray, List.getElem?_cons_zero] at xrc
                    clear xr
                    go_simp
                    have hKc : (wc.setCell ⟨R, 0, none⟩ (.bool true)).heap[D]? = some (.deferred (some [])) := (Below.heap_setCell _ _ _ _ (by show D ≠ R; omega)).trans (HKD.out wc HBC.out)
                    obtain ⟨xs1, xs2⟩ := set_get (z := .bool true) xrc xrf
                    go_wp2
                    refine ⟨by simp, .inl ⟨_, _, rfl, run_takeDeferred hKc, ?_⟩⟩
                    have hwD : w.heap.size ≤ D := by have := HZZ.out; have := HB5.out.size; omega
                    have hwR : w.heap.size ≤ R := by have := HZZ.out; omega
                    have hRD : R ≠ D := by omega
                    have hbe := ((HB.out.trans ((HB0W.out _ HBC.out).mono HB.out.size)).setCell (p := ⟨R, 0, none⟩) hwR (.bool true)).trans (belowK_b (w := w) (Nat.le_refl _) (wc.setCell ⟨R, 0, none⟩ (.bool true)) D _ (.deferred none) hwD hKc rfl rfl)
                    have hxe : ((wc.setCell ⟨R, 0, none⟩ (.bool true)).putObj D (.deferred none)).cell? ⟨R, 0, none⟩ = some (.bool true) := (World.cell?_of_block (World.putObj_heap_other hRD)).trans xs1
                    refine ⟨.bool true, bool_ret (R := R) rfl (by kernel_rfl) hxe, rfl, hbe⟩
                · have hm0' : decide ((0 : Int) < (m9 : Int)) = false := by rw [decide_eq_false_iff_not]; omega
                  go_wp2_with (fail)
                  clear y0 y1 y2 y3 y4
                  have BV : ∀ d os, Below W.heap.size W (Go.Sort.grow (redrawn wr d) os) := fun d os => HBV.out.trans ((below_regrown wr d os).mono HBV.out.size)
                  have BY : ∀ d os, Below w10.heap.size w10 (Go.Sort.grow (redrawn wr d) os) := fun d os => HBY.out.trans ((below_regrown wr d os).mono HBY.out.size)
                  have HS1 := Lib.hid (fun d os => Calls.regrown_of (rsame_any (G := fun _ => True) a HDA.out c (.slice Aa Na ca) (.slice A9 m9 c9) (Go.Sort.grow (redrawn wr d) os) HCD.out ((HKA.out _ (HB0W.out _ (BV d os))).mono (fun _ _ => trivial)) ((HK9.out _ (BY d os)).mono (fun _ _ => trivial))))
                  have HS2 := Lib.hid (fun d os => Calls.regrown_of (psame_any G a b HDA.out HDB.out (.slice Aa Na ca) (.slice Ab Nb cb) (Go.Sort.grow (redrawn wr d) os) (HLW.out _ (HB0W.out _ (BV d os))) (HKA.out _ (HB0W.out _ (BV d os))) (HKB.out _ (HB0W.out _ (BV d os)))))
                  have HS3 := Lib.hid (fun d os => Calls.regrown_of (rsame_any (G := G) a HDA.out b (.slice Aa Na ca) (.slice Ab Nb cb) (Go.Sort.grow (redrawn wr d) os) HDB.out (HKA.out _ (HB0W.out _ (BV d os))) (HKB.out _ (HB0W.out _ (BV d os)))))
                  have HS4 := Lib.hid (fun d os => Calls.regrown_of (psame_any (fun _ => True) a c HDA.out HCD.out (.slice Aa Na ca) (.slice A9 m9 c9) (Go.Sort.grow (redrawn wr d) os) (HLW.out _ (HB0W.out _ (BV d os))) ((HKA.out _ (HB0W.out _ (BV d os))).mono (fun _ _ => trivial)) ((HK9.out _ (BY d os)).mono (fun _ _ => trivial))))
                  have HS5 := Lib.hid (fun d os => Calls.regrown_of (pcount_any G a HDA.out (by rw [← HZA.out]; omega) (.slice Aa Na ca) (Go.Sort.grow (redrawn wr d) os) (HLW.out _ (HB0W.out _ (BV d os))) (HKA.out _ (HB0W.out _ (BV d os)))))
                  have HS6 := Lib.hid (fun d os => Calls.regrown_of (pdeep_any G a HDA.out (by rw [← HZA.out]; omega) (.slice Aa Na ca) (Go.Sort.grow (redrawn wr d) os) (HLW.out _ (HB0W.out _ (BV d os))) (HKA.out _ (HB0W.out _ (BV d os)))))
                  have HS7 := Lib.hid (fun d os => Calls.regrown_of (rdeep_any (G := G) a HDA.out (.slice Aa Na ca) (Go.Sort.grow (redrawn wr d) os) (HKA.out _ (HB0W.out _ (BV d os)))))
                  have hsac : sameN a c = true := by rw [HCL.out]; exact same_clean a
                  obtain ⟨r, hr⟩ : ∃ r, r = sameN a b := ⟨_, rfl⟩
                  rw [hsac, HCX.out.1, HCX.out.2.1, HCX.out.2.2.1, HCX.out.2.2.2] at HS1 HS4
                  rw [← hr] at HS2 HS3
                  rw [← HZA.out] at HS5
                  have f0 := cell_regrown (HXA.out _ (HB0W.out _ HBV.out)).1
                  have f1 := cell_regrown (HXA.out _ (HB0W.out _ HBV.out)).2.1
                  have f2 := cell_regrown (HXA.out _ (HB0W.out _ HBV.out)).2.2.1
                  have f3 := cell_regrown (HXA.out _ (HB0W.out _ HBV.out)).2.2.2.1
                  have f4 := cell_regrown (HXA.out _ (HB0W.out _ HBV.out)).2.2.2.2
                  have g0 := cell_regrown (HXB.out _ (HB0W.out _ HBV.out)).1
                  have g1 := cell_regrown (HXB.out _ (HB0W.out _ HBV.out)).2.1
                  have g2 := cell_regrown (HXB.out _ (HB0W.out _ HBV.out)).2.2.1
                  have g3 := cell_regrown (HXB.out _ (HB0W.out _ HBV.out)).2.2.2.1
                  have g4 := cell_regrown (HXB.out _ (HB0W.out _ HBV.out)).2.2.2.2
                  have e0 := cell_regrown (Box_five (HXC.out _ HBY.out)).1
                  have e1 := cell_regrown (Box_five (HXC.out _ HBY.out)).2.1
                  have e2 := cell_regrown (Box_five (HXC.out _ HBY.out)).2.2.1
                  have e3 := cell_regrown (Box_five (HXC.out _ HBY.out)).2.2.2.1
                  have e4 := cell_regrown (Box_five (HXC.out _ HBY.out)).2.2.2.2
                  have t0 := cell_regrown (HTC.out _ HBV.out)
                  clear hsac hr BV BY
                  cases r
                  all_goals
                    refine region_quiet_tail 31 rfl (by kernel_rfl) (by kernel_rfl) (lexB_fast (by kernel_rfl)) ?_
                    simp only [List.take_succ_cons, List.take_zero]
                    repeat (go_big_quiet_step (first | (with_reducible exact HS1.out _ _) | (with_reducible exact HS2.out _ _) | (with_reducible exact HS3.out _ _) | (with_reducible exact HS4.out _ _) | (with_reducible exact HS5.out _ _) | (with_reducible exact HS6.out _ _) | (with_reducible exact HS7.out _ _)))
                    refine wpQuiet_nil ?_
                    rintro _ ⟨pp, rfl⟩
                    have hbc := below_regrown wr pp.d pp.os
                    clear f0 f1 f2 f3 f4 g0 g1 g2 g3 g4 e0 e1 e2 e3 e4 t0 HS1 HS2 HS3 HS4 HS5 HS6 HS7
                    generalize Go.Sort.grow (redrawn wr pp.d) pp.os = wc at hbc ⊢
                    have HBC := Lib.hid (HBV.out.trans (hbc.mono HBV.out.size))
                    clear hbc
                    have xr := HXR.out wc (HB0W.out _ HBC.out)
                    have xrc := xr.cell 0
                    have xrf := xr.frozen 0
                    simp only [List.getElem?_toArray, List.getElem?_cons_zero] at xrc
                    clear xr
                    go_simp
                    have hKc : (wc.setCell ⟨R, 0, none⟩ (.bool true)).heap[D]? = some (.deferred (some [])) := (Below.heap_setCell _ _ _ _ (by show D ≠ R; omega)).trans (HKD.out wc HBC.out)
                    obtain ⟨xs1, xs2⟩ := set_get (z := .bool true) xrc xrf
                    go_wp2
                    refine ⟨by simp, .inl ⟨_, _, rfl, run_takeDeferred hKc, ?_⟩⟩
                    have hwD : w.heap.size ≤ D := by have := HZZ.out; have := HB5.out.size; omega
                    have hwR : w.heap.size ≤ R := by have := HZZ.out; omega
                    have hRD : R ≠ D := by omega
                    have hbe := ((HB.out.trans ((HB0W.out _ HBC.out).mono HB.out.size)).setCell (p := ⟨R, 0, none⟩) hwR (.bool true)).trans (belowK_b (w := w) (Nat.le_refl _) (wc.setCell ⟨R, 0, none⟩ (.bool true)) D _ (.deferred none) hwD hKc rfl rfl)
                    have hxe : ((wc.setCell ⟨R, 0, none⟩ (.bool true)).putObj D (.deferred none)).cell? ⟨R, 0, none⟩ = some (.bool true) := (World.cell?_of_block (World.putObj_heap_other hRD)).trans xs1
                    refine ⟨.bool true, bool_ret (R := R) rfl (by kernel_rfl) hxe, rfl, hbe⟩
theorem ints_in {W : World} {A : Option Addr} {n c : Nat} (h : IntsArg W A n c) : ∃ ks : List Int, ks.length = n ∧ IntsIn W ks (.slice A n c) := by
  by_cases h0 : n = 0
  · subst h0
    exact ⟨[], rfl, A, c, rfl, fun h => absurd h (by simp)⟩
  · obtain ⟨b, off, x, hA, _, _⟩ := h.2 0 (by omega)
    have hx : ∀ i : Fin n, ∃ x, W.cell? ⟨b, off + i.val, none⟩ = some (.int .i64 x) := fun i => by
      obtain ⟨b', off', x', hA', hx', _⟩ := h.2 i.val i.isLt
      rw [hA] at hA'
      injection hA' with e
      injection e with e1 e2 _
      subst e1; subst e2
      exact ⟨x', hx'⟩
    refine ⟨List.ofFn (fun i => (hx i).choose), List.length_ofFn, A, c, by rw [List.length_ofFn], fun _ => ⟨b, off, hA, fun i hi => ?_⟩⟩
    rw [List.getElem_ofFn]
    exact (hx ⟨i, by simpa using hi⟩).choose_spec
theorem walks_law2 (G : Nat → Prop) (a b : NT) (hda : Hd a) (hdb : Hd b) (hza : a.size ≤ 1048576) (hzb : b.size ≤ 1048576) (sa sb : Value) (w : World) (hL : LD w) (ha : Kids G w a.kids sa) (hb : Kids G w b.kids sb) (A : Option Addr) (n c : Nat) (hI : IntsArg w A n c) :
    Calls Tryd.prog 5 #[.agg #[.int .i64 a.kind, .int .i64 a.at_, .int .i64 a.num, .string ⟨a.name.toArray⟩, sa], .agg #[.int .i64 b.kind, .int .i64 b.at_, .int .i64 b.num, .string ⟨b.name.toArray⟩, sb], .slice A n c] w fun e w' => e = .returned (.bool true) ∧ Below w.heap.size w w' := by
  obtain ⟨ks, hl, hk⟩ := ints_in hI
  exact walks_law G a b hda hdb hza hzb sa sb ks _ w hL ha hb hk (by rw [hl]; exact hI.1)
end Go.Proofs.YtkmkeaeaalnbjaaDoor.nt

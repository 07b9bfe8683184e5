import Derived.Test.YtkmkeaeaalnbjaaDoorCGrowRow
import Derived.Test.YtkmkeaeaalnbjaaDoorCGrowStmt
import Derived.Test.YtkmkeaeaalnbjaaDoorCNodeProg
/- What grows of seeds: parameters. -/
namespace Go.Proofs.YtkmkeaeaalnbjaaDoor.nt
open Go.RowKit mem wd lx
open vt (I64 own_base own_form own_below)

theorem typ1_of {t : NT} (h : t.typ = true) : typ1 [t] = true := by rw [typ1_one]; exact h
theorem param_of {s : List UInt8} {t : NT} (h : named s = true) (h2 : t.typ = true) : paramN (.mk 50 0 0 s [t]) = true := by
  unfold paramN; simp [NT.kind, NT.num, NT.name, NT.kids, h, typ1_of h2]
def ParsPost (M p u : Nat) (sl : Value) (w : World) (e : Ending) (w' : World) : Prop :=
  ∃ (l : List NT) (v : Value) (u' : Nat), e = .returned v ∧ (∀ t ∈ l, paramN t = true) ∧ sizeL l ≤ M * 7 ∧ l.length = M ∧ Own2 w.heap.size w' l v ∧ Sd w' p sl u' ∧ u' ≤ u + M * 7 ∧ w.grownBy w' (some p)
def GpRel (M p u : Nat) (sl : Value) (w : World) (o i : Value) (wr : World) : Prop :=
  ∃ (j : Nat) (l : List NT) (u' : Nat), j ≤ M ∧ i = .int .i64 j ∧ l.length = j ∧ Hid (∀ t ∈ l, paramN t = true) ∧ Hid (sizeL l ≤ j * 7) ∧ Hid (Own2 w.heap.size wr l o) ∧ Hid (Sd wr p sl u') ∧ Hid (u' ≤ u + j * 7) ∧ Hid (w.grownBy wr (some p))
set_option maxHeartbeats 2000000 in
theorem gparams_any (M : Nat) (hM : M ≤ 100) : ∀ (p u : Nat) (sl : Value) (w : World), Sd w p sl u → u + M * 7 ≤ 1099511627776 →
    Calls Tryd.prog 59 #[.pointer (some ⟨p, 0, none⟩), .int .i64 M] w (ParsPost M p u sl w) := by
  intro p u sl w hs hu
  have HS0 := Lib.hid hs
  have HU := Lib.hid hu
  have HpB : Hid (p < w.heap.size) := Lib.hid hs.1.lt
  clear hs hu
  go_enter Tryd.func59, Tryd.ntmps59
  go_wp2_with (fail)
  go_loopw [5, 6] (fun o i wr => GpRel M p u sl w o i wr) (fun _ i _ => M - (intOf i).toNat)
  case atStart => unfold GpRel; exact ⟨0, [], u, Nat.zero_le _, rfl, rfl, Lib.hid (by simp), Lib.hid (by simp [sizeL]), Lib.hid (Own2.nil_ _ _), HS0, Lib.hid (by omega), Lib.hid (grow_refl w p)⟩
  case round =>
    obtain ⟨j, l, u1, hj, rfl, hl, hf, hsz, ho, hs1, hu1, hg1⟩ := hrel
    obtain ⟨A1, c1, rfl⟩ := ho.out.form
    by_cases hlt : j < M
    · have hlt' : (j : Int) < (M : Int) := by omega
      have HN2 := Lib.hid (word_any p u1 sl wr hs1.out (by have := HU.out; have := hu1.out; omega))
      subst hl
      obtain ⟨n, hn⟩ : ∃ n, n = l.length := ⟨_, rfl⟩
      rw [← hn] at ho hlt hlt' hsz hu1 ⊢
      have HNN := Lib.hid hn
      clear hn
      go_wp2_with (fail)
      refine HN2.out.mono ?_
      intro e w2 hp2
      unfold WordPost at hp2
      obtain ⟨nm, rfl, hnm, hs2, hg2⟩ := hp2
      have HNM := Lib.hid hnm
      have HO2 := Lib.hid (ho.out.grow hg2 HpB.out)
      have HG2 := Lib.hid (grow_trans hg1.out hg2)
      have HN3 := Lib.hid (gtype_any 2 p (u1 + 1) sl w2 (by decide) hs2 (by have := HU.out; have := hu1.out; omega))
      clear hs2 hg2 hnm
      go_wp2_with (fail)
      refine HN3.out.mono ?_
      intro e w3 hp2
      unfold GrowPost at hp2
      obtain ⟨t, sk, u2, rfl, hft, hdt, hst, hkk, hs3, hu2, hg3⟩ := hp2
      have HO3 := Lib.hid (HO2.out.grow hg3 HpB.out)
      have HG3 := Lib.hid (grow_trans HG2.out hg3)
      have HGb : Hid (w.heap.size ≤ w3.heap.size ∧ some w3.heap.size ≠ (Value.slice A1 n c1).ownBlock) := Lib.hid ⟨HG3.out.size, fun e => by have := (HO3.out.lt _ e.symm).2; omega⟩
      have hk3 : Kids (fun b => w.heap.size ≤ b ∧ some b ≠ (Value.slice A1 n c1).ownBlock) w3 t.kids sk := hkk.mono fun b hb => ⟨by have := HG2.out.size; omega, fun e => by have := (HO2.out.lt b e.symm).2; omega⟩
      have HKV := Lib.hid (row_one (N := w3.heap.size) rfl hdt hk3 HGb.out)
      have hbV : Below w3.heap.size w3 (w3.alloc (.cells #[.int .i64 t.kind, .int .i64 t.at_, .int .i64 t.num, .string ⟨t.name.toArray⟩, sk] NodeT)) := (Below.refl _ _).alloc (Nat.le_refl _) _
      have HOV := Lib.hid (HO3.out.below hbV)
      have HGV := Lib.hid (grow_below HG3.out hbV)
      have HSV := Lib.hid (hs3.below hbV)
      have HDP : Hid (Hd (.mk 50 0 0 nm [t])) := Lib.hid (hd_of _ _ _ _ _ (by unfold I64; omega) (by unfold I64; omega) (by unfold I64; omega) HNM.out.2)
      have HF2 : Hid (∀ z ∈ l ++ [NT.mk 50 0 0 nm [t]], paramN z = true) := Lib.hid (by
        intro z hz
        rcases List.mem_append.1 hz with hz | hz
        · exact hf.out z hz
        · have : z = NT.mk 50 0 0 nm [t] := by simpa using hz
          rw [this]; exact param_of HNM.out.1 hft)
      have HZ2 : Hid (sizeL (l ++ [NT.mk 50 0 0 nm [t]]) ≤ (n + 1) * 7) := Lib.hid (by rw [sizeL_append]; have := hsz.out; simp only [sizeL, size_mk]; omega)
      have HU2 : Hid (u2 ≤ u + (n + 1) * 7) := Lib.hid (by have := hu1.out; omega)
      have hB2 : w.heap.size ≤ (w3.alloc (.cells #[.int .i64 t.kind, .int .i64 t.at_, .int .i64 t.num, .string ⟨t.name.toArray⟩, sk] NodeT)).heap.size := HGV.out.size
      have hn3 : n ≤ 1099511627776 := by omega
      have hH : w3.heap.size + 1 = (w3.alloc (.cells #[.int .i64 t.kind, .int .i64 t.at_, .int .i64 t.num, .string ⟨t.name.toArray⟩, sk] NodeT)).heap.size := (Array.size_push _).symm
      have HHH := Lib.hid hH
      have hpw : p < (w3.alloc (.cells #[.int .i64 t.kind, .int .i64 t.at_, .int .i64 t.num, .string ⟨t.name.toArray⟩, sk] NodeT)).heap.size := by have := HpB.out; omega
      have hpo : some p ≠ (Value.slice A1 n c1).ownBlock := fun e => by have := (HO3.out.lt p e.symm).1; have := HpB.out; omega
      have HB2 := Lib.hid hB2
      have HPW := Lib.hid hpw
      clear hft hdt hst hkk hs3 hu2 hg3 hk3 hbV hH hB2 hpw
      go_wp2_with (at_builtin; (refine wpList_node (p := p) (w0 := w) (wr := w3.alloc (.cells #[.int .i64 t.kind, .int .i64 t.at_, .int .i64 t.num, .string ⟨t.name.toArray⟩, sk] NodeT)) rfl _ _ rfl w.heap.size n l (.mk 50 0 0 nm [t]) (.slice A1 n c1) (.slice (some ⟨w3.heap.size, 0, none⟩) 1 1) (w3.heap.size + 1) rfl rfl HOV.out HDP.out HKV.out HGV.out (Nat.le_refl _) HB2.out HNN.out hn3 HHH.out ?_); intro A4 c4 w4 ho4 hg4 hk4; have HO4 := Lib.hid ho4; have HG4 := Lib.hid hg4; have HS4 := Lib.hid (HS0.out.keep hg4 ((hk4 p HPW.out hpo).trans HSV.out.1)); clear ho4 hg4 hk4)
      go_roundw
      case rel =>
        unfold GpRel
        exact ⟨n + 1, l ++ [.mk 50 0 0 nm [t]], u2, by omega, by go_num, by rw [List.length_append, ← HNN.out]; rfl, HF2, HZ2, HO4, HS4, HU2, HG4⟩
      case measure => simp [intOf]; omega
    · have hjM : j = M := by omega
      have HF : Hid (ParsPost M p u sl w (.returned (.slice A1 l.length c1)) wr) := Lib.hid ⟨l, _, u1, rfl, hf.out, by have := hsz.out; omega, by omega, ho.out, hs1.out, by have := hu1.out; omega, hg1.out⟩
      obtain ⟨n, hn⟩ : ∃ n, n = l.length := ⟨_, rfl⟩
      rw [← hn] at HF ⊢
      clear hn ho hf hsz hs1 hu1 hg1 hl hjM
      have hlt' : ¬ (j : Int) < (M : Int) := by omega
      go_wp2_with (fail)
      go_ret
      exact HF.out
end Go.Proofs.YtkmkeaeaalnbjaaDoor.nt

/- A node that is put together in a block of its own: what each step leaves of it. -/
namespace Go.Proofs.YtkmkeaeaalnbjaaDoor.nt
open Go.RowKit mem wd lx
open vt (I64 own_base own_form own_below wpList_append_mine)

/-- in the world wi of a call that began in w: the result's block R is empty, the node in block O has the kind k, the number n, the name s and the kids l, which lie in a row of the call's own -/
structure DSt (w : World) (p R O : Nat) (sl : Value) (wi : World) (u : Nat) (k n : Int) (s : List UInt8) (l : List NT) (v : Value) : Prop where
  hpR : p ≠ R
  hRO : R < O
  hpO : p < O
  hO : w.heap.size ≤ O
  h0 : ∃ u0, Sd w p sl u0
  hb : Box wi R NodeT ZN
  ho : Box wi O NodeT #[.int .i64 k, .int .i64 0, .int .i64 n, .string ⟨s.toArray⟩, v]
  hl : Own2 (O + 1) wi l v
  hs : Sd wi p sl u
  hg : w.grownBy wi (some p)
section
variable {w wi : World} {p R O u : Nat} {sl v : Value} {k n : Int} {s : List UInt8} {l : List NT}
theorem DSt.size (h : DSt w p R O sl wi u k n s l v) : O + 1 ≤ wi.heap.size := h.ho.lt
theorem DSt.call (h : DSt w p R O sl wi u k n s l v) {w2 : World} {u2 : Nat} (hg2 : wi.grownBy w2 (some p)) (hs2 : Sd w2 p sl u2) : DSt w p R O sl w2 u2 k n s l v :=
  { h with hb := box_grow h.hb hg2 h.hpR, ho := box_grow h.ho hg2 (by have := h.hpO; omega), hl := h.hl.grow hg2 (by have := h.hpO; omega), hs := hs2, hg := grow_trans h.hg hg2 }
theorem DSt.below (h : DSt w p R O sl wi u k n s l v) {w2 : World} (hb : Below wi.heap.size wi w2) : DSt w p R O sl w2 u k n s l v :=
  { h with hb := h.hb.on hb, ho := h.ho.on hb, hl := h.hl.below hb, hs := h.hs.below hb, hg := grow_below h.hg hb }
theorem dst_set (h : DSt w p R O sl wi u k n s l v) (i : Nat) (x : Value) : Box (wi.setCell ⟨O, i, none⟩ x) R NodeT ZN ∧ Own2 (O + 1) (wi.setCell ⟨O, i, none⟩ x) l v ∧ Sd (wi.setCell ⟨O, i, none⟩ x) p sl u ∧ w.grownBy (wi.setCell ⟨O, i, none⟩ x) (some p) := by
  have hpR := h.hpR
  have hRO := h.hRO
  have hpO := h.hpO
  have hg2 := grow_set h.hg (Or.inr h.hO) (i := i) x
  have n1 : R ≠ O := by omega
  have n2 : p ≠ O := by omega
  obtain ⟨u0, h0⟩ := h.h0
  exact ⟨h.hb.far n1 x, own2_set h.hl (by omega) x, h0.keep hg2 (h.hs.1.far n2 x), hg2⟩
theorem DSt.kind (h : DSt w p R O sl wi u k n s l v) (k' : Int) : DSt w p R O sl (wi.setCell ⟨O, 0, none⟩ (.int .i64 k')) u k' n s l v := by
  obtain ⟨h1, h2, h3, h4⟩ := dst_set h 0 (.int .i64 k')
  exact { h with hb := h1, ho := h.ho.set 0 _, hl := h2, hs := h3, hg := h4 }
theorem DSt.num (h : DSt w p R O sl wi u k n s l v) (n' : Int) : DSt w p R O sl (wi.setCell ⟨O, 2, none⟩ (.int .i64 n')) u k n' s l v := by
  obtain ⟨h1, h2, h3, h4⟩ := dst_set h 2 (.int .i64 n')
  exact { h with hb := h1, ho := h.ho.set 2 _, hl := h2, hs := h3, hg := h4 }
/-- another row of kids, which is there -/
theorem DSt.kids (h : DSt w p R O sl wi u k n s l v) {l' : List NT} {v' : Value} (hl' : Own2 (O + 1) wi l' v') : DSt w p R O sl (wi.setCell ⟨O, 4, none⟩ v') u k n s l' v' := by
  obtain ⟨h1, _, h3, h4⟩ := dst_set h 4 v'
  exact { h with hb := h1, ho := h.ho.set 4 _, hl := own2_set hl' (by omega) v', hs := h3, hg := h4 }
/-- behind an append to the row of kids: ahead of the store (of whatever row) -/
theorem DSt.app2 (h : DSt w p R O sl wi u k n s l v) {w4 : World} {l' : List NT} {v' : Value} (hl' : Own2 (O + 1) w4 l' v') (hg : w.grownBy w4 (some p)) {v2 : Value} (hv2 : ∀ j, v2.ownBlock = some j → O + 1 ≤ j) (hk : ∀ j, j < wi.heap.size → some j ≠ v2.ownBlock → w4.heap[j]? = wi.heap[j]?) :
    Box w4 O NodeT #[.int .i64 k, .int .i64 0, .int .i64 n, .string ⟨s.toArray⟩, v] ∧ DSt w p R O sl (w4.setCell ⟨O, 4, none⟩ v') u k n s l' v' := by
  have hRO := h.hRO
  have hpO := h.hpO
  have key : ∀ j, j < wi.heap.size → j < O + 1 → w4.heap[j]? = wi.heap[j]? := fun j h1 h2 => hk j h1 fun e => by have := hv2 j e.symm; omega
  have hb4 : Box w4 R NodeT ZN := (key R h.hb.lt (by omega)).trans h.hb
  have ho4 : Box w4 O NodeT #[.int .i64 k, .int .i64 0, .int .i64 n, .string ⟨s.toArray⟩, v] := (key O h.ho.lt (by omega)).trans h.ho
  obtain ⟨u0, h0⟩ := h.h0
  have hs4 : Sd w4 p sl u := h0.keep hg ((key p h.hs.1.lt (by omega)).trans h.hs.1)
  have hg2 := grow_set hg (Or.inr h.hO) (i := 4) v'
  have n1 : R ≠ O := by omega
  have n2 : p ≠ O := by omega
  exact ⟨ho4, { h with hb := hb4.far n1 v', ho := ho4.set 4 _, hl := own2_set hl' (by omega) v', hs := h0.keep hg2 (hs4.1.far n2 v'), hg := hg2 }⟩
theorem DSt.app (h : DSt w p R O sl wi u k n s l v) {w4 : World} {l' : List NT} {v' : Value} (hl' : Own2 (O + 1) w4 l' v') (hg : w.grownBy w4 (some p)) (hk : ∀ j, j < wi.heap.size → some j ≠ v.ownBlock → w4.heap[j]? = wi.heap[j]?) :
    Box w4 O NodeT #[.int .i64 k, .int .i64 0, .int .i64 n, .string ⟨s.toArray⟩, v] ∧ DSt w p R O sl (w4.setCell ⟨O, 4, none⟩ v') u k n s l' v' := h.app2 hl' hg (fun j e => (h.hl.lt j e).1) hk
/-- the kids of a node that a call made lie apart from the row -/
theorem kids_apart (h : DSt w p R O sl wi u k n s l v) {w2 : World} {t : NT} {sk : Value} (hk : Kids (fun b => wi.drew.heap.size ≤ b) w2 t.kids sk) : Kids (fun b => O + 1 ≤ b ∧ some b ≠ v.ownBlock) w2 t.kids sk :=
  hk.mono fun b hb => ⟨by have hb2 : wi.heap.size ≤ b := hb; have := h.size; omega, fun e => by have hb2 : wi.heap.size ≤ b := hb; have := (h.hl.lt b e.symm).2; omega⟩
/-- a row of one new node -/
theorem DSt.one (h : DSt w p R O sl wi u k n s l v) {t : NT} {sk : Value} (hd : Hd t) (hk : Kids (fun b => O < b) wi t.kids sk) :
    Own2 (O + 1) (wi.alloc (.cells #[.int .i64 t.kind, .int .i64 t.at_, .int .i64 t.num, .string ⟨t.name.toArray⟩, sk] NodeT)) [t] (.slice (some ⟨wi.heap.size, 0, none⟩) 1 1) :=
  own_one rfl h.size hd (hk.mono fun b hb => hb)
/-- what the call tells -/
theorem DSt.tell (h : DSt w p R O sl wi u k n s l v) (hR : R = w.heap.size) {f : NT → Bool} {K u1 : Nat} (h0 : Sd w p sl u1) (hf : f (.mk k 0 n s l) = true) (hk : I64 k) (hn : I64 n) (hs : s.length ≤ 3) (hsz : sizeL l + 1 ≤ K) (hu : u ≤ u1 + K) :
    Box (five wi R (.int .i64 k) (.int .i64 0) (.int .i64 n) (.string ⟨s.toArray⟩) v) R NodeT #[.int .i64 k, .int .i64 0, .int .i64 n, .string ⟨s.toArray⟩, v] ∧ GrowPost f K p u1 sl w (.returned (.agg #[.int .i64 k, .int .i64 0, .int .i64 n, .string ⟨s.toArray⟩, v])) (five wi R (.int .i64 k) (.int .i64 0) (.int .i64 n) (.string ⟨s.toArray⟩) v) :=
  grow_end (t := .mk k 0 n s l) h0 hR h.hb hf (hd_of _ _ _ _ _ hk (by unfold I64; omega) hn hs) (by rw [size_mk]; exact hsz) (h.hl.kids.mono fun b hb => by have hb2 : O + 1 ≤ b := hb; have := h.hRO; omega) h.hs hu h.hg
end
theorem node_ret2 {fn : Func} (hr : fn.results = #[ResultVar.cell 2 NodeT]) {tm : Array Value} {w2 : World} {R : Nat} {a b c d e : Value} (h4 : tm.getD 2 undef = .pointer (some ⟨R, 0, none⟩)) (hb : Box w2 R NodeT #[a, b, c, d, e]) :
    (results fn tm).run Tryd.prog w2 = .ok (.agg #[a, b, c, d, e]) w2 := by
  have x0 := hb.cell 0
  have x1 := hb.cell 1
  have x2 := hb.cell 2
  have x3 := hb.cell 3
  have x4 := hb.cell 4
  simp only [List.getElem?_toArray, List.getElem?_cons_zero, List.getElem?_cons_succ] at x0 x1 x2 x3 x4
  have h4' : tm[2]?.getD undef = .pointer (some ⟨R, 0, none⟩) := by simpa using h4
  simp [results, hr, go_sem, h4', x0, x1, x2, x3, x4]
/-! ### blocks and declarations -/
theorem gblock_any (d : Nat) (hd : d ≤ 20) : ∀ (p u : Nat) (sl : Value) (w : World), Sd w p sl u → u + (3 * gS d + 1) ≤ 1099511627776 →
    Calls Tryd.prog 39 #[.pointer (some ⟨p, 0, none⟩), .int .i64 d] w (GrowPost NT.blk (3 * gS d + 1) p u sl w) :=
  gblock_of d (gS d) (fun p u sl w h1 h2 => gstmt_any d p u sl w hd h1 h2)
theorem gS_two : gS 2 = 18230 := rfl
theorem gS_three : gS 3 = 164273 := rfl
theorem decl_rec {s : List UInt8} {l : List NT} (h : named s = true) (h2 : ∀ t ∈ l, paramN t = true) (h3 : l ≠ []) : declN (.mk 51 0 0 s l) = true := by
  have h4 : l.all paramN = true := by rw [List.all_eq_true]; exact h2
  rw [decl_mk]
  simp [h, h3, declP, declE]
  exact h2
theorem decl_iso1 {s : List UInt8} {n : Int} {t : NT} (h : named s = true) (hn : 0 ≤ n) (h2 : t.typ = true) : declN (.mk 52 0 n s [t]) = true := by
  rw [decl_mk]
  simp [h, h2, hn, isoN]
theorem decl_iso2 {s m : List UInt8} {n : Int} {t : NT} (h : named s = true) (hn : 0 ≤ n) (h2 : t.typ = true) (h3 : named m = true) : declN (.mk 52 0 n s ([t] ++ [.mk 12 0 0 m []])) = true := by
  have h4 := expr_name h3
  rw [decl_mk]
  simp [NT.kind, h, h2, hn, h4, isoN]
theorem decl_merge {s : List UInt8} {l : List NT} {b : NT} (h : named s = true) (hl : l.length = 3) (h2 : ∀ t ∈ l, paramN t = true) (h3 : b.blk = true) : declN (.mk 54 0 0 s (l ++ [b])) = true := by
  have e1 : (declP 54 (l ++ [b])).toNat = l.length := by simp [declP]
  have h5 : ((l ++ [b]).take (declP 54 (l ++ [b])).toNat).all paramN = true := by
    rw [e1, List.take_left, List.all_eq_true]
    exact h2
  rw [decl_mk, h5]
  simp [h, h3, declE, hl]
theorem decl_fun {s : List UInt8} {l : List NT} {a b : NT} (h : named s = true) (h2 : ∀ t ∈ l, paramN t = true) (h3 : a.answer = true) (h4 : b.blk = true) : declN (.mk 53 0 0 s (l ++ [a] ++ [b])) = true := by
  have e : l ++ [a] ++ [b] = l ++ [a, b] := by simp
  have e1 : (declP 53 (l ++ [a, b])).toNat = l.length := by simp [declP]
  have h5 : ((l ++ [a, b]).take (declP 53 (l ++ [a, b])).toNat).all paramN = true := by
    rw [e1, List.take_left, List.all_eq_true]
    exact h2
  rw [e, decl_mk, h5]
  simp [h, h3, h4, declE]
theorem answer_typ {t : NT} (h : t.typ = true) : t.answer = true := by unfold NT.answer; rw [h]; rfl
theorem answer_none : (NT.mk 0 0 0 [] []).answer = true := by unfold NT.answer; simp [NT.kind, NT.num, NT.name, NT.kids, aloneN]
end Go.Proofs.YtkmkeaeaalnbjaaDoor.nt

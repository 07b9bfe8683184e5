import Derived.Test.YtgohkmdepjmpaaaDoorCGExpBeg
import Derived.Test.YtgohkmdepjmpaaaDoorCGExpBase
/- The package's reader reads the name of a field. -/
--KEEP
namespace Go.Proofs.YtgohkmdepjmpaaaDoor.pm.em
open Go.RowKit wd lx nt ne pm mem
open vt (I64 own_base own_form own_below own_step set_same Typ)
variable {l : List Tk} {v : Value} {w0 : World} {rb : Nat} {A A' : Nat → Prop} {i j : Int} {wants over : Bool} {rs : List NT} {G : List Frm} {w w' : World}

/-- the last of what is read, as it lies -/
theorem last_nod {vr vo : Value} {vs : List Value} {n : NT} (hr : Rows w0 rb A (rs ++ [n]) G vr vo vs w) : ∃ g c xs s, vr = .slice (some ⟨g, 0, none⟩) (rs.length + 1) c ∧ vs = xs ++ [.int .i64 n.kind, .int .i64 n.at_, .int .i64 n.num, .string ⟨n.name.toArray⟩, s] ∧ xs.length = rs.length * 5 ∧ w0.heap.size ≤ g ∧ g < w.heap.size ∧ rs.length + 1 ≤ c ∧ Hd n ∧ nt.Kids (KP w0 rb vr vo) w n.kids s ∧ Nods (KP w0 rb vr vo) w rs xs ∧
    (w.cell? ⟨g, rs.length * 5, none⟩ = some (.int .i64 n.kind) ∧ w.cell? ⟨g, rs.length * 5 + 1, none⟩ = some (.int .i64 n.at_) ∧ w.cell? ⟨g, rs.length * 5 + 2, none⟩ = some (.int .i64 n.num) ∧ w.cell? ⟨g, rs.length * 5 + 3, none⟩ = some (.string ⟨n.name.toArray⟩) ∧ w.cell? ⟨g, rs.length * 5 + 4, none⟩ = some s) ∧ ∀ k, w.frozen? ⟨g, k, none⟩ = false := by
  have ho := hr.own
  obtain ⟨xs, ys, rfl, hx, hy⟩ := nods_split hr.nods
  rw [Nods] at hy
  obtain ⟨s, rest, rfl, hd, hk, hz⟩ := hy
  rw [Nods] at hz
  subst hz
  have hlx := hx.len
  rcases ho.2 with ⟨_, hn⟩ | ⟨g, c, cur, hv, hb, hg, hc, _⟩
  · simp at hn
  · have hl1 : (rs ++ [n]).length = rs.length + 1 := by rw [List.length_append]; rfl
    rw [hl1] at hv hc ho
    subst hv
    refine ⟨g, c, xs, s, rfl, rfl, hlx, hb, (Array.getElem?_eq_some_iff.1 hg).1, by omega, hd, hk, hx, ?_, fun k => ho.frozenAt k⟩
    have key : ∀ j u, j < 5 → [Value.int .i64 n.kind, .int .i64 n.at_, .int .i64 n.num, .string ⟨n.name.toArray⟩, s][j]? = some u → w.cell? ⟨g, rs.length * 5 + j, none⟩ = some u := fun j u hj hu => by
      rw [ho.cellAt _ (by omega), List.getElem?_append_right (by omega), show rs.length * 5 + j - xs.length = j by omega]
      exact hu
    exact ⟨key 0 _ (by decide) rfl, key 1 _ (by decide) rfl, key 2 _ (by decide) rfl, key 3 _ (by decide) rfl, key 4 _ (by decide) rfl⟩
theorem frz_alloc {g k : Nat} (o : Obj) (hg : g < w.heap.size) (hf : w.frozen? ⟨g, k, none⟩ = false) : (w.alloc o).drew.frozen? ⟨g, k, none⟩ = false := by
  rw [← hf]
  exact World.frozen?_of_block (w := w) (w' := w.alloc o) (a := ⟨g, k, none⟩) (Below.heap_alloc w o g hg)
theorem set_alloc (o : Obj) {g k : Nat} (x : Value) (hg : g < w.heap.size) : (w.setCell ⟨g, k, none⟩ x).alloc o = (w.alloc o).setCell ⟨g, k, none⟩ x := by
  unfold World.setCell World.alloc
  congr 1
  apply Array.ext_getElem?
  intro j
  dsimp only
  rw [Array.getElem?_push, Array.getElem?_modify, Array.getElem?_modify, Array.getElem?_push, Array.size_modify]
  by_cases hj : j = w.heap.size
  · have : ¬ g = w.heap.size := by omega
    simp [hj, this]
  · simp [hj]
theorem five_alloc (o : Obj) {g k : Nat} {a b c d e : Value} (hg : g < w.heap.size) : (five' w g k a b c d e).alloc o = five' (w.alloc o) g k a b c d e := by
  unfold five'
  rw [set_alloc, set_alloc, set_alloc, set_alloc, set_alloc] <;> simpa [World.setCell] using hg
/-- another node lies where the last one lay -/
theorem repl_node {m n : NT} {s' s vo : Value} {g c N : Nat} {xs : List Value} (h : Rd l v w0 rb A i wants over (rs ++ [n]) G w) (hb : Box w rb RdT #[v, .int .i64 i, .bool wants, .bool over, .slice (some ⟨g, 0, none⟩) (N + 1) c, vo]) (hr : Rows w0 rb A (rs ++ [n]) G (.slice (some ⟨g, 0, none⟩) (N + 1) c) vo (xs ++ [.int .i64 n.kind, .int .i64 n.at_, .int .i64 n.num, .string ⟨n.name.toArray⟩, s]) w) (hN : N = rs.length) (hxl : xs.length = rs.length * 5) (hx : Nods (KP w0 rb (.slice (some ⟨g, 0, none⟩) (N + 1) c) vo) w rs xs)
    (hk : nt.Kids (KP w0 rb (.slice (some ⟨g, 0, none⟩) (N + 1) c) vo) w m.kids s') (hd : Hd m) :
    Rd l v w0 rb A i wants over (rs ++ [m]) G (five' w g (N * 5) (.int .i64 m.kind) (.int .i64 m.at_) (.int .i64 m.num) (.string ⟨m.name.toArray⟩) s') ∧ Keep A w (five' w g (N * 5) (.int .i64 m.kind) (.int .i64 m.at_) (.int .i64 m.num) (.string ⟨m.name.toArray⟩) s') := by
  have ht : Typ w RdT rb := ⟨_, _, hb⟩
  have hl2 : (rs ++ [n]).length = N + 1 := by rw [List.length_append, hN]; rfl
  have hl3 : (rs ++ [m]).length = N + 1 := by rw [List.length_append, hN]; rfl
  have hown := hr.own
  rw [hl2] at hown
  have hat : (Value.slice (some ⟨g, 0, none⟩) (N + 1) c).ownBlock = some g ∨ w.heap.size ≤ g := Or.inl rfl
  have o5 := (((((hown.stored (N * 5) (.int .i64 m.kind)).1.stored (N * 5 + 1) (.int .i64 m.at_)).1.stored (N * 5 + 2) (.int .i64 m.num)).1.stored (N * 5 + 3) (.string ⟨m.name.toArray⟩)).1.stored (N * 5 + 4) s').1
  rw [set5 _ _ _ _ _ _ _ _ _ _ _ _ (by rw [hxl, hN])] at o5
  have g0 : w.grownBy w (Value.slice (some ⟨g, 0, none⟩) (N + 1) c).ownBlock := ⟨rfl, rfl, rfl, Nat.le_refl _, fun _ _ _ => rfl⟩
  have g5 := vt.grown_set (i := N * 5 + 4) (vt.grown_set (i := N * 5 + 3) (vt.grown_set (i := N * 5 + 2) (vt.grown_set (i := N * 5 + 1) (vt.grown_set (i := N * 5) g0 hat (.int .i64 m.kind)) hat (.int .i64 m.at_)) hat (.int .i64 m.num)) hat (.string ⟨m.name.toArray⟩)) hat s'
  replace o5 : (five' w g (N * 5) (.int .i64 m.kind) (.int .i64 m.at_) (.int .i64 m.num) (.string ⟨m.name.toArray⟩) s').ownsRow w0.heap.size NodeT 5 (.slice (some ⟨g, 0, none⟩) (N + 1) c) (N + 1) (xs ++ [.int .i64 m.kind, .int .i64 m.at_, .int .i64 m.num, .string ⟨m.name.toArray⟩, s']) := o5
  replace g5 : w.grownBy (five' w g (N * 5) (.int .i64 m.kind) (.int .i64 m.at_) (.int .i64 m.num) (.string ⟨m.name.toArray⟩) s') (Value.slice (some ⟨g, 0, none⟩) (N + 1) c).ownBlock := g5
  obtain ⟨W4, hW4⟩ : ∃ W4, W4 = five' w g (N * 5) (.int .i64 m.kind) (.int .i64 m.at_) (.int .i64 m.num) (.string ⟨m.name.toArray⟩) s' := ⟨_, rfl⟩
  rw [← hW4] at o5 g5 ⊢
  clear hW4
  have key : ∀ b o, b < w.heap.size → some b ≠ (Value.slice (some ⟨g, 0, none⟩) (N + 1) c).ownBlock → W4.cell? ⟨b, o, none⟩ = w.cell? ⟨b, o, none⟩ := fun b o h1 h2 => World.cell?_of_block (w := w) (w' := W4) (a := ⟨b, o, none⟩) (g5.block b h1 h2)
  have hb4 : Box W4 rb RdT _ := hb.grown g5 fun e => (Typ.own hr.own e.symm).ne ht (by decide) rfl
  have hkeep : Keep A w W4 := fun b q => g5.block b (h.ap b q).2.1 (hr.apr b q).1
  have hopn : W4.ownsRow w0.heap.size BgT 9 vo G.length (opnV G) := own_step hr.opn fun k hk => g5.block k (Typ.own hr.opn hk).lt fun e => (Typ.own hr.opn hk).ne (Typ.own hr.own e.symm) (by decide) rfl
  have hnods : Nods (KP w0 rb (.slice (some ⟨g, 0, none⟩) (N + 1) c) vo) W4 (rs ++ [m]) (xs ++ [.int .i64 m.kind, .int .i64 m.at_, .int .i64 m.num, .string ⟨m.name.toArray⟩, s']) := by
    refine Nods.append (hx.carry fun b o u q hc => ?_) ?_
    · have hlt : b < w.heap.size := World.block_lt_of_cell? _ _ hc
      exact ⟨q, (key b o hlt q.2.2.1).trans hc⟩
    · rw [Nods]
      refine ⟨s', [], rfl, hd, hk.carry fun b o u q hc => ?_, by rw [Nods]⟩
      have hlt : b < w.heap.size := World.block_lt_of_cell? _ _ hc
      exact ⟨q, (key b o hlt q.2.2.1).trans hc⟩
  refine ⟨⟨h.env, h.low.grown g5 h.low.size fun k hk => (hr.own.lt k hk).1, h.hB, fun b q => ?_, h.fit, h.num, _, vo, _, hb4, by rw [hl3]; exact o5, hnods, hopn, hr.apr⟩, hkeep⟩
  have h1 := h.ap b q
  have h2 := g5.size
  omega
set_option maxRecDepth 100000 in
set_option maxHeartbeats 4000000 in
theorem field_any (bn : Bool) (a : Int) (n : NT) (ha : I64 a) (h : Rd l v w0 rb A i false false (rdL G ++ [n]) G w) (hbn : decide ((tokAt l i).kind = 1) = bn) (hl : (rdL G).length ≤ 1048580) :
    Calls Tryd.prog 49 #[.pointer (some ⟨rb, 0, none⟩), .int .i64 a] w (OutP l v w0 rb (if bn = true then Out.go (.have_ (i + 1) G (.mk 14 a 0 (tokAt l i).text [n])) else Out.no i)) := by
  obtain ⟨o, ho⟩ : ∃ o, o = (if bn = true then Out.go (.have_ (i + 1) G (.mk 14 a 0 (tokAt l i).text [n])) else Out.no i) := ⟨_, rfl⟩
  rw [← ho]
  have HO := Lib.hid ho
  have HR := Lib.hid h
  have HC := Lib.hid (token_any h)
  have HL := Lib.hid hl
  have HA := Lib.hid ha
  have HFA := Lib.hid (h.env.src.fair i)
  have HLEN := Lib.hid h.env.src.len
  have HBN := Lib.hid hbn
  clear h hl ho hbn ha
  go_enter Tryd.func49, Tryd.ntmps49
  go_wp2_with (fail)
  refine HC.out.mono ?_
  rintro e w1 ⟨rfl, hb1⟩
  have HB1 := Lib.hid hb1
  clear hb1
  unfold tkA
  go_wp2_with (fail)
  obtain ⟨T, hT⟩ : ∃ T, T = w1.heap.size := ⟨_, rfl⟩
  obtain ⟨Y, hY⟩ : ∃ Y, Y = w1.alloc (.cells #[.int .i64 (tokAt l i).kind, .int .i64 (tokAt l i).at_, .int .i64 (tokAt l i).n, .string ⟨(tokAt l i).text.toArray⟩] TkT) := ⟨_, rfl⟩
  rw [← hT]
  rw [show w1.alloc (.cells #[.int .i64 (tokAt l i).kind, .int .i64 (tokAt l i).at_, .int .i64 (tokAt l i).n, .string ⟨(tokAt l i).text.toArray⟩] 44) = Y from hY.symm]
  have bT : Box Y T TkT #[.int .i64 (tokAt l i).kind, .int .i64 (tokAt l i).at_, .int .i64 (tokAt l i).n, .string ⟨(tokAt l i).text.toArray⟩] := by rw [hY]; exact Box.new _ _ _ _ hT
  have hbY : Below w.heap.size w Y := by rw [hY]; exact HB1.out.alloc HB1.out.size _
  have HN2 := Lib.hid (name_tok (tokAt l i) Y ((HR.out.on hbY).ldw) (fun hk => (HR.out.env.good i).1 hk))
  rw [HBN.out] at HN2
  have HBT := Lib.hid bT
  have HBY := Lib.hid hbY
  have HTZ : Hid (¬ T = rb ∧ w.heap.size ≤ T) := Lib.hid ⟨by have := HR.out.lt; have := HB1.out.size; omega, by have := HB1.out.size; omega⟩
  unfold tkA at HN2
  clear hT hY bT hbY
  refine HN2.out.mono ?_
  rintro e w3 ⟨rfl, hb3⟩
  have hb3w : Below w.heap.size w w3 := HBY.out.trans (hb3.mono HBY.out.size)
  have bT3 := HBT.out.on hb3
  have HBT3 := Lib.hid bT3
  have HR3 := Lib.hid (HR.out.on hb3w)
  clear hb3 hb3w bT3
  cases bn with
  | false =>
    go_wp2_with (fail)
    go_ret
    rw [HO.out, if_neg (by decide)]
    exact ⟨rfl, _, _, _, _, HR3.out.non⟩
  | true =>
    have hin := tok_in (show (tokAt l i).kind ≠ 0 by have := of_decide_eq_true HBN.out; omega)
    have hlen := HLEN.out
    have hx : IntKind.i64.wrap (i + 1) = i + 1 := IntWalk.i64_in _ (by omega)
    have hrj := HR3.out.seti (j := i + 1) (by unfold I64; omega)
    obtain ⟨vr0, vo0, vs0, ⟨_, c1, _, _, _, _⟩, hf, _, _⟩ := HR3.out.cells
    have f1 := hf 1
    obtain ⟨Z, hZ⟩ : ∃ Z, Z = w3.setCell ⟨rb, 1, none⟩ (.int .i64 (i + 1)) := ⟨_, rfl⟩
    have hTr := HTZ.out.1
    rw [← hZ] at hrj
    have bTZ : Box Z T TkT #[.int .i64 (tokAt l i).kind, .int .i64 (tokAt l i).at_, .int .i64 (tokAt l i).n, .string ⟨(tokAt l i).text.toArray⟩] := by rw [hZ]; exact HBT3.out.far hTr _
    obtain ⟨vr, vo, vs, hcl, _, hbx, hr⟩ := hrj.cells
    clear hcl
    obtain ⟨g, c, xs, s, rfl, rfl, hxl, hgB, hgl, hgc, hdn, hkn, hxn, ⟨e0, e1, e2, e3, e4⟩, hfg⟩ := last_nod hr
    obtain ⟨As, cs, rfl, _⟩ := hkn.form
    have hFIN : Rd l v w0 rb (fun _ => False) (i + 1) false false (rdL G ++ [.mk 14 a 0 (tokAt l i).text [n]]) G (((five' Z g ((rdL G).length * 5) (.int .i64 14) (.int .i64 a) (.int .i64 0) (.string ⟨(tokAt l i).text.toArray⟩) (.slice (some ⟨Z.heap.size, 0, none⟩) 1 1)).alloc (.cells #[.int .i64 n.kind, .int .i64 n.at_, .int .i64 n.num, .string ⟨n.name.toArray⟩, .slice As n.kids.length cs] NodeT)).drew) := by
      rw [five_alloc _ hgl]
      have hb : Below Z.heap.size Z (Z.alloc (.cells #[.int .i64 n.kind, .int .i64 n.at_, .int .i64 n.num, .string ⟨n.name.toArray⟩, .slice As n.kids.length cs] NodeT)) := (Below.refl _ _).alloc (Nat.le_refl _) _
      have hKPn : KP w0 rb (.slice (some ⟨g, 0, none⟩) ((rdL G).length + 1) c) vo Z.heap.size := ⟨hrj.low.size, (by have := hbx.lt; omega), (fun e => by have := (hr.own.lt _ e.symm).2; omega), (fun e => by have := (hr.opn.lt _ e.symm).2; omega)⟩
      have hrow := row_one (w := Z) (N := Z.heap.size) rfl hdn hkn hKPn
      have hb1 := hbx.on hb
      exact (repl_node (m := .mk 14 a 0 (tokAt l i).text [n]) (hrj.on_ hb) hb1 ⟨own_below hr.own hb, hr.nods.below hb, own_below hr.opn hb, hr.apr⟩ rfl hxl (hxn.below hb) hrow ⟨(by show I64 14; unfold I64; omega), HA.out, (by show I64 0; unfold I64; omega), HFA.out.2.2⟩).1.non.drew_
    obtain ⟨M, hM⟩ : ∃ M, M = (rdL G).length := ⟨_, rfl⟩
    obtain ⟨Mk, hMk⟩ : ∃ Mk, Mk = n.kids.length := ⟨_, rfl⟩
    obtain ⟨nk, hnk⟩ : ∃ nk, nk = n.kind := ⟨_, rfl⟩
    obtain ⟨na, hna⟩ : ∃ na, na = n.at_ := ⟨_, rfl⟩
    obtain ⟨nn, hnn⟩ : ∃ nn, nn = n.num := ⟨_, rfl⟩
    obtain ⟨nm, hnm⟩ : ∃ nm, nm = n.name := ⟨_, rfl⟩
    have c4 : Z.cell? ⟨rb, 4, none⟩ = some (.slice (some ⟨g, 0, none⟩) (M + 1) c) := by rw [hM]; exact hbx.cell 4
    have t3 := bTZ.cell 3
    simp only [List.getElem?_toArray, List.getElem?_cons_zero, List.getElem?_cons_succ] at t3
    rw [← hM, ← hMk, ← hnk, ← hna, ← hnn, ← hnm] at hFIN
    have HFIN := Lib.hid hFIN
    clear hFIN
    rw [← hM] at e0 e1 e2 e3 e4
    rw [← hnk] at e0
    rw [← hna] at e1
    rw [← hnn] at e2
    rw [← hnm] at e3
    rw [← hMk] at e4
    have g0 := hfg (M * 5)
    have g1 := hfg (M * 5 + 1)
    have g2 := hfg (M * 5 + 2)
    have g3 := hfg (M * 5 + 3)
    have g4 := hfg (M * 5 + 4)
    have hMl : M ≤ 1048580 := by rw [hM]; exact HL.out
    have x3 : IntKind.i64.wrap ((M : Int) + 1 - 1) = M := by rw [IntWalk.i64_in _ (by omega)]; omega
    have x6 : (0 : Int) ≤ (M : Int) := by omega
    have x7 : (M : Int) < (M : Int) + 1 := by omega
    have hgr : ¬ g = rb := (Typ.own hr.own (k := g) rfl).ne (⟨_, _, hbx⟩ : Typ Z RdT rb) (by decide)
    have hgT : ¬ g = T := (Typ.own hr.own (k := g) rfl).ne (⟨_, _, bTZ⟩ : Typ Z TkT T) (by decide)
    have hrg : ¬ rb = g := fun e => hgr e.symm
    have hTg : ¬ T = g := fun e => hgT e.symm
    have hrz : rb < Z.heap.size := hbx.lt
    have hTZ : T < Z.heap.size := bTZ.lt
    have HHH := Lib.hid (And.intro hM (And.intro hMk (And.intro hnk (And.intro hna (And.intro hnn hnm)))))
    have HRJ := Lib.hid hrj
    have HBX := Lib.hid (And.intro hbx hr)
    have HKN := Lib.hid (And.intro hkn (And.intro hxn (And.intro hxl hdn)))
    have HZ := Lib.hid hZ
    have HFG := Lib.hid hfg
    have HGB := Lib.hid hgB
    clear hin hlen hrj hf hbx hr hkn hxn hxl hdn hM hMk hnk hna hnn hnm bTZ hfg hgB hZ
    go_wp2_with (first | (rw [← HZ.out]))
    go_region
    all_goals go_wp2_with (fail)
    all_goals go_ret
    all_goals rw [HO.out, if_pos trivial]
    all_goals exact ⟨rfl, HFIN.out⟩
end Go.Proofs.YtgohkmdepjmpaaaDoor.pm.em

/- The package's reader leaves an expression. -/
--KEEP
namespace Go.Proofs.YtgohkmdepjmpaaaDoor.pm.em
open Go.RowKit wd lx nt ne pm mem
open vt (I64 own_base own_form own_below own_step set_same Typ)
variable {l : List Tk} {v : Value} {w0 : World} {rb : Nat} {A A' : Nat → Prop} {i j : Int} {wants over : Bool} {rs : List NT} {G : List Frm} {w w' : World}

theorem more_frm (f : Frm) (n : NT) (hm : f.many = true) : rdL (f.more n :: G) = rdL (f :: G) ++ [n] ∧ opnV (f.more n :: G) = opnV (f :: G) ∧ (f.more n).node = f.node := by
  cases f with
  | arg k a nm ks => exact ⟨by rw [rdL, rdL]; simp [Frm.more, Frm.kids], rfl, rfl⟩
  | _ => cases hm
theorem Rd.more {f : Frm} {n : NT} (hm : f.many = true) (h : Rd l v w0 rb A i wants over (rdL (f :: G) ++ [n]) (f :: G) w) : Rd l v w0 rb A i wants over (rdL (f.more n :: G)) (f.more n :: G) w := by
  obtain ⟨e1, e2, e3⟩ := more_frm (G := G) f n hm
  obtain ⟨vr, vo, vs, hb, hr⟩ := h.ex
  refine ⟨h.env, h.low, h.hB, h.ap, fun g hg => ?_, h.num, vr, vo, vs, hb, by rw [e1]; exact hr.own, by rw [e1]; exact hr.nods, by rw [e2]; exact hr.opn, hr.apr⟩
  rcases List.mem_cons.1 hg with rfl | hg
  · rw [e3]; exact h.fit f (List.mem_cons_self ..)
  · exact h.fit g (List.mem_cons_of_mem _ hg)
/-- what is begun ends, whatever it is -/
theorem end_any (f : Frm) (n : NT) (hk : f ≠ .brk → f.node.kind ≠ 0) (h : Rd l v w0 rb A i false over (rdL (f :: G) ++ [n]) (f :: G) w) (hl : (rdL (f :: G) ++ [n]).length ≤ 1048590) (hG : G.length ≤ 1048590) :
    Calls Tryd.prog 41 #[.pointer (some ⟨rb, 0, none⟩)] w (fun e w' => e = .returned (.tuple #[]) ∧ Rd l v w0 rb A i false over (rdL G ++ [f.close n]) G w' ∧ Keep A w w') := by
  by_cases hf : f = .brk
  · subst hf
    have e : rdL (.brk :: G) ++ [n] = rdL G ++ [n] := by rw [rdL]; simp [Frm.kids]
    rw [e] at h
    exact end_brk h hG
  · rw [close_of hf]
    have e : rdL (f :: G) ++ [n] = rdL G ++ (f.kids ++ [n]) := by rw [rdL, List.append_assoc]
    rw [e] at h hl
    exact end_node f (f.kids ++ [n]) hf (hk hf) h hl hG
/-- the last of what is begun, copied to a block of its own -/
theorem top_copy {f : Frm} {vr vo : Value} {vs : List Value} (hr : Rows w0 rb A rs (f :: G) vr vo vs w) : True := trivial
set_option maxRecDepth 100000 in
set_option maxHeartbeats 2000000 in
theorem leave_nil (n : NT) (h : Rd l v w0 rb (fun _ => False) i false false (rdL G ++ [n]) G w) (hl : (rdL G ++ [n]).length ≤ 1048580) (hG : G.length ≤ 1048580) (m : NT) (hs : settle 1 G n = ([], m)) :
    Calls Tryd.prog 51 #[.pointer (some ⟨rb, 0, none⟩)] w (OutP l v w0 rb (.over m i)) := by
  have HS := Lib.hid (settle_any 1 n (by decide) (by decide) h (by omega) (by omega))
  rw [hs] at HS
  clear h hl hG
  go_enter Tryd.func51, Tryd.ntmps51
  go_wp2_with (fail)
  refine HS.out.mono ?_
  rintro e w1 ⟨rfl, hr1, _⟩
  obtain ⟨vr, vo, vs, ⟨_, _, _, c3, _, c5⟩, hf, hbx, hr⟩ := hr1.cells
  obtain ⟨Ao, co, rfl⟩ := own_form hr.opn
  have f3 := hf 3
  rw [List.length_nil] at c5
  have HR1 := Lib.hid (hr1.seto true)
  clear hf hbx hr hr1
  go_wp2_with (fail)
  go_ret
  exact ⟨rfl, HR1.out⟩
set_option maxRecDepth 100000 in
set_option maxHeartbeats 4000000 in
theorem leave_comma (n : NT) (f : Frm) (G2 : List Frm) (m : NT) (hs : settle 1 G n = (f :: G2, m)) (hm : f.many = true) (hc : isM l i [44] = true) (h : Rd l v w0 rb (fun _ => False) i false false (rdL G ++ [n]) G w) (hl : (rdL G ++ [n]).length ≤ 1048580) (hG : G.length ≤ 1048580) (hl2 : (rdL (f :: G2) ++ [m]).length ≤ 1048580) (hk : f ≠ .brk → f.node.kind ≠ 0) :
    Calls Tryd.prog 51 #[.pointer (some ⟨rb, 0, none⟩)] w (OutP l v w0 rb (Out.go (.want (i + 1) (f.more m :: G2)))) := by
  have HS := Lib.hid (settle_any 1 n (by decide) (by decide) h (by omega) (by omega))
  rw [hs] at HS
  have hG2 : (f :: G2).length ≤ 1048580 := by have := settle_len (t := 1) G n; rw [hs] at this; exact Nat.le_trans this hG
  rw [List.length_cons] at hG2
  have HL := Lib.hid hl2
  have HK := Lib.hid hk
  have HMN := Lib.hid hm
  have HC := Lib.hid hc
  clear hm hc
  clear h hl hG hs hl2 hk
  go_enter Tryd.func51, Tryd.ntmps51
  go_wp2_with (fail)
  refine HS.out.mono ?_
  rintro e w1 ⟨rfl, h, _⟩
  obtain ⟨vr, vo, vs, ⟨_, _, _, _, _, c5⟩, hf, hbx, hr⟩ := h.cells
  obtain ⟨g, c, rfl, hgB, hgl, hMc, hc⟩ := last_frm hr
  have e0 := hc 0 _ rfl
  rw [Nat.add_zero] at e0
  have e1 := hc 1 _ rfl
  have e2 := hc 2 _ rfl
  have e3 := hc 3 _ rfl
  have e4 := hc 4 _ rfl
  have e5 := hc 5 _ rfl
  have e6 := hc 6 _ rfl
  have e7 := hc 7 _ rfl
  have e8 := hc 8 _ rfl
  obtain ⟨M, hM⟩ : ∃ M, M = G2.length := ⟨_, rfl⟩
  obtain ⟨bd, hbd⟩ : ∃ bd, bd = f.bind := ⟨_, rfl⟩
  obtain ⟨nk, hnk⟩ : ∃ nk, nk = f.node.kind := ⟨_, rfl⟩
  obtain ⟨na, hna⟩ : ∃ na, na = f.node.at_ := ⟨_, rfl⟩
  obtain ⟨nn, hnn⟩ : ∃ nn, nn = f.node.num := ⟨_, rfl⟩
  obtain ⟨nm, hnm⟩ : ∃ nm, nm = f.node.name := ⟨_, rfl⟩
  obtain ⟨sh, hsh⟩ : ∃ sh, sh = f.shut := ⟨_, rfl⟩
  obtain ⟨mn, hmn⟩ : ∃ mn, mn = f.many := ⟨_, rfl⟩
  obtain ⟨F, hF⟩ : ∃ F, F = f.first G2 := ⟨_, rfl⟩
  rw [← hM] at c5 e0 e1 e2 e3 e4 e5 e6 e7 e8 hMc hG2
  rw [← hnk] at e0
  rw [← hna] at e1
  rw [← hnn] at e2
  rw [← hnm] at e3
  rw [← hF] at e5
  rw [← hbd] at e6
  rw [← hsh] at e7
  rw [← hmn] at e8
  have x3 : IntKind.i64.wrap ((M : Int) + 1 - 1) = M := by rw [IntWalk.i64_in _ (by omega)]; omega
  have x5 : ((M : Int) + 1 == 0) = false := beq_eq_false_iff_ne.2 (by omega)
  have x4 : IntKind.i64.wrap (M : Int) = M := IntWalk.i64_in _ (by omega)
  have x6 : (0 : Int) ≤ (M : Int) := by omega
  have x7 : (M : Int) < (M : Int) + 1 := by omega
  have hrz : rb < w1.heap.size := hbx.lt
  obtain ⟨L, hL⟩ : ∃ L, L = w1.heap.size := ⟨_, rfl⟩
  obtain ⟨W1, hW1⟩ : ∃ W1, W1 = (w1.alloc (.cells #[.int .i64 nk, .int .i64 na, .int .i64 nn, .string ⟨nm.toArray⟩, .slice none 0 0, .int .i64 (F : Int), .int .i64 bd, .string ⟨sh.toArray⟩, .bool mn] BgT)).drew := ⟨_, rfl⟩
  have hb1 : Below w1.heap.size w1 W1 := by rw [hW1]; exact ((Below.refl _ _).alloc (Nat.le_refl _) _).drew
  have bL : Box W1 L BgT #[.int .i64 nk, .int .i64 na, .int .i64 nn, .string ⟨nm.toArray⟩, .slice none 0 0, .int .i64 (F : Int), .int .i64 bd, .string ⟨sh.toArray⟩, .bool mn] := by rw [hW1]; exact (Box.new _ _ _ _ hL).drew
  have HR := Lib.hid (h.on_ hb1)
  have HBL := Lib.hid bL
  have HW1 := Lib.hid hW1
  have HHL := Lib.hid hL
  have HLr : Hid (¬ L = rb) := Lib.hid (by omega)
  have HRL := Lib.hid (h.on hb1)
  have HUL : Hid (Up (fun _ => False) w1 W1 L) := Lib.hid (Or.inr ⟨by omega, bL.lt⟩)
  have HM := Lib.hid (And.intro hM (And.intro hsh hmn))
  clear hL hW1 hb1 bL hc hr hbx hf hM hbd hsh hmn h hgB hnk hna hnn hnm hF
  go_wp2_with (fail)
  go_region_held3 (fun w' => w'.cell? ⟨rb, 5, none⟩ = some (.slice (some ⟨g, 0, none⟩) (M + 1) c) ∧ w'.cell? ⟨g, M * 9, none⟩ = some (.int .i64 nk) ∧ w'.cell? ⟨g, M * 9 + 1, none⟩ = some (.int .i64 na) ∧ w'.cell? ⟨g, M * 9 + 2, none⟩ = some (.int .i64 nn) ∧ w'.cell? ⟨g, M * 9 + 3, none⟩ = some (.string ⟨nm.toArray⟩) ∧ w'.cell? ⟨g, M * 9 + 4, none⟩ = some (.slice none 0 0) ∧ w'.cell? ⟨g, M * 9 + 5, none⟩ = some (.int .i64 (F : Int)) ∧ w'.cell? ⟨g, M * 9 + 6, none⟩ = some (.int .i64 bd) ∧ w'.cell? ⟨g, M * 9 + 7, none⟩ = some (.string ⟨sh.toArray⟩) ∧ w'.cell? ⟨g, M * 9 + 8, none⟩ = some (.bool mn)) (first | go_keep) (first | fail)
  clear e0 e1 e2 e3 e4 e5 e6 e7 e8 c5
  rw [← HW1.out, ← HHL.out]
  have m8 := HBL.out.cell 8
  simp only [List.getElem?_toArray, List.getElem?_cons_zero, List.getElem?_cons_succ] at m8
  have hmn := HMN.out
  rw [← HM.out.2.2] at hmn
  subst hmn
  have HT := Lib.hid (took_yes [44] HR.out HC.out)
  go_wp2_with (fail)
  refine HT.out.mono ?_
  rintro e w3 ⟨rfl, hr3, _⟩
  obtain ⟨vr3, vo3, vs3, ⟨_, _, c2, _⟩, hf, _, _⟩ := hr3.cells
  have f2 := hf 2
  have HR3 := Lib.hid (Rd.more HMN.out hr3.non)
  clear hf hr3
  go_wp2_with (fail)
  go_ret
  exact ⟨rfl, HR3.out.setw true⟩
set_option maxRecDepth 100000 in
set_option maxHeartbeats 4000000 in
theorem leave_shut_many (n : NT) (f : Frm) (G2 : List Frm) (m : NT) (hs : settle 1 G n = (f :: G2, m)) (hm : f.many = true) (hc : isM l i [44] = false) (hu : isM l i f.shut = true) (h : Rd l v w0 rb (fun _ => False) i false false (rdL G ++ [n]) G w) (hl : (rdL G ++ [n]).length ≤ 1048580) (hG : G.length ≤ 1048580) (hl2 : (rdL (f :: G2) ++ [m]).length ≤ 1048580) (hk : f ≠ .brk → f.node.kind ≠ 0) :
    Calls Tryd.prog 51 #[.pointer (some ⟨rb, 0, none⟩)] w (OutP l v w0 rb (Out.go (.have_ (i + 1) G2 (f.close m)))) := by
  have HS := Lib.hid (settle_any 1 n (by decide) (by decide) h (by omega) (by omega))
  rw [hs] at HS
  have hG2 : (f :: G2).length ≤ 1048580 := by have := settle_len (t := 1) G n; rw [hs] at this; exact Nat.le_trans this hG
  rw [List.length_cons] at hG2
  have HL := Lib.hid hl2
  have HK := Lib.hid hk
  have HMN := Lib.hid hm
  have HC := Lib.hid hc
  have HU := Lib.hid hu
  clear hm hc hu
  clear h hl hG hs hl2 hk
  go_enter Tryd.func51, Tryd.ntmps51
  go_wp2_with (fail)
  refine HS.out.mono ?_
  rintro e w1 ⟨rfl, h, _⟩
  obtain ⟨vr, vo, vs, ⟨_, _, _, _, _, c5⟩, hf, hbx, hr⟩ := h.cells
  obtain ⟨g, c, rfl, hgB, hgl, hMc, hc⟩ := last_frm hr
  have e0 := hc 0 _ rfl
  rw [Nat.add_zero] at e0
  have e1 := hc 1 _ rfl
  have e2 := hc 2 _ rfl
  have e3 := hc 3 _ rfl
  have e4 := hc 4 _ rfl
  have e5 := hc 5 _ rfl
  have e6 := hc 6 _ rfl
  have e7 := hc 7 _ rfl
  have e8 := hc 8 _ rfl
  obtain ⟨M, hM⟩ : ∃ M, M = G2.length := ⟨_, rfl⟩
  obtain ⟨bd, hbd⟩ : ∃ bd, bd = f.bind := ⟨_, rfl⟩
  obtain ⟨nk, hnk⟩ : ∃ nk, nk = f.node.kind := ⟨_, rfl⟩
  obtain ⟨na, hna⟩ : ∃ na, na = f.node.at_ := ⟨_, rfl⟩
  obtain ⟨nn, hnn⟩ : ∃ nn, nn = f.node.num := ⟨_, rfl⟩
  obtain ⟨nm, hnm⟩ : ∃ nm, nm = f.node.name := ⟨_, rfl⟩
  obtain ⟨sh, hsh⟩ : ∃ sh, sh = f.shut := ⟨_, rfl⟩
  obtain ⟨mn, hmn⟩ : ∃ mn, mn = f.many := ⟨_, rfl⟩
  obtain ⟨F, hF⟩ : ∃ F, F = f.first G2 := ⟨_, rfl⟩
  rw [← hM] at c5 e0 e1 e2 e3 e4 e5 e6 e7 e8 hMc hG2
  rw [← hnk] at e0
  rw [← hna] at e1
  rw [← hnn] at e2
  rw [← hnm] at e3
  rw [← hF] at e5
  rw [← hbd] at e6
  rw [← hsh] at e7
  rw [← hmn] at e8
  have x3 : IntKind.i64.wrap ((M : Int) + 1 - 1) = M := by rw [IntWalk.i64_in _ (by omega)]; omega
  have x5 : ((M : Int) + 1 == 0) = false := beq_eq_false_iff_ne.2 (by omega)
  have x4 : IntKind.i64.wrap (M : Int) = M := IntWalk.i64_in _ (by omega)
  have x6 : (0 : Int) ≤ (M : Int) := by omega
  have x7 : (M : Int) < (M : Int) + 1 := by omega
  have hrz : rb < w1.heap.size := hbx.lt
  obtain ⟨L, hL⟩ : ∃ L, L = w1.heap.size := ⟨_, rfl⟩
  obtain ⟨W1, hW1⟩ : ∃ W1, W1 = (w1.alloc (.cells #[.int .i64 nk, .int .i64 na, .int .i64 nn, .string ⟨nm.toArray⟩, .slice none 0 0, .int .i64 (F : Int), .int .i64 bd, .string ⟨sh.toArray⟩, .bool mn] BgT)).drew := ⟨_, rfl⟩
  have hb1 : Below w1.heap.size w1 W1 := by rw [hW1]; exact ((Below.refl _ _).alloc (Nat.le_refl _) _).drew
  have bL : Box W1 L BgT #[.int .i64 nk, .int .i64 na, .int .i64 nn, .string ⟨nm.toArray⟩, .slice none 0 0, .int .i64 (F : Int), .int .i64 bd, .string ⟨sh.toArray⟩, .bool mn] := by rw [hW1]; exact (Box.new _ _ _ _ hL).drew
  have HR := Lib.hid (h.on_ hb1)
  have HBL := Lib.hid bL
  have HW1 := Lib.hid hW1
  have HHL := Lib.hid hL
  have HLr : Hid (¬ L = rb) := Lib.hid (by omega)
  have HRL := Lib.hid (h.on hb1)
  have HUL : Hid (Up (fun _ => False) w1 W1 L) := Lib.hid (Or.inr ⟨by omega, bL.lt⟩)
  have HM := Lib.hid (And.intro hM (And.intro hsh hmn))
  clear hL hW1 hb1 bL hc hr hbx hf hM hbd hsh hmn h hgB hnk hna hnn hnm hF
  go_wp2_with (fail)
  go_region_held3 (fun w' => w'.cell? ⟨rb, 5, none⟩ = some (.slice (some ⟨g, 0, none⟩) (M + 1) c) ∧ w'.cell? ⟨g, M * 9, none⟩ = some (.int .i64 nk) ∧ w'.cell? ⟨g, M * 9 + 1, none⟩ = some (.int .i64 na) ∧ w'.cell? ⟨g, M * 9 + 2, none⟩ = some (.int .i64 nn) ∧ w'.cell? ⟨g, M * 9 + 3, none⟩ = some (.string ⟨nm.toArray⟩) ∧ w'.cell? ⟨g, M * 9 + 4, none⟩ = some (.slice none 0 0) ∧ w'.cell? ⟨g, M * 9 + 5, none⟩ = some (.int .i64 (F : Int)) ∧ w'.cell? ⟨g, M * 9 + 6, none⟩ = some (.int .i64 bd) ∧ w'.cell? ⟨g, M * 9 + 7, none⟩ = some (.string ⟨sh.toArray⟩) ∧ w'.cell? ⟨g, M * 9 + 8, none⟩ = some (.bool mn)) (first | go_keep) (first | fail)
  clear e0 e1 e2 e3 e4 e5 e6 e7 e8 c5
  rw [← HW1.out, ← HHL.out]
  have m8 := HBL.out.cell 8
  simp only [List.getElem?_toArray, List.getElem?_cons_zero, List.getElem?_cons_succ] at m8
  have hmn := HMN.out
  rw [← HM.out.2.2] at hmn
  subst hmn
  have HT2 := Lib.hid (took_no [44] HRL.out HC.out)
  go_wp2_with (fail)
  refine HT2.out.mono ?_
  rintro e w3 ⟨rfl, hb3⟩
  have hbL3 := HBL.out.on hb3
  have m7 := hbL3.cell 7
  simp only [List.getElem?_toArray, List.getElem?_cons_zero, List.getElem?_cons_succ] at m7
  have RW := Lib.hid (HRL.out.on_ hb3)
  clear hb3 hbL3 m8
  have HUS := HU.out
  rw [← HM.out.2.1] at HUS
  have HT := Lib.hid (took_yes sh RW.out HUS)
  clear HUS
  go_wp2_with (fail)
  refine HT.out.mono ?_
  rintro e w4 ⟨rfl, hr4, _⟩
  have hr5 := hr4.non
  have HEN := Lib.hid (end_any f m HK.out hr5 (by have := HL.out; omega) (by have := HM.out.1; omega))
  clear hr4 hr5
  go_wp2_with (fail)
  refine HEN.out.mono ?_
  rintro e w5 ⟨rfl, hr5, _⟩
  have HR5 := Lib.hid hr5
  clear hr5
  go_wp2_with (fail)
  go_ret
  exact ⟨rfl, HR5.out⟩
set_option maxRecDepth 100000 in
set_option maxHeartbeats 4000000 in
theorem leave_no_many (n : NT) (f : Frm) (G2 : List Frm) (m : NT) (hs : settle 1 G n = (f :: G2, m)) (hm : f.many = true) (hc : isM l i [44] = false) (hu : isM l i f.shut = false) (h : Rd l v w0 rb (fun _ => False) i false false (rdL G ++ [n]) G w) (hl : (rdL G ++ [n]).length ≤ 1048580) (hG : G.length ≤ 1048580) (hl2 : (rdL (f :: G2) ++ [m]).length ≤ 1048580) (hk : f ≠ .brk → f.node.kind ≠ 0) :
    Calls Tryd.prog 51 #[.pointer (some ⟨rb, 0, none⟩)] w (OutP l v w0 rb (Out.no i)) := by
  have HS := Lib.hid (settle_any 1 n (by decide) (by decide) h (by omega) (by omega))
  rw [hs] at HS
  have hG2 : (f :: G2).length ≤ 1048580 := by have := settle_len (t := 1) G n; rw [hs] at this; exact Nat.le_trans this hG
  rw [List.length_cons] at hG2
  have HL := Lib.hid hl2
  have HK := Lib.hid hk
  have HMN := Lib.hid hm
  have HC := Lib.hid hc
  have HU := Lib.hid hu
  clear hm hc hu
  clear h hl hG hs hl2 hk
  go_enter Tryd.func51, Tryd.ntmps51
  go_wp2_with (fail)
  refine HS.out.mono ?_
  rintro e w1 ⟨rfl, h, _⟩
  obtain ⟨vr, vo, vs, ⟨_, _, _, _, _, c5⟩, hf, hbx, hr⟩ := h.cells
  obtain ⟨g, c, rfl, hgB, hgl, hMc, hc⟩ := last_frm hr
  have e0 := hc 0 _ rfl
  rw [Nat.add_zero] at e0
  have e1 := hc 1 _ rfl
  have e2 := hc 2 _ rfl
  have e3 := hc 3 _ rfl
  have e4 := hc 4 _ rfl
  have e5 := hc 5 _ rfl
  have e6 := hc 6 _ rfl
  have e7 := hc 7 _ rfl
  have e8 := hc 8 _ rfl
  obtain ⟨M, hM⟩ : ∃ M, M = G2.length := ⟨_, rfl⟩
  obtain ⟨bd, hbd⟩ : ∃ bd, bd = f.bind := ⟨_, rfl⟩
  obtain ⟨nk, hnk⟩ : ∃ nk, nk = f.node.kind := ⟨_, rfl⟩
  obtain ⟨na, hna⟩ : ∃ na, na = f.node.at_ := ⟨_, rfl⟩
  obtain ⟨nn, hnn⟩ : ∃ nn, nn = f.node.num := ⟨_, rfl⟩
  obtain ⟨nm, hnm⟩ : ∃ nm, nm = f.node.name := ⟨_, rfl⟩
  obtain ⟨sh, hsh⟩ : ∃ sh, sh = f.shut := ⟨_, rfl⟩
  obtain ⟨mn, hmn⟩ : ∃ mn, mn = f.many := ⟨_, rfl⟩
  obtain ⟨F, hF⟩ : ∃ F, F = f.first G2 := ⟨_, rfl⟩
  rw [← hM] at c5 e0 e1 e2 e3 e4 e5 e6 e7 e8 hMc hG2
  rw [← hnk] at e0
  rw [← hna] at e1
  rw [← hnn] at e2
  rw [← hnm] at e3
  rw [← hF] at e5
  rw [← hbd] at e6
  rw [← hsh] at e7
  rw [← hmn] at e8
  have x3 : IntKind.i64.wrap ((M : Int) + 1 - 1) = M := by rw [IntWalk.i64_in _ (by omega)]; omega
  have x5 : ((M : Int) + 1 == 0) = false := beq_eq_false_iff_ne.2 (by omega)
  have x4 : IntKind.i64.wrap (M : Int) = M := IntWalk.i64_in _ (by omega)
  have x6 : (0 : Int) ≤ (M : Int) := by omega
  have x7 : (M : Int) < (M : Int) + 1 := by omega
  have hrz : rb < w1.heap.size := hbx.lt
  obtain ⟨L, hL⟩ : ∃ L, L = w1.heap.size := ⟨_, rfl⟩
  obtain ⟨W1, hW1⟩ : ∃ W1, W1 = (w1.alloc (.cells #[.int .i64 nk, .int .i64 na, .int .i64 nn, .string ⟨nm.toArray⟩, .slice none 0 0, .int .i64 (F : Int), .int .i64 bd, .string ⟨sh.toArray⟩, .bool mn] BgT)).drew := ⟨_, rfl⟩
  have hb1 : Below w1.heap.size w1 W1 := by rw [hW1]; exact ((Below.refl _ _).alloc (Nat.le_refl _) _).drew
  have bL : Box W1 L BgT #[.int .i64 nk, .int .i64 na, .int .i64 nn, .string ⟨nm.toArray⟩, .slice none 0 0, .int .i64 (F : Int), .int .i64 bd, .string ⟨sh.toArray⟩, .bool mn] := by rw [hW1]; exact (Box.new _ _ _ _ hL).drew
  have HR := Lib.hid (h.on_ hb1)
  have HBL := Lib.hid bL
  have HW1 := Lib.hid hW1
  have HHL := Lib.hid hL
  have HLr : Hid (¬ L = rb) := Lib.hid (by omega)
  have HRL := Lib.hid (h.on hb1)
  have HUL : Hid (Up (fun _ => False) w1 W1 L) := Lib.hid (Or.inr ⟨by omega, bL.lt⟩)
  have HM := Lib.hid (And.intro hM (And.intro hsh hmn))
  clear hL hW1 hb1 bL hc hr hbx hf hM hbd hsh hmn h hgB hnk hna hnn hnm hF
  go_wp2_with (fail)
  go_region_held3 (fun w' => w'.cell? ⟨rb, 5, none⟩ = some (.slice (some ⟨g, 0, none⟩) (M + 1) c) ∧ w'.cell? ⟨g, M * 9, none⟩ = some (.int .i64 nk) ∧ w'.cell? ⟨g, M * 9 + 1, none⟩ = some (.int .i64 na) ∧ w'.cell? ⟨g, M * 9 + 2, none⟩ = some (.int .i64 nn) ∧ w'.cell? ⟨g, M * 9 + 3, none⟩ = some (.string ⟨nm.toArray⟩) ∧ w'.cell? ⟨g, M * 9 + 4, none⟩ = some (.slice none 0 0) ∧ w'.cell? ⟨g, M * 9 + 5, none⟩ = some (.int .i64 (F : Int)) ∧ w'.cell? ⟨g, M * 9 + 6, none⟩ = some (.int .i64 bd) ∧ w'.cell? ⟨g, M * 9 + 7, none⟩ = some (.string ⟨sh.toArray⟩) ∧ w'.cell? ⟨g, M * 9 + 8, none⟩ = some (.bool mn)) (first | go_keep) (first | fail)
  clear e0 e1 e2 e3 e4 e5 e6 e7 e8 c5
  rw [← HW1.out, ← HHL.out]
  have m8 := HBL.out.cell 8
  simp only [List.getElem?_toArray, List.getElem?_cons_zero, List.getElem?_cons_succ] at m8
  have hmn := HMN.out
  rw [← HM.out.2.2] at hmn
  subst hmn
  have HT2 := Lib.hid (took_no [44] HRL.out HC.out)
  go_wp2_with (fail)
  refine HT2.out.mono ?_
  rintro e w3 ⟨rfl, hb3⟩
  have hbL3 := HBL.out.on hb3
  have m7 := hbL3.cell 7
  simp only [List.getElem?_toArray, List.getElem?_cons_zero, List.getElem?_cons_succ] at m7
  have RW := Lib.hid (HRL.out.on_ hb3)
  clear hb3 hbL3 m8
  have HUS := HU.out
  rw [← HM.out.2.1] at HUS
  have HT := Lib.hid (took_no sh RW.out HUS)
  clear HUS
  go_wp2_with (fail)
  refine HT.out.mono ?_
  rintro e w4 ⟨rfl, hb4⟩
  have HR4 := Lib.hid (RW.out.on_ hb4)
  clear hb4
  go_wp2_with (fail)
  go_ret
  exact ⟨rfl, _, _, _, _, HR4.out.non⟩
set_option maxRecDepth 100000 in
set_option maxHeartbeats 4000000 in
theorem leave_shut_one (n : NT) (f : Frm) (G2 : List Frm) (m : NT) (hs : settle 1 G n = (f :: G2, m)) (hm : f.many = false) (hu : isM l i f.shut = true) (h : Rd l v w0 rb (fun _ => False) i false false (rdL G ++ [n]) G w) (hl : (rdL G ++ [n]).length ≤ 1048580) (hG : G.length ≤ 1048580) (hl2 : (rdL (f :: G2) ++ [m]).length ≤ 1048580) (hk : f ≠ .brk → f.node.kind ≠ 0) :
    Calls Tryd.prog 51 #[.pointer (some ⟨rb, 0, none⟩)] w (OutP l v w0 rb (Out.go (.have_ (i + 1) G2 (f.close m)))) := by
  have HS := Lib.hid (settle_any 1 n (by decide) (by decide) h (by omega) (by omega))
  rw [hs] at HS
  have hG2 : (f :: G2).length ≤ 1048580 := by have := settle_len (t := 1) G n; rw [hs] at this; exact Nat.le_trans this hG
  rw [List.length_cons] at hG2
  have HL := Lib.hid hl2
  have HK := Lib.hid hk
  have HMN := Lib.hid hm
  have HU := Lib.hid hu
  clear hm hu
  clear h hl hG hs hl2 hk
  go_enter Tryd.func51, Tryd.ntmps51
  go_wp2_with (fail)
  refine HS.out.mono ?_
  rintro e w1 ⟨rfl, h, _⟩
  obtain ⟨vr, vo, vs, ⟨_, _, _, _, _, c5⟩, hf, hbx, hr⟩ := h.cells
  obtain ⟨g, c, rfl, hgB, hgl, hMc, hc⟩ := last_frm hr
  have e0 := hc 0 _ rfl
  rw [Nat.add_zero] at e0
  have e1 := hc 1 _ rfl
  have e2 := hc 2 _ rfl
  have e3 := hc 3 _ rfl
  have e4 := hc 4 _ rfl
  have e5 := hc 5 _ rfl
  have e6 := hc 6 _ rfl
  have e7 := hc 7 _ rfl
  have e8 := hc 8 _ rfl
  obtain ⟨M, hM⟩ : ∃ M, M = G2.length := ⟨_, rfl⟩
  obtain ⟨bd, hbd⟩ : ∃ bd, bd = f.bind := ⟨_, rfl⟩
  obtain ⟨nk, hnk⟩ : ∃ nk, nk = f.node.kind := ⟨_, rfl⟩
  obtain ⟨na, hna⟩ : ∃ na, na = f.node.at_ := ⟨_, rfl⟩
  obtain ⟨nn, hnn⟩ : ∃ nn, nn = f.node.num := ⟨_, rfl⟩
  obtain ⟨nm, hnm⟩ : ∃ nm, nm = f.node.name := ⟨_, rfl⟩
  obtain ⟨sh, hsh⟩ : ∃ sh, sh = f.shut := ⟨_, rfl⟩
  obtain ⟨mn, hmn⟩ : ∃ mn, mn = f.many := ⟨_, rfl⟩
  obtain ⟨F, hF⟩ : ∃ F, F = f.first G2 := ⟨_, rfl⟩
  rw [← hM] at c5 e0 e1 e2 e3 e4 e5 e6 e7 e8 hMc hG2
  rw [← hnk] at e0
  rw [← hna] at e1
  rw [← hnn] at e2
  rw [← hnm] at e3
  rw [← hF] at e5
  rw [← hbd] at e6
  rw [← hsh] at e7
  rw [← hmn] at e8
  have x3 : IntKind.i64.wrap ((M : Int) + 1 - 1) = M := by rw [IntWalk.i64_in _ (by omega)]; omega
  have x5 : ((M : Int) + 1 == 0) = false := beq_eq_false_iff_ne.2 (by omega)
  have x4 : IntKind.i64.wrap (M : Int) = M := IntWalk.i64_in _ (by omega)
  have x6 : (0 : Int) ≤ (M : Int) := by omega
  have x7 : (M : Int) < (M : Int) + 1 := by omega
  have hrz : rb < w1.heap.size := hbx.lt
  obtain ⟨L, hL⟩ : ∃ L, L = w1.heap.size := ⟨_, rfl⟩
  obtain ⟨W1, hW1⟩ : ∃ W1, W1 = (w1.alloc (.cells #[.int .i64 nk, .int .i64 na, .int .i64 nn, .string ⟨nm.toArray⟩, .slice none 0 0, .int .i64 (F : Int), .int .i64 bd, .string ⟨sh.toArray⟩, .bool mn] BgT)).drew := ⟨_, rfl⟩
  have hb1 : Below w1.heap.size w1 W1 := by rw [hW1]; exact ((Below.refl _ _).alloc (Nat.le_refl _) _).drew
  have bL : Box W1 L BgT #[.int .i64 nk, .int .i64 na, .int .i64 nn, .string ⟨nm.toArray⟩, .slice none 0 0, .int .i64 (F : Int), .int .i64 bd, .string ⟨sh.toArray⟩, .bool mn] := by rw [hW1]; exact (Box.new _ _ _ _ hL).drew
  have HR := Lib.hid (h.on_ hb1)
  have HBL := Lib.hid bL
  have HW1 := Lib.hid hW1
  have HHL := Lib.hid hL
  have HLr : Hid (¬ L = rb) := Lib.hid (by omega)
  have HRL := Lib.hid (h.on hb1)
  have HUL : Hid (Up (fun _ => False) w1 W1 L) := Lib.hid (Or.inr ⟨by omega, bL.lt⟩)
  have HM := Lib.hid (And.intro hM (And.intro hsh hmn))
  clear hL hW1 hb1 bL hc hr hbx hf hM hbd hsh hmn h hgB hnk hna hnn hnm hF
  go_wp2_with (fail)
  go_region_held3 (fun w' => w'.cell? ⟨rb, 5, none⟩ = some (.slice (some ⟨g, 0, none⟩) (M + 1) c) ∧ w'.cell? ⟨g, M * 9, none⟩ = some (.int .i64 nk) ∧ w'.cell? ⟨g, M * 9 + 1, none⟩ = some (.int .i64 na) ∧ w'.cell? ⟨g, M * 9 + 2, none⟩ = some (.int .i64 nn) ∧ w'.cell? ⟨g, M * 9 + 3, none⟩ = some (.string ⟨nm.toArray⟩) ∧ w'.cell? ⟨g, M * 9 + 4, none⟩ = some (.slice none 0 0) ∧ w'.cell? ⟨g, M * 9 + 5, none⟩ = some (.int .i64 (F : Int)) ∧ w'.cell? ⟨g, M * 9 + 6, none⟩ = some (.int .i64 bd) ∧ w'.cell? ⟨g, M * 9 + 7, none⟩ = some (.string ⟨sh.toArray⟩) ∧ w'.cell? ⟨g, M * 9 + 8, none⟩ = some (.bool mn)) (first | go_keep) (first | fail)
  clear e0 e1 e2 e3 e4 e5 e6 e7 e8 c5
  rw [← HW1.out, ← HHL.out]
  have m8 := HBL.out.cell 8
  simp only [List.getElem?_toArray, List.getElem?_cons_zero, List.getElem?_cons_succ] at m8
  have hmn := HMN.out
  rw [← HM.out.2.2] at hmn
  subst hmn
  have m7 := HBL.out.cell 7
  simp only [List.getElem?_toArray, List.getElem?_cons_zero, List.getElem?_cons_succ] at m7
  have RW := Lib.hid (HRL.out)
  have HUS := HU.out
  rw [← HM.out.2.1] at HUS
  have HT := Lib.hid (took_yes sh RW.out HUS)
  clear HUS
  go_wp2_with (fail)
  refine HT.out.mono ?_
  rintro e w4 ⟨rfl, hr4, _⟩
  have hr5 := hr4.non
  have HEN := Lib.hid (end_any f m HK.out hr5 (by have := HL.out; omega) (by have := HM.out.1; omega))
  clear hr4 hr5
  go_wp2_with (fail)
  refine HEN.out.mono ?_
  rintro e w5 ⟨rfl, hr5, _⟩
  have HR5 := Lib.hid hr5
  clear hr5
  go_wp2_with (fail)
  go_ret
  exact ⟨rfl, HR5.out⟩
set_option maxRecDepth 100000 in
set_option maxHeartbeats 4000000 in
theorem leave_no_one (n : NT) (f : Frm) (G2 : List Frm) (m : NT) (hs : settle 1 G n = (f :: G2, m)) (hm : f.many = false) (hu : isM l i f.shut = false) (h : Rd l v w0 rb (fun _ => False) i false false (rdL G ++ [n]) G w) (hl : (rdL G ++ [n]).length ≤ 1048580) (hG : G.length ≤ 1048580) (hl2 : (rdL (f :: G2) ++ [m]).length ≤ 1048580) (hk : f ≠ .brk → f.node.kind ≠ 0) :
    Calls Tryd.prog 51 #[.pointer (some ⟨rb, 0, none⟩)] w (OutP l v w0 rb (Out.no i)) := by
  have HS := Lib.hid (settle_any 1 n (by decide) (by decide) h (by omega) (by omega))
  rw [hs] at HS
  have hG2 : (f :: G2).length ≤ 1048580 := by have := settle_len (t := 1) G n; rw [hs] at this; exact Nat.le_trans this hG
  rw [List.length_cons] at hG2
  have HL := Lib.hid hl2
  have HK := Lib.hid hk
  have HMN := Lib.hid hm
  have HU := Lib.hid hu
  clear hm hu
  clear h hl hG hs hl2 hk
  go_enter Tryd.func51, Tryd.ntmps51
  go_wp2_with (fail)
  refine HS.out.mono ?_
  rintro e w1 ⟨rfl, h, _⟩
  obtain ⟨vr, vo, vs, ⟨_, _, _, _, _, c5⟩, hf, hbx, hr⟩ := h.cells
  obtain ⟨g, c, rfl, hgB, hgl, hMc, hc⟩ := last_frm hr
  have e0 := hc 0 _ rfl
  rw [Nat.add_zero] at e0
  have e1 := hc 1 _ rfl
  have e2 := hc 2 _ rfl
  have e3 := hc 3 _ rfl
  have e4 := hc 4 _ rfl
  have e5 := hc 5 _ rfl
  have e6 := hc 6 _ rfl
  have e7 := hc 7 _ rfl
  have e8 := hc 8 _ rfl
  obtain ⟨M, hM⟩ : ∃ M, M = G2.length := ⟨_, rfl⟩
  obtain ⟨bd, hbd⟩ : ∃ bd, bd = f.bind := ⟨_, rfl⟩
  obtain ⟨nk, hnk⟩ : ∃ nk, nk = f.node.kind := ⟨_, rfl⟩
  obtain ⟨na, hna⟩ : ∃ na, na = f.node.at_ := ⟨_, rfl⟩
  obtain ⟨nn, hnn⟩ : ∃ nn, nn = f.node.num := ⟨_, rfl⟩
  obtain ⟨nm, hnm⟩ : ∃ nm, nm = f.node.name := ⟨_, rfl⟩
  obtain ⟨sh, hsh⟩ : ∃ sh, sh = f.shut := ⟨_, rfl⟩
  obtain ⟨mn, hmn⟩ : ∃ mn, mn = f.many := ⟨_, rfl⟩
  obtain ⟨F, hF⟩ : ∃ F, F = f.first G2 := ⟨_, rfl⟩
  rw [← hM] at c5 e0 e1 e2 e3 e4 e5 e6 e7 e8 hMc hG2
  rw [← hnk] at e0
  rw [← hna] at e1
  rw [← hnn] at e2
  rw [← hnm] at e3
  rw [← hF] at e5
  rw [← hbd] at e6
  rw [← hsh] at e7
  rw [← hmn] at e8
  have x3 : IntKind.i64.wrap ((M : Int) + 1 - 1) = M := by rw [IntWalk.i64_in _ (by omega)]; omega
  have x5 : ((M : Int) + 1 == 0) = false := beq_eq_false_iff_ne.2 (by omega)
  have x4 : IntKind.i64.wrap (M : Int) = M := IntWalk.i64_in _ (by omega)
  have x6 : (0 : Int) ≤ (M : Int) := by omega
  have x7 : (M : Int) < (M : Int) + 1 := by omega
  have hrz : rb < w1.heap.size := hbx.lt
  obtain ⟨L, hL⟩ : ∃ L, L = w1.heap.size := ⟨_, rfl⟩
  obtain ⟨W1, hW1⟩ : ∃ W1, W1 = (w1.alloc (.cells #[.int .i64 nk, .int .i64 na, .int .i64 nn, .string ⟨nm.toArray⟩, .slice none 0 0, .int .i64 (F : Int), .int .i64 bd, .string ⟨sh.toArray⟩, .bool mn] BgT)).drew := ⟨_, rfl⟩
  have hb1 : Below w1.heap.size w1 W1 := by rw [hW1]; exact ((Below.refl _ _).alloc (Nat.le_refl _) _).drew
  have bL : Box W1 L BgT #[.int .i64 nk, .int .i64 na, .int .i64 nn, .string ⟨nm.toArray⟩, .slice none 0 0, .int .i64 (F : Int), .int .i64 bd, .string ⟨sh.toArray⟩, .bool mn] := by rw [hW1]; exact (Box.new _ _ _ _ hL).drew
  have HR := Lib.hid (h.on_ hb1)
  have HBL := Lib.hid bL
  have HW1 := Lib.hid hW1
  have HHL := Lib.hid hL
  have HLr : Hid (¬ L = rb) := Lib.hid (by omega)
  have HRL := Lib.hid (h.on hb1)
  have HUL : Hid (Up (fun _ => False) w1 W1 L) := Lib.hid (Or.inr ⟨by omega, bL.lt⟩)
  have HM := Lib.hid (And.intro hM (And.intro hsh hmn))
  clear hL hW1 hb1 bL hc hr hbx hf hM hbd hsh hmn h hgB hnk hna hnn hnm hF
  go_wp2_with (fail)
  go_region_held3 (fun w' => w'.cell? ⟨rb, 5, none⟩ = some (.slice (some ⟨g, 0, none⟩) (M + 1) c) ∧ w'.cell? ⟨g, M * 9, none⟩ = some (.int .i64 nk) ∧ w'.cell? ⟨g, M * 9 + 1, none⟩ = some (.int .i64 na) ∧ w'.cell? ⟨g, M * 9 + 2, none⟩ = some (.int .i64 nn) ∧ w'.cell? ⟨g, M * 9 + 3, none⟩ = some (.string ⟨nm.toArray⟩) ∧ w'.cell? ⟨g, M * 9 + 4, none⟩ = some (.slice none 0 0) ∧ w'.cell? ⟨g, M * 9 + 5, none⟩ = some (.int .i64 (F : Int)) ∧ w'.cell? ⟨g, M * 9 + 6, none⟩ = some (.int .i64 bd) ∧ w'.cell? ⟨g, M * 9 + 7, none⟩ = some (.string ⟨sh.toArray⟩) ∧ w'.cell? ⟨g, M * 9 + 8, none⟩ = some (.bool mn)) (first | go_keep) (first | fail)
  clear e0 e1 e2 e3 e4 e5 e6 e7 e8 c5
  rw [← HW1.out, ← HHL.out]
  have m8 := HBL.out.cell 8
  simp only [List.getElem?_toArray, List.getElem?_cons_zero, List.getElem?_cons_succ] at m8
  have hmn := HMN.out
  rw [← HM.out.2.2] at hmn
  subst hmn
  have m7 := HBL.out.cell 7
  simp only [List.getElem?_toArray, List.getElem?_cons_zero, List.getElem?_cons_succ] at m7
  have RW := Lib.hid (HRL.out)
  have HUS := HU.out
  rw [← HM.out.2.1] at HUS
  have HT := Lib.hid (took_no sh RW.out HUS)
  clear HUS
  go_wp2_with (fail)
  refine HT.out.mono ?_
  rintro e w4 ⟨rfl, hb4⟩
  have HR4 := Lib.hid (RW.out.on_ hb4)
  clear hb4
  go_wp2_with (fail)
  go_ret
  exact ⟨rfl, _, _, _, _, HR4.out.non⟩
theorem settled_kind {f : Frm} (hb : f.bind < 1) (hd : ∀ k a nm ks, f = .arg k a nm ks → k ≠ 0) : f ≠ .brk → f.node.kind ≠ 0 := by
  intro hf
  cases f with
  | brk => exact absurd rfl hf
  | un a s => exact absurd hb (by show ¬ ((6 : Int) < 1); decide)
  | bin a s b x => show (16 : Int) ≠ 0; decide
  | idx a x => show (13 : Int) ≠ 0; decide
  | arg k a nm ks => exact hd k a nm ks rfl
end Go.Proofs.YtgohkmdepjmpaaaDoor.pm.em

/- The package's reader reads a sign that stands between two. -/
--KEEP
namespace Go.Proofs.YtgohkmdepjmpaaaDoor.pm.em
open Go.RowKit wd lx nt ne pm mem
open vt (I64 own_base own_form own_below own_step set_same Typ)
variable {l : List Tk} {v : Value} {w0 : World} {rb : Nat} {A A' : Nat → Prop} {i j : Int} {wants over : Bool} {rs : List NT} {G : List Frm} {w w' : World}

theorem settle_rd {t : Int} : ∀ (G : List Frm) (n : NT), (rdL (settle t G n).1).length ≤ (rdL G).length
  | [], n => Nat.le_refl _
  | f :: G, n => by
    by_cases h1 : t ≤ f.bind
    · rw [show settle t (f :: G) n = settle t G (f.close n) from if_pos h1]
      refine Nat.le_trans (settle_rd G _) ?_
      rw [show rdL (f :: G) = rdL G ++ f.kids from rfl, List.length_append]
      omega
    · rw [show settle t (f :: G) n = (f :: G, n) from if_neg h1]; exact Nat.le_refl _
theorem row_len {G : List Frm} {n : NT} {k : Nat} (h : (rdL G).length ≤ k) : (rdL G ++ [n]).length ≤ k + 1 := by rw [List.length_append]; exact Nat.succ_le_succ h
set_option maxRecDepth 100000 in
set_option maxHeartbeats 4000000 in
theorem between_zero (n : NT) (h0 : bindT l i = 0) (h : Rd l v w0 rb (fun _ => False) i false false (rdL G ++ [n]) G w) (hl : (rdL G).length ≤ 1048580) (hG : G.length ≤ 1048580) :
    Calls Tryd.prog 50 #[.pointer (some ⟨rb, 0, none⟩)] w (fun e w' => e = .returned (.bool false) ∧ Rd l v w0 rb (fun _ => False) i false false (rdL G ++ [n]) G w') := by
  have HR := Lib.hid h
  have HC := Lib.hid (token_any h)
  have HL := Lib.hid hl
  have HG := Lib.hid hG
  have HFA := Lib.hid (h.env.src.fair i)
  have HEN := Lib.hid h.env
  obtain ⟨b, hb⟩ : ∃ b, b = bindT l i := ⟨_, rfl⟩
  have hbin := bindT_in l i
  rw [← hb] at hbin h0
  have HB := Lib.hid hb
  have hb0 : (b == 0) = true := beq_iff_eq.2 h0
  clear h0 hbin
  clear h hl hG hb
  go_enter Tryd.func50, Tryd.ntmps50
  go_wp2_with (fail)
  refine HC.out.mono ?_
  rintro e w1 ⟨rfl, hb1⟩
  have HB1 := Lib.hid hb1
  clear hb1
  unfold tkA
  go_wp2_with (fail)
  obtain ⟨T, hT⟩ : ∃ T, T = w1.heap.size := ⟨_, rfl⟩
  obtain ⟨W, hW⟩ : ∃ W, W = w1.alloc (.cells #[.int .i64 (tokAt l i).kind, .int .i64 (tokAt l i).at_, .int .i64 (tokAt l i).n, .string ⟨(tokAt l i).text.toArray⟩] TkT) := ⟨_, rfl⟩
  rw [← hT]
  rw [show w1.alloc (.cells #[.int .i64 (tokAt l i).kind, .int .i64 (tokAt l i).at_, .int .i64 (tokAt l i).n, .string ⟨(tokAt l i).text.toArray⟩] 44) = W from hW.symm]
  have hbW : Below w.heap.size w W := by rw [hW]; exact HB1.out.alloc HB1.out.size _
  have bT : Box W T TkT #[.int .i64 (tokAt l i).kind, .int .i64 (tokAt l i).at_, .int .i64 (tokAt l i).n, .string ⟨(tokAt l i).text.toArray⟩] := by rw [hW]; exact Box.new _ _ _ _ hT
  have HT := Lib.hid bT
  have HRW := Lib.hid ((HR.out.on hbW).mono (A' := fun b => b = T) fun b q => Or.inr (by subst q; rw [hT]; exact ⟨HB1.out.size, by rw [← hT]; exact bT.lt⟩))
  have HTr : Hid (¬ T = rb) := Lib.hid (fun e => by have := HR.out.lt; have := HB1.out.size; omega)
  clear hT hW hbW bT
  have HSG := Lib.hid (sign_tok (tokAt l i) W HRW.out.ldw (HEN.out.txt i))
  rw [show bindF (sgn (tokAt l i)) = b from HB.out.symm] at HSG
  obtain ⟨s, hs0⟩ : ∃ s, s = sgn (tokAt l i) := ⟨_, rfl⟩
  have HS0 := Lib.hid hs0
  rw [← hs0] at HSG
  clear hs0
  unfold tkA at HSG
  refine HSG.out.mono ?_
  rintro e w2 ⟨rfl, hb2⟩
  have HT2 := Lib.hid (HT.out.on hb2)
  have HR2 := Lib.hid (HRW.out.on_ hb2)
  clear hb2
  go_wp2_with (fail)
  go_ret
  exact ⟨rfl, HR2.out.non⟩
set_option maxRecDepth 100000 in
set_option maxHeartbeats 4000000 in
theorem between_same (n : NT) (G1 : List Frm) (n1 : NT) (hs : settle (bindT l i + 1) G n = (G1, n1)) (h3 : bindT l i = 3) (ht3 : bindTop G1 = 3) (h : Rd l v w0 rb (fun _ => False) i false false (rdL G ++ [n]) G w) (hl : (rdL G).length ≤ 1048580) (hG : G.length ≤ 1048580) :
    Calls Tryd.prog 50 #[.pointer (some ⟨rb, 0, none⟩)] w (fun e w' => e = .returned (.bool false) ∧ Rd l v w0 rb (fun _ => False) i false false (rdL G1 ++ [n1]) G1 w') := by
  have HR := Lib.hid h
  have HC := Lib.hid (token_any h)
  have HL := Lib.hid hl
  have HG := Lib.hid hG
  have HFA := Lib.hid (h.env.src.fair i)
  have HEN := Lib.hid h.env
  obtain ⟨b, hb⟩ : ∃ b, b = bindT l i := ⟨_, rfl⟩
  have hbin := bindT_in l i
  rw [← hb] at hbin hs h3
  have HB := Lib.hid hb
  have hb0 : (b == 0) = false := beq_eq_false_iff_ne.2 (by omega)
  have hb3 : (b == 3) = true := beq_iff_eq.2 h3
  have htop : (bindTop G1 == b) = true := beq_iff_eq.2 (by omega)
  have HHS := Lib.hid hs
  clear hs h3 ht3
  clear h hl hG hb
  go_enter Tryd.func50, Tryd.ntmps50
  go_wp2_with (fail)
  refine HC.out.mono ?_
  rintro e w1 ⟨rfl, hb1⟩
  have HB1 := Lib.hid hb1
  clear hb1
  unfold tkA
  go_wp2_with (fail)
  obtain ⟨T, hT⟩ : ∃ T, T = w1.heap.size := ⟨_, rfl⟩
  obtain ⟨W, hW⟩ : ∃ W, W = w1.alloc (.cells #[.int .i64 (tokAt l i).kind, .int .i64 (tokAt l i).at_, .int .i64 (tokAt l i).n, .string ⟨(tokAt l i).text.toArray⟩] TkT) := ⟨_, rfl⟩
  rw [← hT]
  rw [show w1.alloc (.cells #[.int .i64 (tokAt l i).kind, .int .i64 (tokAt l i).at_, .int .i64 (tokAt l i).n, .string ⟨(tokAt l i).text.toArray⟩] 44) = W from hW.symm]
  have hbW : Below w.heap.size w W := by rw [hW]; exact HB1.out.alloc HB1.out.size _
  have bT : Box W T TkT #[.int .i64 (tokAt l i).kind, .int .i64 (tokAt l i).at_, .int .i64 (tokAt l i).n, .string ⟨(tokAt l i).text.toArray⟩] := by rw [hW]; exact Box.new _ _ _ _ hT
  have HT := Lib.hid bT
  have HRW := Lib.hid ((HR.out.on hbW).mono (A' := fun b => b = T) fun b q => Or.inr (by subst q; rw [hT]; exact ⟨HB1.out.size, by rw [← hT]; exact bT.lt⟩))
  have HTr : Hid (¬ T = rb) := Lib.hid (fun e => by have := HR.out.lt; have := HB1.out.size; omega)
  clear hT hW hbW bT
  have HSG := Lib.hid (sign_tok (tokAt l i) W HRW.out.ldw (HEN.out.txt i))
  rw [show bindF (sgn (tokAt l i)) = b from HB.out.symm] at HSG
  obtain ⟨s, hs0⟩ : ∃ s, s = sgn (tokAt l i) := ⟨_, rfl⟩
  have HS0 := Lib.hid hs0
  rw [← hs0] at HSG
  clear hs0
  unfold tkA at HSG
  refine HSG.out.mono ?_
  rintro e w2 ⟨rfl, hb2⟩
  have HT2 := Lib.hid (HT.out.on hb2)
  have HR2 := Lib.hid (HRW.out.on_ hb2)
  clear hb2
  have hx : IntKind.i64.wrap (b + 1) = b + 1 := IntWalk.i64_in _ (by omega)
  have HS1 := Lib.hid (settle_any (b + 1) n (by omega) (by omega) HR2.out (by have := row_len (n := n) HL.out; omega) (by have := HG.out; omega))
  rw [HHS.out] at HS1
  go_wp2_with (fail)
  refine HS1.out.mono ?_
  rintro e w3 ⟨rfl, hr3, hk3⟩
  have HT3 : Hid (Box w3 T TkT #[.int .i64 (tokAt l i).kind, .int .i64 (tokAt l i).at_, .int .i64 (tokAt l i).n, .string ⟨(tokAt l i).text.toArray⟩]) := Lib.hid ((hk3 T rfl).trans HT2.out)
  have HR3 := Lib.hid hr3
  have hl1 : (rdL G1).length ≤ 1048580 := by have := settle_rd (t := b + 1) G n; rw [HHS.out] at this; exact Nat.le_trans this HL.out
  have hg1 : G1.length ≤ 1048580 := by have := settle_len (t := b + 1) G n; rw [HHS.out] at this; exact Nat.le_trans this HG.out
  have HL1 := Lib.hid (And.intro hl1 hg1)
  have HBI := Lib.hid (wd.bind_any 6 w3 (by unfold I64; omega) hr3.ldw)
  rw [show bindF 6 = 3 from rfl] at HBI
  clear hr3 hk3 hl1 hg1
  go_wp2_with (fail)
  refine HBI.out.mono ?_
  rintro e w4 ⟨rfl, hb4⟩
  have HT4 := Lib.hid (HT3.out.on hb4)
  have HR4 := Lib.hid (HR3.out.on_ hb4)
  clear hb4
  have HBT := Lib.hid (bind_any HR4.out (by have := HL1.out.2; omega))
  obtain ⟨t, ht⟩ : ∃ t, t = bindTop G1 := ⟨_, rfl⟩
  rw [← ht] at HBT htop
  clear ht
  go_wp2_with (fail)
  refine HBT.out.mono ?_
  rintro e w5 ⟨rfl, hb5⟩
  have HT5 := Lib.hid (HT4.out.on hb5)
  have HR5 := Lib.hid (HR4.out.on_ hb5)
  clear hb5
  go_wp2_with (fail)
  go_ret
  exact ⟨rfl, HR5.out.non⟩
set_option maxRecDepth 100000 in
set_option maxHeartbeats 4000000 in
theorem between_yes (n : NT) (G1 : List Frm) (n1 : NT) (hs : settle (bindT l i + 1) G n = (G1, n1)) (G2 : List Frm) (n2 : NT) (hs2 : settle (bindT l i) G1 n1 = (G2, n2)) (h0 : bindT l i ≠ 0) (h3 : bindT l i ≠ 3) (h : Rd l v w0 rb (fun _ => False) i false false (rdL G ++ [n]) G w) (hl : (rdL G).length ≤ 1048580) (hG : G.length ≤ 1048580) :
    Calls Tryd.prog 50 #[.pointer (some ⟨rb, 0, none⟩)] w (fun e w' => e = .returned (.bool true) ∧ Rd l v w0 rb (fun _ => False) (i + 1) true false (rdL (.bin (tokAt l i).at_ (sgn (tokAt l i)) (bindT l i) n2 :: G2)) (.bin (tokAt l i).at_ (sgn (tokAt l i)) (bindT l i) n2 :: G2) w') := by
  have HR := Lib.hid h
  have HC := Lib.hid (token_any h)
  have HL := Lib.hid hl
  have HG := Lib.hid hG
  have HFA := Lib.hid (h.env.src.fair i)
  have HEN := Lib.hid h.env
  obtain ⟨b, hb⟩ : ∃ b, b = bindT l i := ⟨_, rfl⟩
  have hbin := bindT_in l i
  rw [← hb] at hbin hs hs2 h0 h3 ⊢
  have HB := Lib.hid hb
  have hb0 : (b == 0) = false := beq_eq_false_iff_ne.2 h0
  have hb3 : (b == 3) = false := beq_eq_false_iff_ne.2 h3
  have HHS := Lib.hid hs
  have HHS2 := Lib.hid hs2
  clear hs hs2 h3
  clear h hl hG hb
  go_enter Tryd.func50, Tryd.ntmps50
  go_wp2_with (fail)
  refine HC.out.mono ?_
  rintro e w1 ⟨rfl, hb1⟩
  have HB1 := Lib.hid hb1
  clear hb1
  unfold tkA
  go_wp2_with (fail)
  obtain ⟨T, hT⟩ : ∃ T, T = w1.heap.size := ⟨_, rfl⟩
  obtain ⟨W, hW⟩ : ∃ W, W = w1.alloc (.cells #[.int .i64 (tokAt l i).kind, .int .i64 (tokAt l i).at_, .int .i64 (tokAt l i).n, .string ⟨(tokAt l i).text.toArray⟩] TkT) := ⟨_, rfl⟩
  rw [← hT]
  rw [show w1.alloc (.cells #[.int .i64 (tokAt l i).kind, .int .i64 (tokAt l i).at_, .int .i64 (tokAt l i).n, .string ⟨(tokAt l i).text.toArray⟩] 44) = W from hW.symm]
  have hbW : Below w.heap.size w W := by rw [hW]; exact HB1.out.alloc HB1.out.size _
  have bT : Box W T TkT #[.int .i64 (tokAt l i).kind, .int .i64 (tokAt l i).at_, .int .i64 (tokAt l i).n, .string ⟨(tokAt l i).text.toArray⟩] := by rw [hW]; exact Box.new _ _ _ _ hT
  have HT := Lib.hid bT
  have HRW := Lib.hid ((HR.out.on hbW).mono (A' := fun b => b = T) fun b q => Or.inr (by subst q; rw [hT]; exact ⟨HB1.out.size, by rw [← hT]; exact bT.lt⟩))
  have HTr : Hid (¬ T = rb) := Lib.hid (fun e => by have := HR.out.lt; have := HB1.out.size; omega)
  clear hT hW hbW bT
  have HSG := Lib.hid (sign_tok (tokAt l i) W HRW.out.ldw (HEN.out.txt i))
  rw [show bindF (sgn (tokAt l i)) = b from HB.out.symm] at HSG
  obtain ⟨s, hs0⟩ : ∃ s, s = sgn (tokAt l i) := ⟨_, rfl⟩
  have HS0 := Lib.hid hs0
  rw [← hs0] at HSG
  clear hs0
  unfold tkA at HSG
  refine HSG.out.mono ?_
  rintro e w2 ⟨rfl, hb2⟩
  have HT2 := Lib.hid (HT.out.on hb2)
  have HR2 := Lib.hid (HRW.out.on_ hb2)
  clear hb2
  have hx : IntKind.i64.wrap (b + 1) = b + 1 := IntWalk.i64_in _ (by omega)
  have HS1 := Lib.hid (settle_any (b + 1) n (by omega) (by omega) HR2.out (by have := row_len (n := n) HL.out; omega) (by have := HG.out; omega))
  rw [HHS.out] at HS1
  go_wp2_with (fail)
  refine HS1.out.mono ?_
  rintro e w3 ⟨rfl, hr3, hk3⟩
  have HT3 : Hid (Box w3 T TkT #[.int .i64 (tokAt l i).kind, .int .i64 (tokAt l i).at_, .int .i64 (tokAt l i).n, .string ⟨(tokAt l i).text.toArray⟩]) := Lib.hid ((hk3 T rfl).trans HT2.out)
  have HR3 := Lib.hid hr3
  have hl1 : (rdL G1).length ≤ 1048580 := by have := settle_rd (t := b + 1) G n; rw [HHS.out] at this; exact Nat.le_trans this HL.out
  have hg1 : G1.length ≤ 1048580 := by have := settle_len (t := b + 1) G n; rw [HHS.out] at this; exact Nat.le_trans this HG.out
  have HL1 := Lib.hid (And.intro hl1 hg1)
  have HBI := Lib.hid (wd.bind_any 6 w3 (by unfold I64; omega) hr3.ldw)
  rw [show bindF 6 = 3 from rfl] at HBI
  clear hr3 hk3 hl1 hg1
  go_wp2_with (fail)
  refine HBI.out.mono ?_
  rintro e w4 ⟨rfl, hb4⟩
  have HT4 := Lib.hid (HT3.out.on hb4)
  have HR4 := Lib.hid (HR3.out.on_ hb4)
  clear hb4
  have HS2 := Lib.hid (settle_any b n1 (by omega) (by omega) HR4.out (by have := row_len (n := n1) HL1.out.1; omega) (by have := HL1.out.2; omega))
  rw [HHS2.out] at HS2
  go_wp2_with (fail)
  refine HS2.out.mono ?_
  rintro e w6 ⟨rfl, hr6, hk6⟩
  have bT6 : Box w6 T TkT #[.int .i64 (tokAt l i).kind, .int .i64 (tokAt l i).at_, .int .i64 (tokAt l i).n, .string ⟨(tokAt l i).text.toArray⟩] := (hk6 T rfl).trans HT4.out
  have hi : 0 ≤ i ∧ i < (l.length : Int) := tok_in (fun e0 => by
    have h1 : b = bindF (sgn (tokAt l i)) := HB.out
    rw [show sgn (tokAt l i) = 0 from by unfold sgn; rw [if_neg (by omega)]] at h1
    rw [show bindF 0 = 0 from rfl] at h1
    omega)
  have hlen := HEN.out.src.len
  have hx2 : IntKind.i64.wrap (i + 1) = i + 1 := IntWalk.i64_in _ (by omega)
  have hl2 : (rdL G2).length ≤ 1048580 := by have := settle_rd (t := b) G1 n1; rw [HHS2.out] at this; exact Nat.le_trans this HL1.out.1
  have hg2 : G2.length ≤ 1048580 := by have := settle_len (t := b) G1 n1; rw [HHS2.out] at this; exact Nat.le_trans this HL1.out.2
  have hsin := sgn_in (tokAt l i)
  rw [← HS0.out] at hsin
  have HSN := Lib.hid (sign_any (.bin (tokAt l i).at_ s b n2) 1 (hr6.seti (j := i + 1) (by unfold I64; omega)) (by have := row_len (n := n2) hl2; omega) (by omega) ⟨(by show I64 16; unfold I64; omega), HFA.out.1, (by show I64 s; unfold I64; omega), (by show 0 ≤ 281474976710656; omega)⟩ rfl rfl (by show (((rdL G2 ++ [n2]).length : Nat) : Int) - ((1 : Nat) : Int) = (cnt G2 : Int); rw [List.length_append, rdL_len]; simp))
  obtain ⟨vr, vo, vs, ⟨_, c1, _⟩, hf, hbx, _⟩ := hr6.cells
  have f1 := hf 1
  have t1 := bT6.cell 1
  simp only [List.getElem?_toArray, List.getElem?_cons_zero, List.getElem?_cons_succ] at t1
  have hTr := HTr.out
  have hrT : ¬ rb = T := fun e => hTr e.symm
  clear hr6 hk6 bT6 hi hlen hl2 hg2 hsin hf hbx
  go_wp2_with (fail)
  refine HSN.out.mono ?_
  rintro e w8 ⟨rfl, hr8, _⟩
  have HR8 := Lib.hid hr8.non
  clear hr8
  go_wp2_with (fail)
  go_ret
  rw [← HS0.out]
  refine ⟨rfl, ?_⟩
  rw [show rdL (.bin (tokAt l i).at_ s b n2 :: G2) = rdL G2 ++ [n2] from rfl]
  exact HR8.out
set_option maxRecDepth 100000 in
set_option maxHeartbeats 4000000 in
theorem between_yes3 (n : NT) (G1 : List Frm) (n1 : NT) (hs : settle (bindT l i + 1) G n = (G1, n1)) (G2 : List Frm) (n2 : NT) (hs2 : settle (bindT l i) G1 n1 = (G2, n2)) (h3 : bindT l i = 3) (ht3 : bindTop G1 ≠ 3) (h : Rd l v w0 rb (fun _ => False) i false false (rdL G ++ [n]) G w) (hl : (rdL G).length ≤ 1048580) (hG : G.length ≤ 1048580) :
    Calls Tryd.prog 50 #[.pointer (some ⟨rb, 0, none⟩)] w (fun e w' => e = .returned (.bool true) ∧ Rd l v w0 rb (fun _ => False) (i + 1) true false (rdL (.bin (tokAt l i).at_ (sgn (tokAt l i)) (bindT l i) n2 :: G2)) (.bin (tokAt l i).at_ (sgn (tokAt l i)) (bindT l i) n2 :: G2) w') := by
  have HR := Lib.hid h
  have HC := Lib.hid (token_any h)
  have HL := Lib.hid hl
  have HG := Lib.hid hG
  have HFA := Lib.hid (h.env.src.fair i)
  have HEN := Lib.hid h.env
  obtain ⟨b, hb⟩ : ∃ b, b = bindT l i := ⟨_, rfl⟩
  have hbin := bindT_in l i
  rw [← hb] at hbin hs hs2 h3 ⊢
  have HB := Lib.hid hb
  have h0 : b ≠ 0 := by omega
  have hb0 : (b == 0) = false := beq_eq_false_iff_ne.2 h0
  have hb3 : (b == 3) = true := beq_iff_eq.2 h3
  have htop : (bindTop G1 == b) = false := beq_eq_false_iff_ne.2 (by omega)
  have HHS := Lib.hid hs
  have HHS2 := Lib.hid hs2
  clear hs hs2 h3 ht3
  clear h hl hG hb
  go_enter Tryd.func50, Tryd.ntmps50
  go_wp2_with (fail)
  refine HC.out.mono ?_
  rintro e w1 ⟨rfl, hb1⟩
  have HB1 := Lib.hid hb1
  clear hb1
  unfold tkA
  go_wp2_with (fail)
  obtain ⟨T, hT⟩ : ∃ T, T = w1.heap.size := ⟨_, rfl⟩
  obtain ⟨W, hW⟩ : ∃ W, W = w1.alloc (.cells #[.int .i64 (tokAt l i).kind, .int .i64 (tokAt l i).at_, .int .i64 (tokAt l i).n, .string ⟨(tokAt l i).text.toArray⟩] TkT) := ⟨_, rfl⟩
  rw [← hT]
  rw [show w1.alloc (.cells #[.int .i64 (tokAt l i).kind, .int .i64 (tokAt l i).at_, .int .i64 (tokAt l i).n, .string ⟨(tokAt l i).text.toArray⟩] 44) = W from hW.symm]
  have hbW : Below w.heap.size w W := by rw [hW]; exact HB1.out.alloc HB1.out.size _
  have bT : Box W T TkT #[.int .i64 (tokAt l i).kind, .int .i64 (tokAt l i).at_, .int .i64 (tokAt l i).n, .string ⟨(tokAt l i).text.toArray⟩] := by rw [hW]; exact Box.new _ _ _ _ hT
  have HT := Lib.hid bT
  have HRW := Lib.hid ((HR.out.on hbW).mono (A' := fun b => b = T) fun b q => Or.inr (by subst q; rw [hT]; exact ⟨HB1.out.size, by rw [← hT]; exact bT.lt⟩))
  have HTr : Hid (¬ T = rb) := Lib.hid (fun e => by have := HR.out.lt; have := HB1.out.size; omega)
  clear hT hW hbW bT
  have HSG := Lib.hid (sign_tok (tokAt l i) W HRW.out.ldw (HEN.out.txt i))
  rw [show bindF (sgn (tokAt l i)) = b from HB.out.symm] at HSG
  obtain ⟨s, hs0⟩ : ∃ s, s = sgn (tokAt l i) := ⟨_, rfl⟩
  have HS0 := Lib.hid hs0
  rw [← hs0] at HSG
  clear hs0
  unfold tkA at HSG
  refine HSG.out.mono ?_
  rintro e w2 ⟨rfl, hb2⟩
  have HT2 := Lib.hid (HT.out.on hb2)
  have HR2 := Lib.hid (HRW.out.on_ hb2)
  clear hb2
  have hx : IntKind.i64.wrap (b + 1) = b + 1 := IntWalk.i64_in _ (by omega)
  have HS1 := Lib.hid (settle_any (b + 1) n (by omega) (by omega) HR2.out (by have := row_len (n := n) HL.out; omega) (by have := HG.out; omega))
  rw [HHS.out] at HS1
  go_wp2_with (fail)
  refine HS1.out.mono ?_
  rintro e w3 ⟨rfl, hr3, hk3⟩
  have HT3 : Hid (Box w3 T TkT #[.int .i64 (tokAt l i).kind, .int .i64 (tokAt l i).at_, .int .i64 (tokAt l i).n, .string ⟨(tokAt l i).text.toArray⟩]) := Lib.hid ((hk3 T rfl).trans HT2.out)
  have HR3 := Lib.hid hr3
  have hl1 : (rdL G1).length ≤ 1048580 := by have := settle_rd (t := b + 1) G n; rw [HHS.out] at this; exact Nat.le_trans this HL.out
  have hg1 : G1.length ≤ 1048580 := by have := settle_len (t := b + 1) G n; rw [HHS.out] at this; exact Nat.le_trans this HG.out
  have HL1 := Lib.hid (And.intro hl1 hg1)
  have HBI := Lib.hid (wd.bind_any 6 w3 (by unfold I64; omega) hr3.ldw)
  rw [show bindF 6 = 3 from rfl] at HBI
  clear hr3 hk3 hl1 hg1
  go_wp2_with (fail)
  refine HBI.out.mono ?_
  rintro e w4 ⟨rfl, hb4⟩
  have HT4 := Lib.hid (HT3.out.on hb4)
  have HR4 := Lib.hid (HR3.out.on_ hb4)
  clear hb4
  have HBT := Lib.hid (bind_any HR4.out (by have := HL1.out.2; omega))
  obtain ⟨t, ht⟩ : ∃ t, t = bindTop G1 := ⟨_, rfl⟩
  rw [← ht] at HBT htop
  clear ht
  go_wp2_with (fail)
  refine HBT.out.mono ?_
  rintro e w5 ⟨rfl, hb5⟩
  have HT5 := Lib.hid (HT4.out.on hb5)
  have HR5 := Lib.hid (HR4.out.on_ hb5)
  clear hb5
  have HS2 := Lib.hid (settle_any b n1 (by omega) (by omega) HR5.out (by have := row_len (n := n1) HL1.out.1; omega) (by have := HL1.out.2; omega))
  rw [HHS2.out] at HS2
  go_wp2_with (fail)
  refine HS2.out.mono ?_
  rintro e w6 ⟨rfl, hr6, hk6⟩
  have bT6 : Box w6 T TkT #[.int .i64 (tokAt l i).kind, .int .i64 (tokAt l i).at_, .int .i64 (tokAt l i).n, .string ⟨(tokAt l i).text.toArray⟩] := (hk6 T rfl).trans HT5.out
  have hi : 0 ≤ i ∧ i < (l.length : Int) := tok_in (fun e0 => by
    have h1 : b = bindF (sgn (tokAt l i)) := HB.out
    rw [show sgn (tokAt l i) = 0 from by unfold sgn; rw [if_neg (by omega)]] at h1
    rw [show bindF 0 = 0 from rfl] at h1
    omega)
  have hlen := HEN.out.src.len
  have hx2 : IntKind.i64.wrap (i + 1) = i + 1 := IntWalk.i64_in _ (by omega)
  have hl2 : (rdL G2).length ≤ 1048580 := by have := settle_rd (t := b) G1 n1; rw [HHS2.out] at this; exact Nat.le_trans this HL1.out.1
  have hg2 : G2.length ≤ 1048580 := by have := settle_len (t := b) G1 n1; rw [HHS2.out] at this; exact Nat.le_trans this HL1.out.2
  have hsin := sgn_in (tokAt l i)
  rw [← HS0.out] at hsin
  have HSN := Lib.hid (sign_any (.bin (tokAt l i).at_ s b n2) 1 (hr6.seti (j := i + 1) (by unfold I64; omega)) (by have := row_len (n := n2) hl2; omega) (by omega) ⟨(by show I64 16; unfold I64; omega), HFA.out.1, (by show I64 s; unfold I64; omega), (by show 0 ≤ 281474976710656; omega)⟩ rfl rfl (by show (((rdL G2 ++ [n2]).length : Nat) : Int) - ((1 : Nat) : Int) = (cnt G2 : Int); rw [List.length_append, rdL_len]; simp))
  obtain ⟨vr, vo, vs, ⟨_, c1, _⟩, hf, hbx, _⟩ := hr6.cells
  have f1 := hf 1
  have t1 := bT6.cell 1
  simp only [List.getElem?_toArray, List.getElem?_cons_zero, List.getElem?_cons_succ] at t1
  have hTr := HTr.out
  have hrT : ¬ rb = T := fun e => hTr e.symm
  clear hr6 hk6 bT6 hi hlen hl2 hg2 hsin hf hbx
  go_wp2_with (fail)
  refine HSN.out.mono ?_
  rintro e w8 ⟨rfl, hr8, _⟩
  have HR8 := Lib.hid hr8.non
  clear hr8
  go_wp2_with (fail)
  go_ret
  rw [← HS0.out]
  refine ⟨rfl, ?_⟩
  rw [show rdL (.bin (tokAt l i).at_ s b n2 :: G2) = rdL G2 ++ [n2] from rfl]
  exact HR8.out
end Go.Proofs.YtgohkmdepjmpaaaDoor.pm.em

/- The package's reader goes on behind an expression. -/
--KEEP
namespace Go.Proofs.YtgohkmdepjmpaaaDoor.pm.em
open Go.RowKit wd lx nt ne pm mem
open vt (I64 own_base own_form own_below own_step set_same Typ)
variable {l : List Tk} {v : Value} {w0 : World} {rb : Nat} {A A' : Nat → Prop} {i j : Int} {wants over : Bool} {rs : List NT} {G : List Frm} {w w' : World}

theorem leave_any (n : NT) (h : Rd l v w0 rb (fun _ => False) i false false (rdL G ++ [n]) G w) (hl : (rdL G).length ≤ 1048579) (hG : G.length ≤ 1048580) (hk : KG G) :
    Calls Tryd.prog 51 #[.pointer (some ⟨rb, 0, none⟩)] w (OutP l v w0 rb (leaveM l i (settle 1 G n))) := by
  have hl0 := row_len (n := n) hl
  have hr := settle_rd (t := 1) G n
  have hm := settle_mem (t := 1) G n
  cases hs : settle 1 G n with
  | mk G1 m =>
    rw [hs] at hr hm
    cases G1 with
    | nil => exact leave_nil n h hl0 hG m hs
    | cons f G2 =>
      have hl2 : (rdL (f :: G2) ++ [m]).length ≤ 1048580 := row_len (Nat.le_trans hr hl)
      have hkf := hk f (hm f (List.mem_cons_self ..))
      rw [leave_cons]
      cases hma : f.many
      · rw [if_neg (by simp)]
        cases hu : isM l i f.shut
        · rw [if_neg (by simp)]
          exact leave_no_one n f G2 m hs hma hu h hl0 hG hl2 hkf
        · rw [if_pos rfl]
          exact leave_shut_one n f G2 m hs hma hu h hl0 hG hl2 hkf
      · cases hc : isM l i [44]
        · rw [if_neg (by simp)]
          cases hu : isM l i f.shut
          · rw [if_neg (by simp)]
            exact leave_no_many n f G2 m hs hma hc hu h hl0 hG hl2 hkf
          · rw [if_pos rfl]
            exact leave_shut_many n f G2 m hs hma hc hu h hl0 hG hl2 hkf
        · rw [if_pos (by simp)]
          exact leave_comma n f G2 m hs hma hc h hl0 hG hl2 hkf
set_option maxRecDepth 100000 in
set_option maxHeartbeats 4000000 in
theorem goOn_idx (n : NT) (h1 : isM l i [91] = true) (h : Rd l v w0 rb (fun _ => False) i false false (rdL G ++ [n]) G w) (hl : (rdL G).length ≤ 1048579) (hG : G.length ≤ 1048580) :
    Calls Tryd.prog 34 #[.pointer (some ⟨rb, 0, none⟩)] w (OutP l v w0 rb (Out.go (.want (i + 1) (.idx (tokAt l i).at_ n :: G)))) := by
  have HR := Lib.hid h
  have HC := Lib.hid (token_any h)
  have HL := Lib.hid hl
  have HG := Lib.hid hG
  have HFA := Lib.hid (h.env.src.fair i)
  have hfi := fun w' => tfield (tokAt l i) w'
  have H1 := Lib.hid h1
  clear h1
  clear h hl hG
  go_enter Tryd.func34, Tryd.ntmps34
  go_wp2_with (fail)
  refine HC.out.mono ?_
  rintro e w1 ⟨rfl, hb1⟩
  unfold tkA
  have HB1 := Lib.hid hb1
  have HR1 := Lib.hid (HR.out.on_ hb1)
  clear hb1
  have HT := Lib.hid (took_yes [91] HR1.out H1.out)
  go_wp2_with (fail)
  refine HT.out.mono ?_
  rintro e w2 ⟨rfl, hr2, _⟩
  obtain ⟨vr, vo, vs, ⟨_, _, _, _, c4, c5⟩, hf, hbx, hr⟩ := hr2.cells
  obtain ⟨Ar, cr, rfl⟩ := own_form hr.own
  obtain ⟨Ao, co, rfl⟩ := own_form hr.opn
  have f5 := hf 5
  have f2 := hf 2
  have hrz : rb < w2.heap.size := hbx.lt
  obtain ⟨F, hF⟩ : ∃ F, F = cnt G := ⟨_, rfl⟩
  obtain ⟨M, hM⟩ : ∃ M, M = G.length := ⟨_, rfl⟩
  obtain ⟨a, ha⟩ : ∃ a, a = (tokAt l i).at_ := ⟨_, rfl⟩
  have hNl : (rdL G ++ [n]).length = F + 1 := by rw [List.length_append, rdL_len, hF]; rfl
  have hFl : F ≤ 1048580 := by have := HL.out; rw [rdL_len, ← hF] at this; omega
  have hMl : M ≤ 1048580 := by rw [hM]; exact HG.out
  rw [hNl] at c4
  rw [← hM] at c5
  have x3 : IntKind.i64.wrap ((F : Int) + 1 - 1) = F := by rw [IntWalk.i64_in _ (by omega)]; omega
  have x4 : IntKind.i64.wrap (F : Int) = F := IntWalk.i64_in _ (by omega)
  have hcs : [Value.int .i64 13, .int .i64 a, .int .i64 0, .string ⟨#[]⟩, .slice none 0 0, .int .i64 (F : Int), .int .i64 0, .string ⟨#[93]⟩, .bool false] = opnC G (.idx (tokAt l i).at_ n) := by show _ = opnC G _; rw [hF, ha]; rfl
  have HST : Hid (∀ V w3 vo', Below w2.heap.size w2 V → w3.ownsRow w0.heap.size BgT 9 vo' (M + 1) (opnV G ++ [Value.int .i64 13, .int .i64 a, .int .i64 0, .string ⟨#[]⟩, .slice none 0 0, .int .i64 (F : Int), .int .i64 0, .string ⟨#[93]⟩, .bool false]) → V.grownBy w3 (Value.slice Ao M co).ownBlock → (∀ k, vo'.ownBlock = some k → (Value.slice Ao M co).ownBlock = some k ∨ V.heap.size ≤ k) → _) := Lib.hid (fun V w3 vo' hV h1 h2 h3 => push_frm (wants := false) (M := M) (.idx (tokAt l i).at_ n) _ (hr2.on_ hV) (by rw [hM]; exact hbx.on hV) (by rw [hM]; exact ⟨own_below hr.own hV, hr.nods.below hV, own_below hr.opn hV, hr.apr⟩) hM ⟨(by show I64 13; unfold I64; omega), HFA.out.1, (by show I64 0; unfold I64; omega), (by show 0 ≤ 281474976710656; omega)⟩ hcs h1 h2 h3)
  have HOw : Hid (w2.ownsRow w0.heap.size BgT 9 (.slice Ao M co) M (opnV G)) := Lib.hid (by rw [hM]; exact hr.opn)
  have HBz : Hid (w0.heap.size ≤ w2.heap.size) := Lib.hid hr2.low.size
  obtain ⟨i0, hi, hz0, hz1, hz2⟩ := info_parts infoB
  have h1c : Hid (∀ u ∈ [Value.int .i64 13, .int .i64 a, .int .i64 0, .string ⟨#[]⟩, .slice none 0 0, .int .i64 (F : Int), .int .i64 0, .string ⟨#[93]⟩, .bool false], u.oneCell' = true) := Lib.hid (by intro u hu; simp at hu; rcases hu with rfl | rfl | rfl | rfl | rfl | rfl | rfl | rfl | rfl <;> rfl)
  have HA := Lib.hid ha
  rw [← ha]
  clear hbx hr hf hr2 hF hM hNl hcs hfi ha
  go_wp2_with (fail)
  go_region_law (first
    | (refine step_append_lies _ (by rfl) (.tmp 16) (.tmp 26) 47 (by rfl) w0.heap.size BgT i0 _ 9 104 Tryd.underlying47 hi hz0 hz1 hz2 (by rfl) (by decide) (.slice Ao M co) M (opnV G) (by rfl) (HOw.out.alloc _) ⟨w2.heap.size, 0, none⟩ 1 1 [Value.int .i64 13, .int .i64 a, .int .i64 0, .string ⟨#[]⟩, .slice none 0 0, .int .i64 (F : Int), .int .i64 0, .string ⟨#[93]⟩, .bool false] (by rfl) (by rfl) (World.news_of_block (heap_alloc_new w2 _)) h1c.out (by decide) (by unfold maxLen; omega) (by omega) (by simp; have := HBz.out; omega) (w2.heap.size + 1) (by simp) ?_; intro g cap w3 hown hgrow hat hlt; obtain ⟨p1, p2, p3, p4, p5⟩ := HST.out _ w3 _ (((Below.refl w2.heap.size w2).alloc (Nat.le_refl _) _).drew) hown hgrow (fun k hk => by have e : g = k := (by simpa [Value.ownBlock] using hk); subst e; exact hat.imp id fun h => by rw [h]; simp); have HP1 := Lib.hid p1; clear p1 hown hgrow hat))
  all_goals
    go_wp2_with (fail)
    go_ret
    refine ⟨rfl, ?_⟩
    show Rd l v w0 rb (fun _ => False) (i + 1) true false (rdL G ++ [n]) (.idx (tokAt l i).at_ n :: G) _
    exact (HP1.out.1.setw true).non
set_option maxRecDepth 100000 in
set_option maxHeartbeats 4000000 in
theorem goOn_field (n : NT) (h1 : isM l i [91] = false) (h2 : isM l i [46] = true) (h : Rd l v w0 rb (fun _ => False) i false false (rdL G ++ [n]) G w) (hl : (rdL G).length ≤ 1048579) (hG : G.length ≤ 1048580) :
    Calls Tryd.prog 34 #[.pointer (some ⟨rb, 0, none⟩)] w (OutP l v w0 rb (if (tokAt l (i + 1)).kind = 1 then Out.go (.have_ (i + 2) G (.mk 14 (tokAt l i).at_ 0 (tokAt l (i + 1)).text [n])) else Out.no (i + 1))) := by
  have HR := Lib.hid h
  have HC := Lib.hid (token_any h)
  have HL := Lib.hid hl
  have HG := Lib.hid hG
  have HFA := Lib.hid (h.env.src.fair i)
  have hfi := fun w' => tfield (tokAt l i) w'
  obtain ⟨o, ho⟩ : ∃ o, o = (if (tokAt l (i + 1)).kind = 1 then Out.go (.have_ (i + 2) G (.mk 14 (tokAt l i).at_ 0 (tokAt l (i + 1)).text [n])) else Out.no (i + 1)) := ⟨_, rfl⟩
  rw [← ho]
  have HO := Lib.hid ho
  clear ho
  have H1 := Lib.hid h1
  have H2 := Lib.hid h2
  clear h1 h2
  clear h hl hG
  go_enter Tryd.func34, Tryd.ntmps34
  go_wp2_with (fail)
  refine HC.out.mono ?_
  rintro e w1 ⟨rfl, hb1⟩
  unfold tkA
  have HB1 := Lib.hid hb1
  have HR1 := Lib.hid (HR.out.on_ hb1)
  clear hb1
  have HT2 := Lib.hid (took_no [91] HR1.out H1.out)
  go_wp2_with (fail)
  refine HT2.out.mono ?_
  rintro e w2 ⟨rfl, hb2⟩
  have HB2 := Lib.hid (HB1.out.trans (hb2.mono HB1.out.size))
  have HR2 := Lib.hid (HR1.out.on_ hb2)
  clear hb2
  have HT3 := Lib.hid (took_yes [46] HR2.out H2.out)
  go_wp2_with (fail)
  refine HT3.out.mono ?_
  rintro e w3 ⟨rfl, hr3, _⟩
  have HF := Lib.hid (field_any (decide ((tokAt l (i + 1)).kind = 1)) (tokAt l i).at_ n HFA.out.1 hr3 rfl (by have := HL.out; omega))
  have HO2 : Hid ((if decide ((tokAt l (i + 1)).kind = 1) = true then Out.go (.have_ (i + 1 + 1) G (.mk 14 (tokAt l i).at_ 0 (tokAt l (i + 1)).text [n])) else Out.no (i + 1)) = o) := Lib.hid (by
    rw [HO.out]
    have e : i + 1 + 1 = i + 2 := by omega
    rw [e]
    by_cases hk : (tokAt l (i + 1)).kind = 1
    · rw [if_pos hk, if_pos (decide_eq_true hk)]
    · rw [if_neg hk, if_neg (by simpa using hk)])
  rw [HO2.out] at HF
  clear hr3
  go_wp2_with (fail)
  refine HF.out.mono ?_
  intro e w9 hp9
  obtain ⟨b9, hb9⟩ := out_bool hp9
  subst hb9
  have HP9 := Lib.hid hp9
  clear hp9
  go_wp2_with (fail)
  go_ret
  exact HP9.out
set_option maxRecDepth 100000 in
set_option maxHeartbeats 4000000 in
theorem goOn_yes (n : NT) (s : MS) (h1 : isM l i [91] = false) (h2 : isM l i [46] = false) (hb : ∀ w', Below w.heap.size w w' → Calls Tryd.prog 50 #[.pointer (some ⟨rb, 0, none⟩)] w' (fun e w2 => e = .returned (.bool true) ∧ RdS l v w0 rb s w2)) (h : Rd l v w0 rb (fun _ => False) i false false (rdL G ++ [n]) G w) (hl : (rdL G).length ≤ 1048579) (hG : G.length ≤ 1048580) :
    Calls Tryd.prog 34 #[.pointer (some ⟨rb, 0, none⟩)] w (OutP l v w0 rb (Out.go s)) := by
  have HR := Lib.hid h
  have HC := Lib.hid (token_any h)
  have HL := Lib.hid hl
  have HG := Lib.hid hG
  have HFA := Lib.hid (h.env.src.fair i)
  have hfi := fun w' => tfield (tokAt l i) w'
  have H1 := Lib.hid h1
  have H2 := Lib.hid h2
  have HBT := Lib.hid hb
  clear h1 h2 hb
  clear h hl hG
  go_enter Tryd.func34, Tryd.ntmps34
  go_wp2_with (fail)
  refine HC.out.mono ?_
  rintro e w1 ⟨rfl, hb1⟩
  unfold tkA
  have HB1 := Lib.hid hb1
  have HR1 := Lib.hid (HR.out.on_ hb1)
  clear hb1
  have HT2 := Lib.hid (took_no [91] HR1.out H1.out)
  go_wp2_with (fail)
  refine HT2.out.mono ?_
  rintro e w2 ⟨rfl, hb2⟩
  have HB2 := Lib.hid (HB1.out.trans (hb2.mono HB1.out.size))
  have HR2 := Lib.hid (HR1.out.on_ hb2)
  clear hb2
  have HT3 := Lib.hid (took_no [46] HR2.out H2.out)
  go_wp2_with (fail)
  refine HT3.out.mono ?_
  rintro e w3 ⟨rfl, hb3⟩
  have HB3 := Lib.hid (HB2.out.trans (hb3.mono HB2.out.size))
  have HR3 := Lib.hid (HR2.out.on_ hb3)
  clear hb3
  have HBW := Lib.hid (HBT.out w3 HB3.out)
  go_wp2_with (fail)
  refine HBW.out.mono ?_
  rintro e w4 ⟨rfl, hr4⟩
  have HR4 := Lib.hid hr4
  clear hr4
  go_wp2_with (fail)
  go_ret
  exact ⟨rfl, HR4.out⟩
set_option maxRecDepth 100000 in
set_option maxHeartbeats 4000000 in
theorem goOn_no (n : NT) (o : Out) (Q : World → Prop) (h1 : isM l i [91] = false) (h2 : isM l i [46] = false) (hb : ∀ w', Below w.heap.size w w' → Calls Tryd.prog 50 #[.pointer (some ⟨rb, 0, none⟩)] w' (fun e w2 => e = .returned (.bool false) ∧ Q w2)) (hq : ∀ w2, Q w2 → Calls Tryd.prog 51 #[.pointer (some ⟨rb, 0, none⟩)] w2 (OutP l v w0 rb o)) (h : Rd l v w0 rb (fun _ => False) i false false (rdL G ++ [n]) G w) (hl : (rdL G).length ≤ 1048579) (hG : G.length ≤ 1048580) :
    Calls Tryd.prog 34 #[.pointer (some ⟨rb, 0, none⟩)] w (OutP l v w0 rb (o)) := by
  have HR := Lib.hid h
  have HC := Lib.hid (token_any h)
  have HL := Lib.hid hl
  have HG := Lib.hid hG
  have HFA := Lib.hid (h.env.src.fair i)
  have hfi := fun w' => tfield (tokAt l i) w'
  have H1 := Lib.hid h1
  have H2 := Lib.hid h2
  have HBT := Lib.hid hb
  have HQ := Lib.hid hq
  clear h1 h2 hb hq
  clear h hl hG
  go_enter Tryd.func34, Tryd.ntmps34
  go_wp2_with (fail)
  refine HC.out.mono ?_
  rintro e w1 ⟨rfl, hb1⟩
  unfold tkA
  have HB1 := Lib.hid hb1
  have HR1 := Lib.hid (HR.out.on_ hb1)
  clear hb1
  have HT2 := Lib.hid (took_no [91] HR1.out H1.out)
  go_wp2_with (fail)
  refine HT2.out.mono ?_
  rintro e w2 ⟨rfl, hb2⟩
  have HB2 := Lib.hid (HB1.out.trans (hb2.mono HB1.out.size))
  have HR2 := Lib.hid (HR1.out.on_ hb2)
  clear hb2
  have HT3 := Lib.hid (took_no [46] HR2.out H2.out)
  go_wp2_with (fail)
  refine HT3.out.mono ?_
  rintro e w3 ⟨rfl, hb3⟩
  have HB3 := Lib.hid (HB2.out.trans (hb3.mono HB2.out.size))
  have HR3 := Lib.hid (HR2.out.on_ hb3)
  clear hb3
  have HBW := Lib.hid (HBT.out w3 HB3.out)
  go_wp2_with (fail)
  refine HBW.out.mono ?_
  rintro e w4 ⟨rfl, hr4⟩
  have HLV := Lib.hid (HQ.out w4 hr4)
  clear hr4
  go_wp2_with (fail)
  refine HLV.out.mono ?_
  intro e w9 hp9
  obtain ⟨b9, hb9⟩ := out_bool hp9
  subst hb9
  have HP9 := Lib.hid hp9
  clear hp9
  go_wp2_with (fail)
  go_ret
  exact HP9.out
theorem goOn_any (n : NT) (h : Rd l v w0 rb (fun _ => False) i false false (rdL G ++ [n]) G w) (hl : (rdL G).length ≤ 1048579) (hG : G.length ≤ 1048580) (hk : KG G) :
    Calls Tryd.prog 34 #[.pointer (some ⟨rb, 0, none⟩)] w (OutP l v w0 rb (stepM l (.have_ i G n))) := by
  rw [stepM]
  have hl' : (rdL G).length ≤ 1048580 := by omega
  cases h1 : isM l i [91]
  · rw [if_neg (by simp)]
    cases h2 : isM l i [46]
    · rw [if_neg (by simp)]
      by_cases hb : bindT l i = 0
      · rw [if_pos hb]
        exact goOn_no n _ _ h1 h2 (fun w' hw => between_zero n hb (h.on_ hw) hl' hG) (fun w2 h2 => leave_any n h2 hl hG hk) h hl hG
      rw [if_neg hb]
      obtain ⟨p, hp⟩ : ∃ p, p = settle (bindT l i + 1) G n := ⟨_, rfl⟩
      obtain ⟨G1, n1⟩ := p
      have hr1 := settle_rd (t := bindT l i + 1) G n
      have hm1 := settle_mem (t := bindT l i + 1) G n
      have hg1 := settle_len (t := bindT l i + 1) G n
      rw [← hp] at hr1 hm1 hg1 ⊢
      obtain ⟨q, hq⟩ : ∃ q, q = settle (bindT l i) G1 n1 := ⟨_, rfl⟩
      obtain ⟨G2, n2⟩ := q
      dsimp only at hr1 hm1 hg1 ⊢
      by_cases h3 : bindT l i = 3
      · by_cases ht : bindTop G1 = 3
        · rw [if_pos ⟨h3, ht⟩]
          exact goOn_no n _ _ h1 h2 (fun w' hw => between_same n G1 n1 hp.symm h3 ht (h.on_ hw) hl' hG) (fun w2 h2 => leave_any n1 h2 (by omega) (by omega) (fun f hf => hk f (hm1 f hf))) h hl hG
        · rw [if_neg (fun e => ht e.2), ← hq]
          exact goOn_yes n _ h1 h2 (fun w' hw => between_yes3 n G1 n1 hp.symm G2 n2 hq.symm h3 ht (h.on_ hw) hl' hG) h hl hG
      · rw [if_neg (fun e => h3 e.1), ← hq]
        exact goOn_yes n _ h1 h2 (fun w' hw => between_yes n G1 n1 hp.symm G2 n2 hq.symm hb h3 (h.on_ hw) hl' hG) h hl hG
    · rw [if_pos rfl]
      exact goOn_field n h1 h2 h hl hG
  · rw [if_pos rfl]
    exact goOn_idx n h1 h hl hG
set_option maxHeartbeats 2000000 in
theorem step_any (s : MS) (h : RdS l v w0 rb s w) (hz : s.sz ≤ 1048579) (hk : KG s.stk) :
    Calls Tryd.prog 19 #[.pointer (some ⟨rb, 0, none⟩)] w (OutP l v w0 rb (stepM l s)) := by
  cases s with
  | want i G =>
    have hz' : G.length + cnt G ≤ 1048579 := hz
    have h' : Rd l v w0 rb (fun _ => False) i true false (rdL G) G w := h
    have HB := Lib.hid (begin_any h' (by rw [rdL_len]; omega) (by omega))
    obtain ⟨_, _, _, ⟨_, _, c2, _⟩, _⟩ := h'.cells
    obtain ⟨o, ho⟩ : ∃ o, o = stepM l (.want i G) := ⟨_, rfl⟩
    rw [show beginM l i G = o from ho.symm] at HB
    rw [← ho]
    clear h h' hz hz' hk ho
    go_enter Tryd.func19, Tryd.ntmps19
    go_wp2_with (fail)
    refine HB.out.mono ?_
    intro e w9 hp9
    obtain ⟨b9, hb9⟩ := out_bool hp9
    subst hb9
    have HP9 := Lib.hid hp9
    clear hp9
    go_wp2_with (fail)
    go_ret
    exact HP9.out
  | have_ i G n =>
    have hz' : G.length + cnt G + 1 ≤ 1048579 := hz
    have h' : Rd l v w0 rb (fun _ => False) i false false (rdL G ++ [n]) G w := h
    have HB := Lib.hid (goOn_any n h' (by rw [rdL_len]; omega) (by omega) hk)
    obtain ⟨_, _, _, ⟨_, _, c2, _⟩, _⟩ := h'.cells
    obtain ⟨o, ho⟩ : ∃ o, o = stepM l (.have_ i G n) := ⟨_, rfl⟩
    rw [← ho] at HB ⊢
    clear h h' hz hz' hk ho
    go_enter Tryd.func19, Tryd.ntmps19
    go_wp2_with (fail)
    refine HB.out.mono ?_
    intro e w9 hp9
    obtain ⟨b9, hb9⟩ := out_bool hp9
    subst hb9
    have HP9 := Lib.hid hp9
    clear hp9
    go_wp2_with (fail)
    go_ret
    exact HP9.out
end Go.Proofs.YtgohkmdepjmpaaaDoor.pm.em

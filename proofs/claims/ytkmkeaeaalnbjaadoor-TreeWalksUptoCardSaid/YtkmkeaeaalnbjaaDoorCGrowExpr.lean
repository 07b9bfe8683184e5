/- What grows of seeds: expressions. -/
import Derived.Test.YtkmkeaeaalnbjaaDoorCGrowRow
import Derived.Test.YtkmkeaeaalnbjaaDoorCNodeExpr
namespace Go.Proofs.YtkmkeaeaalnbjaaDoor.nt
open Go.RowKit mem wd lx
open vt (I64 own_base own_form own_below wpList_append_mine)

theorem kids_grow {G : Nat → Prop} {w w' : World} {p : Nat} {l : List NT} {s : Value} (h : Kids G w l s) (hg : w.grownBy w' (some p)) (hp : ∀ b, G b → b ≠ p) : Kids G w' l s :=
  h.keep fun b o hG hlt => World.cell?_of_block (hg.block b hlt (by simpa using hp b hG))
theorem box_grow {w w' : World} {p R : Nat} {cs : Array Value} (h : Box w R NodeT cs) (hg : w.grownBy w' (some p)) (hp : p ≠ R) : Box w' R NodeT cs := (hg.block R h.lt (by simpa using hp.symm)).trans h
/-- two nodes in a row of two, which is new -/
theorem row_two {w : World} {G : Nat → Prop} {t u : NT} {s r : Value} {N : Nat} (hN : N = w.heap.size) (hd : Hd t) (hd2 : Hd u) (hk : Kids G w t.kids s) (hk2 : Kids G w u.kids r) (hG : G N) :
    Kids G (w.alloc (.cells #[.int .i64 t.kind, .int .i64 t.at_, .int .i64 t.num, .string ⟨t.name.toArray⟩, s, .int .i64 u.kind, .int .i64 u.at_, .int .i64 u.num, .string ⟨u.name.toArray⟩, r] NodeT)) [t, u] (.slice (some ⟨N, 0, none⟩) 2 2) := by
  have hbx : Box (w.alloc (.cells #[.int .i64 t.kind, .int .i64 t.at_, .int .i64 t.num, .string ⟨t.name.toArray⟩, s, .int .i64 u.kind, .int .i64 u.at_, .int .i64 u.num, .string ⟨u.name.toArray⟩, r] NodeT)) N NodeT _ := Box.new _ _ _ _ hN
  have hb : ∀ o, Below w.heap.size w (w.alloc o) := fun o => (Below.refl _ _).alloc (Nat.le_refl _) _
  refine ⟨_, _, rfl, ⟨by simp, (fun h => by cases h), by simp⟩, fun _ => ⟨N, 0, rfl, hG, row_of fun k hk3 => ?_⟩⟩
  match k, hk3 with
  | 0, _ => exact ⟨hd, hbx.cell 0, hbx.cell 1, hbx.cell 2, hbx.cell 3, s, hbx.cell 4, hk.below (hb _)⟩
  | 1, _ => exact ⟨hd2, hbx.cell 5, hbx.cell 6, hbx.cell 7, hbx.cell 8, r, hbx.cell 9, hk2.below (hb _)⟩
  | k + 2, h => simp at h; omega
/-- the append of a row of nodes to a new one, met in a walk -/
theorem wpList_more {p : Nat} {w0 wr : World} {ops : Array Oper} {rest : List Oper} {o : Oper} {a : Act} {Q : Exit → Act → World → Prop} (hgd : o.guard = none) (s x : Operand)
    (ho : o.op = .call { callee := .builtin .append, args := #[s, x], argTypes := #[22, 22] }) (B C n m : Nat) (l k : List NT) (v : Value) (Ak : Option Addr) (ck : Nat)
    (hs : a.eval s = v) (hx : a.eval x = .slice Ak m ck) (hl : Own2 B wr l v) (hk : Own2 C wr k (.slice Ak m ck)) (hC : ∀ b, v.ownBlock = some b → b < C) (hBC : B ≤ C) (hpos : 0 < k.length) (hm : m = k.length) (hg : w0.grownBy wr (some p)) (hB : w0.heap.size ≤ B) (hBr : B ≤ wr.heap.size) (hn : n = l.length) (hlen : n + m ≤ 1099511627776)
    (h : ∀ A' c' w', Own2 B w' (l ++ k) (.slice A' (n + m) c') → w0.grownBy w' (some p) → (∀ b, b < wr.heap.size → some b ≠ v.ownBlock → w'.heap[b]? = wr.heap[b]?) → wpList Tryd.prog ops Q rest (a.put o.dst (.slice A' (n + m) c')) w') :
    wpList Tryd.prog ops Q (o :: rest) a wr := by
  obtain ⟨i0, hi, hz0, hz1, hz2⟩ := info_parts infoN
  obtain ⟨vs, hv, hown⟩ := hl
  obtain ⟨ms, hms, hmo⟩ := hk
  subst hn
  obtain ⟨g, hgA⟩ : ∃ g, Ak = some ⟨g, 0, none⟩ := by
    rcases hmo.2 with ⟨_, h0⟩ | ⟨g, cap, cur, hs', _⟩
    · omega
    · injection hs' with h1 _ _; exact ⟨g, h1⟩
  subst hgA
  have hcell : ∀ j u, ms[j]? = some u → wr.cell? ⟨g, j, none⟩ = some u := by
    intro j u hu
    have hj : j < m * 5 := by
      have := (List.getElem?_eq_some_iff.1 hu).1
      rw [hms.len, ← hm] at this; exact this
    rw [← hm] at hmo
    rw [hmo.cellAt j hj]; exact hu
  refine wpList_append_mine hgd s x 22 ho B NodeT i0 (.agg #[.int .i64 0, .int .i64 0, .int .i64 0, .string ⟨#[]⟩, .slice none 0 0]) 5 64 Tryd.underlying22 hi hz0 hz1 hz2 rfl (by decide) v l.length vs hs hown ⟨g, 0, none⟩ m ck ms hx (by rw [hms.len, hm]) (fun j u hu => ?_) hms.one (by unfold maxLen; omega) (by omega) hBr ?_
  · rw [vt.cells_add, Nat.zero_add]; exact hcell j u hu
  · intro v' w' h1 h2 h3
    obtain ⟨A2, c2, rfl⟩ := own_form h1
    have hkeep : ∀ b, b < wr.heap.size → some b ≠ v.ownBlock → w'.heap[b]? = wr.heap[b]? := fun b hb1 hb2 => h2.block b hb1 hb2
    refine h A2 c2 w' ⟨vs ++ ms, ?_, by rw [List.length_append, ← hm]; exact h1⟩ ?_ hkeep
    · have hms2 : Nods (fun b => B ≤ b ∧ some b ≠ v.ownBlock) wr k ms := hms.mono fun b hb => ⟨by omega, fun e => by have := hC b e.symm; omega⟩
      refine (hv.append hms2).carry fun b o' u hb hc => ?_
      have hlt : b < wr.heap.size := World.block_lt_of_cell? _ _ hc
      refine ⟨⟨hb.1, fun e => ?_⟩, (World.cell?_of_block (hkeep b hlt hb.2)).trans hc⟩
      rcases h3 b e.symm with e2 | e2
      · exact hb.2 e2.symm
      · omega
    · refine ⟨h2.os.trans hg.os, h2.tape.trans hg.tape, h2.output.trans hg.output, Nat.le_trans hg.size h2.size, fun b hb1 hb2 => ?_⟩
      refine (hkeep b (Nat.lt_of_lt_of_le hb1 hg.size) fun e => ?_).trans (hg.block b hb1 hb2)
      have := (hown.lt b e.symm).1
      omega
/-- a row of one, as a row of the call's own -/
theorem own_one {w : World} {B N : Nat} {t : NT} {s : Value} (hN : N = w.heap.size) (hB : B ≤ w.heap.size) (hd : Hd t) (hk : Kids (fun b => B ≤ b) w t.kids s) :
    Own2 B (w.alloc (.cells #[.int .i64 t.kind, .int .i64 t.at_, .int .i64 t.num, .string ⟨t.name.toArray⟩, s] NodeT)) [t] (.slice (some ⟨N, 0, none⟩) 1 1) := by
  subst hN
  refine ⟨[.int .i64 t.kind, .int .i64 t.at_, .int .i64 t.num, .string ⟨t.name.toArray⟩, s], ?_, ?_⟩
  · rw [Nods]
    refine ⟨s, [], rfl, hd, ?_, by rw [Nods]⟩
    exact (hk.lt.below ((Below.refl _ _).alloc (Nat.le_refl _) _)).mono fun b hb => ⟨hb.1, fun e => by
      injection e with e
      have e3 : b = w.heap.size := e
      have h2 : b < w.heap.size := hb.2
      omega⟩
  · exact World.ownsRow_lit (size := 5) (e := NodeT) w #[.int .i64 t.kind, .int .i64 t.at_, .int .i64 t.num, .string ⟨t.name.toArray⟩, s] 1 (base := B) hB (by decide) (by simp)
theorem wpList_more0 {p : Nat} {w0 wr : World} {ops : Array Oper} {rest : List Oper} {o : Oper} {a : Act} {Q : Exit → Act → World → Prop} (hgd : o.guard = none) (s x : Operand)
    (ho : o.op = .call { callee := .builtin .append, args := #[s, x], argTypes := #[22, 22] }) (B C n m : Nat) (l k : List NT) (v : Value) (Ak : Option Addr) (ck : Nat)
    (hs : a.eval s = v) (hx : a.eval x = .slice Ak m ck) (hl : Own2 B wr l v) (hk : Own2 C wr k (.slice Ak m ck)) (hC : ∀ b, v.ownBlock = some b → b < C) (hBC : B ≤ C) (hnil : k = [] → Value.slice Ak m ck = .slice none 0 0) (hm : m = k.length) (hg : w0.grownBy wr (some p)) (hB : w0.heap.size ≤ B) (hBr : B ≤ wr.heap.size) (hn : n = l.length) (hlen : n + m ≤ 1099511627776)
    (h : ∀ A' c' w', Own2 B w' (l ++ k) (.slice A' (n + m) c') → w0.grownBy w' (some p) → (∀ b, b < wr.heap.size → some b ≠ v.ownBlock → w'.heap[b]? = wr.heap[b]?) → wpList Tryd.prog ops Q rest (a.put o.dst (.slice A' (n + m) c')) w') :
    wpList Tryd.prog ops Q (o :: rest) a wr := by
  by_cases hpos : 0 < k.length
  · exact wpList_more hgd s x ho B C n m l k v Ak ck hs hx hl hk hC hBC hpos hm hg hB hBr hn hlen h
  · have hk0 : k = [] := List.eq_nil_of_length_eq_zero (by omega)
    have e0 := hnil hk0
    subst hk0
    obtain rfl : m = 0 := hm
    obtain ⟨i0, hi, hz0, hz1, hz2⟩ := info_parts infoN
    obtain ⟨A2, c2, hv⟩ := hl.form
    rw [← hn] at hv
    subst hv
    obtain ⟨vs, hvs, hown⟩ := hl
    refine Go.wpList_append_own_none hgd s x 22 ho B NodeT i0 5 Tryd.underlying22 hi (.slice A2 n c2) l.length vs hs hown (by rw [hx, e0]) ?_
    refine h A2 c2 wr ?_ hg fun b _ _ => rfl
    rw [List.append_nil]
    exact ⟨vs, hvs, hown⟩
theorem expr_num {n : Int} (h : 0 ≤ n) : (NT.mk 10 0 n [] []).expr = true := by rw [expr_mk]; simp [exprL, exprHead, h]
theorem expr_flag {n : Int} (h : 0 ≤ n) (h2 : n ≤ 1) : (NT.mk 11 0 n [] []).expr = true := by rw [expr_mk]; simp [exprL, exprHead, h, h2]
theorem expr_name {s : List UInt8} (h : named s = true) : (NT.mk 12 0 0 s []).expr = true := by rw [expr_mk]; simp [exprL, exprHead, h]
theorem expr_index {t u : NT} (h : t.expr = true) (h2 : u.expr = true) : (NT.mk 13 0 0 [] [t, u]).expr = true := by rw [expr_mk]; simp [exprL, exprHead, h, h2, aloneN]
theorem expr_field {s : List UInt8} {t : NT} (h : t.expr = true) (h2 : named s = true) : (NT.mk 14 0 0 s [t]).expr = true := by rw [expr_mk]; simp [exprL, exprHead, h, h2]
theorem expr_un {t : NT} {n : Int} (h : t.expr = true) (h2 : n = 2 ∨ n = 14) : (NT.mk 15 0 n [] [t]).expr = true := by rw [expr_mk]; simp [exprL, exprHead, h]; exact h2
theorem expr_call {k : Int} {s : List UInt8} {l : List NT} (hk : k = 17 ∨ k = 18) (h : ∀ t ∈ l, t.expr = true) (h2 : named s = true) : (NT.mk k 0 0 s l).expr = true := by
  have h3 : exprL l = true := by rw [exprL_all, List.all_eq_true]; exact h
  rw [expr_mk, h3]
  rcases hk with rfl | rfl <;> simp [exprHead, h2]
theorem expr_new {t : NT} {l : List NT} (h : t.typ = true) (h2 : ∀ t ∈ l, t.expr = true) : (NT.mk 19 0 0 [] (t :: l)).expr = true := by
  have h3 : exprL l = true := by rw [exprL_all, List.all_eq_true]; exact h2
  rw [expr_mk, if_pos rfl, newL_cons, h, h3]; rfl
theorem bind_in {n : Int} (h1 : 1 ≤ n) (h2 : n ≤ 13) : 0 < bindF n := by
  unfold bindF
  split
  · omega
  · split
    · omega
    · split
      · omega
      · split
        · omega
        · split
          · omega
          · omega
theorem expr_bin {t u : NT} {n : Int} (h : t.expr = true) (h2 : u.expr = true) (h3 : 1 ≤ n) (h4 : n ≤ 13) : (NT.mk 16 0 n [] [t, u]).expr = true := by
  rw [expr_mk]; simp [exprL, exprHead, h, h2, bind_in h3 h4]

theorem gE_succ (d : Nat) : gE (d + 1) = 12 + 2 * gE d := rfl
set_option maxHeartbeats 4000000 in
set_option maxRecDepth 100000 in
theorem gexpr_any : ∀ (d p u : Nat) (sl : Value) (w : World), d ≤ 20 → Sd w p sl u → u + gE d ≤ 1099511627776 →
    Calls Tryd.prog 65 #[.pointer (some ⟨p, 0, none⟩), .int .i64 d] w (GrowPost NT.expr (gE d) p u sl w) := by
  intro d
  induction d with
  | zero =>
    intro p u sl w hd hs hu
    obtain ⟨KK, hKK⟩ : ∃ KK, KK = gE 0 := ⟨_, rfl⟩
    have HKK : Hid (KK = 2) := Lib.hid (by rw [hKK]; rfl)
    change u + 2 ≤ _ at hu
    rw [← hKK]
    clear hKK
    have HS0 := Lib.hid hs
    obtain ⟨R, hR⟩ : ∃ R, R = w.heap.size := ⟨_, rfl⟩
    obtain ⟨W, hW⟩ : ∃ W, W = w.alloc (.cells #[.int .i64 0, .int .i64 0, .int .i64 0, .string ⟨#[]⟩, .slice none 0 0] NodeT) := ⟨_, rfl⟩
    have hbW : Below w.heap.size w W := by rw [hW]; exact (Below.refl _ _).alloc (Nat.le_refl _) _
    have HBX : Hid (Box W R NodeT #[.int .i64 0, .int .i64 0, .int .i64 0, .string ⟨#[]⟩, .slice none 0 0]) := Lib.hid (by rw [hW]; exact Box.new _ _ _ _ hR)
    have HN := Lib.hid (next_any 14 p u sl W (by decide) (hs.below hbW) (by omega))
    have HGW : Hid (w.grownBy W (some p)) := Lib.hid (grow_below (grow_refl w p) hbW)
    have HpW : Hid (p < w.heap.size) := Lib.hid hs.1.lt
    have HpR : Hid (p ≠ R) := Lib.hid (by have := hs.1.lt; omega)
    have HU := Lib.hid hu
    have HW := Lib.hid hW
    have HRR := Lib.hid hR
    clear hW hR hbW hs hu
    go_enter Tryd.func65, Tryd.ntmps65
    go_wp2_with (first | (rw [← HW.out, ← HRR.out]))
    refine HN.out.mono ?_
    intro e w1 hp1
    unfold NextPost at hp1
    obtain ⟨x, rfl, hx, hs, hg⟩ := hp1
    have HS1 := Lib.hid hs
    have HB1 := Lib.hid (box_grow HBX.out hg HpR.out)
    have HG1 := Lib.hid (grow_trans HGW.out hg)
    have HX1 : Hid (w.heap.size < w1.heap.size) := Lib.hid (by have := HB1.out.lt; have := HRR.out; omega)
    obtain ⟨k, rfl⟩ : ∃ k : Nat, x = (k : Int) := ⟨x.toNat, by omega⟩
    have hk : k < 14 := by omega
    clear hs hg hx
    rcases (show k % 3 = 0 ∨ k % 3 = 1 ∨ k % 3 = 2 by omega) with hm | hm | hm
    · have hm2 : (k : Int) % 3 = 0 := by omega
      clear hm
      have HN2 := Lib.hid (next_any 100 p (u + 1) sl w1 (by decide) HS1.out (by have := HU.out; omega))
      go_wp2_with (fail)
      refine HN2.out.mono ?_
      intro e w2 hp2
      unfold NextPost at hp2
      obtain ⟨y, rfl, hy, hs, hg⟩ := hp2
      have HS2 := Lib.hid hs
      have HB2 := Lib.hid (box_grow HB1.out hg HpR.out)
      have HG2 := Lib.hid (grow_trans HG1.out hg)
      have HX2 : Hid (w.heap.size < w2.heap.size) := Lib.hid (by have := hg.size; have := HX1.out; omega)
      clear hs hg
      have HE := Lib.hid (grow_end (f := NT.expr) (K := KK) (u := u) (t := .mk 10 0 y [] []) HS0.out HRR.out HB2.out (expr_num hy.1) (hd_of _ _ _ _ _ (by unfold I64; omega) (by unfold I64; omega) (by unfold I64; omega) (by simp)) (by rw [size_mk, sizeL]; have := HKK.out; omega) (nil_kids _ _) HS2.out (by have := HKK.out; omega) HG2.out)
      have bx := HB2.out
      have r0 := bx.cell 0
      have r1 := bx.cell 1
      have r2 := bx.cell 2
      have r3 := bx.cell 3
      have r4 := bx.cell 4
      simp only [List.getElem?_toArray, List.getElem?_cons_zero, List.getElem?_cons_succ] at r0 r1 r2 r3 r4
      have rf0 := bx.frozen 0
      have rf1 := bx.frozen 1
      have rf2 := bx.frozen 2
      have rf3 := bx.frozen 3
      have rf4 := bx.frozen 4
      clear bx
      go_wp2_with (fail)
      exact bodyPost_ret (node_ret rfl rfl HE.out.1) rfl HE.out.2
    · have hm2 : (k : Int) % 3 = 1 := by omega
      clear hm
      have HN2 := Lib.hid (next_any 2 p (u + 1) sl w1 (by decide) HS1.out (by have := HU.out; omega))
      go_wp2_with (fail)
      refine HN2.out.mono ?_
      intro e w2 hp2
      unfold NextPost at hp2
      obtain ⟨y, rfl, hy, hs, hg⟩ := hp2
      have HS2 := Lib.hid hs
      have HB2 := Lib.hid (box_grow HB1.out hg HpR.out)
      have HG2 := Lib.hid (grow_trans HG1.out hg)
      have HX2 : Hid (w.heap.size < w2.heap.size) := Lib.hid (by have := hg.size; have := HX1.out; omega)
      clear hs hg
      have HE := Lib.hid (grow_end (f := NT.expr) (K := KK) (u := u) (t := .mk 11 0 y [] []) HS0.out HRR.out HB2.out (expr_flag hy.1 (by omega)) (hd_of _ _ _ _ _ (by unfold I64; omega) (by unfold I64; omega) (by unfold I64; omega) (by simp)) (by rw [size_mk, sizeL]; have := HKK.out; omega) (nil_kids _ _) HS2.out (by have := HKK.out; omega) HG2.out)
      have bx := HB2.out
      have r0 := bx.cell 0
      have r1 := bx.cell 1
      have r2 := bx.cell 2
      have r3 := bx.cell 3
      have r4 := bx.cell 4
      simp only [List.getElem?_toArray, List.getElem?_cons_zero, List.getElem?_cons_succ] at r0 r1 r2 r3 r4
      have rf0 := bx.frozen 0
      have rf1 := bx.frozen 1
      have rf2 := bx.frozen 2
      have rf3 := bx.frozen 3
      have rf4 := bx.frozen 4
      clear bx
      go_wp2_with (fail)
      exact bodyPost_ret (node_ret rfl rfl HE.out.1) rfl HE.out.2
    · have hm2 : (k : Int) % 3 = 2 := by omega
      clear hm
      have HN2 := Lib.hid (word_any p (u + 1) sl w1 HS1.out (by have := HU.out; omega))
      go_wp2_with (fail)
      refine HN2.out.mono ?_
      intro e w2 hp2
      unfold WordPost at hp2
      obtain ⟨nm, rfl, hnm, hs, hg⟩ := hp2
      have HNM := Lib.hid hnm
      clear hnm
      have HS2 := Lib.hid hs
      have HB2 := Lib.hid (box_grow HB1.out hg HpR.out)
      have HG2 := Lib.hid (grow_trans HG1.out hg)
      have HX2 : Hid (w.heap.size < w2.heap.size) := Lib.hid (by have := hg.size; have := HX1.out; omega)
      clear hs hg
      have HE := Lib.hid (grow_end (f := NT.expr) (K := KK) (u := u) (t := .mk 12 0 0 nm []) HS0.out HRR.out HB2.out (expr_name HNM.out.1) (hd_of _ _ _ _ _ (by unfold I64; omega) (by unfold I64; omega) (by unfold I64; omega) (HNM.out.2)) (by rw [size_mk, sizeL]; have := HKK.out; omega) (nil_kids _ _) HS2.out (by have := HKK.out; omega) HG2.out)
      have bx := HB2.out
      have r0 := bx.cell 0
      have r1 := bx.cell 1
      have r2 := bx.cell 2
      have r3 := bx.cell 3
      have r4 := bx.cell 4
      simp only [List.getElem?_toArray, List.getElem?_cons_zero, List.getElem?_cons_succ] at r0 r1 r2 r3 r4
      have rf0 := bx.frozen 0
      have rf1 := bx.frozen 1
      have rf2 := bx.frozen 2
      have rf3 := bx.frozen 3
      have rf4 := bx.frozen 4
      clear bx
      go_wp2_with (fail)
      exact bodyPost_ret (node_ret rfl rfl HE.out.1) rfl HE.out.2
  | succ d1 ih =>
    intro p u sl w hd hs hu
    have IH : Hid (∀ (p u : Nat) (sl : Value) (w : World), Sd w p sl u → u + gE d1 ≤ 1099511627776 → Calls Tryd.prog 65 #[.pointer (some ⟨p, 0, none⟩), .int .i64 d1] w (GrowPost NT.expr (gE d1) p u sl w)) := Lib.hid (fun p u sl w h1 h2 => ih p u sl w (by omega) h1 h2)
    have IH2 := Lib.hid IH.out
    clear ih
    rw [gE_succ] at hu ⊢
    obtain ⟨g, hgq⟩ : ∃ g, g = gE d1 := ⟨_, rfl⟩
    rw [← hgq] at hu IH ⊢
    obtain ⟨KK, hKK⟩ : ∃ KK, KK = 12 + 2 * g := ⟨_, rfl⟩
    have HKK := Lib.hid hKK
    rw [← hKK]
    have HGQ := Lib.hid hgq
    clear hKK hgq
    have HS0 := Lib.hid hs
    obtain ⟨R, hR⟩ : ∃ R, R = w.heap.size := ⟨_, rfl⟩
    obtain ⟨W, hW⟩ : ∃ W, W = w.alloc (.cells #[.int .i64 0, .int .i64 0, .int .i64 0, .string ⟨#[]⟩, .slice none 0 0] NodeT) := ⟨_, rfl⟩
    have hbW : Below w.heap.size w W := by rw [hW]; exact (Below.refl _ _).alloc (Nat.le_refl _) _
    have HBX : Hid (Box W R NodeT #[.int .i64 0, .int .i64 0, .int .i64 0, .string ⟨#[]⟩, .slice none 0 0]) := Lib.hid (by rw [hW]; exact Box.new _ _ _ _ hR)
    have HN := Lib.hid (next_any 14 p u sl W (by decide) (hs.below hbW) (by omega))
    have HGW : Hid (w.grownBy W (some p)) := Lib.hid (grow_below (grow_refl w p) hbW)
    have HpW : Hid (p < w.heap.size) := Lib.hid hs.1.lt
    have HpR : Hid (p ≠ R) := Lib.hid (by have := hs.1.lt; omega)
    have HU := Lib.hid hu
    have HW := Lib.hid hW
    have HRR := Lib.hid hR
    clear hW hR hbW hs hu
    go_enter Tryd.func65, Tryd.ntmps65
    go_wp2_with (first | (rw [← HW.out, ← HRR.out]))
    refine HN.out.mono ?_
    intro e w1 hp1
    unfold NextPost at hp1
    obtain ⟨x, rfl, hx, hs, hg⟩ := hp1
    have HS1 := Lib.hid hs
    have HB1 := Lib.hid (box_grow HBX.out hg HpR.out)
    have HG1 := Lib.hid (grow_trans HGW.out hg)
    have HX1 : Hid (w.heap.size < w1.heap.size) := Lib.hid (by have := HB1.out.lt; have := HRR.out; omega)
    obtain ⟨k, rfl⟩ : ∃ k : Nat, x = (k : Int) := ⟨x.toNat, by omega⟩
    have hk : k < 14 := by omega
    clear hs hg hx
    have hdd := IntWalk.i64_in (d1 : Int) (by omega)
    have hd1 : ¬ (d1 : Int) + 1 < 1 := by omega
    rcases (show k = 0 ∨ k = 1 ∨ k = 2 ∨ k = 3 ∨ k = 4 ∨ k = 5 ∨ k = 6 ∨ k = 7 ∨ k = 8 ∨ 9 ≤ k by omega) with rfl | rfl | rfl | rfl | rfl | rfl | rfl | rfl | rfl | h9
    · clear hk
      have HN2 := Lib.hid (next_any 100 p (u + 1) sl w1 (by decide) HS1.out (by have := HU.out; omega))
      go_wp2_with (fail)
      refine HN2.out.mono ?_
      intro e w2 hp2
      unfold NextPost at hp2
      obtain ⟨y, rfl, hy, hs, hg⟩ := hp2
      have HS2 := Lib.hid hs
      have HB2 := Lib.hid (box_grow HB1.out hg HpR.out)
      have HG2 := Lib.hid (grow_trans HG1.out hg)
      have HX2 : Hid (w.heap.size < w2.heap.size) := Lib.hid (by have := hg.size; have := HX1.out; omega)
      clear hs hg
      have HE := Lib.hid (grow_end (f := NT.expr) (K := KK) (u := u) (t := .mk 10 0 y [] []) HS0.out HRR.out HB2.out (expr_num hy.1) (hd_of _ _ _ _ _ (by unfold I64; omega) (by unfold I64; omega) (by unfold I64; omega) (by simp)) (by rw [size_mk, sizeL]; have := HKK.out; omega) (nil_kids _ _) HS2.out (by have := HKK.out; omega) HG2.out)
      have bx := HB2.out
      have r0 := bx.cell 0
      have r1 := bx.cell 1
      have r2 := bx.cell 2
      have r3 := bx.cell 3
      have r4 := bx.cell 4
      simp only [List.getElem?_toArray, List.getElem?_cons_zero, List.getElem?_cons_succ] at r0 r1 r2 r3 r4
      have rf0 := bx.frozen 0
      have rf1 := bx.frozen 1
      have rf2 := bx.frozen 2
      have rf3 := bx.frozen 3
      have rf4 := bx.frozen 4
      clear bx
      go_wp2_with (fail)
      exact bodyPost_ret (node_ret rfl rfl HE.out.1) rfl HE.out.2
    · clear hk
      have HN2 := Lib.hid (next_any 2 p (u + 1) sl w1 (by decide) HS1.out (by have := HU.out; omega))
      go_wp2_with (fail)
      refine HN2.out.mono ?_
      intro e w2 hp2
      unfold NextPost at hp2
      obtain ⟨y, rfl, hy, hs, hg⟩ := hp2
      have HS2 := Lib.hid hs
      have HB2 := Lib.hid (box_grow HB1.out hg HpR.out)
      have HG2 := Lib.hid (grow_trans HG1.out hg)
      have HX2 : Hid (w.heap.size < w2.heap.size) := Lib.hid (by have := hg.size; have := HX1.out; omega)
      clear hs hg
      have HE := Lib.hid (grow_end (f := NT.expr) (K := KK) (u := u) (t := .mk 11 0 y [] []) HS0.out HRR.out HB2.out (expr_flag hy.1 (by omega)) (hd_of _ _ _ _ _ (by unfold I64; omega) (by unfold I64; omega) (by unfold I64; omega) (by simp)) (by rw [size_mk, sizeL]; have := HKK.out; omega) (nil_kids _ _) HS2.out (by have := HKK.out; omega) HG2.out)
      have bx := HB2.out
      have r0 := bx.cell 0
      have r1 := bx.cell 1
      have r2 := bx.cell 2
      have r3 := bx.cell 3
      have r4 := bx.cell 4
      simp only [List.getElem?_toArray, List.getElem?_cons_zero, List.getElem?_cons_succ] at r0 r1 r2 r3 r4
      have rf0 := bx.frozen 0
      have rf1 := bx.frozen 1
      have rf2 := bx.frozen 2
      have rf3 := bx.frozen 3
      have rf4 := bx.frozen 4
      clear bx
      go_wp2_with (fail)
      exact bodyPost_ret (node_ret rfl rfl HE.out.1) rfl HE.out.2
    · clear hk
      have HN2 := Lib.hid (word_any p (u + 1) sl w1 HS1.out (by have := HU.out; omega))
      go_wp2_with (fail)
      refine HN2.out.mono ?_
      intro e w2 hp2
      unfold WordPost at hp2
      obtain ⟨nm, rfl, hnm, hs, hg⟩ := hp2
      have HNM := Lib.hid hnm
      clear hnm
      have HS2 := Lib.hid hs
      have HB2 := Lib.hid (box_grow HB1.out hg HpR.out)
      have HG2 := Lib.hid (grow_trans HG1.out hg)
      have HX2 : Hid (w.heap.size < w2.heap.size) := Lib.hid (by have := hg.size; have := HX1.out; omega)
      clear hs hg
      have HE := Lib.hid (grow_end (f := NT.expr) (K := KK) (u := u) (t := .mk 12 0 0 nm []) HS0.out HRR.out HB2.out (expr_name HNM.out.1) (hd_of _ _ _ _ _ (by unfold I64; omega) (by unfold I64; omega) (by unfold I64; omega) (HNM.out.2)) (by rw [size_mk, sizeL]; have := HKK.out; omega) (nil_kids _ _) HS2.out (by have := HKK.out; omega) HG2.out)
      have bx := HB2.out
      have r0 := bx.cell 0
      have r1 := bx.cell 1
      have r2 := bx.cell 2
      have r3 := bx.cell 3
      have r4 := bx.cell 4
      simp only [List.getElem?_toArray, List.getElem?_cons_zero, List.getElem?_cons_succ] at r0 r1 r2 r3 r4
      have rf0 := bx.frozen 0
      have rf1 := bx.frozen 1
      have rf2 := bx.frozen 2
      have rf3 := bx.frozen 3
      have rf4 := bx.frozen 4
      clear bx
      go_wp2_with (fail)
      exact bodyPost_ret (node_ret rfl rfl HE.out.1) rfl HE.out.2
    · clear hk
      have HN2 := Lib.hid (IH.out p (u + 1) sl w1 HS1.out (by have := HU.out; omega))
      go_wp2_with (fail)
      refine HN2.out.mono ?_
      intro e w2 hp2
      unfold GrowPost at hp2
      obtain ⟨t1, st1, v1, rfl, hf, hdt, hst, hkk, hs, hu2, hg⟩ := hp2
      have HS2 := Lib.hid hs
      have HB2 := Lib.hid (box_grow HB1.out hg HpR.out)
      have HG2 := Lib.hid (grow_trans HG1.out hg)
      have HX2 : Hid (w.heap.size < w2.heap.size) := Lib.hid (by have := hg.size; have := HX1.out; omega)
      have HFt1 := Lib.hid hf
      have HDt1 := Lib.hid hdt
      have HZt1 := Lib.hid hst
      have HUt1 := Lib.hid hu2
      have HKt1 : Hid (Kids (fun b => w.heap.size < b) w2 t1.kids st1) := Lib.hid (hkk.mono fun b hb => by have := HX1.out; omega)
      clear hf hdt hst hkk hs hu2 hg
      have hv1 := HUt1.out
      have HN3 := Lib.hid (IH.out p v1 sl w2 HS2.out (by have := HU.out; omega))
      go_wp2_with (fail)
      refine HN3.out.mono ?_
      intro e w3 hp2
      unfold GrowPost at hp2
      obtain ⟨t2, st2, v2, rfl, hf, hdt, hst, hkk, hs, hu2, hg⟩ := hp2
      have HS3 := Lib.hid hs
      have HB3 := Lib.hid (box_grow HB2.out hg HpR.out)
      have HG3 := Lib.hid (grow_trans HG2.out hg)
      have HX3 : Hid (w.heap.size < w3.heap.size) := Lib.hid (by have := hg.size; have := HX2.out; omega)
      replace HKt1 : Hid (Kids (fun b => w.heap.size < b) w3 t1.kids st1) := Lib.hid (kids_grow HKt1.out hg fun b hb => by have := HpW.out; omega)
      have HFt2 := Lib.hid hf
      have HDt2 := Lib.hid hdt
      have HZt2 := Lib.hid hst
      have HUt2 := Lib.hid hu2
      have HKt2 : Hid (Kids (fun b => w.heap.size < b) w3 t2.kids st2) := Lib.hid (hkk.mono fun b hb => by have := HX2.out; omega)
      clear hf hdt hst hkk hs hu2 hg
      clear hv1
      obtain ⟨V, hV⟩ : ∃ V, V = w3.alloc (.cells #[.int .i64 t1.kind, .int .i64 t1.at_, .int .i64 t1.num, .string ⟨t1.name.toArray⟩, st1, .int .i64 t2.kind, .int .i64 t2.at_, .int .i64 t2.num, .string ⟨t2.name.toArray⟩, st2] NodeT) := ⟨_, rfl⟩
      obtain ⟨H2, hH2⟩ : ∃ H2, H2 = w3.heap.size := ⟨_, rfl⟩
      have hbV : Below w3.heap.size w3 V := by rw [hV]; exact (Below.refl _ _).alloc (Nat.le_refl _) _
      have hrow : Kids (fun b => w.heap.size < b) V [t1, t2] (.slice (some ⟨H2, 0, none⟩) 2 2) := by rw [hV]; exact row_two hH2 HDt1.out HDt2.out HKt1.out HKt2.out (by have := HX3.out; omega)
      have HBV := Lib.hid (HB3.out.on hbV)
      have HE := Lib.hid (grow_end (f := NT.expr) (K := KK) (u := u) (t := .mk 13 0 0 [] [t1, t2]) HS0.out HRR.out HBV.out (expr_index HFt1.out HFt2.out) (hd_of _ _ _ _ _ (by unfold I64; omega) (by unfold I64; omega) (by unfold I64; omega) (by simp)) (by rw [size_mk, sizeL, sizeL, sizeL]; have := HKK.out; have := HZt1.out; have := HZt2.out; omega) hrow (HS3.out.below hbV) (by have := HKK.out; have := HUt1.out; have := HUt2.out; omega) (grow_below HG3.out hbV))
      have HV := Lib.hid hV
      have HH2 := Lib.hid hH2
      have bx := HBV.out
      have r0 := bx.cell 0
      have r1 := bx.cell 1
      have r2 := bx.cell 2
      have r3 := bx.cell 3
      have r4 := bx.cell 4
      simp only [List.getElem?_toArray, List.getElem?_cons_zero, List.getElem?_cons_succ] at r0 r1 r2 r3 r4
      have rf0 := bx.frozen 0
      have rf1 := bx.frozen 1
      have rf2 := bx.frozen 2
      have rf3 := bx.frozen 3
      have rf4 := bx.frozen 4
      clear bx hV hH2 hbV hrow
      go_wp2_with (first | (rw [← HV.out, ← HH2.out]))
      exact bodyPost_ret (node_ret rfl rfl HE.out.1) rfl HE.out.2
    · clear hk
      have HN2 := Lib.hid (word_any p (u + 1) sl w1 HS1.out (by have := HU.out; omega))
      go_wp2_with (fail)
      refine HN2.out.mono ?_
      intro e w2 hp2
      unfold WordPost at hp2
      obtain ⟨nm, rfl, hnm, hs, hg⟩ := hp2
      have HNM := Lib.hid hnm
      clear hnm
      have HS2 := Lib.hid hs
      have HB2 := Lib.hid (box_grow HB1.out hg HpR.out)
      have HG2 := Lib.hid (grow_trans HG1.out hg)
      have HX2 : Hid (w.heap.size < w2.heap.size) := Lib.hid (by have := hg.size; have := HX1.out; omega)
      clear hs hg
      have HN3 := Lib.hid (IH.out p (u + 1 + 1) sl w2 HS2.out (by have := HU.out; omega))
      go_wp2_with (fail)
      refine HN3.out.mono ?_
      intro e w3 hp2
      unfold GrowPost at hp2
      obtain ⟨t1, st1, v1, rfl, hf, hdt, hst, hkk, hs, hu2, hg⟩ := hp2
      have HS3 := Lib.hid hs
      have HB3 := Lib.hid (box_grow HB2.out hg HpR.out)
      have HG3 := Lib.hid (grow_trans HG2.out hg)
      have HX3 : Hid (w.heap.size < w3.heap.size) := Lib.hid (by have := hg.size; have := HX2.out; omega)
      have HFt1 := Lib.hid hf
      have HDt1 := Lib.hid hdt
      have HZt1 := Lib.hid hst
      have HUt1 := Lib.hid hu2
      have HKt1 : Hid (Kids (fun b => w.heap.size < b) w3 t1.kids st1) := Lib.hid (hkk.mono fun b hb => by have := HX2.out; omega)
      clear hf hdt hst hkk hs hu2 hg
      obtain ⟨V, hV⟩ : ∃ V, V = w3.alloc (.cells #[.int .i64 t1.kind, .int .i64 t1.at_, .int .i64 t1.num, .string ⟨t1.name.toArray⟩, st1] NodeT) := ⟨_, rfl⟩
      obtain ⟨H2, hH2⟩ : ∃ H2, H2 = w3.heap.size := ⟨_, rfl⟩
      have hbV : Below w3.heap.size w3 V := by rw [hV]; exact (Below.refl _ _).alloc (Nat.le_refl _) _
      have hrow : Kids (fun b => w.heap.size < b) V [t1] (.slice (some ⟨H2, 0, none⟩) 1 1) := by rw [hV]; exact row_one hH2 HDt1.out HKt1.out (by have := HX3.out; omega)
      have HBV := Lib.hid (HB3.out.on hbV)
      have HE := Lib.hid (grow_end (f := NT.expr) (K := KK) (u := u) (t := .mk 14 0 0 nm [t1]) HS0.out HRR.out HBV.out (expr_field HFt1.out HNM.out.1) (hd_of _ _ _ _ _ (by unfold I64; omega) (by unfold I64; omega) (by unfold I64; omega) (HNM.out.2)) (by rw [size_mk, sizeL, sizeL]; have := HKK.out; have := HZt1.out; omega) hrow (HS3.out.below hbV) (by have := HKK.out; have := HUt1.out; omega) (grow_below HG3.out hbV))
      have HV := Lib.hid hV
      have HH2 := Lib.hid hH2
      have bx := HBV.out
      have r0 := bx.cell 0
      have r1 := bx.cell 1
      have r2 := bx.cell 2
      have r3 := bx.cell 3
      have r4 := bx.cell 4
      simp only [List.getElem?_toArray, List.getElem?_cons_zero, List.getElem?_cons_succ] at r0 r1 r2 r3 r4
      have rf0 := bx.frozen 0
      have rf1 := bx.frozen 1
      have rf2 := bx.frozen 2
      have rf3 := bx.frozen 3
      have rf4 := bx.frozen 4
      clear bx hV hH2 hbV hrow
      go_wp2_with (first | (rw [← HV.out, ← HH2.out]))
      exact bodyPost_ret (node_ret rfl rfl HE.out.1) rfl HE.out.2
    · clear hk
      have HN2 := Lib.hid (next_any 2 p (u + 1) sl w1 (by decide) HS1.out (by have := HU.out; omega))
      go_wp2_with (fail)
      refine HN2.out.mono ?_
      intro e w2 hp2
      unfold NextPost at hp2
      obtain ⟨y, rfl, hy, hs, hg⟩ := hp2
      have HS2 := Lib.hid hs
      have HB2 := Lib.hid (box_grow HB1.out hg HpR.out)
      have HG2 := Lib.hid (grow_trans HG1.out hg)
      have HX2 : Hid (w.heap.size < w2.heap.size) := Lib.hid (by have := hg.size; have := HX1.out; omega)
      clear hs hg
      have HN3 := Lib.hid (IH.out p (u + 1 + 1) sl w2 HS2.out (by have := HU.out; omega))
      go_wp2_with (fail)
      refine HN3.out.mono ?_
      intro e w3 hp2
      unfold GrowPost at hp2
      obtain ⟨t1, st1, v1, rfl, hf, hdt, hst, hkk, hs, hu2, hg⟩ := hp2
      have HS3 := Lib.hid hs
      have HB3 := Lib.hid (box_grow HB2.out hg HpR.out)
      have HG3 := Lib.hid (grow_trans HG2.out hg)
      have HX3 : Hid (w.heap.size < w3.heap.size) := Lib.hid (by have := hg.size; have := HX2.out; omega)
      have HFt1 := Lib.hid hf
      have HDt1 := Lib.hid hdt
      have HZt1 := Lib.hid hst
      have HUt1 := Lib.hid hu2
      have HKt1 : Hid (Kids (fun b => w.heap.size < b) w3 t1.kids st1) := Lib.hid (hkk.mono fun b hb => by have := HX2.out; omega)
      clear hf hdt hst hkk hs hu2 hg
      obtain ⟨V, hV⟩ : ∃ V, V = w3.alloc (.cells #[.int .i64 t1.kind, .int .i64 t1.at_, .int .i64 t1.num, .string ⟨t1.name.toArray⟩, st1] NodeT) := ⟨_, rfl⟩
      obtain ⟨H2, hH2⟩ : ∃ H2, H2 = w3.heap.size := ⟨_, rfl⟩
      have hbV : Below w3.heap.size w3 V := by rw [hV]; exact (Below.refl _ _).alloc (Nat.le_refl _) _
      have hrow : Kids (fun b => w.heap.size < b) V [t1] (.slice (some ⟨H2, 0, none⟩) 1 1) := by rw [hV]; exact row_one hH2 HDt1.out HKt1.out (by have := HX3.out; omega)
      have HBV := Lib.hid (HB3.out.on hbV)
      have HE := Lib.hid (grow_end (f := NT.expr) (K := KK) (u := u) (t := .mk 15 0 (2 + 12 * y) [] [t1]) HS0.out HRR.out HBV.out (expr_un HFt1.out (by omega)) (hd_of _ _ _ _ _ (by unfold I64; omega) (by unfold I64; omega) (by unfold I64; omega) (by simp)) (by rw [size_mk, sizeL, sizeL]; have := HKK.out; have := HZt1.out; omega) hrow (HS3.out.below hbV) (by have := HKK.out; have := HUt1.out; omega) (grow_below HG3.out hbV))
      have HV := Lib.hid hV
      have HH2 := Lib.hid hH2
      have bx := HBV.out
      have r0 := bx.cell 0
      have r1 := bx.cell 1
      have r2 := bx.cell 2
      have r3 := bx.cell 3
      have r4 := bx.cell 4
      simp only [List.getElem?_toArray, List.getElem?_cons_zero, List.getElem?_cons_succ] at r0 r1 r2 r3 r4
      have rf0 := bx.frozen 0
      have rf1 := bx.frozen 1
      have rf2 := bx.frozen 2
      have rf3 := bx.frozen 3
      have rf4 := bx.frozen 4
      clear bx hV hH2 hbV hrow
      go_wp2_with (first | (rw [← HV.out, ← HH2.out]))
      exact bodyPost_ret (node_ret rfl rfl HE.out.1) rfl HE.out.2
    · clear hk
      have IH3 := HGQ.out
      have HN2 := Lib.hid (word_any p (u + 1) sl w1 HS1.out (by have := HU.out; omega))
      go_wp2_with (fail)
      refine HN2.out.mono ?_
      intro e w2 hp2
      unfold WordPost at hp2
      obtain ⟨nm, rfl, hnm, hs, hg⟩ := hp2
      have HNM := Lib.hid hnm
      clear hnm
      have HS2 := Lib.hid hs
      have HB2 := Lib.hid (box_grow HB1.out hg HpR.out)
      have HG2 := Lib.hid (grow_trans HG1.out hg)
      have HX2 : Hid (w.heap.size < w2.heap.size) := Lib.hid (by have := hg.size; have := HX1.out; omega)
      clear hs hg
      have HN3 := Lib.hid (gexprs_any d1 IH2.out p (u + 1 + 1) sl w2 HS2.out (by have := HU.out; omega))
      go_wp2_with (fail)
      refine HN3.out.mono ?_
      intro e w3 hp2
      unfold GrowsPost at hp2
      obtain ⟨l, lv, v3, rfl, hf, hst, hln, ho2, hnil, hs, hu2, hg⟩ := hp2
      have HS3 := Lib.hid hs
      have HB3 := Lib.hid (box_grow HB2.out hg HpR.out)
      have HG3 := Lib.hid (grow_trans HG2.out hg)
      have HX3 : Hid (w.heap.size < w3.heap.size) := Lib.hid (by have := hg.size; have := HX2.out; omega)
      have hkl := ho2.kids
      obtain ⟨A9, c9, rfl⟩ := ho2.form
      have HE := Lib.hid (grow_end (f := NT.expr) (K := KK) (u := u) (t := .mk 17 0 0 nm l) HS0.out HRR.out HB3.out (expr_call (by omega) hf HNM.out.1) (hd_of _ _ _ _ _ (by unfold I64; omega) (by unfold I64; omega) (by unfold I64; omega) (HNM.out.2)) (by rw [size_mk]; have := HKK.out; omega) (hkl.mono fun b hb => by have := HX2.out; omega) HS3.out (by have := HKK.out; omega) HG3.out)
      have bx := HB3.out
      have r0 := bx.cell 0
      have r1 := bx.cell 1
      have r2 := bx.cell 2
      have r3 := bx.cell 3
      have r4 := bx.cell 4
      simp only [List.getElem?_toArray, List.getElem?_cons_zero, List.getElem?_cons_succ] at r0 r1 r2 r3 r4
      have rf0 := bx.frozen 0
      have rf1 := bx.frozen 1
      have rf2 := bx.frozen 2
      have rf3 := bx.frozen 3
      have rf4 := bx.frozen 4
      clear bx
      obtain ⟨n9, hn9⟩ : ∃ n9, n9 = l.length := ⟨_, rfl⟩
      rw [← hn9] at HE ⊢
      clear hn9 hkl ho2 hnil hs hg hf hln
      go_wp2_with (fail)
      exact bodyPost_ret (node_ret rfl rfl HE.out.1) rfl HE.out.2
    · clear hk
      have IH3 := HGQ.out
      have HN2 := Lib.hid (word_any p (u + 1) sl w1 HS1.out (by have := HU.out; omega))
      go_wp2_with (fail)
      refine HN2.out.mono ?_
      intro e w2 hp2
      unfold WordPost at hp2
      obtain ⟨nm, rfl, hnm, hs, hg⟩ := hp2
      have HNM := Lib.hid hnm
      clear hnm
      have HS2 := Lib.hid hs
      have HB2 := Lib.hid (box_grow HB1.out hg HpR.out)
      have HG2 := Lib.hid (grow_trans HG1.out hg)
      have HX2 : Hid (w.heap.size < w2.heap.size) := Lib.hid (by have := hg.size; have := HX1.out; omega)
      clear hs hg
      have HN3 := Lib.hid (gexprs_any d1 IH2.out p (u + 1 + 1) sl w2 HS2.out (by have := HU.out; omega))
      go_wp2_with (fail)
      refine HN3.out.mono ?_
      intro e w3 hp2
      unfold GrowsPost at hp2
      obtain ⟨l, lv, v3, rfl, hf, hst, hln, ho2, hnil, hs, hu2, hg⟩ := hp2
      have HS3 := Lib.hid hs
      have HB3 := Lib.hid (box_grow HB2.out hg HpR.out)
      have HG3 := Lib.hid (grow_trans HG2.out hg)
      have HX3 : Hid (w.heap.size < w3.heap.size) := Lib.hid (by have := hg.size; have := HX2.out; omega)
      have hkl := ho2.kids
      obtain ⟨A9, c9, rfl⟩ := ho2.form
      have HE := Lib.hid (grow_end (f := NT.expr) (K := KK) (u := u) (t := .mk 18 0 0 nm l) HS0.out HRR.out HB3.out (expr_call (by omega) hf HNM.out.1) (hd_of _ _ _ _ _ (by unfold I64; omega) (by unfold I64; omega) (by unfold I64; omega) (HNM.out.2)) (by rw [size_mk]; have := HKK.out; omega) (hkl.mono fun b hb => by have := HX2.out; omega) HS3.out (by have := HKK.out; omega) HG3.out)
      have bx := HB3.out
      have r0 := bx.cell 0
      have r1 := bx.cell 1
      have r2 := bx.cell 2
      have r3 := bx.cell 3
      have r4 := bx.cell 4
      simp only [List.getElem?_toArray, List.getElem?_cons_zero, List.getElem?_cons_succ] at r0 r1 r2 r3 r4
      have rf0 := bx.frozen 0
      have rf1 := bx.frozen 1
      have rf2 := bx.frozen 2
      have rf3 := bx.frozen 3
      have rf4 := bx.frozen 4
      clear bx
      obtain ⟨n9, hn9⟩ : ∃ n9, n9 = l.length := ⟨_, rfl⟩
      rw [← hn9] at HE ⊢
      clear hn9 hkl ho2 hnil hs hg hf hln
      go_wp2_with (fail)
      exact bodyPost_ret (node_ret rfl rfl HE.out.1) rfl HE.out.2
    · clear hk
      have IH3 := HGQ.out
      have HN2 := Lib.hid (gtype_any 2 p (u + 1) sl w1 (by decide) HS1.out (by have := HU.out; omega))
      go_wp2_with (fail)
      refine HN2.out.mono ?_
      intro e w2 hp2
      unfold GrowPost at hp2
      obtain ⟨t1, st1, v1, rfl, hf, hdt, hst, hkk, hs, hu2, hg⟩ := hp2
      have HS2 := Lib.hid hs
      have HB2 := Lib.hid (box_grow HB1.out hg HpR.out)
      have HG2 := Lib.hid (grow_trans HG1.out hg)
      have HX2 : Hid (w.heap.size < w2.heap.size) := Lib.hid (by have := hg.size; have := HX1.out; omega)
      have HFt1 := Lib.hid hf
      have HDt1 := Lib.hid hdt
      have HZt1 := Lib.hid hst
      have HUt1 := Lib.hid hu2
      have HKt1 : Hid (Kids (fun b => w.heap.size < b) w2 t1.kids st1) := Lib.hid (hkk.mono fun b hb => by have := HX1.out; omega)
      clear hf hdt hst hkk hs hu2 hg
      have hv1 := HUt1.out
      obtain ⟨V, hV⟩ : ∃ V, V = w2.alloc (.cells #[.int .i64 t1.kind, .int .i64 t1.at_, .int .i64 t1.num, .string ⟨t1.name.toArray⟩, st1] NodeT) := ⟨_, rfl⟩
      obtain ⟨H2, hH2⟩ : ∃ H2, H2 = w2.heap.size := ⟨_, rfl⟩
      have hbV : Below w2.heap.size w2 V := by rw [hV]; exact (Below.refl _ _).alloc (Nat.le_refl _) _
      have hVs : V.heap.size = H2 + 1 := by rw [hV, hH2]; exact Array.size_push _
      have hrow : Own2 (w.heap.size + 1) V [t1] (.slice (some ⟨H2, 0, none⟩) 1 1) := by rw [hV]; exact own_one hH2 (by have := HX2.out; omega) HDt1.out (HKt1.out.mono fun b hb => hb)
      have HRW := Lib.hid hrow
      have HVS := Lib.hid hVs
      have HBV := Lib.hid (HB2.out.on hbV)
      have HSV := Lib.hid (HS2.out.below hbV)
      have HGV := Lib.hid (grow_below HG2.out hbV)
      have HH2w : Hid (w.heap.size < H2) := Lib.hid (by have := HX2.out; omega)
      have HV := Lib.hid hV
      have HH2 := Lib.hid hH2
      clear hV hH2 hbV hrow hVs
      have HN3 := Lib.hid (gexprs_any d1 IH2.out p v1 sl V HSV.out (by have := HU.out; omega))
      go_wp2_with (first | (rw [← HV.out, ← HH2.out]))
      refine HN3.out.mono ?_
      intro e w3 hp2
      unfold GrowsPost at hp2
      obtain ⟨l, lv, v3, rfl, hf, hst, hln, ho2, hnil, hs, hu2, hg⟩ := hp2
      clear hv1
      have HB3 := Lib.hid (box_grow HBV.out hg HpR.out)
      have HG3 := Lib.hid (grow_trans HGV.out hg)
      have HRW3 := Lib.hid (HRW.out.grow hg (by have := HpW.out; omega))
      obtain ⟨A9, c9, rfl⟩ := ho2.form
      have HF := Lib.hid hf
      have HST := Lib.hid hst
      have HO3 := Lib.hid ho2
      have HNIL := Lib.hid hnil
      have HS3 := Lib.hid hs
      have HU3 := Lib.hid hu2
      obtain ⟨n9, hn9⟩ : ∃ n9, n9 = l.length := ⟨_, rfl⟩
      rw [← hn9] at HO3 HNIL ⊢
      have HN9 := Lib.hid hn9
      have hl9 : 1 + n9 ≤ 1099511627776 := by omega
      have hB3 : w.heap.size + 1 ≤ w3.heap.size := by have := HG3.out.size; have := HB3.out.lt; have := HRR.out; omega
      have hpw3 : p < w3.heap.size := by have := HpW.out; omega
      have hpo : some p ≠ (Value.slice (some ⟨H2, 0, none⟩) 1 1).ownBlock := fun e => by
        injection e with e
        have e3 : p = H2 := e
        have := HH2w.out; have := HpW.out; omega
      have hC : ∀ b, (Value.slice (some ⟨H2, 0, none⟩) 1 1).ownBlock = some b → b < V.heap.size := fun b e => by
        injection e with e
        have e3 : H2 = b := e
        have := HVS.out; omega
      have hR3 : R < w3.heap.size := HB3.out.lt
      have hRo : some R ≠ (Value.slice (some ⟨H2, 0, none⟩) 1 1).ownBlock := fun e => by
        injection e with e
        have e3 : R = H2 := e
        have := HH2w.out; have := HRR.out; omega
      have hBC : w.heap.size + 1 ≤ V.heap.size := by have := HVS.out; have := HH2w.out; omega
      clear hf hst hln ho2 hnil hs hu2 hg hn9
      go_wp2_with (at_builtin; (refine wpList_more0 (p := p) (w0 := w) (wr := w3) rfl _ _ rfl (w.heap.size + 1) V.heap.size 1 n9 [t1] l (.slice (some ⟨H2, 0, none⟩) 1 1) A9 c9 rfl rfl HRW3.out HO3.out hC hBC HNIL.out HN9.out HG3.out (Nat.le_succ _) hB3 rfl hl9 ?_); intro A4 c4 w4 ho4 hg4 hk4; have HO4 := Lib.hid ho4; have HG4 := Lib.hid hg4; have HB4 : Hid (Box w4 R NodeT #[.int .i64 0, .int .i64 0, .int .i64 0, .string ⟨#[]⟩, .slice none 0 0]) := Lib.hid ((hk4 R hR3 hRo).trans HB3.out); have HS4 := Lib.hid (HS0.out.keep hg4 ((hk4 p hpw3 hpo).trans HS3.out.1)); clear ho4 hg4 hk4; have bx := HB4.out; have r0 := bx.cell 0; have r1 := bx.cell 1; have r2 := bx.cell 2; have r3 := bx.cell 3; have r4 := bx.cell 4; simp only [List.getElem?_toArray, List.getElem?_cons_zero, List.getElem?_cons_succ] at r0 r1 r2 r3 r4; have rf0 := bx.frozen 0; have rf1 := bx.frozen 1; have rf2 := bx.frozen 2; have rf3 := bx.frozen 3; have rf4 := bx.frozen 4; clear bx)
      have HK4 : Hid (Kids (fun b => w.heap.size < b) w4 ([t1] ++ l) (.slice A4 (1 + n9) c4)) := Lib.hid (HO4.out.kids.mono fun b hb => hb)
      have HE := Lib.hid (grow_end (f := NT.expr) (K := KK) (u := u) (t := .mk 19 0 0 [] ([t1] ++ l)) HS0.out HRR.out HB4.out (expr_new HFt1.out HF.out) (hd_of _ _ _ _ _ (by unfold I64; omega) (by unfold I64; omega) (by unfold I64; omega) (by simp)) (by rw [size_mk, List.singleton_append, sizeL]; have := HKK.out; have := HST.out; have := HZt1.out; omega) HK4.out HS4.out (by have := HKK.out; have := HU3.out; have := HUt1.out; omega) HG4.out)
      exact bodyPost_ret (node_ret rfl rfl HE.out.1) rfl HE.out.2
    · have e0 : ((k : Int) == 0) = false := beq_eq_false_iff_ne.2 (by omega)
      have e1 : ((k : Int) == 1) = false := beq_eq_false_iff_ne.2 (by omega)
      have e2 : ((k : Int) == 2) = false := beq_eq_false_iff_ne.2 (by omega)
      have e3 : ((k : Int) == 3) = false := beq_eq_false_iff_ne.2 (by omega)
      have e4 : ((k : Int) == 4) = false := beq_eq_false_iff_ne.2 (by omega)
      have e5 : ((k : Int) == 5) = false := beq_eq_false_iff_ne.2 (by omega)
      have e6 : ((k : Int) == 6) = false := beq_eq_false_iff_ne.2 (by omega)
      have e7 : ((k : Int) == 7) = false := beq_eq_false_iff_ne.2 (by omega)
      have e8 : ((k : Int) == 8) = false := beq_eq_false_iff_ne.2 (by omega)
      clear hk h9
      have HN2 := Lib.hid (next_any 13 p (u + 1) sl w1 (by decide) HS1.out (by have := HU.out; omega))
      go_wp2_with (fail)
      refine HN2.out.mono ?_
      intro e w2 hp2
      unfold NextPost at hp2
      obtain ⟨y, rfl, hy, hs, hg⟩ := hp2
      have HS2 := Lib.hid hs
      have HB2 := Lib.hid (box_grow HB1.out hg HpR.out)
      have HG2 := Lib.hid (grow_trans HG1.out hg)
      have HX2 : Hid (w.heap.size < w2.heap.size) := Lib.hid (by have := hg.size; have := HX1.out; omega)
      clear hs hg
      have HN3 := Lib.hid (IH.out p (u + 1 + 1) sl w2 HS2.out (by have := HU.out; omega))
      go_wp2_with (fail)
      refine HN3.out.mono ?_
      intro e w3 hp2
      unfold GrowPost at hp2
      obtain ⟨t1, st1, v1, rfl, hf, hdt, hst, hkk, hs, hu2, hg⟩ := hp2
      have HS3 := Lib.hid hs
      have HB3 := Lib.hid (box_grow HB2.out hg HpR.out)
      have HG3 := Lib.hid (grow_trans HG2.out hg)
      have HX3 : Hid (w.heap.size < w3.heap.size) := Lib.hid (by have := hg.size; have := HX2.out; omega)
      have HFt1 := Lib.hid hf
      have HDt1 := Lib.hid hdt
      have HZt1 := Lib.hid hst
      have HUt1 := Lib.hid hu2
      have HKt1 : Hid (Kids (fun b => w.heap.size < b) w3 t1.kids st1) := Lib.hid (hkk.mono fun b hb => by have := HX2.out; omega)
      clear hf hdt hst hkk hs hu2 hg
      have hv1 := HUt1.out
      have HN4 := Lib.hid (IH.out p v1 sl w3 HS3.out (by have := HU.out; omega))
      go_wp2_with (fail)
      refine HN4.out.mono ?_
      intro e w4 hp2
      unfold GrowPost at hp2
      obtain ⟨t2, st2, v2, rfl, hf, hdt, hst, hkk, hs, hu2, hg⟩ := hp2
      have HS4 := Lib.hid hs
      have HB4 := Lib.hid (box_grow HB3.out hg HpR.out)
      have HG4 := Lib.hid (grow_trans HG3.out hg)
      have HX4 : Hid (w.heap.size < w4.heap.size) := Lib.hid (by have := hg.size; have := HX3.out; omega)
      replace HKt1 : Hid (Kids (fun b => w.heap.size < b) w4 t1.kids st1) := Lib.hid (kids_grow HKt1.out hg fun b hb => by have := HpW.out; omega)
      have HFt2 := Lib.hid hf
      have HDt2 := Lib.hid hdt
      have HZt2 := Lib.hid hst
      have HUt2 := Lib.hid hu2
      have HKt2 : Hid (Kids (fun b => w.heap.size < b) w4 t2.kids st2) := Lib.hid (hkk.mono fun b hb => by have := HX3.out; omega)
      clear hf hdt hst hkk hs hu2 hg
      clear hv1
      obtain ⟨V, hV⟩ : ∃ V, V = w4.alloc (.cells #[.int .i64 t1.kind, .int .i64 t1.at_, .int .i64 t1.num, .string ⟨t1.name.toArray⟩, st1, .int .i64 t2.kind, .int .i64 t2.at_, .int .i64 t2.num, .string ⟨t2.name.toArray⟩, st2] NodeT) := ⟨_, rfl⟩
      obtain ⟨H2, hH2⟩ : ∃ H2, H2 = w4.heap.size := ⟨_, rfl⟩
      have hbV : Below w4.heap.size w4 V := by rw [hV]; exact (Below.refl _ _).alloc (Nat.le_refl _) _
      have hrow : Kids (fun b => w.heap.size < b) V [t1, t2] (.slice (some ⟨H2, 0, none⟩) 2 2) := by rw [hV]; exact row_two hH2 HDt1.out HDt2.out HKt1.out HKt2.out (by have := HX4.out; omega)
      have HBV := Lib.hid (HB4.out.on hbV)
      have HE := Lib.hid (grow_end (f := NT.expr) (K := KK) (u := u) (t := .mk 16 0 (1 + y) [] [t1, t2]) HS0.out HRR.out HBV.out (expr_bin HFt1.out HFt2.out (by omega) (by omega)) (hd_of _ _ _ _ _ (by unfold I64; omega) (by unfold I64; omega) (by unfold I64; omega) (by simp)) (by rw [size_mk, sizeL, sizeL, sizeL]; have := HKK.out; have := HZt1.out; have := HZt2.out; omega) hrow (HS4.out.below hbV) (by have := HKK.out; have := HUt1.out; have := HUt2.out; omega) (grow_below HG4.out hbV))
      have HV := Lib.hid hV
      have HH2 := Lib.hid hH2
      have bx := HBV.out
      have r0 := bx.cell 0
      have r1 := bx.cell 1
      have r2 := bx.cell 2
      have r3 := bx.cell 3
      have r4 := bx.cell 4
      simp only [List.getElem?_toArray, List.getElem?_cons_zero, List.getElem?_cons_succ] at r0 r1 r2 r3 r4
      have rf0 := bx.frozen 0
      have rf1 := bx.frozen 1
      have rf2 := bx.frozen 2
      have rf3 := bx.frozen 3
      have rf4 := bx.frozen 4
      clear bx hV hH2 hbV hrow
      go_wp2_with (first | (rw [← HV.out, ← HH2.out]))
      exact bodyPost_ret (node_ret rfl rfl HE.out.1) rfl HE.out.2
end Go.Proofs.YtkmkeaeaalnbjaaDoor.nt

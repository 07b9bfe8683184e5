import Derived.Test.YtkmkeaeaalnbjaaDoorCGrowPlace
import Derived.Deep.AppendLies
import Derived.Deep.RegionLaw
/- What grows of seeds: blocks, of what a statement grows to. -/
namespace Go.Proofs.YtkmkeaeaalnbjaaDoor.nt
open Go.RowKit mem wd lx
open vt (I64 own_base own_form own_below wpList_append_mine)

theorem blk_of {l : List NT} (h : ∀ t ∈ l, t.stmt = true) : (NT.mk 30 0 0 [] l).blk = true := by
  have h2 : stmtL l = true := by rw [stmtL_all, List.all_eq_true]; exact h
  show (decide ((30 : Int) = 30) && (NT.mk 30 0 0 [] l).stmt) = true
  rw [stmt_mk, if_neg (by omega), if_neg (by decide), if_pos rfl, h2]; rfl
/-- an append of one node in a region that draws -/
theorem step_node {p : Nat} {w0 wr : World} {ops : Array Oper} {o : Oper} {a : Act} {K : Act → World → Prop} {Q : Exit → Act → World → Prop} {E : Prop} (hgd : o.guard = none) (s x : Operand)
    (ho : o.op = .call { callee := .builtin .append, args := #[s, x], argTypes := #[22, 22] }) (B n : Nat) (l : List NT) (t : NT) (v sk : Value) (H : Nat)
    (hs : a.eval s = v) (hx : a.eval x = .slice (some ⟨H, 0, none⟩) 1 1) (hl : Own2 B wr l v) (hd : Hd t) (hk : Kids (fun b => B ≤ b ∧ some b ≠ v.ownBlock) wr t.kids sk) (hg : w0.grownBy wr (some p)) (hB : w0.heap.size ≤ B) (hBr : B ≤ wr.heap.size) (hn : n = l.length) (hlen : n ≤ 1099511627776) (hH : H = wr.heap.size)
    (h : ∀ A' c' w', Own2 B w' (l ++ [t]) (.slice A' (n + 1) c') → w0.grownBy w' (some p) → (∀ k, k < wr.heap.size → some k ≠ v.ownBlock → w'.heap[k]? = wr.heap[k]?) → K (a.put o.dst (.slice A' (n + 1) c')) w') :
    if Region.wanted o (yielded ops a.tmps) = true then Oper.wp Tryd.prog o a (wr.alloc (.cells #[.int .i64 t.kind, .int .i64 t.at_, .int .i64 t.num, .string ⟨t.name.toArray⟩, sk] NodeT)) K Q else E := by
  obtain ⟨i0, hi, hz0, hz1, hz2⟩ := info_parts infoN
  obtain ⟨vs, hv, hown⟩ := hl
  subst hH
  obtain ⟨Ak, ck, hsk, _⟩ := hk.form
  have hba : Below wr.heap.size wr (wr.alloc (.cells #[.int .i64 t.kind, .int .i64 t.at_, .int .i64 t.num, .string ⟨t.name.toArray⟩, sk] NodeT)) := (Below.refl _ _).alloc (Nat.le_refl _) _
  refine step_append_lies _ hgd s x 22 ho B NodeT i0 (.agg #[.int .i64 0, .int .i64 0, .int .i64 0, .string ⟨#[]⟩, .slice none 0 0]) 5 64 Tryd.underlying22 hi hz0 hz1 hz2 rfl (by decide) v l.length vs hs (hown.alloc _) ⟨wr.heap.size, 0, none⟩ 1 1 [.int .i64 t.kind, .int .i64 t.at_, .int .i64 t.num, .string ⟨t.name.toArray⟩, sk] hx rfl (World.news_of_block (heap_alloc_new wr _)) ?_ (by decide) (by unfold maxLen; omega) (by omega) (by simp; omega) (wr.heap.size + 1) (by simp) ?_
  · intro u hu
    simp only [List.mem_cons, List.mem_nil_iff, or_false] at hu
    rcases hu with rfl | rfl | rfl | rfl | rfl
    · rfl
    · rfl
    · rfl
    · rfl
    · rw [hsk]; rfl
  · intro g cap w' h1 h2 h3 h4
    subst hn
    have hkeep : ∀ k, k < wr.heap.size → some k ≠ v.ownBlock → w'.heap[k]? = wr.heap[k]? := fun k hk1 hk2 => (h2.block k (by simp; omega) hk2).trans (hba.block k hk1)
    refine h (some ⟨g, 0, none⟩) cap w' ⟨vs ++ [.int .i64 t.kind, .int .i64 t.at_, .int .i64 t.num, .string ⟨t.name.toArray⟩, sk], ?_, by rw [List.length_append]; exact h1⟩ ?_ hkeep
    · have hv2 : Nods (fun b => B ≤ b ∧ some b ≠ v.ownBlock) wr (l ++ [t]) (vs ++ [.int .i64 t.kind, .int .i64 t.at_, .int .i64 t.num, .string ⟨t.name.toArray⟩, sk]) := hv.append (by rw [Nods]; exact ⟨sk, [], rfl, hd, hk, by rw [Nods]⟩)
      refine hv2.carry fun b o' u hb hc => ?_
      have hlt : b < wr.heap.size := World.block_lt_of_cell? _ _ hc
      refine ⟨⟨hb.1, fun e => ?_⟩, (World.cell?_of_block (hkeep b hlt hb.2)).trans hc⟩
      injection e with e
      have e : b = g := e
      rcases h3 with e2 | e2
      · exact hb.2 (by rw [e2, e])
      · omega
    · refine ⟨h2.os.trans (hba.os.trans hg.os), h2.tape.trans (hba.tape.trans hg.tape), h2.output.trans (hba.output.trans hg.output), Nat.le_trans hg.size (Nat.le_trans hba.size h2.size), fun k hk1 hk2 => ?_⟩
      refine (hkeep k (Nat.lt_of_lt_of_le hk1 hg.size) fun e => ?_).trans (hg.block k hk1 hk2)
      have := (hown.lt k e.symm).1
      omega
abbrev ZN : Array Value := #[.int .i64 0, .int .i64 0, .int .i64 0, .string ⟨#[]⟩, .slice none 0 0]
def GbRel (N q p u R O : Nat) (sl : Value) (w : World) (i : Value) (wr : World) : Prop :=
  ∃ (j : Nat) (l : List NT) (v : Value) (u' : Nat), j ≤ N ∧ i = .int .i64 j ∧ l.length = j ∧ Hid (∀ t ∈ l, t.stmt = true) ∧ Hid (sizeL l ≤ j * q) ∧ Hid (Own2 (w.heap.size + 2) wr l v) ∧ Hid (Box wr R NodeT ZN) ∧ Hid (Box wr O NodeT #[.int .i64 30, .int .i64 0, .int .i64 0, .string ⟨#[]⟩, v]) ∧ Hid (Sd wr p sl u') ∧ Hid (u' ≤ u + 1 + j * q) ∧ Hid (w.grownBy wr (some p))
theorem own2_set {B O i : Nat} {w : World} {l : List NT} {v : Value} (h : Own2 B w l v) (hO : O < B) (x : Value) : Own2 B (w.setCell ⟨O, i, none⟩ x) l v := by
  obtain ⟨vs, hv, ho⟩ := h
  have hh : ∀ k, k ≠ O → (w.setCell ⟨O, i, none⟩ x).heap[k]? = w.heap[k]? := fun k hk => Below.heap_setCell w ⟨O, i, none⟩ x k hk
  exact ⟨vs, hv.keep fun b o hb hlt => World.cell?_of_block (hh b (by omega)), owns_keep ho fun k hk => hh k (by have := ho.lt k hk; omega)⟩
theorem gb_call {w wr w2 : World} {R O p : Nat} {l : List NT} {v sk : Value} {t : NT} {X Y : Array Value} (hR : R = w.heap.size) (hO : O = R + 1) (hp : p < w.heap.size) (ho : Own2 (w.heap.size + 2) wr l v) (hb : Box wr R NodeT X) (hbo : Box wr O NodeT Y) (hg1 : w.grownBy wr (some p)) (hg2 : wr.drew.grownBy w2 (some p)) (hkk : Kids (fun b => wr.drew.heap.size ≤ b) w2 t.kids sk) :
    Own2 (w.heap.size + 2) w2 l v ∧ Kids (fun b => w.heap.size + 2 ≤ b ∧ some b ≠ v.ownBlock) w2 t.kids sk ∧ w.grownBy w2 (some p) ∧ Box w2 R NodeT X ∧ Box w2 O NodeT Y ∧ w.heap.size + 2 ≤ w2.heap.size ∧ wr.grownBy w2 (some p) := by
  have hg3 : wr.grownBy w2 (some p) := grow_trans (grow_below (grow_refl wr p) ((Below.refl _ _).drew)) hg2
  have hko := ho.lt
  have hOl := hbo.lt
  have hz := hg3.size
  refine ⟨ho.grow hg3 (by omega), hkk.mono fun b hb2 => ?_, grow_trans hg1 hg3, box_grow hb hg3 (by omega), box_grow hbo hg3 (by omega), by omega, hg3⟩
  have hb3 : wr.heap.size ≤ b := hb2
  exact ⟨by omega, fun e => by have := (hko b e.symm).2; omega⟩
theorem gb_app {w w2 w4 : World} {R O p u0 u2 : Nat} {l : List NT} {v sl : Value} {X Y : Array Value} (hR : R = w.heap.size) (hO : O = R + 1) (hp : p < w.heap.size) (h0 : Sd w p sl u0) (ho : Own2 (w.heap.size + 2) w2 l v) (hb : Box w2 R NodeT X) (hbo : Box w2 O NodeT Y) (hs : Sd w2 p sl u2) (hg : w.grownBy w4 (some p)) (hk : ∀ k, k < w2.heap.size → some k ≠ v.ownBlock → w4.heap[k]? = w2.heap[k]?) :
    Box w4 R NodeT X ∧ Box w4 O NodeT Y ∧ Sd w4 p sl u2 := by
  have hko := ho.lt
  have key : ∀ k, k < w2.heap.size → k < w.heap.size + 2 → w4.heap[k]? = w2.heap[k]? := fun k h1 h2 => hk k h1 fun e => by have := (hko k e.symm).1; omega
  exact ⟨(key R hb.lt (by omega)).trans hb, (key O hbo.lt (by omega)).trans hbo, h0.keep hg ((key p hs.1.lt (by omega)).trans hs.1)⟩
theorem gb_set {w w4 : World} {R O p u0 u2 : Nat} {l : List NT} {v v0 sl : Value} {X : Array Value} (hR : R = w.heap.size) (hO : O = R + 1) (hp : p < w.heap.size) (h0 : Sd w p sl u0) (ho : Own2 (w.heap.size + 2) w4 l v) (hb : Box w4 R NodeT X) (hbo : Box w4 O NodeT #[.int .i64 30, .int .i64 0, .int .i64 0, .string ⟨#[]⟩, v0]) (hs : Sd w4 p sl u2) (hg : w.grownBy w4 (some p)) :
    Own2 (w.heap.size + 2) (w4.setCell ⟨O, 4, none⟩ v) l v ∧ Box (w4.setCell ⟨O, 4, none⟩ v) R NodeT X ∧ Box (w4.setCell ⟨O, 4, none⟩ v) O NodeT #[.int .i64 30, .int .i64 0, .int .i64 0, .string ⟨#[]⟩, v] ∧ Sd (w4.setCell ⟨O, 4, none⟩ v) p sl u2 ∧ w.grownBy (w4.setCell ⟨O, 4, none⟩ v) (some p) := by
  have hg2 := grow_set hg (Or.inr (by omega : w.heap.size ≤ O)) (i := 4) v
  have n1 : R ≠ O := by omega
  have n2 : p ≠ O := by omega
  exact ⟨own2_set ho (by omega) v, hb.far n1 v, hbo.set 4 v, h0.keep hg2 (hs.1.far n2 v), hg2⟩
set_option maxHeartbeats 2000000 in
theorem gblock_of (d q : Nat) (ih : ∀ (p u : Nat) (sl : Value) (w : World), Sd w p sl u → u + q ≤ 1099511627776 → Calls Tryd.prog 61 #[.pointer (some ⟨p, 0, none⟩), .int .i64 d] w (GrowPost NT.stmt q p u sl w)) :
    ∀ (p u : Nat) (sl : Value) (w : World), Sd w p sl u → u + (3 * q + 1) ≤ 1099511627776 →
    Calls Tryd.prog 39 #[.pointer (some ⟨p, 0, none⟩), .int .i64 d] w (GrowPost NT.blk (3 * q + 1) p u sl w) := by
  intro p u sl w hs hu
  have HS0 := Lib.hid hs
  have IH := Lib.hid ih
  obtain ⟨R, hR⟩ : ∃ R, R = w.heap.size := ⟨_, rfl⟩
  obtain ⟨O, hO⟩ : ∃ O, O = (w.alloc (.cells ZN NodeT)).heap.size := ⟨_, rfl⟩
  obtain ⟨W, hW⟩ : ∃ W, W = (w.alloc (.cells ZN NodeT)).alloc (.cells #[.int .i64 30, .int .i64 0, .int .i64 0, .string ⟨#[]⟩, .slice none 0 0] NodeT) := ⟨_, rfl⟩
  have hOR : O = R + 1 := by rw [hO, hR]; exact Array.size_push _
  have hbW1 : Below w.heap.size w (w.alloc (.cells ZN NodeT)) := (Below.refl _ _).alloc (Nat.le_refl _) _
  have hbW : Below w.heap.size w W := by rw [hW]; exact hbW1.alloc hbW1.size _
  have HBX : Hid (Box W R NodeT ZN) := Lib.hid (by rw [hW]; exact (Box.new _ _ _ _ hR).on ((Below.refl _ _).alloc (Nat.le_refl _) _))
  have HBO : Hid (Box W O NodeT #[.int .i64 30, .int .i64 0, .int .i64 0, .string ⟨#[]⟩, .slice none 0 0]) := Lib.hid (by rw [hW]; exact Box.new _ _ _ _ hO)
  have HN := Lib.hid (next_any 4 p u sl W (by decide) (hs.below hbW) (by omega))
  have HGW : Hid (w.grownBy W (some p)) := Lib.hid (grow_below (grow_refl w p) hbW)
  have HpW : Hid (p < w.heap.size) := Lib.hid hs.1.lt
  have HU := Lib.hid hu
  have HW := Lib.hid hW
  have HRR := Lib.hid hR
  have HOO := Lib.hid hO
  have HOR := Lib.hid hOR
  clear hW hR hO hOR hbW hbW1 hs hu ih
  go_enter Tryd.func39, Tryd.ntmps39
  go_wp2_with (first | (rw [← HW.out]; rw [← HRR.out, ← HOR.out]))
  refine HN.out.mono ?_
  intro e w1 hp1
  unfold NextPost at hp1
  obtain ⟨x, rfl, hx, hs1, hg1⟩ := hp1
  obtain ⟨N, rfl⟩ : ∃ N : Nat, x = (N : Int) := ⟨x.toNat, by omega⟩
  have hN : N ≤ 3 := by omega
  have HS1 := Lib.hid hs1
  have HB1 : Hid (Box w1 R NodeT ZN) := Lib.hid (box_grow HBX.out hg1 (by have := HpW.out; have := HRR.out; omega))
  have HO1 : Hid (Box w1 O NodeT #[.int .i64 30, .int .i64 0, .int .i64 0, .string ⟨#[]⟩, .slice none 0 0]) := Lib.hid (box_grow HBO.out hg1 (by have := HpW.out; have := HRR.out; have := HOR.out; omega))
  have HG1 := Lib.hid (grow_trans HGW.out hg1)
  clear hs1 hg1 hx
  go_wp2_with (fail)
  go_loopw [7] (fun i wr => GbRel N q p u R O sl w i wr) (fun i _ => N - (intOf i).toNat)
  case atStart => unfold GbRel; exact ⟨0, [], _, u + 1, Nat.zero_le _, rfl, rfl, Lib.hid (by simp), Lib.hid (by simp [sizeL]), Lib.hid (Own2.nil_ _ _), HB1, HO1, HS1, Lib.hid (by omega), HG1⟩
  case round =>
    obtain ⟨j, l, v, u1, hj, rfl, hl, hf, hsz, ho, hb, hbo, hs1, hu1, hg1⟩ := hrel
    obtain ⟨A1, c1, rfl⟩ := ho.out.form
    by_cases hlt : j < N
    · have hlt' : (j : Int) < (N : Int) := by omega
      have hjq : j * q ≤ 2 * q := Nat.mul_le_mul_right q (by omega)
      have HI : Hid (∀ w', Below wr.heap.size wr w' → Calls Tryd.prog 61 #[.pointer (some ⟨p, 0, none⟩), .int .i64 d] w' (GrowPost NT.stmt q p u1 sl w')) := Lib.hid (fun w' hb' => IH.out p u1 sl w' (hs1.out.below hb') (by have := HU.out; have := hu1.out; omega))
      clear hjq
      subst hl
      obtain ⟨n, hn⟩ : ∃ n, n = l.length := ⟨_, rfl⟩
      rw [← hn] at ho hbo hlt hlt' hsz hu1 ⊢
      have HNN := Lib.hid hn
      clear hn
      have hbx := hbo.out
      have x4 := hbx.cell 4
      simp only [List.getElem?_toArray, List.getElem?_cons_zero, List.getElem?_cons_succ] at x4
      have xf := hbx.frozen 4
      clear hbx
      go_wp2_with (fail)
      have hn3 : n ≤ 1099511627776 := by omega
      go_region_law (first
        | (refine step_node (p := p) (w0 := w) (wr := w2) (by rfl) _ _ (by rfl) (w.heap.size + 2) n l t (.slice A1 n c1) sk w2.heap.size (by rfl) (by rfl) HCA.out.1 HDT.out HCA.out.2.1 HCA.out.2.2.1 (Nat.le_add_right _ _) HCA.out.2.2.2.2.2.1 HNN.out hn3 (by rfl) ?_; intro A4 c4 w4 ho4 hg4 hk4; have HO4 := Lib.hid ho4; have HG4 := Lib.hid hg4; have HAP := Lib.hid (gb_app HRR.out HOR.out HpW.out HS0.out HCA.out.1 HCA.out.2.2.2.1 HCA.out.2.2.2.2.1 HS2.out hg4 hk4); have hbz := HAP.out.2.1; have z4 := hbz.cell 4; simp only [List.getElem?_toArray, List.getElem?_cons_zero, List.getElem?_cons_succ] at z4; have zf := hbz.frozen 4; clear hbz ho4 hg4 hk4)
        | (go_simp; go_at_call 61; (with_reducible refine (HI.out _ ((Below.refl _ _).drew)).mono ?_); intro e w2 hp2; unfold GrowPost at hp2; obtain ⟨t, sk, u2, rfl, hft, hdt, hst, hkk, hs2, hu2, hg2⟩ := hp2; have HCA := Lib.hid (gb_call HRR.out HOR.out HpW.out ho.out hb.out hbo.out hg1.out hg2 hkk); have HS2 := Lib.hid hs2; have HDT := Lib.hid hdt; have HFT := Lib.hid hft; have HZT := Lib.hid hst; have HU2 := Lib.hid hu2; have hby := HCA.out.2.2.2.2.1; have y4 := hby.cell 4; simp only [List.getElem?_toArray, List.getElem?_cons_zero, List.getElem?_cons_succ] at y4; have yf := hby.frozen 4; have hbq := hby.on ((Below.refl _ _).alloc (Nat.le_refl _) (.cells #[.int .i64 t.kind, .int .i64 t.at_, .int .i64 t.num, .string ⟨t.name.toArray⟩, sk] NodeT)); have q4 := hbq.cell 4; simp only [List.getElem?_toArray, List.getElem?_cons_zero, List.getElem?_cons_succ] at q4; clear hbq hby hft hdt hst hkk hs2 hu2 hg2))
      all_goals
        go_wp2_with (fail)
        go_roundw
        case rel =>
          have hset := gb_set HRR.out HOR.out HpW.out HS0.out HO4.out HAP.out.1 HAP.out.2.1 HAP.out.2.2 HG4.out
          unfold GbRel
          refine ⟨n + 1, l ++ [t], _, u2, by omega, by go_num, by rw [List.length_append, ← HNN.out]; rfl, Lib.hid ?_, Lib.hid ?_, Lib.hid hset.1, Lib.hid hset.2.1, Lib.hid hset.2.2.1, Lib.hid hset.2.2.2.1, Lib.hid ?_, Lib.hid hset.2.2.2.2⟩
          · intro z hz
            rcases List.mem_append.1 hz with hz | hz
            · exact hf.out z hz
            · have : z = t := by simpa using hz
              rw [this]; exact HFT.out
          · rw [sizeL_append, Nat.add_mul, Nat.one_mul]; have := hsz.out; have := HZT.out; simp [sizeL]; omega
          · rw [Nat.add_mul, Nat.one_mul]; have := hu1.out; have := HU2.out; omega
        case measure => simp [intOf]; omega
    · have hjq : j * q ≤ 3 * q := Nat.mul_le_mul_right q (by omega)
      have HE := Lib.hid (grow_end (f := NT.blk) (K := 3 * q + 1) (u := u) (t := .mk 30 0 0 [] l) HS0.out HRR.out hb.out (blk_of hf.out) (hd_of _ _ _ _ _ (by unfold I64; omega) (by unfold I64; omega) (by unfold I64; omega) (by simp)) (by rw [size_mk]; have := hsz.out; omega) (ho.out.kids.mono fun b hb2 => by have hb3 : w.heap.size + 2 ≤ b := hb2; omega) hs1.out (by have := hu1.out; omega) hg1.out)
      obtain ⟨n, hn⟩ : ∃ n, n = l.length := ⟨_, rfl⟩
      rw [← hn] at HE hbo
      have hbx := hbo.out
      have x0 := hbx.cell 0
      have x1 := hbx.cell 1
      have x2 := hbx.cell 2
      have x3 := hbx.cell 3
      have x4 := hbx.cell 4
      have hby := hb.out
      have y0 := hby.cell 0
      have y1 := hby.cell 1
      have y2 := hby.cell 2
      have y3 := hby.cell 3
      have y4 := hby.cell 4
      simp only [List.getElem?_toArray, List.getElem?_cons_zero, List.getElem?_cons_succ] at x0 x1 x2 x3 x4 y0 y1 y2 y3 y4
      have f0 := hby.frozen 0
      have f1 := hby.frozen 1
      have f2 := hby.frozen 2
      have f3 := hby.frozen 3
      have f4 := hby.frozen 4
      clear hn ho hf hsz hs1 hu1 hg1 hjq hl hbx hby hbo hb
      have hlt' : ¬ (j : Int) < (N : Int) := by omega
      go_wp2_with (fail)
      exact bodyPost_ret (node_ret rfl rfl HE.out.1) rfl HE.out.2
end Go.Proofs.YtkmkeaeaalnbjaaDoor.nt

/- Rows of nodes that grow, apart from blocks that are stored into. -/
namespace Go.Proofs.YtkmkeaeaalnbjaaDoor.nt
open Go.RowKit mem wd lx
open vt (I64 own_base own_form own_below wpList_append_mine)

/-- a row of the call's own, which lies apart from the blocks of A, its kids too -/
def OwnA (B : Nat) (A : Nat → Prop) (w : World) (l : List NT) (v : Value) : Prop := ∃ vs, Nods (fun b => B ≤ b ∧ some b ≠ v.ownBlock ∧ ¬ A b) w l vs ∧ w.ownsRow B NodeT 5 v l.length vs ∧ ∀ k, v.ownBlock = some k → ¬ A k
theorem OwnA.of {B : Nat} {A : Nat → Prop} {w : World} {l : List NT} {v : Value} (h : Own2 B w l v) (hA : ∀ b, A b → w.heap.size ≤ b) : OwnA B A w l v := by
  obtain ⟨vs, hv, ho⟩ := h
  have h1 : Nods (fun b => B ≤ b ∧ some b ≠ v.ownBlock ∧ ¬ A b) w l vs := hv.carry (by
    intro b o u hb hc
    have h2 : b < w.heap.size := World.block_lt_of_cell? _ _ hc
    exact ⟨⟨hb.1, hb.2, fun h => by have := hA b h; omega⟩, hc⟩)
  exact ⟨vs, h1, ho, fun k hk h => by have := hA k h; have := (ho.lt k hk).2; omega⟩
theorem OwnA.form {B : Nat} {A : Nat → Prop} {w : World} {l : List NT} {v : Value} (h : OwnA B A w l v) : ∃ A c, v = .slice A l.length c := own_form h.choose_spec.2.1
theorem OwnA.below {B : Nat} {A : Nat → Prop} {w w' : World} {l : List NT} {v : Value} (h : OwnA B A w l v) (hb : Below w.heap.size w w') : OwnA B A w' l v := by
  obtain ⟨vs, hv, ho, hk⟩ := h
  exact ⟨vs, hv.below hb, own_below ho hb, hk⟩
theorem OwnA.grow {B p : Nat} {A : Nat → Prop} {w w' : World} {l : List NT} {v : Value} (h : OwnA B A w l v) (hg : w.grownBy w' (some p)) (hp : p < B) : OwnA B A w' l v := by
  obtain ⟨vs, hv, ho, hk⟩ := h
  refine ⟨vs, hv.keep fun b o hb hlt => ?_, owns_keep ho fun k hk => ?_, hk⟩
  · exact World.cell?_of_block (hg.block b hlt (by simpa using (by omega : b ≠ p)))
  · have := ho.lt k hk
    exact hg.block k this.2 (by simpa using (by omega : k ≠ p))
theorem OwnA.set {B Z i : Nat} {A : Nat → Prop} {w : World} {l : List NT} {v : Value} (h : OwnA B A w l v) (hZ : A Z) (x : Value) : OwnA B A (w.setCell ⟨Z, i, none⟩ x) l v := by
  obtain ⟨vs, hv, ho, hk⟩ := h
  have hh : ∀ k, k ≠ Z → (w.setCell ⟨Z, i, none⟩ x).heap[k]? = w.heap[k]? := fun k hk => Below.heap_setCell w ⟨Z, i, none⟩ x k hk
  exact ⟨vs, hv.keep fun b o hb hlt => World.cell?_of_block (hh b fun e => hb.2.2 (e ▸ hZ)), owns_keep ho fun k hk2 => hh k fun e => hk k hk2 (e ▸ hZ), hk⟩
theorem OwnA.kids {B : Nat} {A : Nat → Prop} {w : World} {l : List NT} {v : Value} (h : OwnA B A w l v) : Kids (fun b => B ≤ b) w l v := by
  obtain ⟨vs, hv, ho, _⟩ := h
  exact rows_kids vs (hv.mono fun b hb => hb.1) ho
theorem OwnA.lt {B : Nat} {A : Nat → Prop} {w : World} {l : List NT} {v : Value} (h : OwnA B A w l v) : ∀ k, v.ownBlock = some k → B ≤ k ∧ k < w.heap.size := fun k hk => h.choose_spec.2.1.lt k hk
theorem wpList_nodeA {p : Nat} {A : Nat → Prop} {w0 wr : World} {ops : Array Oper} {rest : List Oper} {o : Oper} {a : Act} {Q : Exit → Act → World → Prop} (hgd : o.guard = none) (s x : Operand)
    (ho : o.op = .call { callee := .builtin .append, args := #[s, x], argTypes := #[22, 22] }) (B n : Nat) (l : List NT) (t : NT) (v sk : Value) (H : Nat)
    (hs : a.eval s = v) (hx : a.eval x = .slice (some ⟨H, 0, none⟩) 1 1) (hl : OwnA B A wr l v) (hd : Hd t) (hk : Kids (fun b => B ≤ b ∧ some b ≠ v.ownBlock ∧ ¬ A b) wr t.kids sk) (hA : ∀ b, A b → b < wr.heap.size) (hg : w0.grownBy wr (some p)) (hB : w0.heap.size ≤ B) (hBr : B ≤ wr.heap.size) (hn : n = l.length) (hlen : n ≤ 1099511627776) (hH : H = wr.heap.size)
    (h : ∀ A' c' w', OwnA B A w' (l ++ [t]) (.slice A' (n + 1) c') → w0.grownBy w' (some p) → (∀ k, k < wr.heap.size → some k ≠ v.ownBlock → w'.heap[k]? = wr.heap[k]?) → wpList Tryd.prog ops Q rest (a.put o.dst (.slice A' (n + 1) c')) w') :
    wpList Tryd.prog ops Q (o :: rest) a (wr.alloc (.cells #[.int .i64 t.kind, .int .i64 t.at_, .int .i64 t.num, .string ⟨t.name.toArray⟩, sk] NodeT)) := by
  obtain ⟨i0, hi, hz0, hz1, hz2⟩ := info_parts infoN
  obtain ⟨vs, hv, hown, hav⟩ := hl
  subst hH
  obtain ⟨Ak, ck, hsk, _⟩ := hk.form
  have hbx : Box (wr.alloc (.cells #[.int .i64 t.kind, .int .i64 t.at_, .int .i64 t.num, .string ⟨t.name.toArray⟩, sk] NodeT)) wr.heap.size NodeT _ := Box.new _ _ _ _ rfl
  have hba : Below wr.heap.size wr (wr.alloc (.cells #[.int .i64 t.kind, .int .i64 t.at_, .int .i64 t.num, .string ⟨t.name.toArray⟩, sk] NodeT)) := (Below.refl _ _).alloc (Nat.le_refl _) _
  refine wpList_append_mine hgd s x 22 ho B NodeT i0 (.agg #[.int .i64 0, .int .i64 0, .int .i64 0, .string ⟨#[]⟩, .slice none 0 0]) 5 64 Tryd.underlying22 hi hz0 hz1 hz2 rfl (by decide) v l.length vs hs (hown.alloc _) ⟨wr.heap.size, 0, none⟩ 1 1 [.int .i64 t.kind, .int .i64 t.at_, .int .i64 t.num, .string ⟨t.name.toArray⟩, sk] hx rfl (fun j u hu => ?_) ?_ (by unfold maxLen; omega) (by omega) (by simp; omega) ?_
  · rw [vt.cells_add, Nat.zero_add, hbx.cell j]; simpa using hu
  · intro u hu
    simp only [List.mem_cons, List.mem_nil_iff, or_false] at hu
    rcases hu with rfl | rfl | rfl | rfl | rfl
    · rfl
    · rfl
    · rfl
    · rfl
    · rw [hsk]; rfl
  · intro v' w' h1 h2 h3
    obtain ⟨A2, c2, rfl⟩ := own_form h1
    subst hn
    have hkeep : ∀ k, k < wr.heap.size → some k ≠ v.ownBlock → w'.heap[k]? = wr.heap[k]? := fun k hk1 hk2 => (h2.block k (by simp; omega) hk2).trans (hba.block k hk1)
    refine h A2 c2 w' ⟨vs ++ [.int .i64 t.kind, .int .i64 t.at_, .int .i64 t.num, .string ⟨t.name.toArray⟩, sk], ?_, by rw [List.length_append]; exact h1, fun k hk2 ha => ?_⟩ ?_ hkeep
    · have hv2 : Nods (fun b => B ≤ b ∧ some b ≠ v.ownBlock ∧ ¬ A b) wr (l ++ [t]) (vs ++ [.int .i64 t.kind, .int .i64 t.at_, .int .i64 t.num, .string ⟨t.name.toArray⟩, sk]) := hv.append (by rw [Nods]; exact ⟨sk, [], rfl, hd, hk, by rw [Nods]⟩)
      refine hv2.carry fun b o' u hb hc => ?_
      have hlt : b < wr.heap.size := World.block_lt_of_cell? _ _ hc
      refine ⟨⟨hb.1, fun e => ?_, hb.2.2⟩, (World.cell?_of_block (hkeep b hlt hb.2.1)).trans hc⟩
      rcases h3 b e.symm with e2 | e2
      · exact hb.2.1 e2.symm
      · simp at e2; omega
    · rcases h3 k hk2 with e2 | e2
      · exact hav k e2 ha
      · have := hA k ha
        simp at e2; omega
    · refine ⟨h2.os.trans (hba.os.trans hg.os), h2.tape.trans (hba.tape.trans hg.tape), h2.output.trans (hba.output.trans hg.output), Nat.le_trans hg.size (Nat.le_trans hba.size h2.size), fun k hk1 hk2 => ?_⟩
      refine (hkeep k (Nat.lt_of_lt_of_le hk1 hg.size) fun e => ?_).trans (hg.block k hk1 hk2)
      have := (hown.lt k e.symm).1
      omega
/-- what the append leaves of the blocks beside the row -/
theorem apart_app {w w5 w9 : World} {p u0 u2 R H6 H2 : Nat} {sl : Value} {X Y : Array Value} (hp : p < w.heap.size) (hR : R = w.heap.size) (hRH : R < H2) (hH : H6 = H2 + 1) (h0 : Sd w p sl u0) (hb : Box w5 R NodeT X) (hb6 : Box w5 H6 NodeT Y) (hs : Sd w5 p sl u2) (hg : w.grownBy w9 (some p)) (hk : ∀ k, k < w5.heap.size → some k ≠ (Value.slice (some ⟨H2, 0, none⟩) 2 2).ownBlock → w9.heap[k]? = w5.heap[k]?) :
    Box w9 R NodeT X ∧ Box w9 H6 NodeT Y ∧ Sd w9 p sl u2 := by
  have key : ∀ k, k < w5.heap.size → k ≠ H2 → w9.heap[k]? = w5.heap[k]? := fun k h1 h2 => hk k h1 fun e => by injection e with e; exact h2 e
  exact ⟨(key R hb.lt (by omega)).trans hb, (key H6 hb6.lt (by omega)).trans hb6, h0.keep hg ((key p hs.1.lt (by omega)).trans hs.1)⟩
/-- the store into the node that is told -/
theorem apart_set {w w9 : World} {p u0 u2 R H6 : Nat} {A : Nat → Prop} {l : List NT} {v sl : Value} {X : Array Value} (hp : p < w.heap.size) (hR : R = w.heap.size) (hRH : R < H6) (h0 : Sd w p sl u0) (ho : OwnA (w.heap.size + 1) A w9 l v) (hA : A H6) (hb : Box w9 R NodeT X) (hs : Sd w9 p sl u2) (hg : w.grownBy w9 (some p)) :
    Kids (fun b => w.heap.size < b) (w9.setCell ⟨H6, 4, none⟩ v) l v ∧ Box (w9.setCell ⟨H6, 4, none⟩ v) R NodeT X ∧ Sd (w9.setCell ⟨H6, 4, none⟩ v) p sl u2 ∧ w.grownBy (w9.setCell ⟨H6, 4, none⟩ v) (some p) := by
  have hg2 := grow_set hg (Or.inr (by omega : w.heap.size ≤ H6)) (i := 4) v
  have n1 : R ≠ H6 := by omega
  have n2 : p ≠ H6 := by omega
  exact ⟨(ho.set hA v).kids.mono fun b hb => hb, hb.far n1 v, h0.keep hg2 (hs.1.far n2 v), hg2⟩
end Go.Proofs.YtkmkeaeaalnbjaaDoor.nt

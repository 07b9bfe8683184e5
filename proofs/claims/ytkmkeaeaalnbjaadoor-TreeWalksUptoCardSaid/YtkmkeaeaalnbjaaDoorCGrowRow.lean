/- Rows of nodes that grow: each with its own new memory. -/
import Derived.Test.YtkmkeaeaalnbjaaDoorCGrowType
namespace Go.Proofs.YtkmkeaeaalnbjaaDoor.nt
open Go.RowKit mem wd lx
open vt (I64 own_base own_form own_below wpList_append_mine)

/-- a row of the call's own, from block B on; what its nodes' kids lie in is new too, and not the row itself -/
def Own2 (B : Nat) (w : World) (l : List NT) (v : Value) : Prop := ∃ vs, Nods (fun b => B ≤ b ∧ some b ≠ v.ownBlock) w l vs ∧ w.ownsRow B NodeT 5 v l.length vs
theorem Own2.nil_ (B : Nat) (w : World) : Own2 B w [] (.slice none 0 0) := ⟨[], by rw [Nods], World.ownsRow_nil _ _ _ _⟩
theorem Own2.form {B : Nat} {w : World} {l : List NT} {v : Value} (h : Own2 B w l v) : ∃ A c, v = .slice A l.length c := own_form h.choose_spec.2
theorem owns_keep {w w' : World} {base size n : Nat} {e : TypeId} {v : Value} {xs : List Value} (h : w.ownsRow base e size v n xs) (hk : ∀ k, v.ownBlock = some k → w'.heap[k]? = w.heap[k]?) : w'.ownsRow base e size v n xs := by
  refine ⟨h.1, ?_⟩
  rcases h.2 with h' | ⟨g, cap, cur, hv, hg, hh, r⟩
  · exact .inl h'
  · exact .inr ⟨g, cap, cur, hv, hg, by rw [hk g (by rw [hv]; rfl)]; exact hh, r⟩
theorem Own2.grow {B p : Nat} {w w' : World} {l : List NT} {v : Value} (h : Own2 B w l v) (hg : w.grownBy w' (some p)) (hp : p < B) : Own2 B w' l v := by
  obtain ⟨vs, hv, ho⟩ := h
  refine ⟨vs, hv.keep fun b o hb hlt => ?_, owns_keep ho fun k hk => ?_⟩
  · exact World.cell?_of_block (hg.block b hlt (by simpa using (by omega : b ≠ p)))
  · have := ho.lt k hk
    exact hg.block k this.2 (by simpa using (by omega : k ≠ p))
theorem Own2.below {B : Nat} {w w' : World} {l : List NT} {v : Value} (h : Own2 B w l v) (hb : Below w.heap.size w w') : Own2 B w' l v := by
  obtain ⟨vs, hv, ho⟩ := h
  exact ⟨vs, hv.below hb, own_below ho hb⟩
theorem Own2.kids {B : Nat} {w : World} {l : List NT} {v : Value} (h : Own2 B w l v) : Kids (fun b => B ≤ b) w l v := by
  obtain ⟨vs, hv, ho⟩ := h
  exact rows_kids vs (hv.mono fun b hb => hb.1) ho
theorem Own2.lt {B : Nat} {w : World} {l : List NT} {v : Value} (h : Own2 B w l v) : ∀ k, v.ownBlock = some k → B ≤ k ∧ k < w.heap.size := fun k hk => h.choose_spec.2.lt k hk
/-- the append of one node, met in a walk -/
theorem wpList_node {p : Nat} {w0 wr : World} {ops : Array Oper} {rest : List Oper} {o : Oper} {a : Act} {Q : Exit → Act → World → Prop} (hgd : o.guard = none) (s x : Operand)
    (ho : o.op = .call { callee := .builtin .append, args := #[s, x], argTypes := #[22, 22] }) (B n : Nat) (l : List NT) (t : NT) (v sk : Value) (H : Nat)
    (hs : a.eval s = v) (hx : a.eval x = .slice (some ⟨H, 0, none⟩) 1 1) (hl : Own2 B wr l v) (hd : Hd t) (hk : Kids (fun b => B ≤ b ∧ some b ≠ v.ownBlock) wr t.kids sk) (hg : w0.grownBy wr (some p)) (hB : w0.heap.size ≤ B) (hBr : B ≤ wr.heap.size) (hn : n = l.length) (hlen : n ≤ 1099511627776) (hH : H = wr.heap.size)
    (h : ∀ A' c' w', Own2 B w' (l ++ [t]) (.slice A' (n + 1) c') → w0.grownBy w' (some p) → (∀ k, k < wr.heap.size → some k ≠ v.ownBlock → w'.heap[k]? = wr.heap[k]?) → wpList Tryd.prog ops Q rest (a.put o.dst (.slice A' (n + 1) c')) w') :
    wpList Tryd.prog ops Q (o :: rest) a (wr.alloc (.cells #[.int .i64 t.kind, .int .i64 t.at_, .int .i64 t.num, .string ⟨t.name.toArray⟩, sk] NodeT)) := by
  obtain ⟨i0, hi, hz0, hz1, hz2⟩ := info_parts infoN
  obtain ⟨vs, hv, hown⟩ := hl
  subst hH
  obtain ⟨Ak, ck, hsk, _⟩ := hk.form
  have hbx : Box (wr.alloc (.cells #[.int .i64 t.kind, .int .i64 t.at_, .int .i64 t.num, .string ⟨t.name.toArray⟩, sk] NodeT)) wr.heap.size NodeT _ := Box.new _ _ _ _ rfl
  have hba : Below wr.heap.size wr (wr.alloc (.cells #[.int .i64 t.kind, .int .i64 t.at_, .int .i64 t.num, .string ⟨t.name.toArray⟩, sk] NodeT)) := (Below.refl _ _).alloc (Nat.le_refl _) _
  refine wpList_append_mine hgd s x 22 ho B NodeT i0 (.agg #[.int .i64 0, .int .i64 0, .int .i64 0, .string ⟨#[]⟩, .slice none 0 0]) 5 64 Tryd.underlying22 hi hz0 hz1 hz2 rfl (by decide) v l.length vs hs (hown.alloc _) ⟨wr.heap.size, 0, none⟩ 1 1 [.int .i64 t.kind, .int .i64 t.at_, .int .i64 t.num, .string ⟨t.name.toArray⟩, sk] hx rfl (fun j u hu => ?_) ?_ (by unfold maxLen; omega) (by omega) (by simp; omega) ?_
  · rw [vt.cells_add, Nat.zero_add, hbx.cell j]; simpa using hu
  · intro u hu
    simp only [List.mem_cons, List.mem_nil_iff, or_false] at hu
    rcases hu with rfl | rfl | rfl | rfl | rfl
    · rfl
    · rfl
    · rfl
    · rfl
    · rw [hsk]; rfl
  · intro v' w' h1 h2 h3
    obtain ⟨A2, c2, rfl⟩ := own_form h1
    subst hn
    have hkeep : ∀ k, k < wr.heap.size → some k ≠ v.ownBlock → w'.heap[k]? = wr.heap[k]? := fun k hk1 hk2 => (h2.block k (by simp; omega) hk2).trans (hba.block k hk1)
    refine h A2 c2 w' ⟨vs ++ [.int .i64 t.kind, .int .i64 t.at_, .int .i64 t.num, .string ⟨t.name.toArray⟩, sk], ?_, by rw [List.length_append]; exact h1⟩ ?_ hkeep
    · have hv2 : Nods (fun b => B ≤ b ∧ some b ≠ v.ownBlock) wr (l ++ [t]) (vs ++ [.int .i64 t.kind, .int .i64 t.at_, .int .i64 t.num, .string ⟨t.name.toArray⟩, sk]) := hv.append (by rw [Nods]; exact ⟨sk, [], rfl, hd, hk, by rw [Nods]⟩)
      refine hv2.carry fun b o' u hb hc => ?_
      have hlt : b < wr.heap.size := World.block_lt_of_cell? _ _ hc
      refine ⟨⟨hb.1, fun e => ?_⟩, (World.cell?_of_block (hkeep b hlt hb.2)).trans hc⟩
      rcases h3 b e.symm with e2 | e2
      · exact hb.2 e2.symm
      · simp at e2; omega
    · refine ⟨h2.os.trans (hba.os.trans hg.os), h2.tape.trans (hba.tape.trans hg.tape), h2.output.trans (hba.output.trans hg.output), Nat.le_trans hg.size (Nat.le_trans hba.size h2.size), fun k hk1 hk2 => ?_⟩
      refine (hkeep k (Nat.lt_of_lt_of_le hk1 hg.size) fun e => ?_).trans (hg.block k hk1 hk2)
      have := (hown.lt k e.symm).1
      omega
/-! ### lists of expressions -/
def gE : Nat → Nat
  | 0 => 2
  | d + 1 => 12 + 2 * gE d
def GrowsPost (f : NT → Bool) (K M p u : Nat) (sl : Value) (w : World) (e : Ending) (w' : World) : Prop :=
  ∃ (l : List NT) (v : Value) (u' : Nat), e = .returned v ∧ (∀ t ∈ l, f t = true) ∧ sizeL l ≤ K ∧ l.length ≤ M ∧ Own2 w.heap.size w' l v ∧ (l = [] → v = .slice none 0 0) ∧ Sd w' p sl u' ∧ u' ≤ u + K + 1 ∧ w.grownBy w' (some p)
def GeRel (f : NT → Bool) (N q p u : Nat) (sl : Value) (w : World) (o i : Value) (wr : World) : Prop :=
  ∃ (j : Nat) (l : List NT) (u' : Nat), j ≤ N ∧ i = .int .i64 j ∧ l.length = j ∧ Hid (∀ t ∈ l, f t = true) ∧ Hid (sizeL l ≤ j * q) ∧ Hid (Own2 w.heap.size wr l o) ∧ Hid (l = [] → o = .slice none 0 0) ∧ Hid (Sd wr p sl u') ∧ Hid (u' ≤ u + 1 + j * q) ∧ Hid (w.grownBy wr (some p))
set_option maxHeartbeats 1000000 in
theorem gexprs_any (d : Nat) (ih : ∀ (p u : Nat) (sl : Value) (w : World), Sd w p sl u → u + gE d ≤ 1099511627776 → Calls Tryd.prog 65 #[.pointer (some ⟨p, 0, none⟩), .int .i64 d] w (GrowPost NT.expr (gE d) p u sl w)) :
    ∀ (p u : Nat) (sl : Value) (w : World), Sd w p sl u → u + (2 * gE d + 1) ≤ 1099511627776 →
    Calls Tryd.prog 67 #[.pointer (some ⟨p, 0, none⟩), .int .i64 d] w (GrowsPost NT.expr (2 * gE d) 2 p u sl w) := by
  intro p u sl w hs hu
  obtain ⟨q, hq⟩ : ∃ q, q = gE d := ⟨_, rfl⟩
  rw [← hq] at hu ih ⊢
  have IH := Lib.hid ih
  have HS0 := Lib.hid hs
  have HN := Lib.hid (next_any 3 p u sl w (by decide) hs (by omega))
  have HU := Lib.hid hu
  have HpB : Hid (p < w.heap.size) := Lib.hid hs.1.lt
  clear hq ih hs hu
  go_enter Tryd.func67, Tryd.ntmps67
  go_wp2_with (fail)
  refine HN.out.mono ?_
  intro e w1 hp1
  unfold NextPost at hp1
  obtain ⟨x, rfl, hx, hs1, hg1⟩ := hp1
  obtain ⟨N, rfl⟩ : ∃ N : Nat, x = (N : Int) := ⟨x.toNat, by omega⟩
  have hN : N ≤ 2 := by omega
  have HS1 := Lib.hid hs1
  have HG1 := Lib.hid hg1
  clear hs1 hg1 hx
  go_wp2_with (fail)
  go_loopw [5, 7] (fun o i wr => GeRel NT.expr N q p u sl w o i wr) (fun _ i _ => N - (intOf i).toNat)
  case atStart => unfold GeRel; exact ⟨0, [], u + 1, Nat.zero_le _, rfl, rfl, Lib.hid (by simp), Lib.hid (by simp [sizeL]), Lib.hid (Own2.nil_ _ _), Lib.hid (fun _ => rfl), HS1, Lib.hid (by omega), HG1⟩
  case round =>
    obtain ⟨j, l, u1, hj, rfl, hl, hf, hsz, ho, hnil, hs1, hu1, hg1⟩ := hrel
    obtain ⟨A1, c1, rfl⟩ := ho.out.form
    by_cases hlt : j < N
    · have hlt' : (j : Int) < (N : Int) := by omega
      have hjq : j * q ≤ q := by
        have : j ≤ 1 := by omega
        calc j * q ≤ 1 * q := Nat.mul_le_mul_right q this
          _ = q := Nat.one_mul q
      have HI := Lib.hid (IH.out p u1 sl wr hs1.out (by have := HU.out; have := hu1.out; omega))
      clear hjq
      subst hl
      obtain ⟨n, hn⟩ : ∃ n, n = l.length := ⟨_, rfl⟩
      rw [← hn] at ho hlt hlt' hsz hu1 hnil ⊢
      have HNN := Lib.hid hn
      clear hn
      go_wp2_with (fail)
      refine HI.out.mono ?_
      intro e w2 hp2
      unfold GrowPost at hp2
      obtain ⟨t, sk, u2, rfl, hft, hdt, hst, hkk, hs2, hu2, hg2⟩ := hp2
      have hBr := hg1.out.size
      have hko := ho.out.lt
      have hk2 : Kids (fun b => w.heap.size ≤ b ∧ some b ≠ (Value.slice A1 n c1).ownBlock) w2 t.kids sk := hkk.mono fun b hb => ⟨by omega, fun e => by have := (hko b e.symm).2; omega⟩
      have HO2 := Lib.hid (ho.out.grow hg2 HpB.out)
      have HK2 := Lib.hid hk2
      have HG2 := Lib.hid (grow_trans hg1.out hg2)
      have HS2 := Lib.hid hs2
      have HDT := Lib.hid hdt
      have HF2 : Hid (∀ z ∈ l ++ [t], NT.expr z = true) := Lib.hid (by
        intro z hz
        rcases List.mem_append.1 hz with hz | hz
        · exact hf.out z hz
        · have : z = t := by simpa using hz
          rw [this]; exact hft)
      have HZ2 : Hid (sizeL (l ++ [t]) ≤ (n + 1) * q) := Lib.hid (by rw [sizeL_append, Nat.add_mul, Nat.one_mul]; have := hsz.out; simp [sizeL]; omega)
      have HU2 : Hid (u2 ≤ u + 1 + (n + 1) * q) := Lib.hid (by rw [Nat.add_mul, Nat.one_mul]; have := hu1.out; omega)
      have hB2 : w.heap.size ≤ w2.heap.size := HG2.out.size
      have hn3 : n ≤ 1099511627776 := by omega
      clear hft hdt hst hkk hs2 hu2 hg2 hk2 hko hBr
      have hpw2 : p < w2.heap.size := by have := HpB.out; omega
      have hpo : some p ≠ (Value.slice A1 n c1).ownBlock := fun e => by have := (ho.out.lt p e.symm).1; have := HpB.out; omega
      go_wp2_with (at_builtin; (refine wpList_node (p := p) (w0 := w) (wr := w2) rfl (.tmp 15) (.tmp 19) rfl w.heap.size n l t (.slice A1 n c1) sk w2.heap.size rfl rfl HO2.out HDT.out HK2.out HG2.out (Nat.le_refl _) hB2 HNN.out hn3 rfl ?_); intro A4 c4 w4 ho4 hg4 hk4; have HO4 := Lib.hid ho4; have HG4 := Lib.hid hg4; have HS4 := Lib.hid (HS0.out.keep hg4 ((hk4 p hpw2 hpo).trans HS2.out.1)); clear ho4 hg4 hk4)
      go_roundw
      case rel =>
        unfold GeRel
        exact ⟨n + 1, l ++ [t], u2, by omega, by go_num, by rw [List.length_append, ← HNN.out]; rfl, HF2, HZ2, HO4, Lib.hid (fun h => absurd h (by simp)), HS4, HU2, HG4⟩
      case measure => simp [intOf]; omega
    · have hjq : j * q ≤ 2 * q := Nat.mul_le_mul_right q (by omega)
      have HF : Hid (GrowsPost NT.expr (2 * q) 2 p u sl w (.returned (.slice A1 l.length c1)) wr) := Lib.hid ⟨l, _, u1, rfl, hf.out, by have := hsz.out; omega, by omega, ho.out, hnil.out, hs1.out, by have := hu1.out; omega, hg1.out⟩
      obtain ⟨n, hn⟩ : ∃ n, n = l.length := ⟨_, rfl⟩
      rw [← hn] at HF ⊢
      clear hn ho hnil hf hsz hs1 hu1 hg1 hjq hl
      have hlt' : ¬ (j : Int) < (N : Int) := by omega
      go_wp2_with (fail)
      go_ret
      exact HF.out
end Go.Proofs.YtkmkeaeaalnbjaaDoor.nt

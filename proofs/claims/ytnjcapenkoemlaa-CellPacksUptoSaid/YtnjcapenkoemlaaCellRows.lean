/- Two rows that a call makes beside each other: of values, of bytes; what right values' bytes come to. -/
import Derived.Test.YtnjcapenkoemlaaCellWritesLaw
import Derived.Test.YtnjcapenkoemlaaCellUnpack
namespace Go.Proofs.Ytnjcapenkoemlaa.vt.ce
open Go.RowKit mem vt

def rts (l : List VT) : List VT := l.filter fun t => t.right
theorem rts_take (l : List VT) (k : Nat) (h : k < l.length) : rts (l.take (k + 1)) = rts (l.take k) ++ (if l[k].right then [l[k]] else []) := by
  unfold rts
  rw [List.take_succ_eq_append_getElem h, List.filter_append, List.filter_cons, List.filter_nil]
theorem rts_len (l : List VT) : (rts l).length ≤ l.length := List.length_filter_le _ _
theorem packB_rts (l : List VT) : packB l = bytesL (rts l) := by
  induction l with
  | nil => rfl
  | cons v r ih =>
    show bytesT v ++ packB r = _
    unfold rts at ih ⊢
    rw [ih, List.filter_cons]
    cases hv : v.right with
    | true => rw [if_pos rfl, bytesL, bytesT_yes hv]
    | false => rw [if_neg (by simp), bytesT_no hv]; rfl
theorem size_mem {u : VT} : ∀ {l : List VT}, u ∈ l → u.size ≤ sizeL l
  | v :: l, h => by
    rw [sizeL]
    rcases List.mem_cons.1 h with rfl | h
    · omega
    · have := size_mem h; omega
theorem packB_le : ∀ (l : List VT), fitsL l → sizeL l ≤ 1048576 → (packB l).length ≤ 12 * sizeL l
  | [], _, _ => by simp [packB]
  | v :: r, hf, hs => by
    rw [fitsL] at hf
    rw [sizeL] at hs ⊢
    show (bytesT v ++ packB r).length ≤ _
    rw [List.length_append]
    have h1 := bytesT_le hf.1 (by omega : v.size ≤ 1048576)
    have h2 := packB_le r hf.2 (by omega)
    omega
theorem bytesL_len : ∀ l : List VT, l.length ≤ (bytesL l).length
  | [] => by simp
  | v :: r => by
    rw [bytesL, List.length_append, List.length_cons]
    have := bytes_pos v
    have := bytesL_len r
    omega
theorem readAll_pack {l : List VT} (hf : fitsL l) (hs : sizeL l ≤ 1048576) : readAll (packB l).length (packB l) = some (rts l) := by
  rw [packB_rts]
  refine readAll_bytes (rts l) (fun u hu => ?_) _ (bytesL_len _)
  unfold rts at hu
  obtain ⟨h1, h2⟩ := List.mem_filter.1 hu
  have := size_mem h1
  exact ⟨h2, fitsL_mem hf u h1, by omega⟩
theorem rts_all {l : List VT} (h : ∀ u ∈ l, u.right = true ∧ u.fits) : rts l = l := List.filter_eq_self.2 fun u hu => (h u hu).1
theorem packB_all {b : List UInt8} {l : List VT} (h : readAll b.length b = some l) : packB l = b := by
  obtain ⟨h1, h2⟩ := bytes_readAll _ _ _ h
  rw [packB_rts, rts_all h1, ← h2]
/-- the two rows that the law makes -/
structure PK (B : Nat) (w : World) (la : List VT) (lb : List UInt8) (a y : Value) (vs : List Value) (wr : World) : Prop where
  vals : Vals (· < B) wr la vs
  own : wr.ownsRow B 24 3 a la.length vs
  bts : wr.ownsRow B 5 1 y lb.length (byV lb)
  low : Below B w wr
theorem PK.below {B : Nat} {w wr w2 : World} {la : List VT} {lb : List UInt8} {a y : Value} {vs : List Value} (h : PK B w la lb a y vs wr) (hb : Below wr.heap.size wr w2) (hB : B ≤ wr.heap.size) : PK B w la lb a y vs w2 :=
  ⟨h.vals.below hb, own_below h.own hb, own_below h.bts hb, h.low.trans (hb.mono hB)⟩
theorem PK.want {B : Nat} {w wr w2 : World} {la : List VT} {lb : List UInt8} {a a' y s3 : Value} {vs : List Value} {o : Obj} (h : PK B w la lb a y vs wr) {t : VT} (hi : I64 t.kind ∧ I64 t.num) (hk : Kids (· < B) wr t.kids s3) (hB : B ≤ wr.heap.size)
    (h1 : w2.ownsRow B 24 3 a' (la.length + 1) (vs ++ [.int .i64 t.kind, .int .i64 t.num, s3])) (h2 : (wr.alloc o).grownBy w2 a.ownBlock) : PK B w (la ++ [t]) lb a' y (vs ++ [.int .i64 t.kind, .int .i64 t.num, s3]) w2 := by
  have hb2 : Below B wr w2 := ((Below.refl B wr).alloc hB o).grown h2 (by rw [World.size_alloc]; omega) (fun k hk => (h.own.lt k hk).1)
  refine ⟨Vals.append (h.vals.keep fun b o hlt _ => hb2.cell (p := ⟨b, o, none⟩) hlt) ?_, by rw [List.length_append]; exact h1, own_step h.bts fun k hk => ?_, h.low.trans hb2⟩
  · rw [Vals]
    exact ⟨s3, [], rfl, hi.1, hi.2, hk.keep fun b o hlt _ => hb2.cell (p := ⟨b, o, none⟩) hlt, by rw [Vals]⟩
  · have ht := Typ.own h.bts hk
    exact (h2.block k (by rw [World.size_alloc]; have := ht.lt; omega) (fun e => (Typ.own h.own e.symm).ne ht (by decide) rfl)).trans (Below.heap_alloc wr o k ht.lt)
theorem PK.put {B : Nat} {w wr w2 : World} {la : List VT} {lb lb' : List UInt8} {a y y' : Value} {vs : List Value} (h : PK B w la lb a y vs wr) (hp : Put B lb' y wr y' w2) (hB : B ≤ wr.heap.size) : PK B w la lb' a y' vs w2 := by
  have hb2 : Below B wr w2 := hp.below (fun k hk => (h.bts.lt k hk).1) hB
  refine ⟨h.vals.keep fun b o hlt _ => hb2.cell (p := ⟨b, o, none⟩) hlt, own_step h.own fun k hk => ?_, hp.1, h.low.trans hb2⟩
  have ht := Typ.own h.own hk
  exact hp.2.1.block k ht.lt (fun e => (Typ.own h.bts e.symm).ne ht (by decide) rfl)
/-- the append of one value, met in a walk -/
theorem wpList_val {wr : World} {ops : Array Oper} {rest : List Oper} {o : Oper} {a : Act} {Q : Exit → Act → World → Prop} (hgd : o.guard = none) (s x : Operand)
    (ho : o.op = .call { callee := .builtin .append, args := #[s, x], argTypes := #[22, 22] }) (B n : Nat) (xs : List Value) (v : Value) (k m : Int) (A : Option Addr) (len cap : Nat) (H : Nat) (hH : H = wr.heap.size)
    (hs : a.eval s = v) (hx : a.eval x = .slice (some ⟨H, 0, none⟩) 1 1) (hown : wr.ownsRow B 24 3 v n xs) (hl : n ≤ 1048576) (hB : B ≤ wr.heap.size)
    (h : ∀ A2 c2 w', w'.ownsRow B 24 3 (.slice A2 (n + 1) c2) (n + 1) (xs ++ [.int .i64 k, .int .i64 m, .slice A len cap]) → (wr.alloc (.cells #[.int .i64 k, .int .i64 m, .slice A len cap] 24)).grownBy w' v.ownBlock → wpList Try.prog ops Q rest (a.put o.dst (.slice A2 (n + 1) c2)) w') :
    wpList Try.prog ops Q (o :: rest) a (wr.alloc (.cells #[.int .i64 k, .int .i64 m, .slice A len cap] 24)) := by
  subst hH
  obtain ⟨i0, hi, hz0, hz1, hz2⟩ := info_parts infoV
  refine wpList_append_mine hgd s x 22 ho B 24 i0 (.agg #[.int .i64 0, .int .i64 0, .slice none 0 0]) 3 40 Try.underlying22 hi hz0 hz1 hz2 rfl (by decide) v n xs hs (hown.alloc _) ⟨wr.heap.size, 0, none⟩ 1 1 [.int .i64 k, .int .i64 m, .slice A len cap] hx rfl (World.news_of_block (heap_alloc_new wr _)) ?_ (by unfold maxLen; omega) (by omega) (by rw [World.size_alloc]; omega) ?_
  · intro u hu; simp at hu; rcases hu with rfl | rfl | rfl <;> rfl
  · intro v' w' h1 h2 _
    obtain ⟨A2, c2, rfl⟩ := own_form h1
    exact h A2 c2 w' h1 h2
end Go.Proofs.Ytnjcapenkoemlaa.vt.ce

/- Calls one after another: what they make of a list, and step at any of them. -/
import Derived.Test.YtjlbchkdiaomjaaDoorTrieStep
namespace Go.Proofs.YtjlbchkdiaomjaaDoor.trie
open Go.RowKit Go.Shelf mem tri mix

def opS (l : List (Int × Int)) (o : Bool × Int × Int) : List (Int × Int) := if o.1 then dropS l o.2.1 else putS l o.2.1 o.2.2
theorem opS_up (l : List (Int × Int)) (o : Bool × Int × Int) (h : Up l) : Up (opS l o) := by
  unfold opS
  split
  · exact dropS_up _ _ h
  · exact putS_up _ _ _ h
theorem opS_le (l : List (Int × Int)) (o : Bool × Int × Int) (h : Up l) : (opS l o).length ≤ l.length + 1 := by
  unfold opS
  split
  · exact Nat.le_trans (List.length_filter_le _ _) (Nat.le_succ _)
  · exact putS_le _ _ _ h
def runS (L : List (Bool × Int × Int)) : List (Int × Int) := L.foldl opS []
theorem runS_take (L : List (Bool × Int × Int)) (k : Nat) (h : k < L.length) : runS (L.take (k + 1)) = opS (runS (L.take k)) L[k] := by
  rw [List.take_succ_eq_append_getElem h]; unfold runS; rw [List.foldl_append]; rfl
def opsV (L : List (Bool × Int × Int)) : List Value := L.flatMap fun o => [.bool o.1, .int .i64 o.2.1, .int .i64 o.2.2]
theorem opsV_cons (o : Bool × Int × Int) (L : List (Bool × Int × Int)) : opsV (o :: L) = .bool o.1 :: .int .i64 o.2.1 :: .int .i64 o.2.2 :: opsV L := rfl
theorem opsV_length (L : List (Bool × Int × Int)) : (opsV L).length = L.length * 3 := by
  induction L with
  | nil => rfl
  | cons o L ih => rw [opsV_cons, List.length_cons, List.length_cons, List.length_cons, ih, List.length_cons]; omega
theorem opsV_at : ∀ (L : List (Bool × Int × Int)) (k : Nat) (h : k < L.length), (opsV L)[k * 3]? = some (.bool L[k].1) ∧ (opsV L)[k * 3 + 1]? = some (.int .i64 L[k].2.1) ∧ (opsV L)[k * 3 + 2]? = some (.int .i64 L[k].2.2)
  | o :: L, 0, _ => ⟨rfl, rfl, rfl⟩
  | o :: L, k + 1, h => by
    have ih := opsV_at L k (by simpa using h)
    rw [opsV_cons, show (k + 1) * 3 = k * 3 + 1 + 1 + 1 by omega]
    exact ih
theorem sees_op {B : Nat} {w : World} {v : Value} {L : List (Bool × Int × Int)} (h : Sees B 3 w v L.length (opsV L)) (k : Nat) (hk : k < L.length) :
    ∃ b off cap, v = .slice (some ⟨b, off, none⟩) L.length cap ∧ b < B ∧ w.cell? ⟨b, off + k * 3, none⟩ = some (.bool L[k].1) ∧ w.cell? ⟨b, off + k * 3 + 1, none⟩ = some (.int .i64 L[k].2.1) ∧ w.cell? ⟨b, off + k * 3 + 2, none⟩ = some (.int .i64 L[k].2.2) := by
  obtain ⟨_, A, cap, hv, hc⟩ := h
  obtain ⟨b, off, rfl, hb, hc⟩ := hc (by omega)
  obtain ⟨h1, h2, h3⟩ := opsV_at L k hk
  exact ⟨b, off, cap, hv, hb, hc _ _ h1, hc _ _ h2, hc _ _ h3⟩
theorem step_any (B n m : Nat) (t : Tr) (p : Option Addr) (hp : ptr t = .pointer p) (l l' : List (Int × Int)) (hn : n = l.length) (d : Bool) (k v : Int) (V : Value) (w : World) (hB : B ≤ w.heap.size) (hT : Laid B w) (hk : I64 k) (hm : MapOf t l) (hL : Lies w.heap.size w t) (hl : l.length ≤ 1048576) (hs : Sees w.heap.size 2 w V n (pairV l)) (he : opS l (d, k, v) = l') (hn' : m = l'.length) :
    Calls Tryd.prog 11 #[.agg #[.pointer p, .int .i64 n], V, .agg #[.bool d, .int .i64 k, .int .i64 v]] w (StepPost t l' m w) := by
  cases d with
  | false => exact step_put B n m t p hp l l' hn k v V w hB hT hk hm hL hl hs he hn'
  | true => exact step_drop B n m t p hp l l' hn k v V w hB hT hm hL hl hs he hn'
/-- of rising keys the first one is dropped -/
theorem drop_first (F : List (Int × Int)) (hu : Up F) (k : Nat) (hk : k < F.length) : dropS (F.drop k) F[k].1 = F.drop (k + 1) := by
  have h1 := List.drop_eq_getElem_cons hk
  have h2 : Up (F.drop k) := List.Pairwise.sublist (List.drop_sublist k F) hu
  rw [h1] at h2 ⊢
  have h3 := (List.pairwise_cons.1 h2).1
  unfold dropS
  rw [List.filter_cons_of_neg (by simp)]
  refine List.filter_eq_self.2 fun q hq => ?_
  have := h3 q hq
  rw [bne_iff_ne]
  omega
end Go.Proofs.YtjlbchkdiaomjaaDoor.trie

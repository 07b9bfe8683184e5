/- Slices that read as lists of cells, and rows that a call has made: small laws of whatever program. -/
import Derived.Test.YthohfepolidgkaaProg
import Derived.WalkKit
import Derived.Below
import Derived.OwnWalk
import Derived.WalkSmall
import Derived.Lib.Hide
namespace Go.Proofs.Ythohfepolidgkaa.mem
open Go.RowKit

/-- a slice of n elements that reads as these cells, which lie below block B -/
def Sees (B size : Nat) (w : World) (v : Value) (n : Nat) (xs : List Value) : Prop :=
  xs.length = n * size ∧ ∃ A cap, v = .slice A n cap ∧ (0 < n → ∃ b off, A = some ⟨b, off, none⟩ ∧ b < B ∧ ∀ j u, xs[j]? = some u → w.cell? ⟨b, off + j, none⟩ = some u)
theorem Sees.keep {B size n : Nat} {w w' : World} {v : Value} {xs : List Value} (h : Sees B size w v n xs) (hk : ∀ b o, b < B → w'.cell? ⟨b, o, none⟩ = w.cell? ⟨b, o, none⟩) : Sees B size w' v n xs := by
  obtain ⟨h1, A, cap, hv, hc⟩ := h
  refine ⟨h1, A, cap, hv, fun hn => ?_⟩
  obtain ⟨b, off, hA, hb, hc⟩ := hc hn
  exact ⟨b, off, hA, hb, fun j u hu => (hk b _ hb).trans (hc j u hu)⟩
theorem Sees.below {B size n : Nat} {w w' : World} {v : Value} {xs : List Value} (h : Sees B size w v n xs) (hb : Below B w w') : Sees B size w' v n xs :=
  h.keep fun b o hlt => hb.cell (p := ⟨b, o, none⟩) hlt
theorem Sees.more {B B' size n : Nat} {w : World} {v : Value} {xs : List Value} (h : Sees B size w v n xs) (hB : B ≤ B') : Sees B' size w v n xs := by
  obtain ⟨h1, A, cap, hv, hc⟩ := h
  refine ⟨h1, A, cap, hv, fun hn => ?_⟩
  obtain ⟨b, off, hA, hb, hc⟩ := hc hn
  exact ⟨b, off, hA, by omega, hc⟩
theorem Sees.none_ (B size : Nat) (w : World) : Sees B size w (.slice none 0 0) 0 [] := ⟨by simp, none, 0, rfl, fun h => absurd h (by omega)⟩
/-- a row of the call's own reads as a list -/
theorem Sees.of_own {base size n : Nat} {e : TypeId} {w : World} {v : Value} {xs : List Value} (h : w.ownsRow base e size v n xs) : Sees w.heap.size size w v n xs := by
  refine ⟨h.1, ?_⟩
  rcases h.2 with ⟨rfl, rfl⟩ | ⟨g, cap, cur, rfl, hb, hg, hnc, hcm, hcs, htake⟩
  · exact ⟨none, 0, rfl, fun hn => absurd hn (by omega)⟩
  · have hlt : g < w.heap.size := (Array.getElem?_eq_some_iff.1 hg).1
    refine ⟨_, cap, rfl, fun _ => ⟨g, 0, rfl, hlt, fun j u hu => ?_⟩⟩
    rw [Nat.zero_add, cell_of_row w g j cur e (0, 0) hg]
    rw [← htake, List.getElem?_take] at hu
    split at hu
    · simpa using hu
    · cases hu
theorem new_one (w : World) (x : Value) (t : TypeId) : ∀ j u, [x][j]? = some u → (w.alloc (.cells #[x] t)).cell? ((⟨w.heap.size, 0, none⟩ : Addr).add j) = some u := by
  intro j u hj
  match j, hj with
  | 0, hj => simp at hj; subst hj; simp [Addr.add]
  | j + 1, hj => simp at hj
theorem one_int (k : IntKind) (n : Int) : ∀ u ∈ [Value.int k n], u.oneCell' = true := by intro u hu; simp at hu; subst hu; rfl
theorem two_int (k : IntKind) (n m : Int) : ∀ u ∈ [Value.int k n, Value.int k m], u.oneCell' = true := by
  intro u hu; simp at hu; rcases hu with rfl | rfl <;> rfl

/-- the cells of pairs of numbers -/
def pairV (l : List (Int × Int)) : List Value := l.flatMap fun p => [.int .i64 p.1, .int .i64 p.2]
theorem pairV_cons (p : Int × Int) (l : List (Int × Int)) : pairV (p :: l) = .int .i64 p.1 :: .int .i64 p.2 :: pairV l := rfl
theorem pairV_append (a b : List (Int × Int)) : pairV (a ++ b) = pairV a ++ pairV b := by unfold pairV; rw [List.flatMap_append]
theorem pairV_length (l : List (Int × Int)) : (pairV l).length = l.length * 2 := by
  induction l with
  | nil => rfl
  | cons p l ih => rw [pairV_cons, List.length_cons, List.length_cons, ih, List.length_cons]; omega
theorem pairV_at : ∀ (l : List (Int × Int)) (k : Nat) (h : k < l.length), (pairV l)[k * 2]? = some (.int .i64 l[k].1) ∧ (pairV l)[k * 2 + 1]? = some (.int .i64 l[k].2)
  | p :: l, 0, _ => ⟨rfl, rfl⟩
  | p :: l, k + 1, h => by
    have ih := pairV_at l k (by simpa using h)
    rw [pairV_cons, show (k + 1) * 2 = k * 2 + 1 + 1 by omega, show k * 2 + 1 + 1 + 1 = (k * 2 + 1) + 1 + 1 by omega]
    simp only [List.getElem?_cons_succ, List.getElem_cons_succ]
    exact ih
/-- a slice of pairs, at one of them -/
theorem Sees.pair {B : Nat} {w : World} {v : Value} {l : List (Int × Int)} (h : Sees B 2 w v l.length (pairV l)) (k : Nat) (hk : k < l.length) :
    ∃ b off cap, v = .slice (some ⟨b, off, none⟩) l.length cap ∧ b < B ∧ w.cell? ⟨b, off + k * 2, none⟩ = some (.int .i64 l[k].1) ∧ w.cell? ⟨b, off + k * 2 + 1, none⟩ = some (.int .i64 l[k].2) := by
  obtain ⟨_, A, cap, hv, hc⟩ := h
  obtain ⟨b, off, rfl, hb, hc⟩ := hc (by omega)
  obtain ⟨h1, h2⟩ := pairV_at l k hk
  exact ⟨b, off, cap, hv, hb, hc _ _ h1, hc _ _ h2⟩
theorem Sees.form {B size n : Nat} {w : World} {v : Value} {xs : List Value} (h : Sees B size w v n xs) : ∃ A cap, v = .slice A n cap := by
  obtain ⟨_, A, cap, hv, _⟩ := h
  exact ⟨A, cap, hv⟩
/-- a row that the call has made since the world w0, whose heap had B blocks -/
def Got (B : Nat) (e : TypeId) (size n : Nat) (xs : List Value) (v : Value) (w0 w : World) : Prop := w.ownsRow B e size v n xs ∧ Below B w0 w
theorem Got.nil_ (B : Nat) (e : TypeId) (size : Nat) (w : World) : Got B e size 0 [] (.slice none 0 0) w w := ⟨World.ownsRow_nil _ _ _ _, Below.refl _ _⟩
/-- behind an append, whose source was laid in a new block -/
theorem Got.app {B size n m : Nat} {e : TypeId} {xs ys : List Value} {v v' : Value} {w0 w w1 : World} {o : Obj} (h : Got B e size n xs v w0 w) (hB : B ≤ w.heap.size)
    (ho : w1.ownsRow B e size v' m ys) (hg : (w.alloc o).grownBy w1 v.ownBlock) : Got B e size m ys v' w0 w1 :=
  ⟨ho, (h.2.alloc hB _).grown hg (by simp; omega) (fun g hv => (h.1.lt g hv).1)⟩
theorem Got.drew {B size n : Nat} {e : TypeId} {xs : List Value} {v : Value} {w0 w : World} (h : Got B e size n xs v w0 w) : Got B e size n xs v w0 w.drew := ⟨h.1.drew, h.2.drew⟩
theorem Got.drewN {B size n : Nat} {e : TypeId} {xs : List Value} {v : Value} {w0 w : World} (h : Got B e size n xs v w0 w) (k : Nat) : Got B e size n xs v w0 (w.drewN k) := ⟨h.1, below_drewN h.2 k⟩
theorem Got.sees {B size n : Nat} {e : TypeId} {xs : List Value} {v : Value} {w0 w : World} (h : Got B e size n xs v w0 w) : Sees w.heap.size size w v n xs := Sees.of_own h.1
end Go.Proofs.Ythohfepolidgkaa.mem

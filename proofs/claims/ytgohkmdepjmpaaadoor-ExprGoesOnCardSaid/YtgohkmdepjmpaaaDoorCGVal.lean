import Derived.Test.YtgohkmdepjmpaaaDoorProg
import Derived.WalkKit
import Derived.Below
import Derived.OwnWalk
import Derived.WalkSmall
import Derived.Lib.Hide
import Derived.Lib.ItoaLen
import Derived.Laws.OwnMore
import Derived.Laws.AppendOwnNone
import Derived.ArgAppend
import Derived.LoopTactic
import Derived.Outline
import Derived.StillTailTactics
import Derived.WalkSpells
/- Slices that read as lists of cells, and rows that a call has made: small laws of whatever program. -/
namespace Go.Proofs.YtgohkmdepjmpaaaDoor.mem
open Go.RowKit

/-- a slice of n elements that reads as these cells, which lie below block B -/
def Sees (B size : Nat) (w : World) (v : Value) (n : Nat) (xs : List Value) : Prop :=
  xs.length = n * size ∧ ∃ A cap, v = .slice A n cap ∧ (0 < n → ∃ b off, A = some ⟨b, off, none⟩ ∧ b < B ∧ ∀ j u, xs[j]? = some u → w.cell? ⟨b, off + j, none⟩ = some u)
theorem Sees.keep {B size n : Nat} {w w' : World} {v : Value} {xs : List Value} (h : Sees B size w v n xs) (hk : ∀ b o, b < B → w'.cell? ⟨b, o, none⟩ = w.cell? ⟨b, o, none⟩) : Sees B size w' v n xs := by
  obtain ⟨h1, A, cap, hv, hc⟩ := h
  refine ⟨h1, A, cap, hv, fun hn => ?_⟩
  obtain ⟨b, off, hA, hb, hc⟩ := hc hn
  exact ⟨b, off, hA, hb, fun j u hu => (hk b _ hb).trans (hc j u hu)⟩
theorem Sees.below {B size n : Nat} {w w' : World} {v : Value} {xs : List Value} (h : Sees B size w v n xs) (hb : Below B w w') : Sees B size w' v n xs :=
  h.keep fun b o hlt => hb.cell (p := ⟨b, o, none⟩) hlt
theorem Sees.more {B B' size n : Nat} {w : World} {v : Value} {xs : List Value} (h : Sees B size w v n xs) (hB : B ≤ B') : Sees B' size w v n xs := by
  obtain ⟨h1, A, cap, hv, hc⟩ := h
  refine ⟨h1, A, cap, hv, fun hn => ?_⟩
  obtain ⟨b, off, hA, hb, hc⟩ := hc hn
  exact ⟨b, off, hA, by omega, hc⟩
theorem Sees.none_ (B size : Nat) (w : World) : Sees B size w (.slice none 0 0) 0 [] := ⟨by simp, none, 0, rfl, fun h => absurd h (by omega)⟩
/-- a row of the call's own reads as a list -/
theorem Sees.of_own {base size n : Nat} {e : TypeId} {w : World} {v : Value} {xs : List Value} (h : w.ownsRow base e size v n xs) : Sees w.heap.size size w v n xs := by
  refine ⟨h.1, ?_⟩
  rcases h.2 with ⟨rfl, rfl⟩ | ⟨g, cap, cur, rfl, hb, hg, hnc, hcm, hcs, htake⟩
  · exact ⟨none, 0, rfl, fun hn => absurd hn (by omega)⟩
  · have hlt : g < w.heap.size := (Array.getElem?_eq_some_iff.1 hg).1
    refine ⟨_, cap, rfl, fun _ => ⟨g, 0, rfl, hlt, fun j u hu => ?_⟩⟩
    rw [Nat.zero_add, cell_of_row w g j cur e (0, 0) hg]
    rw [← htake, List.getElem?_take] at hu
    split at hu
    · simpa using hu
    · cases hu
theorem new_one (w : World) (x : Value) (t : TypeId) : ∀ j u, [x][j]? = some u → (w.alloc (.cells #[x] t)).cell? ((⟨w.heap.size, 0, none⟩ : Addr).add j) = some u := by
  intro j u hj
  match j, hj with
  | 0, hj => simp at hj; subst hj; simp [Addr.add]
  | j + 1, hj => simp at hj
theorem one_int (k : IntKind) (n : Int) : ∀ u ∈ [Value.int k n], u.oneCell' = true := by intro u hu; simp at hu; subst hu; rfl
theorem two_int (k : IntKind) (n m : Int) : ∀ u ∈ [Value.int k n, Value.int k m], u.oneCell' = true := by
  intro u hu; simp at hu; rcases hu with rfl | rfl <;> rfl

/-- the cells of pairs of numbers -/
def pairV (l : List (Int × Int)) : List Value := l.flatMap fun p => [.int .i64 p.1, .int .i64 p.2]
theorem pairV_cons (p : Int × Int) (l : List (Int × Int)) : pairV (p :: l) = .int .i64 p.1 :: .int .i64 p.2 :: pairV l := rfl
theorem pairV_append (a b : List (Int × Int)) : pairV (a ++ b) = pairV a ++ pairV b := by unfold pairV; rw [List.flatMap_append]
theorem pairV_length (l : List (Int × Int)) : (pairV l).length = l.length * 2 := by
  induction l with
  | nil => rfl
  | cons p l ih => rw [pairV_cons, List.length_cons, List.length_cons, ih, List.length_cons]; omega
theorem pairV_at : ∀ (l : List (Int × Int)) (k : Nat) (h : k < l.length), (pairV l)[k * 2]? = some (.int .i64 l[k].1) ∧ (pairV l)[k * 2 + 1]? = some (.int .i64 l[k].2)
  | p :: l, 0, _ => ⟨rfl, rfl⟩
  | p :: l, k + 1, h => by
    have ih := pairV_at l k (by simpa using h)
    rw [pairV_cons, show (k + 1) * 2 = k * 2 + 1 + 1 by omega, show k * 2 + 1 + 1 + 1 = (k * 2 + 1) + 1 + 1 by omega]
    simp only [List.getElem?_cons_succ, List.getElem_cons_succ]
    exact ih
/-- a slice of pairs, at one of them -/
theorem Sees.pair {B : Nat} {w : World} {v : Value} {l : List (Int × Int)} (h : Sees B 2 w v l.length (pairV l)) (k : Nat) (hk : k < l.length) :
    ∃ b off cap, v = .slice (some ⟨b, off, none⟩) l.length cap ∧ b < B ∧ w.cell? ⟨b, off + k * 2, none⟩ = some (.int .i64 l[k].1) ∧ w.cell? ⟨b, off + k * 2 + 1, none⟩ = some (.int .i64 l[k].2) := by
  obtain ⟨_, A, cap, hv, hc⟩ := h
  obtain ⟨b, off, rfl, hb, hc⟩ := hc (by omega)
  obtain ⟨h1, h2⟩ := pairV_at l k hk
  exact ⟨b, off, cap, hv, hb, hc _ _ h1, hc _ _ h2⟩
theorem Sees.form {B size n : Nat} {w : World} {v : Value} {xs : List Value} (h : Sees B size w v n xs) : ∃ A cap, v = .slice A n cap := by
  obtain ⟨_, A, cap, hv, _⟩ := h
  exact ⟨A, cap, hv⟩
/-- a row that the call has made since the world w0, whose heap had B blocks -/
def Got (B : Nat) (e : TypeId) (size n : Nat) (xs : List Value) (v : Value) (w0 w : World) : Prop := w.ownsRow B e size v n xs ∧ Below B w0 w
theorem Got.nil_ (B : Nat) (e : TypeId) (size : Nat) (w : World) : Got B e size 0 [] (.slice none 0 0) w w := ⟨World.ownsRow_nil _ _ _ _, Below.refl _ _⟩
/-- behind an append, whose source was laid in a new block -/
theorem Got.app {B size n m : Nat} {e : TypeId} {xs ys : List Value} {v v' : Value} {w0 w w1 : World} {o : Obj} (h : Got B e size n xs v w0 w) (hB : B ≤ w.heap.size)
    (ho : w1.ownsRow B e size v' m ys) (hg : (w.alloc o).grownBy w1 v.ownBlock) : Got B e size m ys v' w0 w1 :=
  ⟨ho, (h.2.alloc hB _).grown hg (by simp; omega) (fun g hv => (h.1.lt g hv).1)⟩
theorem Got.drew {B size n : Nat} {e : TypeId} {xs : List Value} {v : Value} {w0 w : World} (h : Got B e size n xs v w0 w) : Got B e size n xs v w0 w.drew := ⟨h.1.drew, h.2.drew⟩
theorem Got.drewN {B size n : Nat} {e : TypeId} {xs : List Value} {v : Value} {w0 w : World} (h : Got B e size n xs v w0 w) (k : Nat) : Got B e size n xs v w0 (w.drewN k) := ⟨h.1, below_drewN h.2 k⟩
theorem Got.sees {B size n : Nat} {e : TypeId} {xs : List Value} {v : Value} {w0 w : World} (h : Got B e size n xs v w0 w) : Sees w.heap.size size w v n xs := Sees.of_own h.1
end Go.Proofs.YtgohkmdepjmpaaaDoor.mem

/- A variable's block as a whole: what it holds, and what a store leaves of it. Of whatever program. -/
namespace Go.Proofs.YtgohkmdepjmpaaaDoor.mem
open Go.RowKit

def Box (w : World) (g : Nat) (t : TypeId) (cs : Array Value) : Prop := w.heap[g]? = some (.cells cs t (0, 0))
theorem Box.lt {w : World} {g : Nat} {t : TypeId} {cs : Array Value} (h : Box w g t cs) : g < w.heap.size := (Array.getElem?_eq_some_iff.1 h).1
theorem Box.cell {w : World} {g : Nat} {t : TypeId} {cs : Array Value} (h : Box w g t cs) (i : Nat) : w.cell? ⟨g, i, none⟩ = cs[i]? := cell_of_row w g i cs t (0, 0) h
theorem Box.frozen {w : World} {g : Nat} {t : TypeId} {cs : Array Value} (h : Box w g t cs) (i : Nat) : w.frozen? ⟨g, i, none⟩ = false := by
  unfold Box at h; unfold World.frozen?; rw [h]; simp
theorem Box.new (w : World) (t : TypeId) (cs : Array Value) (N : Nat) (h : N = w.heap.size) : Box (w.alloc (.cells cs t)) N t cs := by subst h; exact heap_alloc_new w _
theorem Box.below {w w' : World} {B g : Nat} {t : TypeId} {cs : Array Value} (h : Box w g t cs) (hb : Below B w w') (hg : g < B) : Box w' g t cs := (hb.block g hg).trans h
theorem Box.on {w w' : World} {g : Nat} {t : TypeId} {cs : Array Value} (h : Box w g t cs) (hb : Below w.heap.size w w') : Box w' g t cs := h.below hb h.lt
theorem Box.alloc {w : World} {g : Nat} {t : TypeId} {cs : Array Value} (h : Box w g t cs) (o : Obj) : Box (w.alloc o) g t cs := (Below.heap_alloc w o g h.lt).trans h
theorem Box.drew {w : World} {g : Nat} {t : TypeId} {cs : Array Value} (h : Box w g t cs) : Box w.drew g t cs := h
theorem Box.set {w : World} {g : Nat} {t : TypeId} {cs : Array Value} (h : Box w g t cs) (i : Nat) (u : Value) : Box (w.setCell ⟨g, i, none⟩ u) g t (cs.setIfInBounds i u) := heap_setCell_same w g i cs t u h
theorem Box.far {w : World} {g : Nat} {t : TypeId} {cs : Array Value} (h : Box w g t cs) {p : Addr} (hp : g ≠ p.block) (u : Value) : Box (w.setCell p u) g t cs := (Below.heap_setCell w p u g hp).trans h
theorem Box.three {w : World} {g : Nat} {t : TypeId} {x y z : Value} (h : Box w g t #[x, y, z]) (a b c : Value) : Box (((w.setCell ⟨g, 0, none⟩ a).setCell ⟨g, 1, none⟩ b).setCell ⟨g, 2, none⟩ c) g t #[a, b, c] := ((h.set 0 a).set 1 b).set 2 c
theorem Box.far3 {w : World} {g b : Nat} {t : TypeId} {cs : Array Value} (h : Box w g t cs) (hne : g ≠ b) (i j k : Nat) (x y z : Value) : Box (((w.setCell ⟨b, i, none⟩ x).setCell ⟨b, j, none⟩ y).setCell ⟨b, k, none⟩ z) g t cs := ((h.far hne x).far hne y).far hne z
theorem Box.grown {w w' : World} {g : Nat} {t : TypeId} {cs : Array Value} {row : Option Nat} (h : Box w g t cs) (hb : w.grownBy w' row) (hg : some g ≠ row) : Box w' g t cs := (hb.block g h.lt hg).trans h
end Go.Proofs.YtgohkmdepjmpaaaDoor.mem

/- Values as plain trees: their sizes, depths, texts, and which are right; nothing of the program. -/
namespace Go.Proofs.YtgohkmdepjmpaaaDoor.vt
open Go.RowKit

/-- a value of the language: its kind, its number, its kids -/
inductive VT where
  | mk (k n : Int) (l : List VT)
def VT.kind : VT → Int | .mk k _ _ => k
def VT.num : VT → Int | .mk _ n _ => n
def VT.kids : VT → List VT | .mk _ _ l => l
theorem VT.eta (t : VT) : t = .mk t.kind t.num t.kids := by cases t; rfl
theorem VT.mk_inj {k n k' n' : Int} {l l' : List VT} : VT.mk k n l = .mk k' n' l' ↔ k = k' ∧ n = n' ∧ l = l' := by
  constructor
  · intro h; injection h with a b c; exact ⟨a, b, c⟩
  · rintro ⟨rfl, rfl, rfl⟩; rfl
theorem VT.ext_iff' (a b : VT) : a = b ↔ a.kind = b.kind ∧ a.num = b.num ∧ a.kids = b.kids := by
  cases a; cases b; exact VT.mk_inj

mutual
theorem VT.ind {P : VT → Prop} (h : ∀ k n l, (∀ u ∈ l, P u) → P (.mk k n l)) : ∀ t, P t
  | .mk k n l => h k n l (VT.indL h l)
theorem VT.indL {P : VT → Prop} (h : ∀ k n l, (∀ u ∈ l, P u) → P (.mk k n l)) : ∀ (l : List VT), ∀ u ∈ l, P u
  | [] => fun u hu => by cases hu
  | v :: r => List.forall_mem_cons.2 ⟨VT.ind h v, VT.indL h r⟩
end

/-! ### how great, how deep -/
mutual
def VT.size : VT → Nat
  | .mk _ _ l => sizeL l + 1
def sizeL : List VT → Nat
  | [] => 0
  | v :: r => v.size + sizeL r
end
theorem sizeL_append : ∀ a b, sizeL (a ++ b) = sizeL a + sizeL b
  | [], b => by simp [sizeL]
  | v :: r, b => by rw [List.cons_append, sizeL, sizeL, sizeL_append r b]; omega
theorem size_mk (k n : Int) (l : List VT) : (VT.mk k n l).size = sizeL l + 1 := by rw [VT.size]
theorem size_pos (t : VT) : 0 < t.size := by cases t; rw [size_mk]; omega
theorem sizeL_take (l : List VT) (k : Nat) (h : k < l.length) : sizeL (l.take (k + 1)) = sizeL (l.take k) + l[k].size := by
  rw [List.take_succ_eq_append_getElem h, sizeL_append]; simp [sizeL]
theorem len_le_sizeL : ∀ l : List VT, l.length ≤ sizeL l
  | [] => Nat.le_refl _
  | v :: r => by rw [sizeL, List.length_cons]; have := size_pos v; have := len_le_sizeL r; omega
theorem sizeL_take_le (l : List VT) (k : Nat) : sizeL (l.take k) ≤ sizeL l := by
  conv => rhs; rw [← List.take_append_drop k l, sizeL_append]
  omega
theorem mem_sizeL {u : VT} : ∀ {l : List VT}, u ∈ l → u.size ≤ sizeL l
  | v :: r, h => by
    rw [sizeL]
    rcases List.mem_cons.1 h with rfl | h
    · omega
    · have := mem_sizeL h; omega
theorem wrap_add (a b : Int) : wrap64 (wrap64 a + wrap64 b) = wrap64 (a + b) := by unfold wrap64; omega

mutual
def VT.deepW : VT → Int
  | .mk _ _ l => wrap64 (deepL 0 l + 1)
def deepL : Int → List VT → Int
  | m, [] => m
  | m, v :: r => deepL (max m v.deepW) r
end
theorem deepL_append : ∀ a b m, deepL m (a ++ b) = deepL (deepL m a) b
  | [], b, m => by simp [deepL]
  | v :: r, b, m => by rw [List.cons_append, deepL, deepL, deepL_append r b]
theorem deepW_mk (k n : Int) (l : List VT) : (VT.mk k n l).deepW = wrap64 (deepL 0 l + 1) := by rw [VT.deepW]
theorem deepL_take (l : List VT) (k : Nat) (h : k < l.length) : deepL 0 (l.take (k + 1)) = max (deepL 0 (l.take k)) l[k].deepW := by
  rw [List.take_succ_eq_append_getElem h, deepL_append]; simp [deepL]
theorem wrap_bd (n : Int) : -9223372036854775808 ≤ wrap64 n ∧ wrap64 n ≤ 9223372036854775807 := by unfold wrap64; omega
theorem deepW_bd (t : VT) : -9223372036854775808 ≤ t.deepW ∧ t.deepW ≤ 9223372036854775807 := by cases t; rw [deepW_mk]; exact wrap_bd _
theorem deepL_bd : ∀ (l : List VT) (m : Int), 0 ≤ m → m ≤ 9223372036854775807 → 0 ≤ deepL m l ∧ deepL m l ≤ 9223372036854775807
  | [], m, h0, h1 => by rw [deepL]; exact ⟨h0, h1⟩
  | v :: r, m, h0, h1 => by
    rw [deepL]
    have := deepW_bd v
    exact deepL_bd r _ (by omega) (by omega)

/-! ### which are right -/
mutual
def VT.right : VT → Bool
  | .mk k n l => if k = 0 then l.isEmpty else if k = 1 then (decide (n = 0 ∨ n = 1)) && l.isEmpty else if k = 2 ∨ k = 3 then decide (n = 0) && rightL l else false
def rightL : List VT → Bool
  | [] => true
  | v :: r => v.right && rightL r
end
theorem right_mk (k n : Int) (l : List VT) : (VT.mk k n l).right = if k = 0 then l.isEmpty else if k = 1 then (decide (n = 0 ∨ n = 1)) && l.isEmpty else if k = 2 ∨ k = 3 then decide (n = 0) && rightL l else false := by rw [VT.right]
theorem rightL_all : ∀ l : List VT, rightL l = l.all VT.right
  | [] => rfl
  | v :: r => by rw [rightL, List.all_cons, rightL_all r]
theorem rightL_append (a b : List VT) : rightL (a ++ b) = (rightL a && rightL b) := by simp only [rightL_all, List.all_append]
theorem rightL_take (l : List VT) (k : Nat) (h : k < l.length) : rightL (l.take (k + 1)) = (rightL (l.take k) && l[k].right) := by
  rw [List.take_succ_eq_append_getElem h, rightL_append]; simp [rightL]
theorem rightL_bad (l : List VT) (k : Nat) (h : k < l.length) (hr : l[k].right = false) : rightL l = false := by
  rw [rightL_all, List.all_eq_false]; exact ⟨l[k], List.getElem_mem h, by simp [hr]⟩
theorem rightL_mem {l : List VT} (h : rightL l = true) {u : VT} (hu : u ∈ l) : u.right = true := by
  rw [rightL_all] at h; exact List.all_eq_true.1 h u hu

/-! ### texts -/
def txtTrue : List UInt8 := [116, 114, 117, 101]
def txtFalse : List UInt8 := [102, 97, 108, 115, 101]
mutual
/-- a right value's text -/
def VT.text : VT → List UInt8
  | .mk k n l => if k = 0 then Lib.itoa n else if k = 1 then (if n = 1 then txtTrue else txtFalse) else if k = 3 then [123] ++ textL l ++ [125] else [91] ++ textL l ++ [93]
def textL : List VT → List UInt8
  | [] => []
  | v :: r => v.text ++ tailL r
/-- the texts of more of them, each behind a comma and a blank -/
def tailL : List VT → List UInt8
  | [] => []
  | v :: r => [44, 32] ++ v.text ++ tailL r
end
theorem text_mk (k n : Int) (l : List VT) : (VT.mk k n l).text = if k = 0 then Lib.itoa n else if k = 1 then (if n = 1 then txtTrue else txtFalse) else if k = 3 then [123] ++ textL l ++ [125] else [91] ++ textL l ++ [93] := by rw [VT.text]
theorem tailL_append : ∀ a b, tailL (a ++ b) = tailL a ++ tailL b
  | [], b => by simp [tailL]
  | v :: r, b => by rw [List.cons_append, tailL, tailL, tailL_append r b]; simp [List.append_assoc]
theorem textL_snoc : ∀ (a : List VT) (v : VT), textL (a ++ [v]) = textL a ++ (if a.isEmpty then [] else [44, 32]) ++ v.text
  | [], v => by simp [textL, tailL]
  | u :: r, v => by rw [List.cons_append, textL, textL, tailL_append]; simp [tailL, List.append_assoc]
theorem textL_take (l : List VT) (k : Nat) (h : k < l.length) : textL (l.take (k + 1)) = textL (l.take k) ++ (if k = 0 then [] else [44, 32]) ++ l[k].text := by
  rw [List.take_succ_eq_append_getElem h, textL_snoc]
  congr 2
  by_cases hk : k = 0
  · subst hk; simp
  · rw [if_neg hk, if_neg]
    intro he
    have := congrArg List.length (List.isEmpty_iff.1 he)
    rw [List.length_take, List.length_nil] at this
    omega
theorem itoa_len (n : Int) (h : -9223372036854775808 ≤ n ∧ n ≤ 9223372036854775807) : (Lib.itoa n).length ≤ 21 := Lib.itoa_length_le n h.1 h.2
mutual
/-- all numbers fit 64 bits -/
def VT.fits : VT → Prop
  | .mk k n l => ((-9223372036854775808 ≤ k ∧ k ≤ 9223372036854775807) ∧ (-9223372036854775808 ≤ n ∧ n ≤ 9223372036854775807)) ∧ fitsL l
def fitsL : List VT → Prop
  | [] => True
  | v :: r => v.fits ∧ fitsL r
end
theorem fits_mk (k n : Int) (l : List VT) : (VT.mk k n l).fits ↔ ((-9223372036854775808 ≤ k ∧ k ≤ 9223372036854775807) ∧ (-9223372036854775808 ≤ n ∧ n ≤ 9223372036854775807)) ∧ fitsL l := by rw [VT.fits]
theorem fitsL_mem : ∀ {l : List VT}, fitsL l → ∀ u ∈ l, u.fits
  | v :: r, h, u, hu => by
    rw [fitsL] at h
    rcases List.mem_cons.1 hu with rfl | hu
    · exact h.1
    · exact fitsL_mem h.2 u hu
theorem fitsL_of : ∀ {l : List VT}, (∀ u ∈ l, u.fits) → fitsL l
  | [], _ => by rw [fitsL]; trivial
  | v :: r, h => by rw [fitsL]; exact ⟨h v (by simp), fitsL_of fun u hu => h u (by simp [hu])⟩
mutual
theorem text_len : ∀ t : VT, t.fits → t.text.length + 2 ≤ 24 * t.size
  | .mk k n l, h => by
    rw [fits_mk] at h
    rw [text_mk, size_mk]
    have h1 := itoa_len n h.1.2
    have h2 := textL_len l h.2
    split
    · omega
    · split
      · split <;> simp [txtTrue, txtFalse] <;> omega
      · split <;> simp only [List.length_append, List.length_singleton] <;> omega
theorem textL_len : ∀ l : List VT, fitsL l → (textL l).length ≤ 24 * sizeL l
  | [], _ => by simp [textL]
  | v :: r, h => by
    rw [fitsL] at h
    rw [textL, sizeL, List.length_append]
    have h1 := text_len v h.1
    have h2 := tailL_len r h.2
    omega
theorem tailL_len : ∀ l : List VT, fitsL l → (tailL l).length ≤ 24 * sizeL l
  | [], _ => by simp [tailL]
  | v :: r, h => by
    rw [fitsL] at h
    rw [tailL, sizeL, List.length_append, List.length_append]
    have h1 := text_len v h.1
    have h2 := tailL_len r h.2
    simp only [List.length_cons, List.length_nil]
    omega
end
end Go.Proofs.YtgohkmdepjmpaaaDoor.vt

/- Values in memory: a slice that reads as a list of plain trees. -/
namespace Go.Proofs.YtgohkmdepjmpaaaDoor.vt
open Go.RowKit mem

def I64 (n : Int) : Prop := -9223372036854775808 ≤ n ∧ n ≤ 9223372036854775807
mutual
/-- the kids of a value lie so: in blocks of which G holds -/
def VT.Has (G : Nat → Prop) (w : World) : VT → Value → Prop
  | .mk _ _ l, s => ∃ A cap, s = .slice A l.length cap ∧ (l.length ≤ 9223372036854775807 ∧ (A = none → cap = 0)) ∧ (0 < l.length → ∃ b off, A = some ⟨b, off, none⟩ ∧ G b ∧ Row G w b l off)
def Row (G : Nat → Prop) (w : World) (b : Nat) : List VT → Nat → Prop
  | [], _ => True
  | v :: r, off => (I64 v.kind ∧ I64 v.num ∧ w.cell? ⟨b, off, none⟩ = some (.int .i64 v.kind) ∧ w.cell? ⟨b, off + 1, none⟩ = some (.int .i64 v.num) ∧ ∃ s, w.cell? ⟨b, off + 2, none⟩ = some s ∧ v.Has G w s) ∧ Row G w b r (off + 3)
end
/-- a slice that reads as a list of values -/
def Kids (G : Nat → Prop) (w : World) (l : List VT) (s : Value) : Prop :=
  ∃ A cap, s = .slice A l.length cap ∧ (l.length ≤ 9223372036854775807 ∧ (A = none → cap = 0)) ∧ (0 < l.length → ∃ b off, A = some ⟨b, off, none⟩ ∧ G b ∧ Row G w b l off)
theorem has_kids {G : Nat → Prop} {w : World} {t : VT} {s : Value} : t.Has G w s ↔ Kids G w t.kids s := by cases t; rw [VT.Has]; rfl
/-- one value, in its three cells -/
def Cells (G : Nat → Prop) (w : World) (b off : Nat) (v : VT) : Prop :=
  I64 v.kind ∧ I64 v.num ∧ w.cell? ⟨b, off, none⟩ = some (.int .i64 v.kind) ∧ w.cell? ⟨b, off + 1, none⟩ = some (.int .i64 v.num) ∧ ∃ s, w.cell? ⟨b, off + 2, none⟩ = some s ∧ Kids G w v.kids s
theorem row_cons {G : Nat → Prop} {w : World} {b off : Nat} {v : VT} {r : List VT} : Row G w b (v :: r) off ↔ Cells G w b off v ∧ Row G w b r (off + 3) := by
  rw [Row]; unfold Cells; simp only [has_kids]
theorem row_append {G : Nat → Prop} {w : World} {b : Nat} : ∀ {a r : List VT} {off : Nat}, Row G w b (a ++ r) off ↔ Row G w b a off ∧ Row G w b r (off + a.length * 3)
  | [], r, off => by simp [Row]
  | v :: a, r, off => by
    rw [List.cons_append, row_cons, row_cons, row_append, List.length_cons, show off + 3 + a.length * 3 = off + (a.length + 1) * 3 by omega, and_assoc]
theorem row_at {G : Nat → Prop} {w : World} {b : Nat} : ∀ {l : List VT} {off : Nat}, Row G w b l off → ∀ (k : Nat) (hk : k < l.length), Cells G w b (off + k * 3) l[k]
  | v :: r, off, h, 0, _ => by rw [row_cons] at h; simpa using h.1
  | v :: r, off, h, k + 1, hk => by
    rw [row_cons] at h
    have := row_at h.2 k (by simpa using hk)
    rw [show off + 3 + k * 3 = off + (k + 1) * 3 by omega] at this
    simpa using this
theorem row_of {G : Nat → Prop} {w : World} {b : Nat} : ∀ {l : List VT} {off : Nat}, (∀ (k : Nat) (hk : k < l.length), Cells G w b (off + k * 3) l[k]) → Row G w b l off
  | [], _, _ => by rw [Row]; trivial
  | v :: r, off, h => by
    rw [row_cons]
    refine ⟨h 0 (by simp), row_of fun k hk => ?_⟩
    have := h (k + 1) (by simpa using hk)
    rw [show off + (k + 1) * 3 = off + 3 + k * 3 by omega] at this
    simpa using this
theorem Kids.at_ {G : Nat → Prop} {w : World} {l : List VT} {s : Value} (h : Kids G w l s) (k : Nat) (hk : k < l.length) :
    ∃ b off cap, s = .slice (some ⟨b, off, none⟩) l.length cap ∧ G b ∧ Cells G w b (off + k * 3) l[k] := by
  obtain ⟨A, cap, hs, _, h⟩ := h
  obtain ⟨b, off, rfl, hb, h⟩ := h (by omega)
  exact ⟨b, off, cap, hs, hb, row_at h k hk⟩
theorem Kids.form {G : Nat → Prop} {w : World} {l : List VT} {s : Value} (h : Kids G w l s) : ∃ A cap, s = .slice A l.length cap ∧ l.length ≤ 9223372036854775807 := by
  obtain ⟨A, cap, hs, hl, _⟩ := h
  exact ⟨A, cap, hs, hl.1⟩
theorem Kids.nil_ (G : Nat → Prop) (w : World) : Kids G w [] (.slice none 0 0) := ⟨none, 0, rfl, ⟨by simp, fun _ => rfl⟩, fun h => absurd h (by simp)⟩

/-- from world to world, from blocks to blocks -/
theorem kids_carry {G G' : Nat → Prop} {w w' : World} (hc : ∀ b o v, G b → w.cell? ⟨b, o, none⟩ = some v → G' b ∧ w'.cell? ⟨b, o, none⟩ = some v) : ∀ (t : VT) (s : Value), Kids G w t.kids s → Kids G' w' t.kids s := by
  intro t
  induction t using VT.ind with
  | h k n l ih =>
    intro s h
    obtain ⟨A, cap, hs, hl, h⟩ := h
    refine ⟨A, cap, hs, hl, fun h0 => ?_⟩
    obtain ⟨b, off, hA, hb, h⟩ := h h0
    have hcell : ∀ (k : Nat) (hk : k < l.length), G' b ∧ Cells G' w' b (off + k * 3) l[k] := by
      intro k hk
      obtain ⟨i1, i2, c1, c2, s', c3, h3⟩ := row_at h k hk
      exact ⟨(hc _ _ _ hb c1).1, i1, i2, (hc _ _ _ hb c1).2, (hc _ _ _ hb c2).2, s', (hc _ _ _ hb c3).2, ih _ (List.getElem_mem hk) s' h3⟩
    exact ⟨b, off, hA, (hcell 0 h0).1, row_of fun k hk => (hcell k hk).2⟩
theorem Kids.carry {G G' : Nat → Prop} {w w' : World} {l : List VT} {s : Value} (h : Kids G w l s) (hc : ∀ b o v, G b → w.cell? ⟨b, o, none⟩ = some v → G' b ∧ w'.cell? ⟨b, o, none⟩ = some v) : Kids G' w' l s :=
  kids_carry hc (.mk 0 0 l) s h
theorem Kids.mono {G G' : Nat → Prop} {w : World} {l : List VT} {s : Value} (h : Kids G w l s) (hg : ∀ b, G b → G' b) : Kids G' w l s := h.carry fun b _ _ hb hc => ⟨hg b hb, hc⟩
theorem Kids.keep {G : Nat → Prop} {w w' : World} {l : List VT} {s : Value} (h : Kids G w l s) (hk : ∀ b o, G b → b < w.heap.size → w'.cell? ⟨b, o, none⟩ = w.cell? ⟨b, o, none⟩) : Kids G w' l s :=
  h.carry fun b o _ hb hc => ⟨hb, (hk b o hb (World.block_lt_of_cell? _ _ hc)).trans hc⟩
theorem Kids.below {G : Nat → Prop} {w w' : World} {l : List VT} {s : Value} (h : Kids G w l s) (hb : Below w.heap.size w w') : Kids G w' l s :=
  h.keep fun b' o _ hlt => hb.cell (p := ⟨b', o, none⟩) hlt
theorem Kids.lt {G : Nat → Prop} {w : World} {l : List VT} {s : Value} (h : Kids G w l s) : Kids (fun b => G b ∧ b < w.heap.size) w l s :=
  h.carry fun _ _ _ hb hc => ⟨⟨hb, World.block_lt_of_cell? _ _ hc⟩, hc⟩
theorem kids_fits {G : Nat → Prop} {w : World} : ∀ (t : VT) (s : Value), Kids G w t.kids s → fitsL t.kids := by
  intro t
  induction t using VT.ind with
  | h k n l ih =>
    intro s h
    refine fitsL_of fun u hu => ?_
    obtain ⟨i, hi, rfl⟩ := List.getElem_of_mem hu
    obtain ⟨b, off, cap, hs, hb, i1, i2, c1, c2, s', c3, h3⟩ := Kids.at_ h i hi
    have := ih _ hu s' h3
    rw [VT.eta (VT.mk k n l).kids[i], fits_mk]
    exact ⟨⟨i1, i2⟩, this⟩
theorem Kids.fits {G : Nat → Prop} {w : World} {l : List VT} {s : Value} (h : Kids G w l s) : fitsL l := kids_fits (.mk 0 0 l) s h
/-- one cell's rule for what lies below the blocks of a call's own -/
theorem bcell {W w1 : World} (hb : Below W.heap.size W w1) : (∀ b o, b < W.heap.size → w1.cell? ⟨b, o, none⟩ = W.cell? ⟨b, o, none⟩) ∧ (∀ b o, b < W.heap.size → w1.frozen? ⟨b, o, none⟩ = W.frozen? ⟨b, o, none⟩) :=
  ⟨fun b o h => hb.cell (p := ⟨b, o, none⟩) h, fun b o h => hb.frozen (p := ⟨b, o, none⟩) h⟩
/-- one of the kids, told by a world behind -/
theorem Kids.kid {G : Nat → Prop} {w wr : World} {l : List VT} {s : Value} (h : Kids G w l s) (hb : Below w.heap.size w wr) (k : Nat) (hk : k < l.length) :
    ∃ b off cap s', s = .slice (some ⟨b, off, none⟩) l.length cap ∧ b < wr.heap.size ∧ I64 l[k].kind ∧ I64 l[k].num ∧ wr.cell? ⟨b, off + k * 3, none⟩ = some (.int .i64 l[k].kind) ∧ wr.cell? ⟨b, off + k * 3 + 1, none⟩ = some (.int .i64 l[k].num) ∧ wr.cell? ⟨b, off + k * 3 + 2, none⟩ = some s' ∧ Kids G wr l[k].kids s' := by
  obtain ⟨b, off, cap, hs, hG, i1, i2, c1, c2, s', c3, h3⟩ := (h.below hb).at_ k hk
  exact ⟨b, off, cap, s', hs, World.block_lt_of_cell? _ _ c1, i1, i2, c1, c2, c3, h3⟩
theorem cells_add (b o i : Nat) : (⟨b, o, none⟩ : Addr).add i = ⟨b, o + i, none⟩ := by unfold Addr.add; split <;> simp_all
end Go.Proofs.YtgohkmdepjmpaaaDoor.vt

/- Lists of values in rows of a call's own. -/
namespace Go.Proofs.YtgohkmdepjmpaaaDoor.vt
open Go.RowKit mem

/-- the cells of a list of values -/
def Vals (G : Nat → Prop) (w : World) : List VT → List Value → Prop
  | [], vs => vs = []
  | v :: r, vs => ∃ s rest, vs = .int .i64 v.kind :: .int .i64 v.num :: s :: rest ∧ I64 v.kind ∧ I64 v.num ∧ Kids G w v.kids s ∧ Vals G w r rest
theorem Vals.len {G : Nat → Prop} {w : World} : ∀ {l : List VT} {vs : List Value}, Vals G w l vs → vs.length = l.length * 3
  | [], vs, h => by rw [Vals] at h; subst h; rfl
  | v :: r, vs, h => by
    rw [Vals] at h
    obtain ⟨s, rest, rfl, _, _, _, hr⟩ := h
    have := Vals.len hr
    simp only [List.length_cons]; omega
theorem Vals.one {G : Nat → Prop} {w : World} : ∀ {l : List VT} {vs : List Value}, Vals G w l vs → ∀ u ∈ vs, u.oneCell' = true
  | [], vs, h => by rw [Vals] at h; subst h; intro u hu; cases hu
  | v :: r, vs, h => by
    rw [Vals] at h
    obtain ⟨s, rest, rfl, _, _, hk, hr⟩ := h
    obtain ⟨A, cap, rfl, _⟩ := hk.form
    have := Vals.one hr
    intro u hu
    simp only [List.mem_cons] at hu
    rcases hu with rfl | rfl | rfl | hu
    · rfl
    · rfl
    · rfl
    · exact this u hu
theorem Vals.append {G : Nat → Prop} {w : World} : ∀ {a b : List VT} {xs ys : List Value}, Vals G w a xs → Vals G w b ys → Vals G w (a ++ b) (xs ++ ys)
  | [], b, xs, ys, h, h' => by rw [Vals] at h; subst h; exact h'
  | v :: r, b, xs, ys, h, h' => by
    rw [Vals] at h
    obtain ⟨s, rest, rfl, i1, i2, hk, hr⟩ := h
    rw [List.cons_append, Vals]
    exact ⟨s, rest ++ ys, rfl, i1, i2, hk, Vals.append hr h'⟩
theorem Vals.split {G : Nat → Prop} {w : World} : ∀ {a b : List VT} {vs : List Value}, Vals G w (a ++ b) vs → ∃ xs ys, vs = xs ++ ys ∧ Vals G w a xs ∧ Vals G w b ys
  | [], b, vs, h => ⟨[], vs, rfl, by rw [Vals], h⟩
  | v :: r, b, vs, h => by
    rw [List.cons_append, Vals] at h
    obtain ⟨s, rest, rfl, i1, i2, hk, hr⟩ := h
    obtain ⟨xs, ys, rfl, h1, h2⟩ := Vals.split hr
    exact ⟨.int .i64 v.kind :: .int .i64 v.num :: s :: xs, ys, rfl, by rw [Vals]; exact ⟨s, xs, rfl, i1, i2, hk, h1⟩, h2⟩
theorem Vals.carry {G G' : Nat → Prop} {w w' : World} (hc : ∀ b o v, G b → w.cell? ⟨b, o, none⟩ = some v → G' b ∧ w'.cell? ⟨b, o, none⟩ = some v) : ∀ {l : List VT} {vs : List Value}, Vals G w l vs → Vals G' w' l vs
  | [], vs, h => h
  | v :: r, vs, h => by
    rw [Vals] at h ⊢
    obtain ⟨s, rest, rfl, i1, i2, hk, hr⟩ := h
    exact ⟨s, rest, rfl, i1, i2, hk.carry hc, Vals.carry hc hr⟩
theorem Vals.mono {G G' : Nat → Prop} {w : World} {l : List VT} {vs : List Value} (h : Vals G w l vs) (hg : ∀ b, G b → G' b) : Vals G' w l vs := h.carry fun b _ _ hb hc => ⟨hg b hb, hc⟩
theorem Vals.keep {G : Nat → Prop} {w w' : World} {l : List VT} {vs : List Value} (h : Vals G w l vs) (hk : ∀ b o, G b → b < w.heap.size → w'.cell? ⟨b, o, none⟩ = w.cell? ⟨b, o, none⟩) : Vals G w' l vs :=
  h.carry fun b o _ hb hc => ⟨hb, (hk b o hb (World.block_lt_of_cell? _ _ hc)).trans hc⟩
theorem Vals.below {G : Nat → Prop} {w w' : World} {l : List VT} {vs : List Value} (h : Vals G w l vs) (hb : Below w.heap.size w w') : Vals G w' l vs :=
  h.keep fun b' o _ hlt => hb.cell (p := ⟨b', o, none⟩) hlt
theorem Vals.lt {G : Nat → Prop} {w : World} {l : List VT} {vs : List Value} (h : Vals G w l vs) : Vals (fun b => G b ∧ b < w.heap.size) w l vs :=
  h.carry fun _ _ _ hb hc => ⟨⟨hb, World.block_lt_of_cell? _ _ hc⟩, hc⟩
theorem row_vals {G : Nat → Prop} {w : World} {b : Nat} : ∀ {l : List VT} {off : Nat}, Row G w b l off → ∃ vs, Vals G w l vs ∧ ∀ j u, vs[j]? = some u → w.cell? ⟨b, off + j, none⟩ = some u
  | [], off, _ => ⟨[], by rw [Vals], fun j u h => by simp at h⟩
  | v :: r, off, h => by
    rw [row_cons] at h
    obtain ⟨⟨i1, i2, c0, c1, s, c2, hk⟩, hr⟩ := h
    obtain ⟨vs, hv, hc⟩ := row_vals hr
    refine ⟨.int .i64 v.kind :: .int .i64 v.num :: s :: vs, by rw [Vals]; exact ⟨s, vs, rfl, i1, i2, hk, hv⟩, fun j u hu => ?_⟩
    match j, hu with
    | 0, hu => simp at hu; subst hu; exact c0
    | 1, hu => simp at hu; subst hu; exact c1
    | 2, hu => simp at hu; subst hu; exact c2
    | j + 3, hu => rw [show off + (j + 3) = off + 3 + j by omega]; exact hc j u (by simpa using hu)
theorem vals_row {G : Nat → Prop} {w : World} {b : Nat} : ∀ {l : List VT} {vs : List Value} {off : Nat}, Vals G w l vs → (∀ j u, vs[j]? = some u → w.cell? ⟨b, off + j, none⟩ = some u) → Row G w b l off
  | [], _, _, _, _ => by rw [Row]; trivial
  | v :: r, vs, off, h, hc => by
    rw [Vals] at h
    obtain ⟨s, rest, rfl, i1, i2, hk, hr⟩ := h
    rw [row_cons]
    refine ⟨⟨i1, i2, hc 0 _ rfl, hc 1 _ rfl, s, hc 2 _ rfl, hk⟩, vals_row hr fun j u hu => ?_⟩
    rw [show off + 3 + j = off + (j + 3) by omega]; exact hc (j + 3) u (by simpa using hu)
theorem below_grown {w w' : World} (h : w.grownBy w' none) : Below w.heap.size w w' := (Below.refl _ _).grown h (Nat.le_refl _) (fun k h => by cases h)
theorem heap_new (w : World) (N : Nat) (h : N = w.heap.size) (o : Obj) : (w.alloc o).heap[N]? = some o := by subst h; exact heap_alloc_new w o
theorem cell_new (w : World) (N : Nat) (h : N = w.heap.size) (cs : Array Value) (t : TypeId) (i : Nat) : (w.alloc (.cells cs t)).cell? ⟨N, i, none⟩ = cs[i]? := by
  subst h; exact cell_of_row _ _ i cs t (0, 0) (heap_new w _ rfl _)
theorem frozen_new (w : World) (N : Nat) (h : N = w.heap.size) (cs : Array Value) (t : TypeId) (i : Nat) : (w.alloc (.cells cs t)).frozen? ⟨N, i, none⟩ = false := by
  subst h; unfold World.frozen?; rw [heap_new w _ rfl _]; simp
/-- a cell of a block that was new, behind all that came since -/
theorem cell_since {w w' : World} {N : Nat} {cs : Array Value} {t : TypeId} (h : N = w.heap.size) (hb : Below (N + 1) (w.alloc (.cells cs t)) w') (i : Nat) : w'.cell? ⟨N, i, none⟩ = cs[i]? ∧ w'.frozen? ⟨N, i, none⟩ = false :=
  ⟨(hb.cell (p := ⟨N, i, none⟩) (Nat.lt_succ_self _)).trans (cell_new w N h cs t i), (hb.frozen (p := ⟨N, i, none⟩) (Nat.lt_succ_self _)).trans (frozen_new w N h cs t i)⟩
theorem cell_set_other (w : World) (b i c o : Nat) (u : Value) (h : c ≠ b) : (w.setCell ⟨b, i, none⟩ u).cell? ⟨c, o, none⟩ = w.cell? ⟨c, o, none⟩ :=
  World.cell?_of_block (Below.heap_setCell w ⟨b, i, none⟩ u c h)
theorem own_set {w : World} {base : Nat} {e : TypeId} {size n b i : Nat} {v u : Value} {xs : List Value} (h : w.ownsRow base e size v n xs) (hb : b < base) : (w.setCell ⟨b, i, none⟩ u).ownsRow base e size v n xs := by
  refine ⟨h.1, ?_⟩
  rcases h.2 with h' | ⟨g, cap, cur, hv, hg, hh, r⟩
  · exact .inl h'
  · exact .inr ⟨g, cap, cur, hv, hg, by rw [Below.heap_setCell _ _ _ _ (by dsimp only; omega)]; exact hh, r⟩
theorem own_base {w : World} {base base' : Nat} {e : TypeId} {size n : Nat} {v : Value} {xs : List Value} (h : w.ownsRow base e size v n xs) (hb : base' ≤ base) : w.ownsRow base' e size v n xs := by
  refine ⟨h.1, ?_⟩
  rcases h.2 with h' | ⟨g, cap, cur, hv, hg, r⟩
  · exact .inl h'
  · exact .inr ⟨g, cap, cur, hv, by omega, r⟩
theorem own_form {w : World} {base : Nat} {e : TypeId} {size n : Nat} {v : Value} {xs : List Value} (h : w.ownsRow base e size v n xs) : ∃ A c, v = .slice A n c := by
  rcases h.2 with ⟨h', hn⟩ | ⟨g, cap, cur, hv, _⟩
  · exact ⟨none, 0, by rw [h', hn]⟩
  · exact ⟨_, cap, hv⟩
theorem Vals.set {G : Nat → Prop} {w : World} {l : List VT} {vs : List Value} (h : Vals G w l vs) {b i : Nat} {u : Value} (hb : ∀ c, G c → c < w.heap.size → c ≠ b) : Vals G (w.setCell ⟨b, i, none⟩ u) l vs :=
  h.keep fun c o hc hlt => cell_set_other w b i c o u (hb c hc hlt)
theorem Kids.set {G : Nat → Prop} {w : World} {l : List VT} {s : Value} (h : Kids G w l s) {b i : Nat} {u : Value} (hb : ∀ c, G c → c < w.heap.size → c ≠ b) : Kids G (w.setCell ⟨b, i, none⟩ u) l s :=
  h.keep fun c o hc hlt => cell_set_other w b i c o u (hb c hc hlt)
theorem set_heap (w : World) (b i : Nat) (u : Value) : (w.setCell ⟨b, i, none⟩ u).heap.size = w.heap.size := World.size_setCell _ _ _
theorem below_told {B b : Nat} {w w1 : World} {x y z : Value} (h : Below B w w1) (hb : B ≤ b) : Below B w (((w1.setCell ⟨b, 0, none⟩ x).setCell ⟨b, 1, none⟩ y).setCell ⟨b, 2, none⟩ z) :=
  ((h.setCell (p := ⟨b, 0, none⟩) hb x).setCell (p := ⟨b, 1, none⟩) hb y).setCell (p := ⟨b, 2, none⟩) hb z
end Go.Proofs.YtgohkmdepjmpaaaDoor.vt

/- An append onto a row of the call's own that tells where the row lies; blocks by their kind. -/
namespace Go.Proofs.YtgohkmdepjmpaaaDoor.vt
open Go.RowKit mem

/-- an append onto a row of the call's own: the row stays where it was, or is new -/
theorem run_append_mine {P : Program} {w : World} (base : Nat) (t ty e : TypeId) (i : TypeInfo) (z : Value) (size bytes : Nat) (ht : P.underlying t = some (.slice e)) (hi : P.info? e = some i) (hz : i.zero = some z)
    (hsize : i.size = size) (hby : i.bytes = bytes) (hzs : z.cells.size = size) (hsz : 0 < size)
    (v : Value) (n : Nat) (xs : List Value) (hown : w.ownsRow base e size v n xs)
    (ad : Addr) (m c : Nat) (news : List Value) (hl : news.length = m * size) (hnews : ∀ j u, news[j]? = some u → w.cell? (ad.add j) = some u) (h1 : ∀ u ∈ news, u.oneCell' = true)
    (h63 : n + m ≤ maxLen) (hbytes : (n + m) * bytes ≤ 140737488355328) (hbase : base ≤ w.heap.size) :
    ∃ v' w', (Builtin.append_ #[t, t] ty #[v, .slice (some ad) m c]).run P w = .ok v' w' ∧ w'.ownsRow base e size v' (n + m) (xs ++ news) ∧ w.grownBy w' v.ownBlock ∧ (∀ k, v'.ownBlock = some k → v.ownBlock = some k ∨ w.heap.size ≤ k) := by
  rcases hown.2 with ⟨hv, hn⟩ | ⟨g, cap, cur, hv, hb, hg, hnc, hcm, hcs, htake⟩
  · have hown2 : w.ownsRow w.heap.size e size v n xs := ⟨hown.1, .inl ⟨hv, hn⟩⟩
    obtain ⟨v', w', hr, h2, h3, _⟩ := run_append_own (P := P) (w := w) w.heap.size t ty e i z size bytes ht hi hz hsize hby hzs hsz v n xs hown2 ad m c news hl hnews h1 h63 hbytes (Nat.le_refl _)
    exact ⟨v', w', hr, own_base h2 hbase, h3, fun k hk => Or.inr (h2.lt k hk).1⟩
  · subst hv
    by_cases hroom : n + m ≤ cap
    · obtain ⟨v', w', hr, h2, h3, _⟩ := run_append_own (P := P) (w := w) base t ty e i z size bytes ht hi hz hsize hby hzs hsz _ n xs hown ad m c news hl hnews h1 h63 hbytes hbase
      have hfit : n * i.size + news.length ≤ cur.size := by rw [hl, hcs, hsize, ← Nat.add_mul]; exact Nat.mul_le_mul_right _ hroom
      have hr2 := run_append_room (P := P) (w := w) t ty e i ht hi g n cap cur hg ad m c news (by rw [hl, hsize]) hnews h1 hroom hfit
      rw [hr] at hr2
      injection hr2 with e1 e2
      refine ⟨v', w', hr, h2, h3, fun k hk => Or.inl ?_⟩
      rw [e1] at hk; exact hk
    · have holds : ∀ j u, xs[j]? = some u → w.cell? ((⟨g, 0, none⟩ : Addr).add j) = some u := hown.cells (g := g) rfl
      obtain ⟨v', w', hr, h2, h3⟩ := run_append_arg_grows (P := P) w t ty e i z size bytes ht hi hz hsize hby hzs hsz ⟨g, 0, none⟩ n cap xs hown.1 holds ad m c news hl hnews (by omega) h63 hbytes
      exact ⟨v', w', hr, own_base h2 hbase, ⟨h3.os, h3.tape, h3.output, h3.size, fun k hk _ => h3.block k hk (by simp)⟩, fun k hk => Or.inr (h2.lt k hk).1⟩
theorem wpList_append_mine {P : Program} {w : World} {ops : Array Oper} {rest : List Oper} {o : Oper} {a : Act} {Q : Exit → Act → World → Prop} (hgd : o.guard = none) (s x : Operand) (t : TypeId)
    (ho : o.op = .call { callee := .builtin .append, args := #[s, x], argTypes := #[t, t] })
    (base : Nat) (e : TypeId) (i : TypeInfo) (z : Value) (size bytes : Nat) (ht : P.underlying t = some (.slice e)) (hi : P.info? e = some i) (hz : i.zero = some z)
    (hsize : i.size = size) (hby : i.bytes = bytes) (hzs : z.cells.size = size) (hsz : 0 < size)
    (v : Value) (n : Nat) (xs : List Value) (hs : a.eval s = v) (hown : w.ownsRow base e size v n xs)
    (ad : Addr) (m c : Nat) (news : List Value) (hx : a.eval x = .slice (some ad) m c) (hl : news.length = m * size) (hnews : ∀ j u, news[j]? = some u → w.cell? (ad.add j) = some u) (h1 : ∀ u ∈ news, u.oneCell' = true)
    (h63 : n + m ≤ maxLen) (hbytes : (n + m) * bytes ≤ 140737488355328) (hbase : base ≤ w.heap.size)
    (h : ∀ v' w', w'.ownsRow base e size v' (n + m) (xs ++ news) → w.grownBy w' v.ownBlock → (∀ k, v'.ownBlock = some k → v.ownBlock = some k ∨ w.heap.size ≤ k) → wpList P ops Q rest (a.put o.dst v') w') : wpList P ops Q (o :: rest) a w := by
  refine wpList_plain hgd fun K hK => ?_
  obtain ⟨v', w', hrun, h2, h3, h4⟩ := run_append_mine (P := P) (w := w) base t o.type e i z size bytes ht hi hz hsize hby hzs hsz v n xs hown ad m c news hl hnews h1 h63 hbytes hbase
  unfold Oper.wp
  simp [execOp, ho, resolve, invoke, builtin, hs, hx, hrun, Result.andThen]
  exact hK _ _ (h v' w' h2 h3 h4)

/-- a block of this kind -/
def Typ (w : World) (t : TypeId) (b : Nat) : Prop := ∃ cs fr, w.heap[b]? = some (.cells cs t fr)
theorem Typ.ne {w : World} {t t' : TypeId} {b b' : Nat} (h : Typ w t b) (h' : Typ w t' b') (hne : t ≠ t') : b ≠ b' := by
  rintro rfl
  obtain ⟨cs, fr, h⟩ := h
  obtain ⟨cs', fr', h'⟩ := h'
  rw [h] at h'
  injection h' with h'
  injection h' with _ e _
  exact hne e
theorem Typ.own {w : World} {base size n : Nat} {e : TypeId} {v : Value} {xs : List Value} (h : w.ownsRow base e size v n xs) {k : Nat} (hk : v.ownBlock = some k) : Typ w e k := by
  rcases h.2 with ⟨hv, _⟩ | ⟨g, cap, cur, hv, _, hh, _⟩
  · subst hv; cases hk
  · subst hv; injection hk with hk; subst hk; exact ⟨_, _, hh⟩
theorem Typ.lt {w : World} {t : TypeId} {b : Nat} (h : Typ w t b) : b < w.heap.size := by
  obtain ⟨cs, fr, h⟩ := h; exact (Array.getElem?_eq_some_iff.1 h).1
end Go.Proofs.YtgohkmdepjmpaaaDoor.vt

/- How great and how deep a value is: the document's reckoning, and the package's. -/
namespace Go.Proofs.YtgohkmdepjmpaaaDoor.vt
open Go.RowKit mem

def SizeRel (H : Nat) (W : World) (N : Nat) (l : List VT) (n i : Value) (wr : World) : Prop :=
  ∃ (k : Nat) (m : Int), k ≤ N ∧ i = .int .i64 k ∧ n = .int .i64 (wrap64 m) ∧ Hid (m = (sizeL (l.take k) : Int) + 1) ∧ Below H W wr
theorem one_wrap : Value.int .i64 1 = .int .i64 (wrap64 1) := by rw [show wrap64 1 = 1 by unfold wrap64; omega]
theorem wrap_ret {a b : Int} (h : a = b) : Ending.returned (.int .i64 (wrap64 a)) = .returned (.int .i64 (wrap64 b)) := by rw [h]
theorem wrap_sum {a b c : Int} (h : a + b = c) : Value.int .i64 (wrap64 (wrap64 a + wrap64 b)) = .int .i64 (wrap64 c) := by rw [wrap_add, h]
theorem size_step (l : List VT) (k : Nat) (hk : k < l.length) (m : Int) (h : m = (sizeL (l.take k) : Int) + 1) : m + (l[k].size : Int) = (sizeL (l.take (k + 1)) : Int) + 1 := by
  rw [sizeL_take l k hk, h]; omega
theorem size_end (l : List VT) (k : Nat) (hk : ¬ k < l.length) (m : Int) (h : m = (sizeL (l.take k) : Int) + 1) (kd nm : Int) : m = ((VT.mk kd nm l).size : Int) := by
  rw [size_mk, h, List.take_of_length_le (by omega)]; omega
def DeepRel (H : Nat) (W : World) (N : Nat) (l : List VT) (n i : Value) (wr : World) : Prop :=
  ∃ (k : Nat) (m : Int), k ≤ N ∧ i = .int .i64 k ∧ n = .int .i64 m ∧ (0 ≤ m ∧ m ≤ 9223372036854775807) ∧ Hid (m = deepL 0 (l.take k)) ∧ Below H W wr
theorem deep_step (l : List VT) (k : Nat) (hk : k < l.length) (m d r : Int) (h : m = deepL 0 (l.take k)) (hd : d = l[k].deepW) (hr : r = max m d) : r = deepL 0 (l.take (k + 1)) := by
  rw [deepL_take l k hk, hr, h, hd]
theorem deep_end (l : List VT) (k : Nat) (hk : ¬ k < l.length) (m : Int) (h : m = deepL 0 (l.take k)) (kd nm : Int) : wrap64 (m + 1) = (VT.mk kd nm l).deepW := by
  rw [deepW_mk, h, List.take_of_length_le (by omega)]
theorem int_ret {a b : Int} (h : a = b) : Ending.returned (.int .i64 a) = .returned (.int .i64 b) := by rw [h]
end Go.Proofs.YtgohkmdepjmpaaaDoor.vt

/- What is made of numbers, flags and values; copies. -/
namespace Go.Proofs.YtgohkmdepjmpaaaDoor.vt
open Go.RowKit mem

def bit (b : Bool) : Int := if b then 1 else 0
theorem val_ret (k n : Int) (s : Value) (P : Ending → World → Prop) (w : World) (h : P (.returned (.agg #[.int .i64 k, .int .i64 n, s])) w) : P (.returned (.agg #[.int .i64 k, .int .i64 n, s])) w := h
end Go.Proofs.YtgohkmdepjmpaaaDoor.vt

/- A value's copy in new memory. -/
namespace Go.Proofs.YtgohkmdepjmpaaaDoor.vt
open Go.RowKit mem

theorem own_below {w w1 : World} {base : Nat} {e : TypeId} {size n : Nat} {v : Value} {xs : List Value} (h : w.ownsRow base e size v n xs) (hb : Below w.heap.size w w1) : w1.ownsRow base e size v n xs := by
  refine ⟨h.1, ?_⟩
  rcases h.2 with h' | ⟨g, cap, cur, hv, hg, hh, r⟩
  · exact .inl h'
  · exact .inr ⟨g, cap, cur, hv, hg, (hb.block g (Array.getElem?_eq_some_iff.1 hh).1).trans hh, r⟩
theorem set3 (xs : List Value) (a b c a' b' c' : Value) (rest : List Value) (n : Nat) (h : xs.length = n) :
    (((xs ++ (a :: b :: c :: rest)).set n a').set (n + 1) b').set (n + 2) c' = xs ++ (a' :: b' :: c' :: rest) := by
  subst h
  apply List.ext_getElem?
  intro i
  simp only [List.getElem?_set, List.getElem?_append, List.length_set, List.length_append, List.length_cons]
  by_cases h1 : i < xs.length
  · rw [if_neg (by omega), if_neg (by omega), if_neg (by omega)]
    simp [h1]
  · obtain ⟨d, rfl⟩ : ∃ d, i = xs.length + d := ⟨i - xs.length, by omega⟩
    match d with
    | 0 => simp
    | 1 => simp
    | 2 => simp
    | d + 3 => simp [show ¬ xs.length + (d + 3) < xs.length by omega, show xs.length + (d + 3) - xs.length = d + 3 by omega]
end Go.Proofs.YtgohkmdepjmpaaaDoor.vt

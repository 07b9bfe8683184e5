/- Values as plain trees: their sizes, depths, texts, and which are right; nothing of the program. -/
import Derived.WalkKit
import Derived.Lib.ItoaLen
namespace Go.Proofs.Ythohfepolidgkaa.vt
open Go.RowKit

/-- a value of the language: its kind, its number, its kids -/
inductive VT where
  | mk (k n : Int) (l : List VT)
def VT.kind : VT → Int | .mk k _ _ => k
def VT.num : VT → Int | .mk _ n _ => n
def VT.kids : VT → List VT | .mk _ _ l => l
theorem VT.eta (t : VT) : t = .mk t.kind t.num t.kids := by cases t; rfl
theorem VT.mk_inj {k n k' n' : Int} {l l' : List VT} : VT.mk k n l = .mk k' n' l' ↔ k = k' ∧ n = n' ∧ l = l' := by
  constructor
  · intro h; injection h with a b c; exact ⟨a, b, c⟩
  · rintro ⟨rfl, rfl, rfl⟩; rfl
theorem VT.ext_iff' (a b : VT) : a = b ↔ a.kind = b.kind ∧ a.num = b.num ∧ a.kids = b.kids := by
  cases a; cases b; exact VT.mk_inj

mutual
theorem VT.ind {P : VT → Prop} (h : ∀ k n l, (∀ u ∈ l, P u) → P (.mk k n l)) : ∀ t, P t
  | .mk k n l => h k n l (VT.indL h l)
theorem VT.indL {P : VT → Prop} (h : ∀ k n l, (∀ u ∈ l, P u) → P (.mk k n l)) : ∀ (l : List VT), ∀ u ∈ l, P u
  | [] => fun u hu => by cases hu
  | v :: r => List.forall_mem_cons.2 ⟨VT.ind h v, VT.indL h r⟩
end

/-! ### how great, how deep -/
mutual
def VT.size : VT → Nat
  | .mk _ _ l => sizeL l + 1
def sizeL : List VT → Nat
  | [] => 0
  | v :: r => v.size + sizeL r
end
theorem sizeL_append : ∀ a b, sizeL (a ++ b) = sizeL a + sizeL b
  | [], b => by simp [sizeL]
  | v :: r, b => by rw [List.cons_append, sizeL, sizeL, sizeL_append r b]; omega
theorem size_mk (k n : Int) (l : List VT) : (VT.mk k n l).size = sizeL l + 1 := by rw [VT.size]
theorem size_pos (t : VT) : 0 < t.size := by cases t; rw [size_mk]; omega
theorem sizeL_take (l : List VT) (k : Nat) (h : k < l.length) : sizeL (l.take (k + 1)) = sizeL (l.take k) + l[k].size := by
  rw [List.take_succ_eq_append_getElem h, sizeL_append]; simp [sizeL]
theorem len_le_sizeL : ∀ l : List VT, l.length ≤ sizeL l
  | [] => Nat.le_refl _
  | v :: r => by rw [sizeL, List.length_cons]; have := size_pos v; have := len_le_sizeL r; omega
theorem sizeL_take_le (l : List VT) (k : Nat) : sizeL (l.take k) ≤ sizeL l := by
  conv => rhs; rw [← List.take_append_drop k l, sizeL_append]
  omega
theorem mem_sizeL {u : VT} : ∀ {l : List VT}, u ∈ l → u.size ≤ sizeL l
  | v :: r, h => by
    rw [sizeL]
    rcases List.mem_cons.1 h with rfl | h
    · omega
    · have := mem_sizeL h; omega
theorem wrap_add (a b : Int) : wrap64 (wrap64 a + wrap64 b) = wrap64 (a + b) := by unfold wrap64; omega

mutual
def VT.deepW : VT → Int
  | .mk _ _ l => wrap64 (deepL 0 l + 1)
def deepL : Int → List VT → Int
  | m, [] => m
  | m, v :: r => deepL (max m v.deepW) r
end
theorem deepL_append : ∀ a b m, deepL m (a ++ b) = deepL (deepL m a) b
  | [], b, m => by simp [deepL]
  | v :: r, b, m => by rw [List.cons_append, deepL, deepL, deepL_append r b]
theorem deepW_mk (k n : Int) (l : List VT) : (VT.mk k n l).deepW = wrap64 (deepL 0 l + 1) := by rw [VT.deepW]
theorem deepL_take (l : List VT) (k : Nat) (h : k < l.length) : deepL 0 (l.take (k + 1)) = max (deepL 0 (l.take k)) l[k].deepW := by
  rw [List.take_succ_eq_append_getElem h, deepL_append]; simp [deepL]
theorem wrap_bd (n : Int) : -9223372036854775808 ≤ wrap64 n ∧ wrap64 n ≤ 9223372036854775807 := by unfold wrap64; omega
theorem deepW_bd (t : VT) : -9223372036854775808 ≤ t.deepW ∧ t.deepW ≤ 9223372036854775807 := by cases t; rw [deepW_mk]; exact wrap_bd _
theorem deepL_bd : ∀ (l : List VT) (m : Int), 0 ≤ m → m ≤ 9223372036854775807 → 0 ≤ deepL m l ∧ deepL m l ≤ 9223372036854775807
  | [], m, h0, h1 => by rw [deepL]; exact ⟨h0, h1⟩
  | v :: r, m, h0, h1 => by
    rw [deepL]
    have := deepW_bd v
    exact deepL_bd r _ (by omega) (by omega)

/-! ### which are right -/
mutual
def VT.right : VT → Bool
  | .mk k n l => if k = 0 then l.isEmpty else if k = 1 then (decide (n = 0 ∨ n = 1)) && l.isEmpty else if k = 2 ∨ k = 3 then decide (n = 0) && rightL l else false
def rightL : List VT → Bool
  | [] => true
  | v :: r => v.right && rightL r
end
theorem right_mk (k n : Int) (l : List VT) : (VT.mk k n l).right = if k = 0 then l.isEmpty else if k = 1 then (decide (n = 0 ∨ n = 1)) && l.isEmpty else if k = 2 ∨ k = 3 then decide (n = 0) && rightL l else false := by rw [VT.right]
theorem rightL_all : ∀ l : List VT, rightL l = l.all VT.right
  | [] => rfl
  | v :: r => by rw [rightL, List.all_cons, rightL_all r]
theorem rightL_append (a b : List VT) : rightL (a ++ b) = (rightL a && rightL b) := by simp only [rightL_all, List.all_append]
theorem rightL_take (l : List VT) (k : Nat) (h : k < l.length) : rightL (l.take (k + 1)) = (rightL (l.take k) && l[k].right) := by
  rw [List.take_succ_eq_append_getElem h, rightL_append]; simp [rightL]
theorem rightL_bad (l : List VT) (k : Nat) (h : k < l.length) (hr : l[k].right = false) : rightL l = false := by
  rw [rightL_all, List.all_eq_false]; exact ⟨l[k], List.getElem_mem h, by simp [hr]⟩
theorem rightL_mem {l : List VT} (h : rightL l = true) {u : VT} (hu : u ∈ l) : u.right = true := by
  rw [rightL_all] at h; exact List.all_eq_true.1 h u hu

/-! ### texts -/
def txtTrue : List UInt8 := [116, 114, 117, 101]
def txtFalse : List UInt8 := [102, 97, 108, 115, 101]
mutual
/-- a right value's text -/
def VT.text : VT → List UInt8
  | .mk k n l => if k = 0 then Lib.itoa n else if k = 1 then (if n = 1 then txtTrue else txtFalse) else if k = 3 then [123] ++ textL l ++ [125] else [91] ++ textL l ++ [93]
def textL : List VT → List UInt8
  | [] => []
  | v :: r => v.text ++ tailL r
/-- the texts of more of them, each behind a comma and a blank -/
def tailL : List VT → List UInt8
  | [] => []
  | v :: r => [44, 32] ++ v.text ++ tailL r
end
theorem text_mk (k n : Int) (l : List VT) : (VT.mk k n l).text = if k = 0 then Lib.itoa n else if k = 1 then (if n = 1 then txtTrue else txtFalse) else if k = 3 then [123] ++ textL l ++ [125] else [91] ++ textL l ++ [93] := by rw [VT.text]
theorem tailL_append : ∀ a b, tailL (a ++ b) = tailL a ++ tailL b
  | [], b => by simp [tailL]
  | v :: r, b => by rw [List.cons_append, tailL, tailL, tailL_append r b]; simp [List.append_assoc]
theorem textL_snoc : ∀ (a : List VT) (v : VT), textL (a ++ [v]) = textL a ++ (if a.isEmpty then [] else [44, 32]) ++ v.text
  | [], v => by simp [textL, tailL]
  | u :: r, v => by rw [List.cons_append, textL, textL, tailL_append]; simp [tailL, List.append_assoc]
theorem textL_take (l : List VT) (k : Nat) (h : k < l.length) : textL (l.take (k + 1)) = textL (l.take k) ++ (if k = 0 then [] else [44, 32]) ++ l[k].text := by
  rw [List.take_succ_eq_append_getElem h, textL_snoc]
  congr 2
  by_cases hk : k = 0
  · subst hk; simp
  · rw [if_neg hk, if_neg]
    intro he
    have := congrArg List.length (List.isEmpty_iff.1 he)
    rw [List.length_take, List.length_nil] at this
    omega
theorem itoa_len (n : Int) (h : -9223372036854775808 ≤ n ∧ n ≤ 9223372036854775807) : (Lib.itoa n).length ≤ 21 := Lib.itoa_length_le n h.1 h.2
mutual
/-- all numbers fit 64 bits -/
def VT.fits : VT → Prop
  | .mk k n l => ((-9223372036854775808 ≤ k ∧ k ≤ 9223372036854775807) ∧ (-9223372036854775808 ≤ n ∧ n ≤ 9223372036854775807)) ∧ fitsL l
def fitsL : List VT → Prop
  | [] => True
  | v :: r => v.fits ∧ fitsL r
end
theorem fits_mk (k n : Int) (l : List VT) : (VT.mk k n l).fits ↔ ((-9223372036854775808 ≤ k ∧ k ≤ 9223372036854775807) ∧ (-9223372036854775808 ≤ n ∧ n ≤ 9223372036854775807)) ∧ fitsL l := by rw [VT.fits]
theorem fitsL_mem : ∀ {l : List VT}, fitsL l → ∀ u ∈ l, u.fits
  | v :: r, h, u, hu => by
    rw [fitsL] at h
    rcases List.mem_cons.1 hu with rfl | hu
    · exact h.1
    · exact fitsL_mem h.2 u hu
theorem fitsL_of : ∀ {l : List VT}, (∀ u ∈ l, u.fits) → fitsL l
  | [], _ => by rw [fitsL]; trivial
  | v :: r, h => by rw [fitsL]; exact ⟨h v (by simp), fitsL_of fun u hu => h u (by simp [hu])⟩
mutual
theorem text_len : ∀ t : VT, t.fits → t.text.length + 2 ≤ 24 * t.size
  | .mk k n l, h => by
    rw [fits_mk] at h
    rw [text_mk, size_mk]
    have h1 := itoa_len n h.1.2
    have h2 := textL_len l h.2
    split
    · omega
    · split
      · split <;> simp [txtTrue, txtFalse] <;> omega
      · split <;> simp only [List.length_append, List.length_singleton] <;> omega
theorem textL_len : ∀ l : List VT, fitsL l → (textL l).length ≤ 24 * sizeL l
  | [], _ => by simp [textL]
  | v :: r, h => by
    rw [fitsL] at h
    rw [textL, sizeL, List.length_append]
    have h1 := text_len v h.1
    have h2 := tailL_len r h.2
    omega
theorem tailL_len : ∀ l : List VT, fitsL l → (tailL l).length ≤ 24 * sizeL l
  | [], _ => by simp [tailL]
  | v :: r, h => by
    rw [fitsL] at h
    rw [tailL, sizeL, List.length_append, List.length_append]
    have h1 := text_len v h.1
    have h2 := tailL_len r h.2
    simp only [List.length_cons, List.length_nil]
    omega
end
end Go.Proofs.Ythohfepolidgkaa.vt

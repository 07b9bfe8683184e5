/- Whether a value is right: the document's answer, and the package's. -/
import Derived.Test.YtlejcmojimkjeaaValSize
namespace Go.Proofs.Ytlejcmojimkjeaa.vt
open Go.RowKit mem

theorem bool_ret {a b : Bool} (h : a = b) : Ending.returned (.bool a) = .returned (.bool b) := by rw [h]
theorem beq_ne {a b : Int} (h : a ≠ b) : (a == b) = false := by simpa using h
theorem beq_yes {a b : Int} (h : a = b) : (a == b) = true := by simpa using h
def LoopRel (H : Nat) (W : World) (N : Nat) (P : Nat → Prop) (i : Value) (wr : World) : Prop :=
  ∃ k : Nat, k ≤ N ∧ i = .int .i64 k ∧ Hid (P k) ∧ Below H W wr
theorem right_more (l : List VT) (k : Nat) (hk : k < l.length) (h : rightL (l.take k) = true) (hr : l[k].right = true) : rightL (l.take (k + 1)) = true := by
  rw [rightL_take l k hk, h, hr]; rfl
theorem isEmpty_of {l : List VT} {N : Nat} (h : N = l.length) : l.isEmpty = ((N : Int) == 0) := by
  subst h
  cases l with
  | nil => rfl
  | cons a r =>
    have : ((((a :: r).length : Nat) : Int) == 0) = false := beq_ne (by rw [List.length_cons]; omega)
    rw [this]; rfl
def RightOf (G : Nat → Prop) (F : FuncId) (t : VT) : Prop := ∀ (s : Value) (w : World), Kids G w t.kids s →
    Calls Try.prog F #[.agg #[.int .i64 t.kind, .int .i64 t.num, s]] w fun e w' => e = .returned (.bool t.right) ∧ Below w.heap.size w w'
end Go.Proofs.Ytlejcmojimkjeaa.vt

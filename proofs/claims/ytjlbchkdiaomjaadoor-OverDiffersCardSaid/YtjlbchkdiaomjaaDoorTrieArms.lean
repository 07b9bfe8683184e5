/- The arms of a node: those that are there, in their order; the sixteen bits that tell which. -/
import Derived.Test.YtjlbchkdiaomjaaDoorTrieMath
namespace Go.Proofs.YtjlbchkdiaomjaaDoor.tri

theorem flatMap_same {α β : Type} {f g : α → List β} : ∀ l : List α, (∀ x ∈ l, f x = g x) → l.flatMap f = l.flatMap g
  | [], _ => rfl
  | x :: l, h => by rw [List.flatMap_cons, List.flatMap_cons, h x (by simp), flatMap_same l fun y hy => h y (by simp [hy])]
def one : Tr → List Tr
  | .none => []
  | .pair k v => [.pair k v]
  | .kid b a => [.kid b a]
theorem one_isN {t : Tr} (h : isN t = true) : one t = [] := by rw [isN_none h]; rfl
theorem one_not {t : Tr} (h : isN t = false) : one t = [t] := by cases t <;> first | rfl | exact absurd h (by simp [isN])
def pre (a : Nat → Tr) (n : Nat) : List Tr := (List.range n).flatMap fun f => one (a f)
def post (a : Nat → Tr) (n : Nat) : List Tr := (List.range' (n + 1) (15 - n)).flatMap fun f => one (a f)
def subs (a : Nat → Tr) : List Tr := pre a 16
theorem pre_succ (a : Nat → Tr) (n : Nat) : pre a (n + 1) = pre a n ++ one (a n) := by
  unfold pre; rw [List.range_succ, List.flatMap_append]; simp
theorem subs_split (a : Nat → Tr) (f : Nat) (hf : f < 16) : subs a = pre a f ++ (one (a f) ++ post a f) := by
  unfold subs pre post
  have h : List.range 16 = List.range f ++ ([f] ++ List.range' (f + 1) (15 - f)) := by
    rw [List.range_eq_range', List.range_eq_range']
    have e1 : List.range' 0 16 = List.range' 0 f ++ List.range' f (16 - f) := by
      have := List.range'_append_1 (s := 0) (m := f) (n := 16 - f)
      rw [Nat.zero_add, show f + (16 - f) = 16 by omega] at this
      exact this.symm
    rw [e1, show 16 - f = (15 - f) + 1 by omega, List.range'_succ]
    rfl
  rw [h, List.flatMap_append, List.flatMap_append]
  simp
theorem pre_upd (a : Nat → Tr) (f : Nat) (r : Tr) : pre (upd a f r) f = pre a f := by
  unfold pre
  refine flatMap_same _ fun g hg => ?_
  rw [upd_ne _ _ _ _ (by have := List.mem_range.1 hg; omega)]
theorem post_upd (a : Nat → Tr) (f : Nat) (r : Tr) : post (upd a f r) f = post a f := by
  unfold post
  refine flatMap_same _ fun g hg => ?_
  rw [upd_ne _ _ _ _ (by have := (List.mem_range'_1.1 hg).1; omega)]
theorem subs_upd (a : Nat → Tr) (f : Nat) (r : Tr) (hf : f < 16) : subs (upd a f r) = pre a f ++ (one r ++ post a f) := by
  rw [subs_split _ f hf, pre_upd, post_upd, upd_at]
theorem one_len (t : Tr) : (one t).length ≤ 1 := by cases t <;> simp [one]
theorem pre_len (a : Nat → Tr) : ∀ n, (pre a n).length ≤ n
  | 0 => by simp [pre]
  | n + 1 => by rw [pre_succ, List.length_append]; have := pre_len a n; have := one_len (a n); omega
theorem subs_len (a : Nat → Tr) : (subs a).length ≤ 16 := pre_len a 16
theorem mem_subs {a : Nat → Tr} {t : Tr} (h : t ∈ subs a) : ∃ f, f < 16 ∧ t = a f ∧ isN t = false := by
  unfold subs pre at h
  rw [List.mem_flatMap] at h
  obtain ⟨f, hf, h⟩ := h
  refine ⟨f, List.mem_range.1 hf, ?_⟩
  cases ha : a f <;> rw [ha] at h <;> simp [one] at h
  · exact ⟨h, by rw [h]; rfl⟩
  · exact ⟨h, by rw [h]; rfl⟩
theorem toL_subs (b : Nat) (a : Nat → Tr) : toL (.kid b a) = (subs a).flatMap toL := by
  have h : ∀ n, ((List.range n).flatMap fun f => toL (a f)) = (pre a n).flatMap toL := by
    intro n
    induction n with
    | zero => rfl
    | succ n ih =>
      rw [pre_succ, List.range_succ, List.flatMap_append, List.flatMap_append, ih]
      congr 1
      cases ha : a n <;> simp [one, toL, ha]
  exact h 16
/-- an arm of a pair, alone: the others are none -/
theorem slim_of {b : Nat} {a : Nat → Tr} {k v : Int} (h : subs a = [.pair k v]) : Slim (.kid b a) (.pair k v) := by
  have hm : Tr.pair k v ∈ subs a := by rw [h]; exact List.mem_singleton.2 rfl
  obtain ⟨f, hf, ha, _⟩ := mem_subs hm
  refine .inr ⟨b, a, f, k, v, rfl, hf, ha.symm, fun g hg hne => ?_, rfl⟩
  cases hn : isN (a g) with
  | true => exact isN_none hn
  | false =>
    exfalso
    rw [subs_split a f hf, ← ha] at h
    have h1 := congrArg List.length h
    simp only [List.length_append, one, List.length_cons, List.length_nil] at h1
    rcases Nat.lt_or_gt_of_ne hne with hlt | hgt
    · have : a g ∈ pre a f := by
        unfold pre; rw [List.mem_flatMap]; exact ⟨g, List.mem_range.2 hlt, by rw [one_not hn]; exact List.mem_singleton.2 rfl⟩
      have := List.length_pos_of_mem this
      omega
    · have : a g ∈ post a f := by
        unfold post; rw [List.mem_flatMap]; exact ⟨g, List.mem_range'_1.2 ⟨by omega, by omega⟩, by rw [one_not hn]; exact List.mem_singleton.2 rfl⟩
      have := List.length_pos_of_mem this
      omega

/-- which arms there are, as bits -/
def hasTo (a : Nat → Tr) : Nat → Nat
  | 0 => 0
  | n + 1 => hasTo a n ||| (if isN (a n) = true then 0 else 2 ^ n)
def hasS (a : Nat → Tr) : Nat := hasTo a 16
theorem has_bit (a : Nat → Tr) : ∀ n i, (hasTo a n).testBit i = (decide (i < n) && !isN (a i))
  | 0, i => by simp [hasTo]
  | n + 1, i => by
    rw [hasTo, Nat.testBit_or, has_bit a n i]
    by_cases h : i = n
    · subst h
      cases hn : isN (a i) <;> simp
    · have h1 : decide (i < n + 1) = decide (i < n) := by
        by_cases h2 : i < n
        · simp [h2, Nat.lt_succ_of_lt h2]
        · have : ¬ i < n + 1 := by omega
          simp [h2, this]
      rw [h1]
      have h3 : (if isN (a n) = true then 0 else 2 ^ n).testBit i = false := by
        split
        · simp
        · rw [Nat.testBit_two_pow]; simp; omega
      rw [h3]; simp
theorem hasS_bit (a : Nat → Tr) (i : Nat) : (hasS a).testBit i = (decide (i < 16) && !isN (a i)) := has_bit a 16 i
theorem hasS_lt (a : Nat → Tr) : hasS a < 65536 := by
  apply Classical.byContradiction
  intro h
  obtain ⟨i, hi, hb⟩ := Nat.exists_ge_and_testBit_of_ge_two_pow (n := 16) (x := hasS a) (by omega)
  rw [hasS_bit] at hb
  have : ¬ i < 16 := by omega
  simp [this] at hb
def pop (x : Nat) : Nat := sumTo 16 fun i => (x.testBit i).toNat
theorem sum_pre (a : Nat → Tr) (f : Nat) : ∀ n, sumTo n (fun i => ((decide (i < f) && !isN (a i)).toNat)) = (pre a (min n f)).length
  | 0 => by simp [sumTo, pre]
  | n + 1 => by
    show sumTo n _ + _ = _
    rw [sum_pre a f n]
    by_cases h : n < f
    · rw [show min n f = n by omega, show min (n + 1) f = n + 1 by omega, pre_succ, List.length_append]
      cases ha : isN (a n) with
      | true => rw [one_isN ha]; simp [h, ha]
      | false => rw [one_not ha]; simp [h, ha]
    · rw [show min n f = f by omega, show min (n + 1) f = f by omega]; simp [h]
theorem pop_low (a : Nat → Tr) (f : Nat) (hf : f < 16) : pop (hasS a % 2 ^ f) = (pre a f).length := by
  unfold pop
  rw [show (pre a f).length = (pre a (min 16 f)).length by rw [show min 16 f = f by omega], ← sum_pre a f 16]
  refine sumTo_congr 16 fun i hi => ?_
  rw [Nat.testBit_mod_two_pow, hasS_bit]
  simp [hi]
theorem has_and (a : Nat → Tr) (f : Nat) (hf : f < 16) : hasS a &&& 2 ^ f = if isN (a f) = true then 0 else 2 ^ f := by
  apply Nat.eq_of_testBit_eq
  intro i
  rw [Nat.testBit_and, hasS_bit]
  by_cases h : i = f
  · subst h
    cases hn : isN (a i) <;> simp [hf]
  · have h' : f ≠ i := fun e => h e.symm
    have h1 : (2 ^ f).testBit i = false := by rw [Nat.testBit_two_pow]; simp [h']
    rw [h1]; split <;> simp [h1]
theorem has_or (a : Nat → Tr) (f : Nat) (r : Tr) (hf : f < 16) (hr : isN r = false) : hasS a ||| 2 ^ f = hasS (upd a f r) := by
  apply Nat.eq_of_testBit_eq
  intro i
  rw [Nat.testBit_or, hasS_bit, hasS_bit]
  by_cases h : i = f
  · subst h; rw [upd_at]; simp [hr, hf]
  · have h' : f ≠ i := fun e => h e.symm
    rw [upd_ne _ _ _ _ h, Nat.testBit_two_pow]; simp [h']
theorem has_same (a : Nat → Tr) (f : Nat) (r : Tr) (ha : isN (a f) = false) (hr : isN r = false) : hasS (upd a f r) = hasS a := by
  apply Nat.eq_of_testBit_eq
  intro i
  rw [hasS_bit, hasS_bit]
  by_cases h : i = f
  · subst h; rw [upd_at, ha, hr]
  · rw [upd_ne _ _ _ _ h]
theorem has_off (a : Nat → Tr) (f i : Nat) : (hasS (upd a f .none)).testBit i = ((hasS a).testBit i && !(decide (i = f))) := by
  rw [hasS_bit, hasS_bit]
  by_cases h : i = f
  · subst h; rw [upd_at]; simp [isN]
  · rw [upd_ne _ _ _ _ h]; simp [h]
theorem has_bare (f : Nat) (r : Tr) (hf : f < 16) (hr : isN r = false) : hasS (upd bare f r) = 2 ^ f := by
  rw [← has_or bare f r hf hr]
  have : hasS bare = 0 := by decide
  rw [this, Nat.zero_or]
theorem subs_bare (f : Nat) (r : Tr) (hf : f < 16) (hr : isN r = false) : subs (upd bare f r) = [r] := by
  rw [subs_upd _ _ _ hf, one_not hr]
  have h1 : pre bare f = [] := by unfold pre; rw [List.flatMap_eq_nil_iff]; intro g _; rfl
  have h2 : post bare f = [] := by unfold post; rw [List.flatMap_eq_nil_iff]; intro g _; rfl
  rw [h1, h2]; rfl
end Go.Proofs.YtjlbchkdiaomjaaDoor.tri

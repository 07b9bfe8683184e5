/- The maps of layer 4 as plain trees: what put, drop, count and share make of them. Lists and arithmetic alone. -/
import Derived.Test.YtjlbchkdiaomjaaDoorMixInv
namespace Go.Proofs.YtjlbchkdiaomjaaDoor.tri
open mx

/-- an arm: none, a pair, a further node (its block, and its arms by four bits) -/
inductive Tr where
  | none : Tr
  | pair (k v : Int) : Tr
  | kid (b : Nat) (a : Nat → Tr) : Tr
def isN : Tr → Bool
  | .none => true
  | _ => false
theorem isN_none {t : Tr} (h : isN t = true) : t = .none := by cases t <;> first | rfl | exact absurd h (by simp [isN])
/-- a number of 64 bits with a sign, modulo 2^64; a key's number; its four bits of a level -/
def u64 (n : Int) : Nat := (n % 18446744073709551616).toNat
theorem u64_le (n : Int) : u64 n ≤ 18446744073709551615 := by unfold u64; omega
def I64 (k : Int) : Prop := -9223372036854775808 ≤ k ∧ k ≤ 9223372036854775807
def num (k : Int) : Nat := mixS (u64 k)
theorem num_le (k : Int) : num k ≤ 18446744073709551615 := mixS_le _
theorem num_inj {k l : Int} (hk : I64 k) (hl : I64 l) (h : num k = num l) : k = l := by
  have h1 := (mixS_inj _ _ (u64_le k) (u64_le l)).1 h
  unfold u64 at h1; unfold I64 at hk hl; omega
def nib (k : Int) (lv : Nat) : Nat := nibS (num k) lv
theorem nib_lt (k : Int) (lv : Nat) : nib k lv < 16 := by unfold nib nibS; omega
theorem num_deep (k : Int) (lv : Nat) (h : 16 ≤ lv) : num k % 16 ^ lv = num k := by
  apply Nat.mod_eq_of_lt
  have h1 : (16 : Nat) ^ 16 ≤ 16 ^ lv := Nat.pow_le_pow_right (by decide) h
  have h2 : (16 : Nat) ^ 16 = 18446744073709551616 := by decide
  have := num_le k
  omega
theorem num_step (k : Int) (lv : Nat) : num k % 16 ^ (lv + 1) = num k % 16 ^ lv + 16 ^ lv * nib k lv := by
  unfold nib nibS; rw [Nat.pow_succ, Nat.mod_mul]
theorem nib_of {k : Int} {lv x f : Nat} (h : num k % 16 ^ (lv + 1) = x + 16 ^ lv * f) (hx : num k % 16 ^ lv = x) : nib k lv = f := by
  rw [num_step, hx] at h
  have h1 : 16 ^ lv * nib k lv = 16 ^ lv * f := by omega
  exact Nat.eq_of_mul_eq_mul_left (Nat.pow_pos (by decide)) h1
def upd (a : Nat → Tr) (f : Nat) (r : Tr) : Nat → Tr := fun g => if g = f then r else a g
theorem upd_at (a : Nat → Tr) (f : Nat) (r : Tr) : upd a f r f = r := by simp [upd]
theorem upd_ne (a : Nat → Tr) (f g : Nat) (r : Tr) (h : g ≠ f) : upd a f r g = a g := by simp [upd, h]
def bare : Nat → Tr := fun _ => .none
/-- the pairs, as they lie -/
def toL : Tr → List (Int × Int)
  | .none => []
  | .pair k v => [(k, v)]
  | .kid _ a => (List.range 16).flatMap fun f => toL (a f)
def get : Tr → Nat → Int → Option Int
  | .none, _, _ => .none
  | .pair k v, _, key => if k = key then some v else .none
  | .kid _ a, lv, key => get (a (nib key lv)) (lv + 1) key
theorem get_kid (b : Nat) (a : Nat → Tr) (lv : Nat) (key : Int) : get (.kid b a) lv key = get (a (nib key lv)) (lv + 1) key := rfl
/-- a part of a map at a level, behind these bits -/
def Ok : Tr → Nat → Nat → Prop
  | .none, _, _ => True
  | .pair k _, lv, x => I64 k ∧ num k % 16 ^ lv = x
  | .kid _ a, lv, x => lv ≤ 15 ∧ ∀ f, f < 16 → Ok (a f) (lv + 1) (x + 16 ^ lv * f)
def sumTo : Nat → (Nat → Nat) → Nat
  | 0, _ => 0
  | n + 1, g => sumTo n g + g n
theorem sumTo_le {g h : Nat → Nat} : ∀ n, (∀ i, i < n → g i ≤ h i) → sumTo n g ≤ sumTo n h
  | 0, _ => Nat.le_refl _
  | n + 1, H => Nat.add_le_add (sumTo_le n fun i hi => H i (by omega)) (H n (by omega))
theorem sumTo_congr {g h : Nat → Nat} : ∀ n, (∀ i, i < n → g i = h i) → sumTo n g = sumTo n h
  | 0, _ => rfl
  | n + 1, H => by unfold sumTo; rw [sumTo_congr n fun i hi => H i (by omega), H n (by omega)]
theorem sumTo_add (g h : Nat → Nat) : ∀ n, sumTo n (fun i => g i + h i) = sumTo n g + sumTo n h
  | 0 => rfl
  | n + 1 => by show sumTo n _ + (g n + h n) = (sumTo n g + g n) + (sumTo n h + h n); rw [sumTo_add g h n]; omega
theorem sumTo_one (c f : Nat) : ∀ n, sumTo n (fun i => if i = f then c else 0) = if f < n then c else 0
  | 0 => by simp [sumTo]
  | n + 1 => by
    unfold sumTo; rw [sumTo_one c f n]
    by_cases h1 : f < n
    · have h2 : ¬ n = f := by omega
      have h3 : f < n + 1 := by omega
      simp [h1, h2, h3]
    · by_cases h2 : n = f
      · have h3 : f < n + 1 := by omega
        simp [h2]
      · have h3 : ¬ f < n + 1 := by omega
        simp [h1, h2, h3]
theorem sumTo_zero : ∀ n, sumTo n (fun _ => 0) = 0
  | 0 => rfl
  | n + 1 => by show sumTo n _ + 0 = 0; rw [sumTo_zero n]
theorem sumTo_const (c : Nat) : ∀ n, sumTo n (fun _ => c) = n * c
  | 0 => by simp [sumTo]
  | n + 1 => by unfold sumTo; rw [sumTo_const c n, Nat.succ_mul]
/-- how many nodes both have, behind the same bits -/
def sh : Tr → Tr → Nat
  | .none, _ => 0
  | .pair _ _, _ => 0
  | .kid b a, u => match u with
    | .none => 0
    | .pair _ _ => 0
    | .kid c e => (if b = c then 1 else 0) + sumTo 16 fun f => sh (a f) (e f)
/-- the same, but for the first ones -/
def sh0 : Tr → Tr → Nat
  | .none, _ => 0
  | .pair _ _, _ => 0
  | .kid _ a, u => match u with
    | .none => 0
    | .pair _ _ => 0
    | .kid _ e => sumTo 16 fun f => sh (a f) (e f)
theorem sh_kid (b c : Nat) (a e : Nat → Tr) : sh (.kid b a) (.kid c e) = (if b = c then 1 else 0) + sumTo 16 fun f => sh (a f) (e f) := by simp [sh]
theorem sh0_kid (b c : Nat) (a e : Nat → Tr) : sh0 (.kid b a) (.kid c e) = sumTo 16 fun f => sh (a f) (e f) := rfl
theorem sh0_le (t u : Tr) : sh0 t u ≤ sh t u := by
  cases t <;> cases u <;> simp [sh, sh0]
theorem sh_symm (t : Tr) : ∀ u, sh t u = sh u t := by
  induction t with
  | none => intro u; cases u <;> simp [sh]
  | pair k v => intro u; cases u <;> simp [sh]
  | kid b a ih =>
    intro u
    cases u with
    | none => simp [sh]
    | pair k v => simp [sh]
    | kid c e =>
      rw [sh_kid, sh_kid, sumTo_congr 16 fun i _ => ih i (e i)]
      by_cases h : b = c
      · simp [h]
      · have h' : ¬ c = b := fun e => h e.symm
        simp [h, h']
def cap : Nat → Nat
  | 0 => 0
  | d + 1 => 1 + 16 * cap d
theorem sh_bound (t : Tr) : ∀ lv x u, Ok t lv x → sh t u ≤ cap (16 - lv) := by
  induction t with
  | none => intro lv x u _; simp [sh]
  | pair k v => intro lv x u _; simp [sh]
  | kid b a ih =>
    intro lv x u h
    obtain ⟨hlv, h⟩ := h
    cases u with
    | none => simp [sh]
    | pair k v => simp [sh]
    | kid c e =>
      rw [sh_kid, show 16 - lv = (16 - (lv + 1)) + 1 by omega, cap]
      have h1 : sumTo 16 (fun f => sh (a f) (e f)) ≤ sumTo 16 (fun _ => cap (16 - (lv + 1))) := sumTo_le 16 fun i hi => ih i (lv + 1) _ (e i) (h i hi)
      rw [sumTo_const] at h1
      split <;> omega
theorem cap16 : cap 16 = 1229782938247303441 := by decide
theorem cap_le (d : Nat) (h : d ≤ 16) : cap d ≤ 1229782938247303441 := by
  have : d = 0 ∨ d = 1 ∨ d = 2 ∨ d = 3 ∨ d = 4 ∨ d = 5 ∨ d = 6 ∨ d = 7 ∨ d = 8 ∨ d = 9 ∨ d = 10 ∨ d = 11 ∨ d = 12 ∨ d = 13 ∨ d = 14 ∨ d = 15 ∨ d = 16 := by omega
  rcases this with rfl | rfl | rfl | rfl | rfl | rfl | rfl | rfl | rfl | rfl | rfl | rfl | rfl | rfl | rfl | rfl | rfl <;> decide
theorem sh_part {a e : Nat → Tr} : ∀ n m, n ≤ m → sumTo n (fun f => sh (a f) (e f)) ≤ sumTo m (fun f => sh (a f) (e f))
  | n, 0, h => by have : n = 0 := by omega
                  subst this; exact Nat.le_refl _
  | n, m + 1, h => by
    by_cases hn : n = m + 1
    · subst hn; exact Nat.le_refl _
    · have := sh_part (a := a) (e := e) n m (by omega)
      show _ ≤ sumTo m _ + _
      exact Nat.le_trans this (Nat.le_add_right _ _)

/-- what a put makes of an arm -/
inductive PutT (k v : Int) : Nat → Tr → Tr → Prop where
  | new (lv : Nat) : PutT k v lv .none (.pair k v)
  | same (lv : Nat) (v0 : Int) : PutT k v lv (.pair k v0) (.pair k v)
  | split (lv : Nat) (l u : Int) (b0 : Nat) (t : Tr) : l ≠ k → PutT k v lv (.kid b0 (upd bare (nib l lv) (.pair l u))) t → PutT k v lv (.pair l u) t
  | kid (lv b : Nat) (a : Nat → Tr) (b1 : Nat) (r : Tr) : PutT k v (lv + 1) (a (nib k lv)) r → PutT k v lv (.kid b a) (.kid b1 (upd a (nib k lv) r))
theorem lv_of {k l : Int} {lv x : Nat} (hk : I64 k) (hl : I64 l) (h1 : num k % 16 ^ lv = x) (h2 : num l % 16 ^ lv = x) (hne : l ≠ k) : lv ≤ 15 := by
  apply Classical.byContradiction
  intro h
  rw [num_deep _ _ (by omega)] at h1 h2
  exact hne (num_inj hl hk (by omega))
theorem single_ok {l u : Int} {lv x b0 : Nat} (hl : I64 l) (h : num l % 16 ^ lv = x) (hlv : lv ≤ 15) : Ok (.kid b0 (upd bare (nib l lv) (.pair l u))) lv x := by
  refine ⟨hlv, fun f _ => ?_⟩
  by_cases hf : f = nib l lv
  · subst hf; rw [upd_at]; exact ⟨hl, by rw [num_step, h]⟩
  · rw [upd_ne _ _ _ _ hf]; trivial
theorem single_get {l u : Int} {lv b0 : Nat} (key : Int) : get (.kid b0 (upd bare (nib l lv) (.pair l u))) lv key = get (.pair l u) lv key := by
  rw [get_kid]
  by_cases h : nib key lv = nib l lv
  · rw [h, upd_at]; rfl
  · rw [upd_ne _ _ _ _ h]
    have : ¬ l = key := fun e => h (by rw [e])
    simp [get, bare, this]
theorem single_sh0 {l u : Int} {lv b0 : Nat} (t : Tr) : sh0 (.kid b0 (upd bare (nib l lv) (.pair l u))) t = 0 := by
  cases t with
  | none => rfl
  | pair k v => rfl
  | kid c e =>
    rw [sh0_kid, ← sumTo_zero 16]
    refine sumTo_congr 16 fun i _ => ?_
    by_cases h : i = nib l lv
    · subst h; rw [upd_at]; rfl
    · rw [upd_ne _ _ _ _ h]; rfl
/-- more nodes than both have: at most as many as levels are left -/
theorem count_upd {a : Nat → Tr} {f lv b b1 : Nat} {r : Tr} (hlv : lv ≤ 15) (hf : f < 16) (h : sh r r ≤ sh (a f) r + (16 - (lv + 1))) :
    sh (.kid b1 (upd a f r)) (.kid b1 (upd a f r)) ≤ sh0 (.kid b a) (.kid b1 (upd a f r)) + (16 - lv) := by
  rw [sh_kid, sh0_kid, if_pos rfl]
  have h1 : sumTo 16 (fun g => sh (upd a f r g) (upd a f r g)) ≤ sumTo 16 (fun g => sh (a g) (upd a f r g) + if g = f then 16 - (lv + 1) else 0) := by
    refine sumTo_le 16 fun i _ => ?_
    by_cases hi : i = f
    · subst hi; rw [upd_at, if_pos rfl]; exact h
    · rw [upd_ne _ _ _ _ hi, if_neg hi]; exact Nat.le_refl _
  rw [sumTo_add, sumTo_one, if_pos hf] at h1
  omega
theorem put_ok {k v : Int} {lv : Nat} {t t' : Tr} (h : PutT k v lv t t') : ∀ x, Ok t lv x → I64 k → num k % 16 ^ lv = x →
    Ok t' lv x ∧ (∀ key, num key % 16 ^ lv = x → get t' lv key = if key = k then some v else get t lv key) ∧ sh t' t' ≤ sh0 t t' + (16 - lv) := by
  induction h with
  | new lv =>
    intro x _ hk hx
    refine ⟨⟨hk, hx⟩, fun key _ => ?_, by simp [sh]⟩
    by_cases h : key = k
    · subst h; simp [get]
    · have h' : ¬ k = key := fun e => h e.symm
      simp [get, h, h']
  | same lv v0 =>
    intro x _ hk hx
    refine ⟨⟨hk, hx⟩, fun key _ => ?_, by simp [sh]⟩
    by_cases h : key = k
    · subst h; simp [get]
    · have h' : ¬ k = key := fun e => h e.symm
      simp [get, h, h']
  | split lv l u b0 t hne _ ih =>
    intro x ho hk hx
    obtain ⟨hl, hlx⟩ := ho
    obtain ⟨h1, h2, h3⟩ := ih x (single_ok hl hlx (lv_of hk hl hx hlx hne)) hk hx
    refine ⟨h1, fun key hkey => ?_, ?_⟩
    · rw [h2 key hkey, single_get]
    · rw [single_sh0] at h3; simp only [sh0]; omega
  | kid lv b a b1 r _ ih =>
    intro x ho hk hx
    obtain ⟨hlv, ho⟩ := ho
    have hf := nib_lt k lv
    obtain ⟨h1, h2, h3⟩ := ih (x + 16 ^ lv * nib k lv) (ho _ hf) hk (by rw [num_step, hx])
    refine ⟨⟨hlv, fun f hf' => ?_⟩, fun key hkey => ?_, count_upd hlv hf (by have := sh0_le (a (nib k lv)) r; omega)⟩
    · by_cases h : f = nib k lv
      · subst h; rw [upd_at]; exact h1
      · rw [upd_ne _ _ _ _ h]; exact ho f hf'
    · rw [get_kid]
      by_cases h : nib key lv = nib k lv
      · rw [h, upd_at, h2 key (by rw [num_step, hkey, h]), get_kid, h]
      · rw [upd_ne _ _ _ _ h, get_kid, if_neg (fun e => h (by rw [e]))]
/-- a node with one pair may be told by the pair -/
def Slim (r s : Tr) : Prop := s = r ∨ ∃ b a f k v, r = .kid b a ∧ f < 16 ∧ a f = .pair k v ∧ (∀ g, g < 16 → g ≠ f → a g = .none) ∧ s = .pair k v
inductive DropT (k : Int) : Nat → Tr → Tr → Prop where
  | lone (lv : Nat) (v0 : Int) : DropT k lv (.pair k v0) .none
  | kid (lv b : Nat) (a : Nat → Tr) (b1 : Nat) (r s : Tr) : DropT k (lv + 1) (a (nib k lv)) r → Slim r s → DropT k lv (.kid b a) (.kid b1 (upd a (nib k lv) s))
theorem slim_ok {r s : Tr} {lv x : Nat} (h : Slim r s) (ho : Ok r lv x) (hxl : x < 16 ^ lv) : Ok s lv x ∧ (∀ key, num key % 16 ^ lv = x → get s lv key = get r lv key) ∧ (s = r ∨ sh s s = 0) := by
  rcases h with rfl | ⟨b, a, f, k, v, rfl, hf, ha, hg, rfl⟩
  · exact ⟨ho, fun _ _ => rfl, .inl rfl⟩
  · obtain ⟨hlv, ho⟩ := ho
    have h1 := ho f hf
    rw [ha] at h1
    obtain ⟨hk, hn⟩ := h1
    have hx : num k % 16 ^ lv = x ∧ nib k lv = f := by
      rw [num_step] at hn
      have hp : 0 < 16 ^ lv := Nat.pow_pos (by decide)
      have hm : num k % 16 ^ lv < 16 ^ lv := Nat.mod_lt _ hp
      have e1 : (num k % 16 ^ lv + 16 ^ lv * nib k lv) % 16 ^ lv = (x + 16 ^ lv * f) % 16 ^ lv := by rw [hn]
      rw [Nat.add_mul_mod_self_left, Nat.add_mul_mod_self_left, Nat.mod_eq_of_lt hm, Nat.mod_eq_of_lt hxl] at e1
      refine ⟨e1, ?_⟩
      rw [e1] at hn
      exact Nat.eq_of_mul_eq_mul_left hp (by omega)
    refine ⟨⟨hk, hx.1⟩, fun key hkey => ?_, .inr (by simp [sh])⟩
    rw [get_kid]
    by_cases h : nib key lv = f
    · rw [h, ha]; rfl
    · rw [hg _ (nib_lt _ _) h]
      have : ¬ k = key := fun e => h (by rw [← e]; exact hx.2)
      simp [get, this]
theorem drop_ok {k : Int} {lv : Nat} {t t' : Tr} (h : DropT k lv t t') : ∀ x, Ok t lv x → num k % 16 ^ lv = x →
    Ok t' lv x ∧ (∀ key, num key % 16 ^ lv = x → get t' lv key = if key = k then .none else get t lv key) ∧ sh t' t' ≤ sh0 t t' + (16 - lv) := by
  induction h with
  | lone lv v0 =>
    intro x _ _
    refine ⟨trivial, fun key _ => ?_, by simp [sh]⟩
    by_cases h : key = k
    · subst h; simp [get]
    · have h' : ¬ k = key := fun e => h e.symm
      simp [get, h, h']
  | kid lv b a b1 r s _ hs ih =>
    intro x ho hx
    obtain ⟨hlv, ho⟩ := ho
    have hf := nib_lt k lv
    have hxs : num k % 16 ^ (lv + 1) = x + 16 ^ lv * nib k lv := by rw [num_step, hx]
    obtain ⟨h1, h2, h3⟩ := ih _ (ho _ hf) hxs
    obtain ⟨s1, s2, s3⟩ := slim_ok hs h1 (by rw [← hxs]; exact Nat.mod_lt _ (Nat.pow_pos (by decide)))
    have h4 : sh s s ≤ sh (a (nib k lv)) s + (16 - (lv + 1)) := by
      rcases s3 with rfl | s3
      · have := sh0_le (a (nib k lv)) s; omega
      · omega
    refine ⟨⟨hlv, fun f hf' => ?_⟩, fun key hkey => ?_, count_upd hlv hf h4⟩
    · by_cases h : f = nib k lv
      · subst h; rw [upd_at]; exact s1
      · rw [upd_ne _ _ _ _ h]; exact ho f hf'
    · rw [get_kid]
      by_cases h : nib key lv = nib k lv
      · rw [h, upd_at, s2 key (by rw [num_step, hkey, h]), h2 key (by rw [num_step, hkey, h]), get_kid, h]
      · rw [upd_ne _ _ _ _ h, get_kid, if_neg (fun e => h (by rw [e]))]
/-- the pairs are those that are got, each key once -/
theorem keys_ok (t : Tr) : ∀ lv x p, Ok t lv x → x < 16 ^ lv → p ∈ toL t → I64 p.1 ∧ num p.1 % 16 ^ lv = x := by
  induction t with
  | none => intro lv x p _ _ h; simp [toL] at h
  | pair k v => intro lv x p ho _ h; simp [toL] at h; subst h; exact ho
  | kid b a ih =>
    intro lv x p ho hx h
    obtain ⟨hlv, ho⟩ := ho
    simp only [toL, List.mem_flatMap, List.mem_range] at h
    obtain ⟨f, hf, hp⟩ := h
    have hx1 : x + 16 ^ lv * f < 16 ^ (lv + 1) := by
      have h1 : 16 ^ lv * f ≤ 16 ^ lv * 15 := Nat.mul_le_mul_left _ (by omega)
      rw [Nat.pow_succ]; omega
    obtain ⟨h1, h2⟩ := ih f (lv + 1) _ p (ho f hf) hx1 hp
    refine ⟨h1, ?_⟩
    rw [num_step] at h2
    have hp : 0 < 16 ^ lv := Nat.pow_pos (by decide)
    have hm : num p.1 % 16 ^ lv < 16 ^ lv := Nat.mod_lt _ hp
    have e1 : (num p.1 % 16 ^ lv + 16 ^ lv * nib p.1 lv) % 16 ^ lv = (x + 16 ^ lv * f) % 16 ^ lv := by rw [h2]
    rw [Nat.add_mul_mod_self_left, Nat.add_mul_mod_self_left, Nat.mod_eq_of_lt hm, Nat.mod_eq_of_lt hx] at e1
    exact e1
theorem deeper_lt {lv x f : Nat} (hx : x < 16 ^ lv) (hf : f < 16) : x + 16 ^ lv * f < 16 ^ (lv + 1) := by
  have h1 : 16 ^ lv * f ≤ 16 ^ lv * 15 := Nat.mul_le_mul_left _ (by omega)
  rw [Nat.pow_succ]; omega
theorem nib_of_mem {t : Tr} {lv x f : Nat} {p : Int × Int} (ho : Ok t (lv + 1) (x + 16 ^ lv * f)) (hx : x < 16 ^ lv) (hf : f < 16) (h : p ∈ toL t) : nib p.1 lv = f := by
  obtain ⟨_, h2⟩ := keys_ok t (lv + 1) _ p ho (deeper_lt hx hf) h
  refine nib_of h2 ?_
  rw [num_step] at h2
  have hp : 0 < 16 ^ lv := Nat.pow_pos (by decide)
  have hm : num p.1 % 16 ^ lv < 16 ^ lv := Nat.mod_lt _ hp
  have e1 : (num p.1 % 16 ^ lv + 16 ^ lv * nib p.1 lv) % 16 ^ lv = (x + 16 ^ lv * f) % 16 ^ lv := by rw [h2]
  rw [Nat.add_mul_mod_self_left, Nat.add_mul_mod_self_left, Nat.mod_eq_of_lt hm, Nat.mod_eq_of_lt hx] at e1
  exact e1
theorem get_mem (t : Tr) : ∀ lv x k v, Ok t lv x → x < 16 ^ lv → (get t lv k = some v ↔ (k, v) ∈ toL t) := by
  induction t with
  | none => intro lv x k v _ _; simp [get, toL]
  | pair l u =>
    intro lv x k v _ _
    simp only [get, toL, List.mem_singleton, Prod.mk.injEq]
    by_cases h : l = k
    · subst h; simp; exact ⟨fun h => h.symm, fun h => h.symm⟩
    · have h' : ¬ k = l := fun e => h e.symm
      simp [h, h']
  | kid b a ih =>
    intro lv x k v ho hx
    obtain ⟨hlv, ho⟩ := ho
    rw [get_kid, ih _ _ _ k v (ho _ (nib_lt k lv)) (deeper_lt hx (nib_lt k lv))]
    simp only [toL, List.mem_flatMap, List.mem_range]
    constructor
    · intro h; exact ⟨_, nib_lt k lv, h⟩
    · rintro ⟨f, hf, h⟩
      have := nib_of_mem (ho f hf) hx hf h
      rw [show nib k lv = f from this]; exact h
theorem toL_keys (t : Tr) : ∀ lv x, Ok t lv x → x < 16 ^ lv → (toL t).Pairwise fun p q => p.1 ≠ q.1 := by
  induction t with
  | none => intro lv x _ _; simp [toL]
  | pair l u => intro lv x _ _; simp [toL]
  | kid b a ih =>
    intro lv x ho hx
    obtain ⟨hlv, ho⟩ := ho
    rw [toL, List.pairwise_flatMap]
    refine ⟨fun f hf => ih f _ _ (ho f (List.mem_range.1 hf)) (deeper_lt hx (List.mem_range.1 hf)), ?_⟩
    refine List.Pairwise.imp_of_mem ?_ (List.pairwise_lt_range (n := 16))
    intro f g hf hg hlt p hp q hq hpq
    have h1 := nib_of_mem (ho f (List.mem_range.1 hf)) hx (List.mem_range.1 hf) hp
    have h2 := nib_of_mem (ho g (List.mem_range.1 hg)) hx (List.mem_range.1 hg) hq
    rw [hpq] at h1; omega
end Go.Proofs.YtjlbchkdiaomjaaDoor.tri

/- Values as bytes: numbers' groups, right values' bytes, and back. Nothing of the program. -/
import Derived.Test.YtnjcapenkoemlaaValTree
namespace Go.Proofs.Ytnjcapenkoemlaa.vt
open Go.RowKit

/-! ### a number's groups -/
def zig (n : Int) : Nat := if 0 ≤ n then (2 * n).toNat else (-2 * n - 1).toNat
def unzig (x : Nat) : Int := if x % 2 = 0 then ((x / 2 : Nat) : Int) else -((x / 2 : Nat) : Int) - 1
theorem unzig_zig (n : Int) : unzig (zig n) = n := by unfold unzig zig; split <;> split <;> omega
theorem zig_unzig (x : Nat) : zig (unzig x) = x := by unfold unzig zig; split <;> split <;> omega
theorem zig_lt {n : Int} (h : -9223372036854775808 ≤ n ∧ n ≤ 9223372036854775807) : zig n < 18446744073709551616 := by unfold zig; split <;> omega
theorem unzig_bd {x : Nat} (h : x < 18446744073709551616) : -9223372036854775808 ≤ unzig x ∧ unzig x ≤ 9223372036854775807 := by unfold unzig; split <;> omega
theorem zig_nat (n : Nat) : zig (n : Int) = 2 * n := by unfold zig; split <;> omega
def grpN (x : Nat) : List UInt8 := if x ≤ 127 then [UInt8.ofNat x] else UInt8.ofNat (x % 128 + 128) :: grpN (x / 128)
termination_by x
decreasing_by omega
theorem grpN_low {x : Nat} (h : x ≤ 127) : grpN x = [UInt8.ofNat x] := by rw [grpN, if_pos h]
theorem grpN_high {x : Nat} (h : ¬ x ≤ 127) : grpN x = UInt8.ofNat (x % 128 + 128) :: grpN (x / 128) := by rw [grpN, if_neg h]
theorem grpN_pos (x : Nat) : 0 < (grpN x).length := by
  by_cases h : x ≤ 127
  · rw [grpN_low h]; simp
  · rw [grpN_high h]; simp
/-- the number whose groups a row begins with, and what comes behind them -/
def unGrp : List UInt8 → Option (Nat × List UInt8)
  | [] => none
  | c :: r => if c.toNat < 128 then some (c.toNat, r) else
    match unGrp r with
    | none => none
    | some (y, s) => if y = 0 then none else some (c.toNat - 128 + 128 * y, s)
theorem unGrp_low {c : UInt8} {r : List UInt8} (h : c.toNat < 128) : unGrp (c :: r) = some (c.toNat, r) := by rw [unGrp, if_pos h]
theorem byte_nat {k : Nat} (h : k < 256) : (UInt8.ofNat k).toNat = k := by simp; omega
theorem unGrp_grpN (x : Nat) (r : List UInt8) : unGrp (grpN x ++ r) = some (x, r) := by
  induction x using Nat.strongRecOn with
  | _ x ih =>
    by_cases h : x ≤ 127
    · rw [grpN_low h, List.singleton_append, unGrp_low (by rw [byte_nat (by omega)]; omega), byte_nat (by omega)]
    · rw [grpN_high h, List.cons_append, unGrp, if_neg (by rw [byte_nat (by omega)]; omega), ih (x / 128) (by omega)]
      simp only
      rw [if_neg (by omega), byte_nat (by omega)]
      congr 2
      omega
theorem grpN_unGrp : ∀ (b : List UInt8) (x : Nat) (r : List UInt8), unGrp b = some (x, r) → b = grpN x ++ r
  | [], x, r, h => by rw [unGrp] at h; cases h
  | c :: b, x, r, h => by
    rw [unGrp] at h
    have hc := c.toNat_lt
    split at h
    · rename_i h1
      injection h with h; injection h with hx hr
      subst hx hr
      rw [grpN_low (by omega)]
      simp
    · rename_i h1
      cases hu : unGrp b with
      | none => rw [hu] at h; cases h
      | some p =>
        obtain ⟨y, s⟩ := p
        rw [hu] at h
        simp only at h
        split at h
        · cases h
        · rename_i h2
          injection h with h; injection h with hx hr
          subst hx hr
          have := grpN_unGrp b y s hu
          rw [grpN_high (by omega), this]
          rw [show (c.toNat - 128 + 128 * y) / 128 = y by omega, show (c.toNat - 128 + 128 * y) % 128 + 128 = c.toNat by omega]
          simp
theorem unGrp_less : ∀ (b : List UInt8) (x : Nat) (r : List UInt8), unGrp b = some (x, r) → r.length < b.length := by
  intro b x r h
  rw [grpN_unGrp b x r h, List.length_append]
  have := grpN_pos x
  omega

/-! ### a value's bytes -/
mutual
/-- a right value's bytes -/
def VT.bytes : VT → List UInt8
  | .mk k n l => if k = 0 then 0 :: grpN (zig n) else if k = 1 then [1, UInt8.ofNat n.toNat] else UInt8.ofNat k.toNat :: (grpN (2 * l.length) ++ bytesL l)
def bytesL : List VT → List UInt8
  | [] => []
  | v :: r => v.bytes ++ bytesL r
end
theorem bytes_mk (k n : Int) (l : List VT) : (VT.mk k n l).bytes = if k = 0 then 0 :: grpN (zig n) else if k = 1 then [1, UInt8.ofNat n.toNat] else UInt8.ofNat k.toNat :: (grpN (2 * l.length) ++ bytesL l) := by rw [VT.bytes]
theorem bytesL_append : ∀ a b, bytesL (a ++ b) = bytesL a ++ bytesL b
  | [], b => by simp [bytesL]
  | v :: r, b => by rw [List.cons_append, bytesL, bytesL, bytesL_append r b, List.append_assoc]
theorem bytes_pos (t : VT) : 0 < t.bytes.length := by
  cases t; rw [bytes_mk]; split
  · simp
  · split <;> simp
/-! ### and back -/
mutual
/-- the value whose bytes a row begins with, and what comes behind them; so many values in one another at most -/
def readV : Nat → List UInt8 → Option (VT × List UInt8)
  | 0, _ => none
  | _ + 1, [] => none
  | f + 1, c :: r =>
    if c = 0 then
      match unGrp r with
      | some (x, s) => if x < 18446744073709551616 then some (.mk 0 (unzig x) [], s) else none
      | none => none
    else if c = 1 then
      match r with
      | d :: s => if d = 0 ∨ d = 1 then some (.mk 1 (d.toNat : Int) [], s) else none
      | [] => none
    else if c = 2 ∨ c = 3 then
      match unGrp r with
      | some (x, s) => if x < 18446744073709551616 ∧ x % 2 = 0 then
          match readL f (x / 2) s with
          | some (l, q) => some (.mk (c.toNat : Int) 0 l, q)
          | none => none
        else none
      | none => none
    else none
def readL : Nat → Nat → List UInt8 → Option (List VT × List UInt8)
  | _, 0, s => some ([], s)
  | f, m + 1, s =>
    match readV f s with
    | some (v, q) =>
      match readL f m q with
      | some (l, z) => some (v :: l, z)
      | none => none
    | none => none
end
theorem readV_cons (f : Nat) (c : UInt8) (r : List UInt8) : readV (f + 1) (c :: r) = (
    if c = 0 then
      match unGrp r with
      | some (x, s) => if x < 18446744073709551616 then some (.mk 0 (unzig x) [], s) else none
      | none => none
    else if c = 1 then
      match r with
      | d :: s => if d = 0 ∨ d = 1 then some (.mk 1 (d.toNat : Int) [], s) else none
      | [] => none
    else if c = 2 ∨ c = 3 then
      match unGrp r with
      | some (x, s) => if x < 18446744073709551616 ∧ x % 2 = 0 then
          match readL f (x / 2) s with
          | some (l, q) => some (.mk (c.toNat : Int) 0 l, q)
          | none => none
        else none
      | none => none
    else none) := by rw [readV.eq_def]
theorem readL_zero (f : Nat) (s : List UInt8) : readL f 0 s = some ([], s) := by rw [readL.eq_def]
theorem readL_succ (f m : Nat) (s : List UInt8) : readL f (m + 1) s = (match readV f s with
    | some (v, q) =>
      match readL f m q with
      | some (l, z) => some (v :: l, z)
      | none => none
    | none => none) := by rw [readL.eq_def]
theorem small_byte {n : Int} (h : n = 0 ∨ n = 1 ∨ n = 2 ∨ n = 3) : (UInt8.ofNat n.toNat).toNat = n.toNat := byte_nat (by omega)
/-- a value is read from its bytes, whatever comes behind -/
theorem readL_bytes {f : Nat} : ∀ (l : List VT), (∀ u ∈ l, ∀ r, readV f (u.bytes ++ r) = some (u, r)) → ∀ r, readL f l.length (bytesL l ++ r) = some (l, r)
  | [], _, r => by rw [bytesL, List.length_nil, readL_zero]; rfl
  | v :: l, h, r => by
    rw [bytesL, List.length_cons, readL_succ, List.append_assoc, h v (by simp)]
    simp only
    rw [readL_bytes l (fun u hu => h u (by simp [hu]))]
theorem bytes_mem {u : VT} : ∀ {l : List VT}, u ∈ l → u.bytes.length ≤ (bytesL l).length
  | v :: r, h => by
    rw [bytesL, List.length_append]
    rcases List.mem_cons.1 h with rfl | h
    · omega
    · have := bytes_mem h; omega
theorem readV_bytes (t : VT) : t.right = true → t.fits → t.size ≤ 4611686018427387904 → ∀ f, t.bytes.length ≤ f → ∀ r, readV f (t.bytes ++ r) = some (t, r) := by
  induction t using VT.ind with
  | h k n l ih =>
    intro hr hf hsz f hl r
    rw [right_mk] at hr
    rw [size_mk] at hsz
    have hln := len_le_sizeL l
    rw [fits_mk] at hf
    rw [bytes_mk] at hl ⊢
    by_cases h0 : k = 0
    · subst h0
      rw [if_pos rfl] at hr hl ⊢
      obtain rfl : l = [] := by simpa using hr
      obtain ⟨f, rfl⟩ : ∃ g, f = g + 1 := ⟨f - 1, by simp at hl; omega⟩
      rw [List.cons_append, readV_cons, if_pos rfl, unGrp_grpN]
      simp only
      rw [if_pos (zig_lt hf.1.2), unzig_zig]
    · by_cases h1 : k = 1
      · subst h1
        rw [if_neg h0, if_pos rfl] at hr hl ⊢
        simp only [Bool.and_eq_true, decide_eq_true_eq, List.isEmpty_iff] at hr
        obtain ⟨hn, rfl⟩ := hr
        obtain ⟨f, rfl⟩ : ∃ g, f = g + 1 := ⟨f - 1, by simp at hl; omega⟩
        rw [List.cons_append, readV_cons, if_neg (by decide), if_pos rfl]
        rcases hn with rfl | rfl <;> rfl
      · rw [if_neg h0, if_neg h1] at hr hl ⊢
        by_cases h2 : k = 2 ∨ k = 3
        · rw [if_pos h2] at hr
          simp only [Bool.and_eq_true, decide_eq_true_eq] at hr
          obtain ⟨rfl, hrl⟩ := hr
          obtain ⟨f, rfl⟩ : ∃ g, f = g + 1 := ⟨f - 1, by simp at hl; omega⟩
          have hlen : 2 * l.length < 18446744073709551616 := by omega
          have hc : UInt8.ofNat k.toNat ≠ 0 ∧ UInt8.ofNat k.toNat ≠ 1 ∧ (UInt8.ofNat k.toNat = 2 ∨ UInt8.ofNat k.toNat = 3) ∧ ((UInt8.ofNat k.toNat).toNat : Int) = k := by
            rcases h2 with rfl | rfl <;> decide
          rw [List.cons_append, readV_cons, if_neg hc.1, if_neg hc.2.1, if_pos hc.2.2.1, List.append_assoc, unGrp_grpN]
          simp only
          rw [if_pos ⟨hlen, by omega⟩, show 2 * l.length / 2 = l.length by omega]
          rw [readL_bytes l (fun u hu r => ih u hu (rightL_mem hrl hu) (fitsL_mem hf.2 u hu) (by have := mem_sizeL hu; omega) f (by
            have := bytes_mem hu
            simp only [List.length_cons, List.length_append] at hl
            have := grpN_pos (2 * l.length)
            omega) r)]
          simp only [hc.2.2.2]
        · rw [if_neg h2] at hr; cases hr
mutual
theorem bytes_readV : ∀ (f : Nat) (b : List UInt8) (t : VT) (r : List UInt8), readV f b = some (t, r) → (t.right = true ∧ t.fits) ∧ b = t.bytes ++ r
  | 0, b, t, r, h => by rw [readV] at h; cases h
  | f + 1, [], t, r, h => by rw [readV] at h; cases h
  | f + 1, c :: b, t, r, h => by
    rw [readV_cons] at h
    by_cases h0 : c = 0
    · subst h0
      rw [if_pos rfl] at h
      cases hu : unGrp b with
      | none => rw [hu] at h; cases h
      | some p =>
        obtain ⟨x, s⟩ := p
        rw [hu] at h
        simp only at h
        split at h
        · rename_i hx
          injection h with h; injection h with ht hs
          subst ht hs
          refine ⟨⟨by rw [right_mk, if_pos rfl]; rfl, by rw [fits_mk, fitsL]; exact ⟨⟨by omega, unzig_bd hx⟩, trivial⟩⟩, ?_⟩
          rw [bytes_mk, if_pos rfl, zig_unzig, grpN_unGrp b x s hu]; rfl
        · cases h
    · rw [if_neg h0] at h
      by_cases h1 : c = 1
      · subst h1
        rw [if_pos rfl] at h
        match b, h with
        | [], h => cases h
        | d :: s, h =>
          simp only at h
          split at h
          · rename_i hd
            injection h with h; injection h with ht hs
            subst ht hs
            refine ⟨⟨?_, ?_⟩, ?_⟩
            · rw [right_mk, if_neg (by omega), if_pos rfl]
              rcases hd with rfl | rfl <;> decide
            · rw [fits_mk, fitsL]
              have := d.toNat_lt
              exact ⟨⟨by omega, by omega⟩, trivial⟩
            · rw [bytes_mk, if_neg (by omega), if_pos rfl]
              simp
          · cases h
      · rw [if_neg h1] at h
        by_cases h2 : c = 2 ∨ c = 3
        · rw [if_pos h2] at h
          cases hu : unGrp b with
          | none => rw [hu] at h; cases h
          | some p =>
            obtain ⟨x, s⟩ := p
            rw [hu] at h
            simp only at h
            split at h
            · rename_i hx
              cases hl : readL f (x / 2) s with
              | none => rw [hl] at h; cases h
              | some q =>
                obtain ⟨l, z⟩ := q
                rw [hl] at h
                simp only at h
                injection h with h; injection h with ht hs
                subst ht hs
                obtain ⟨h3, h4, h5⟩ := bytes_readL f (x / 2) s l z hl
                have hk : ((c.toNat : Int) = 2 ∨ (c.toNat : Int) = 3) := by rcases h2 with rfl | rfl <;> decide
                refine ⟨⟨?_, ?_⟩, ?_⟩
                · rw [right_mk, if_neg (by omega), if_neg (by omega), if_pos hk]
                  simp only [decide_true, Bool.true_and]
                  rw [rightL_all, List.all_eq_true]
                  exact fun u hu => (h4 u hu).1
                · rw [fits_mk]
                  exact ⟨⟨by omega, by omega⟩, fitsL_of fun u hu => (h4 u hu).2⟩
                · rw [bytes_mk, if_neg (by omega), if_neg (by omega), grpN_unGrp b x s hu, h5, h3]
                  rw [show 2 * (x / 2) = x by omega]
                  simp [List.append_assoc]
            · cases h
        · rw [if_neg h2] at h; cases h
theorem bytes_readL : ∀ (f m : Nat) (s : List UInt8) (l : List VT) (z : List UInt8), readL f m s = some (l, z) → l.length = m ∧ (∀ u ∈ l, u.right = true ∧ u.fits) ∧ s = bytesL l ++ z
  | f, 0, s, l, z, h => by
    rw [readL_zero] at h
    injection h with h; injection h with h1 h2
    subst h1 h2
    exact ⟨rfl, (fun u hu => by cases hu), by rw [bytesL]; rfl⟩
  | f, m + 1, s, l, z, h => by
    rw [readL_succ] at h
    cases hv : readV f s with
    | none => rw [hv] at h; cases h
    | some p =>
      obtain ⟨v, q⟩ := p
      rw [hv] at h
      simp only at h
      cases hl : readL f m q with
      | none => rw [hl] at h; cases h
      | some p =>
        obtain ⟨l', z'⟩ := p
        rw [hl] at h
        simp only at h
        injection h with h; injection h with h1 h2
        subst h1 h2
        obtain ⟨h3, h4⟩ := bytes_readV f s v q hv
        obtain ⟨h5, h6, h7⟩ := bytes_readL f m q l' z' hl
        refine ⟨by simp [h5], fun u hu => ?_, ?_⟩
        · rcases List.mem_cons.1 hu with rfl | hu
          · exact h3
          · exact h6 u hu
        · rw [bytesL, List.append_assoc, ← h7, ← h4]
end
/-- the value whose bytes a row is -/
def readB (b : List UInt8) : Option VT := match readV b.length b with | some (t, []) => some t | _ => none
theorem readB_bytes {t : VT} (hr : t.right = true) (hf : t.fits) (hs : t.size ≤ 4611686018427387904) : readB t.bytes = some t := by
  have := readV_bytes t hr hf hs t.bytes.length (Nat.le_refl _) []
  rw [List.append_nil] at this
  unfold readB
  rw [this]
theorem bytes_readB {b : List UInt8} {t : VT} (h : readB b = some t) : (t.right = true ∧ t.fits) ∧ b = t.bytes := by
  unfold readB at h
  split at h
  · rename_i u hv
    injection h with h
    subst h
    obtain ⟨h1, h2⟩ := bytes_readV _ _ _ _ hv
    exact ⟨h1, by rw [h2, List.append_nil]⟩
  · cases h
/-- the values whose bytes, one behind the other, a row is; so many at most -/
def readAll : Nat → List UInt8 → Option (List VT)
  | _, [] => some []
  | 0, _ :: _ => none
  | f + 1, c :: r =>
    match readV (c :: r).length (c :: r) with
    | some (t, s) =>
      match readAll f s with
      | some l => some (t :: l)
      | none => none
    | none => none
theorem readAll_nil (f : Nat) : readAll f [] = some [] := by rw [readAll.eq_def]
theorem readAll_cons (f : Nat) (c : UInt8) (r : List UInt8) : readAll (f + 1) (c :: r) = (match readV (c :: r).length (c :: r) with
    | some (t, s) =>
      match readAll f s with
      | some l => some (t :: l)
      | none => none
    | none => none) := by rw [readAll.eq_def]
theorem readAll_bytes : ∀ (l : List VT), (∀ u ∈ l, u.right = true ∧ u.fits ∧ u.size ≤ 4611686018427387904) → ∀ f, l.length ≤ f → readAll f (bytesL l) = some l
  | [], _, f, _ => by rw [bytesL, readAll_nil]
  | v :: l, h, f, hf => by
    obtain ⟨f, rfl⟩ : ∃ g, f = g + 1 := ⟨f - 1, by simp at hf; omega⟩
    obtain ⟨h1, h2, h3⟩ := h v (by simp)
    have hp := bytes_pos v
    have hv := readV_bytes v h1 h2 h3 (v.bytes ++ bytesL l).length (by simp) (bytesL l)
    rw [bytesL]
    cases hb : v.bytes ++ bytesL l with
    | nil => rw [List.append_eq_nil_iff] at hb; rw [hb.1] at hp; simp at hp
    | cons c r =>
      rw [hb] at hv
      rw [readAll_cons, hv]
      simp only
      rw [readAll_bytes l (fun u hu => h u (by simp [hu])) f (by simpa using hf)]
theorem bytes_readAll : ∀ (f : Nat) (b : List UInt8) (l : List VT), readAll f b = some l → (∀ u ∈ l, u.right = true ∧ u.fits) ∧ b = bytesL l
  | f, [], l, h => by
    rw [readAll_nil] at h
    injection h with h
    subst h
    exact ⟨(fun u hu => by cases hu), by rw [bytesL]⟩
  | 0, c :: r, l, h => by rw [readAll.eq_def] at h; cases h
  | f + 1, c :: r, l, h => by
    rw [readAll_cons] at h
    cases hv : readV (c :: r).length (c :: r) with
    | none => rw [hv] at h; cases h
    | some p =>
      obtain ⟨t, s⟩ := p
      rw [hv] at h
      simp only at h
      cases ha : readAll f s with
      | none => rw [ha] at h; cases h
      | some m =>
        rw [ha] at h
        injection h with h
        subst h
        obtain ⟨h1, h2⟩ := bytes_readV _ _ _ _ hv
        obtain ⟨h3, h4⟩ := bytes_readAll f s m ha
        refine ⟨fun u hu => ?_, by rw [bytesL, h2, h4]⟩
        rcases List.mem_cons.1 hu with rfl | hu
        · exact h1
        · exact h3 u hu
/-- no value's bytes begin those of another one -/
theorem bytes_prefix {t u : VT} {r : List UInt8} (ht : t.right = true ∧ t.fits ∧ t.size ≤ 4611686018427387904) (hu : u.right = true ∧ u.fits ∧ u.size ≤ 4611686018427387904) (h : t.bytes = u.bytes ++ r) : t = u ∧ r = [] := by
  have h1 := readV_bytes t ht.1 ht.2.1 ht.2.2 t.bytes.length (Nat.le_refl _) []
  have h2 := readV_bytes u hu.1 hu.2.1 hu.2.2 t.bytes.length (by rw [h, List.length_append]; omega) r
  rw [List.append_nil] at h1
  rw [← h, h1] at h2
  injection h2 with h2
  injection h2 with e1 e2
  exact ⟨e1, e2.symm⟩
/-- a right value takes as many bytes as it has values, at least -/
theorem sizeL_le_bytes : ∀ l : List VT, (∀ u ∈ l, u.size ≤ u.bytes.length) → sizeL l ≤ (bytesL l).length
  | [], _ => by rw [sizeL]; omega
  | v :: r, h => by
    rw [sizeL, bytesL, List.length_append]
    have h1 := h v (by simp)
    have h2 := sizeL_le_bytes r fun u hu => h u (by simp [hu])
    omega
theorem size_le_bytes (t : VT) : t.right = true → t.size ≤ t.bytes.length := by
  induction t using VT.ind with
  | h k n l ih =>
    intro hr
    rw [right_mk] at hr
    rw [size_mk, bytes_mk]
    by_cases h0 : k = 0
    · rw [if_pos h0] at hr ⊢
      obtain rfl : l = [] := by simpa using hr
      rw [sizeL, List.length_cons]; omega
    · by_cases h1 : k = 1
      · rw [if_neg h0, if_pos h1] at hr ⊢
        simp only [Bool.and_eq_true, decide_eq_true_eq, List.isEmpty_iff] at hr
        rw [hr.2, sizeL]; simp
      · rw [if_neg h0, if_neg h1] at hr ⊢
        by_cases h2 : k = 2 ∨ k = 3
        · rw [if_pos h2] at hr
          simp only [Bool.and_eq_true, decide_eq_true_eq] at hr
          have := sizeL_le_bytes l fun u hu => ih u hu (rightL_mem hr.2 hu)
          rw [List.length_cons, List.length_append]
          omega
        · rw [if_neg h2] at hr; cases hr
/-- of a value's bytes no beginning but all of it is a value's bytes -/
theorem readB_take {b : List UInt8} {t : VT} (h : readB b = some t) (hb : b.length ≤ 4611686018427387904) {i : Nat} (hi : i < b.length) : readB (b.take i) = none := by
  obtain ⟨⟨h1, h2⟩, h3⟩ := bytes_readB h
  cases hc : readB (b.take i) with
  | none => rfl
  | some u =>
    exfalso
    obtain ⟨⟨g1, g2⟩, g3⟩ := bytes_readB hc
    have s1 := size_le_bytes t h1
    have s2 := size_le_bytes u g1
    rw [← h3] at s1
    rw [← g3, List.length_take] at s2
    obtain ⟨-, e⟩ := bytes_prefix (t := t) (u := u) (r := b.drop i) ⟨h1, h2, by omega⟩ ⟨g1, g2, by omega⟩ (by rw [← h3, ← g3, List.take_append_drop])
    have := congrArg List.length e
    rw [List.length_drop] at this
    simp at this
    omega
end Go.Proofs.Ytnjcapenkoemlaa.vt

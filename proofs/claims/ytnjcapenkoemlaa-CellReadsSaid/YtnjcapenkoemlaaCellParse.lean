/- The reader of bytes as a machine over plain lists: what is open, what is done. -/
import Derived.Test.YtnjcapenkoemlaaCellMath
namespace Go.Proofs.Ytnjcapenkoemlaa.vt.ce
open Go.RowKit vt

theorem readV_nil (f : Nat) : readV f [] = none := by cases f <;> rw [readV.eq_def]
theorem readV_rest {f : Nat} {s : List UInt8} {t : VT} {r : List UInt8} (h : readV f s = some (t, r)) : r.length < s.length := by
  obtain ⟨_, e⟩ := bytes_readV f s t r h
  rw [e, List.length_append]
  have := bytes_pos t
  omega
theorem readL_rest {f m : Nat} {s : List UInt8} {l : List VT} {r : List UInt8} (h : readL f m s = some (l, r)) : r.length + l.length ≤ s.length := by
  obtain ⟨_, h2, e⟩ := bytes_readL f m s l r h
  have := sizeL_le_bytes l fun u hu => size_le_bytes u (h2 u hu).1
  have := len_le_sizeL l
  rw [e, List.length_append]
  omega
/-! ### so many values in one another: as many as there are bytes are enough -/
def FuelV (f : Nat) : Prop := ∀ g s, s.length ≤ f → s.length ≤ g → readV f s = readV g s
theorem fuelL {f : Nat} (h : FuelV f) : ∀ m g s, s.length ≤ f → s.length ≤ g → readL f m s = readL g m s
  | 0, g, s, _, _ => by rw [readL_zero, readL_zero]
  | m + 1, g, s, h1, h2 => by
    rw [readL_succ, readL_succ, ← h g s h1 h2]
    cases hv : readV f s with
    | none => rfl
    | some p =>
      obtain ⟨t, r⟩ := p
      have := readV_rest hv
      simp only
      rw [fuelL h m g r (by omega) (by omega)]
theorem fuelV : ∀ f, FuelV f
  | 0 => fun g s h1 h2 => by
    obtain rfl : s = [] := List.eq_nil_of_length_eq_zero (by omega)
    rw [readV_nil, readV_nil]
  | f + 1 => fun g s h1 h2 => by
    cases s with
    | nil => rw [readV_nil, readV_nil]
    | cons c r =>
      rw [List.length_cons] at h1 h2
      obtain ⟨g, rfl⟩ : ∃ k, g = k + 1 := ⟨g - 1, by omega⟩
      rw [readV_cons, readV_cons]
      split
      · rfl
      · split
        · rfl
        · split
          · cases hu : unGrp r with
            | none => rfl
            | some p =>
              obtain ⟨x, s⟩ := p
              have := unGrp_less r x s hu
              simp only
              rw [fuelL (fuelV f) (x / 2) g s (by omega) (by omega)]
          · rfl
theorem readV_fuel {f : Nat} {s : List UInt8} (h : s.length ≤ f) : readV f s = readV s.length s := fuelV f _ s h (Nat.le_refl _)
theorem readL_fuel {f m : Nat} {s : List UInt8} (h : s.length ≤ f) : readL f m s = readL s.length m s := fuelL (fuelV f) m _ s h (Nat.le_refl _)
theorem readAll_fuel : ∀ f g s, s.length ≤ f → s.length ≤ g → readAll f s = readAll g s
  | f, g, [], _, _ => by rw [readAll_nil, readAll_nil]
  | 0, g, c :: r, h, _ => by simp at h
  | f + 1, 0, c :: r, _, h => by simp at h
  | f + 1, g + 1, c :: r, h1, h2 => by
    rw [readAll_cons, readAll_cons]
    cases hv : readV (c :: r).length (c :: r) with
    | none => rfl
    | some p =>
      obtain ⟨t, s⟩ := p
      have := readV_rest hv
      simp only
      rw [readAll_fuel f g s (by omega) (by omega)]

/-! ### what is open: kind, how many kids, where they begin; the last one first -/
abbrev Part := Int × Nat × Nat
def closeO : List Part → List VT → List Part × List VT
  | [], d => ([], d)
  | (k, m, n) :: o, d => if d.length - n < m then ((k, m, n) :: o, d) else closeO o (d.take n ++ [.mk k 0 (d.drop n)])
/-- where number and flag, or what is opened, lead -/
def beginO (s : List UInt8) (o : List Part) (d : List VT) : Option (List UInt8 × List Part × List VT) :=
  match s with
  | [] => none
  | c :: r =>
    if c = 0 then
      match unGrp r with
      | some (x, s) => if x < 18446744073709551616 then some (s, o, d ++ [.mk 0 (unzig x) []]) else none
      | none => none
    else if c = 1 then
      match r with
      | e :: s => if e = 0 ∨ e = 1 then some (s, o, d ++ [.mk 1 (e.toNat : Int) []]) else none
      | [] => none
    else if c = 2 ∨ c = 3 then
      match unGrp r with
      | some (x, s) => if x < 18446744073709551616 ∧ x % 2 = 0 then some (s, ((c.toNat : Int), x / 2, d.length) :: o, d) else none
      | none => none
    else none
/-- what is told in the end, if what is open is closed by what comes -/
def plugO : List Part → List VT → List UInt8 → Option (List VT × List UInt8)
  | [], d, r => some (d, r)
  | (k, m, n) :: o, d, r =>
    match readL r.length (m - (d.length - n)) r with
    | none => none
    | some (l, q) => plugO o (d.take n ++ [.mk k 0 (d.drop n ++ l)]) q
def valO (o : List Part) (d : List VT) (s : List UInt8) : Option (List VT × List UInt8) :=
  match readV s.length s with
  | none => none
  | some (t, r) => plugO o (d ++ [t]) r
theorem val_begin (o : List Part) (d : List VT) (s : List UInt8) : valO o d s = (match beginO s o d with | none => none | some (r, o1, d1) => plugO o1 d1 r) := by
  unfold valO beginO
  cases s with
  | nil => rw [readV_nil]
  | cons c r =>
    rw [List.length_cons, readV_cons]
    simp only
    by_cases h0 : c = 0
    · rw [if_pos h0, if_pos h0]
      cases unGrp r with
      | none => rfl
      | some p =>
        obtain ⟨x, s⟩ := p
        simp only
        by_cases hx : x < 18446744073709551616
        · rw [if_pos hx, if_pos hx]
        · rw [if_neg hx, if_neg hx]
    · rw [if_neg h0, if_neg h0]
      by_cases h1 : c = 1
      · rw [if_pos h1, if_pos h1]
        cases r with
        | nil => rfl
        | cons e s =>
          simp only
          by_cases hx : e = 0 ∨ e = 1
          · rw [if_pos hx, if_pos hx]
          · rw [if_neg hx, if_neg hx]
      · rw [if_neg h1, if_neg h1]
        by_cases h2 : c = 2 ∨ c = 3
        · rw [if_pos h2, if_pos h2]
          cases hu : unGrp r with
          | none => rfl
          | some p =>
            obtain ⟨x, s⟩ := p
            have := unGrp_less r x s hu
            simp only
            by_cases hx : x < 18446744073709551616 ∧ x % 2 = 0
            · rw [if_pos hx, if_pos hx]
              simp only
              rw [plugO, Nat.sub_self, Nat.sub_zero, readL_fuel (f := r.length) (by omega)]
              cases readL s.length (x / 2) s with
              | none => rfl
              | some q =>
                obtain ⟨l, z⟩ := q
                simp only
                rw [List.take_length, List.drop_length, List.nil_append]
            · rw [if_neg hx, if_neg hx]
        · rw [if_neg h2, if_neg h2]
theorem plug_close : ∀ (o : List Part) (d : List VT) (r : List UInt8), plugO (closeO o d).1 (closeO o d).2 r = plugO o d r
  | [], d, r => rfl
  | (k, m, n) :: o, d, r => by
    rw [closeO]
    split
    · rfl
    · rename_i h
      rw [plug_close o _ r, plugO, show m - (d.length - n) = 0 by omega, readL_zero]
      simp only
      rw [List.append_nil]
theorem plug_open {k : Int} {m n : Nat} {o : List Part} {d : List VT} (h : d.length - n < m) (hn : n ≤ d.length) (r : List UInt8) : plugO ((k, m, n) :: o) d r = valO ((k, m, n) :: o) d r := by
  unfold valO
  obtain ⟨j, hj⟩ : ∃ j, m - (d.length - n) = j + 1 := ⟨m - (d.length - n) - 1, by omega⟩
  rw [plugO, hj, readL_succ]
  cases hv : readV r.length r with
  | none => rfl
  | some p =>
    obtain ⟨t, q⟩ := p
    have := readV_rest hv
    simp only
    rw [plugO, show m - ((d ++ [t]).length - n) = j by rw [List.length_append, List.length_singleton]; omega, readL_fuel (f := r.length) (by omega)]
    cases readL q.length j q with
    | none => rfl
    | some z =>
      obtain ⟨l, z⟩ := z
      simp only
      rw [List.take_append_of_le_length hn, List.drop_append_of_le_length hn, List.append_assoc, List.singleton_append]
theorem close_head : ∀ {o : List Part} {d : List VT} {k : Int} {m n : Nat} {o2 : List Part}, (closeO o d).1 = (k, m, n) :: o2 → (closeO o d).2.length - n < m
  | [], d, k, m, n, o2, h => by rw [closeO] at h; cases h
  | (k', m', n') :: o, d, k, m, n, o2, h => by
    rw [closeO] at h ⊢
    split at h
    · rename_i hlt
      rw [if_pos hlt]
      injection h with h1 h2
      injection h1 with _ h1
      injection h1 with h1 h3
      subst h1 h3
      exact hlt
    · rename_i hlt
      rw [if_neg hlt]
      exact close_head h
def okO : List Part → Nat → Prop
  | [], _ => True
  | (k, m, n) :: o, L => ((k = 2 ∨ k = 3) ∧ m ≤ 9223372036854775807 ∧ n ≤ L) ∧ okO o n
theorem okO_more : ∀ {o : List Part} {L L' : Nat}, okO o L → L ≤ L' → okO o L'
  | [], _, _, _, _ => trivial
  | (k, m, n) :: o, L, L', h, hl => ⟨⟨h.1.1, h.1.2.1, Nat.le_trans h.1.2.2 hl⟩, h.2⟩
theorem close_ok : ∀ {o : List Part} {d : List VT}, okO o d.length → okO (closeO o d).1 (closeO o d).2.length ∧ (closeO o d).1.length + (closeO o d).2.length ≤ o.length + d.length
  | [], d, h => ⟨trivial, Nat.le_refl _⟩
  | (k, m, n) :: o, d, h => by
    rw [closeO]
    split
    · exact ⟨h, Nat.le_refl _⟩
    · have hn := h.1.2.2
      have hl : (d.take n ++ [VT.mk k 0 (d.drop n)]).length = n + 1 := by rw [List.length_append, List.length_take, List.length_singleton]; omega
      obtain ⟨h1, h2⟩ := close_ok (o := o) (d := d.take n ++ [VT.mk k 0 (d.drop n)]) (by rw [hl]; exact okO_more h.2 (by omega))
      rw [hl] at h2
      refine ⟨h1, ?_⟩
      rw [List.length_cons]
      omega
theorem begin_ok {s : List UInt8} {o : List Part} {d : List VT} {r : List UInt8} {o1 : List Part} {d1 : List VT} (h : beginO s o d = some (r, o1, d1)) (hk : okO o d.length) : okO o1 d1.length ∧ r.length + o1.length + d1.length ≤ s.length + o.length + d.length ∧ r.length < s.length := by
  unfold beginO at h
  cases s with
  | nil => cases h
  | cons c s =>
    simp only at h
    split at h
    · cases hu : unGrp s with
      | none => rw [hu] at h; cases h
      | some p =>
        obtain ⟨x, q⟩ := p
        rw [hu] at h
        simp only at h
        have := unGrp_less s x q hu
        split at h
        · injection h with h
          injection h with h1 h2
          injection h2 with h2 h3
          subst h1 h2 h3
          rw [List.length_append, List.length_singleton, List.length_cons]
          exact ⟨okO_more hk (by omega), by omega, by omega⟩
        · cases h
    · split at h
      · cases s with
        | nil => cases h
        | cons e q =>
          simp only at h
          split at h
          · injection h with h
            injection h with h1 h2
            injection h2 with h2 h3
            subst h1 h2 h3
            rw [List.length_append, List.length_singleton, List.length_cons, List.length_cons]
            exact ⟨okO_more hk (by omega), by omega, by omega⟩
          · cases h
      · split at h
        · rename_i h23
          cases hu : unGrp s with
          | none => rw [hu] at h; cases h
          | some p =>
            obtain ⟨x, q⟩ := p
            rw [hu] at h
            simp only at h
            have := unGrp_less s x q hu
            split at h
            · rename_i hx
              injection h with h
              injection h with h1 h2
              injection h2 with h2 h3
              subst h1 h2 h3
              rw [List.length_cons, List.length_cons]
              refine ⟨⟨⟨?_, by omega, Nat.le_refl _⟩, hk⟩, by omega, by omega⟩
              rcases h23 with rfl | rfl <;> decide
            · cases h
        · cases h
end Go.Proofs.Ytnjcapenkoemlaa.vt.ce

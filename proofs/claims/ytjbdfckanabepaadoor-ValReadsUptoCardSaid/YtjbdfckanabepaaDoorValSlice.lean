/- A row of the reader's, cut in two. -/
import Derived.Test.YtjbdfckanabepaaDoorValTake
namespace Go.Proofs.YtjbdfckanabepaaDoor.vt
open Go.RowKit mem

theorem cells_add (b o i : Nat) : (⟨b, o, none⟩ : Addr).add i = ⟨b, o + i, none⟩ := by unfold Addr.add; split <;> simp_all
theorem sizeV (w : World) : (sizeOf (Tryd.prog.elem 22)).run Tryd.prog w = .ok 3 w := by kernel_rfl
theorem elemV : Tryd.prog.underlying 22 = some (.slice (Tryd.prog.elem 22)) := by kernel_rfl
theorem slice_from (n D : Nat) (hn : n ≤ D) (A : Option Addr) (c : Nat) (w : World) :
    (Instr.slice 22 (.slice A D c) (some (.int .i64 n)) none none).run Tryd.prog w = .ok (sliced A n D c 3) w := by
  have h := run_slice_l (P := Tryd.prog) (w := w) 22 A D c elemV .i64 (n : Int) (by omega) (by omega)
  rw [h, sizeV, Int.toNat_natCast]
  rfl
theorem slice_to (n D : Nat) (A : Option Addr) (c : Nat) (hn : n ≤ c) (w : World) :
    (Instr.slice 22 (.slice A D c) none (some (.int .i64 n)) none).run Tryd.prog w = .ok (.slice A n c) w := by
  have h := run_slice_h (P := Tryd.prog) (w := w) 22 A D c elemV .i64 (n : Int) (by omega) (by omega)
  rw [h, sizeV, Int.toNat_natCast]
  show Result.ok (Value.slice (if c = 0 then A else A.map (·.add (0 * 3))) (n - 0) (c - 0)) w = _
  have e : (if c = 0 then A else A.map (·.add (0 * 3))) = A := by
    split
    · rfl
    · cases A with
      | none => rfl
      | some a => rfl
  rw [e]
  rfl
theorem sliced_form (A : Option Addr) (n D c : Nat) : ∃ A' c', sliced A n D c 3 = .slice A' (D - n) c' := ⟨_, _, rfl⟩
/-- the row behind so many values -/
theorem done_tail {G : Nat → Prop} {B : Nat} {w : World} {A : Option Addr} {c : Nat} {d0 d1 : List VT} {vs : List Value} (ho : w.ownsRow B 24 3 (.slice A (d0 ++ d1).length c) (d0 ++ d1).length vs) (hv : Vals G w (d0 ++ d1) vs) :
    Kids (fun b => G b ∨ some b = (Value.slice A (d0 ++ d1).length c).ownBlock) w d1 (sliced A d0.length (d0 ++ d1).length c 3) := by
  have hlen : (d0 ++ d1).length - d0.length = d1.length := by simp
  obtain ⟨xs, ys, rfl, h0, h1⟩ := hv.split
  have hx := h0.len
  have hm : d1.length ≤ 9223372036854775807 := by
    rcases ho.2 with ⟨_, hn⟩ | ⟨g, cap, cur, _, _, _, hnc, hcm, _⟩
    · rw [List.length_append] at hn; omega
    · unfold maxLen at hcm; rw [List.length_append] at hnc; omega
  rcases ho.2 with ⟨hs, hn⟩ | ⟨g, cap, cur, hs, hb, hg, hnc, hcm, hcs, htake⟩
  · injection hs with hA _ hc
    subst hA
    subst hc
    have h2 : d1 = [] := List.eq_nil_of_length_eq_zero (by rw [List.length_append] at hn; omega)
    have h3 : d0 = [] := List.eq_nil_of_length_eq_zero (by rw [List.length_append] at hn; omega)
    subst h2
    subst h3
    exact Kids.nil_ _ _
  · injection hs with hA _ hc
    subst hA
    subst hc
    refine ⟨_, _, by unfold sliced; rw [hlen], ⟨hm, fun h => by split at h <;> cases h⟩, fun hp => ?_⟩
    have hne : ¬ c = d0.length := by rw [List.length_append] at hnc; omega
    refine ⟨g, d0.length * 3, by rw [if_neg hne]; show some (Addr.add ⟨g, 0, none⟩ (d0.length * 3)) = _; rw [cells_add, Nat.zero_add], Or.inr rfl, vals_row (h1.mono fun b hb => Or.inl hb) fun j u hu => ?_⟩
    rw [ho.cellAt _ (by
      have := (List.getElem?_eq_some_iff.1 hu).1
      have hy := h1.len
      rw [List.length_append]; omega), List.getElem?_append_right (by omega), ← hu]
    congr 1; omega
/-- .. as made takes it -/
theorem done_sl {G : Nat → Prop} {B : Nat} {w : World} {A : Option Addr} {c : Nat} {d0 d1 : List VT} {vs : List Value} (ho : w.ownsRow B 24 3 (.slice A (d0 ++ d1).length c) (d0 ++ d1).length vs) (hv : Vals G w (d0 ++ d1) vs) :
    ∃ A' c', sliced A d0.length (d0 ++ d1).length c 3 = .slice A' d1.length c' ∧ (A' = none → c' = 0) ∧ (A' = none → d1 = []) ∧ ∀ ad, A' = some ad → ∃ vs, Vals G w d1 vs ∧ ∀ j u, vs[j]? = some u → w.cell? (ad.add j) = some u := by
  have hlen : (d0 ++ d1).length - d0.length = d1.length := by simp
  obtain ⟨xs, ys, rfl, h0, h1⟩ := hv.split
  have hx := h0.len
  rcases ho.2 with ⟨hs, hn⟩ | ⟨g, cap, cur, hs, hb, hg, hnc, hcm, hcs, htake⟩
  · injection hs with hA _ hc
    subst hA
    subst hc
    have h2 : d1 = [] := List.eq_nil_of_length_eq_zero (by rw [List.length_append] at hn; omega)
    have h3 : d0 = [] := List.eq_nil_of_length_eq_zero (by rw [List.length_append] at hn; omega)
    subst h2
    subst h3
    exact ⟨none, 0, rfl, fun _ => rfl, fun _ => rfl, fun ad h => by cases h⟩
  · injection hs with hA _ hc
    subst hA
    subst hc
    refine ⟨if c = d0.length then some ⟨g, 0, none⟩ else (some (⟨g, 0, none⟩ : Addr)).map (·.add (d0.length * 3)), c - d0.length, (by unfold sliced; rw [hlen]), (fun h => by split at h <;> cases h), (fun h => by split at h <;> cases h), (fun ad hA => ⟨ys, h1, fun j u hu => ?_⟩)⟩
    have hy := h1.len
    have hjl := (List.getElem?_eq_some_iff.1 hu).1
    have hne : ¬ c = d0.length := by rw [List.length_append] at hnc; omega
    rw [if_neg hne] at hA
    injection hA with hA
    rw [← hA]
    show w.cell? (((⟨g, 0, none⟩ : Addr).add (d0.length * 3)).add j) = _
    rw [cells_add, cells_add, Nat.zero_add, ho.cellAt _ (by rw [List.length_append]; omega), List.getElem?_append_right (by omega), ← hu]
    congr 1; omega
/-- .. and the row of the values ahead -/
theorem done_head {G : Nat → Prop} {B : Nat} {w : World} {A : Option Addr} {c : Nat} {d0 d1 : List VT} {vs : List Value} (ho : w.ownsRow B 24 3 (.slice A (d0 ++ d1).length c) (d0 ++ d1).length vs) (hv : Vals G w (d0 ++ d1) vs) :
    d0.length ≤ c ∧ ∃ xs, Vals G w d0 xs ∧ w.ownsRow B 24 3 (.slice A d0.length c) d0.length xs := by
  obtain ⟨xs, ys, rfl, h0, h1⟩ := hv.split
  have hx := h0.len
  rcases ho.2 with ⟨hs, hn⟩ | ⟨g, cap, cur, hs, hb, hg, hnc, hcm, hcs, htake⟩
  · injection hs with hA _ hc
    subst hA
    subst hc
    have h3 : d0 = [] := List.eq_nil_of_length_eq_zero (by rw [List.length_append] at hn; omega)
    subst h3
    have : xs = [] := List.eq_nil_of_length_eq_zero (by rw [hx]; rfl)
    subst this
    exact ⟨Nat.le_refl _, [], h0, World.ownsRow_nil _ _ _ _⟩
  · injection hs with hA _ hc
    subst hA
    subst hc
    rw [List.length_append] at hnc htake
    refine ⟨by omega, xs, h0, hx, .inr ⟨g, c, cur, rfl, hb, hg, by omega, hcm, hcs, ?_⟩⟩
    have e1 : (cur.toList.take ((d0.length + d1.length) * 3)).take (d0.length * 3) = cur.toList.take (d0.length * 3) := by rw [List.take_take, Nat.min_eq_left (by omega)]
    rw [← e1, htake, List.take_append_of_le_length (by omega), List.take_of_length_le (by omega)]
end Go.Proofs.YtjbdfckanabepaaDoor.vt

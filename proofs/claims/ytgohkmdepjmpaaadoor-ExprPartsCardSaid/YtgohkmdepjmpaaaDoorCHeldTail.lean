/- A region that draws its order, whose last operation waits for every other one: the others walked by held steps, then the last one (a store into what the others read, say). -/
import Derived.Test.YtgohkmdepjmpaaaDoorCQuietTail
import Derived.Deep.RegionHeld
namespace Go.Proofs.YtgohkmdepjmpaaaDoor.nt
open Go Go.RowKit

section
variable {P : Program} {OP OH : Array Oper} {Q : Exit → Act → World → Prop} {n : Nat} {t : Oper}

/-- behind the others: the last one -/
def withTail (P : Program) (t : Oper) (Q : Exit → Act → World → Prop) : Exit → Act → World → Prop
  | .normal, a, w => t.wp P a w (fun a' w' => Q .normal a' w') Q
  | .exit i, a, w => Q (.exit i) a w
  | .goto l, a, w => Q (.goto l) a w
  | .ret, a, w => Q .ret a w
  | .panic c, a, w => Q (.panic c) a w
  | .outgrown, a, w => Q .outgrown a w
theorem wp_withTail {o : Oper} {a : Act} {w : World} {K K' : Act → World → Prop} (h : ∀ a w, K a w → K' a w) (hh : o.wp P a w K (withTail P t Q)) : o.wp P a w K' Q := by
  unfold Oper.wp at *
  generalize (execOp a.eval o).run P w = r at *
  cases r with
  | ok n w' =>
    cases n <;> simp only [Oper.upon] at hh ⊢ <;>
      first
        | exact h _ _ hh
        | exact Calls.mono hh (fun e w'' he => by cases e <;> first | exact h _ _ he | exact he)
        | exact Rows.mono hh (fun _ _ he => h _ _ he)
  | halt x w' => cases x <;> simp only [Oper.upon] at hh ⊢ <;> exact hh
theorem Tailed.simAny (T : Tailed OP OH n t) : ∀ (k : Nat) (listed L : Array Bool) (a : Act) (w : World), listed.size = n + 1 → L.size = n → listed.getD n true = false → (∀ i, i < n → L.getD i true = listed.getD i true) →
    wpAny P .any OH (withTail P t Q) k L a w → wpAny P .any OP Q (k + 1) listed a w := by
  intro k
  induction k with
  | zero =>
    intro listed L a w hz hL hn hs h
    by_cases hall : ∀ i, i < n → listed.getD i true = true
    · exact T.fin hz hn hall h.2
    · exfalso
      have : ∃ i, i < n ∧ L.getD i true = false := by
        apply Classical.byContradiction
        intro hno
        exact hall fun i hi => by
          rw [← hs i hi]
          cases hh : L.getD i true with
          | true => rfl
          | false => exact absurd ⟨i, hi, hh⟩ hno
      obtain ⟨i, hi⟩ := T.least hL this
      rw [h.1] at hi
      cases hi
  | succ k ih =>
    intro listed L a w hz hL hn hs h
    by_cases hall : ∀ i, i < n → listed.getD i true = true
    · refine T.fin hz hn hall (h.1 ?_)
      refine List.eq_nil_iff_forall_not_mem.2 fun i hi => ?_
      obtain ⟨h1, o, ho, _⟩ := mem_ready.1 hi
      have hlt := (Array.getElem?_eq_some_iff.1 ho).1
      rw [T.sizeH] at hlt
      rw [hs i hlt, hall i hlt] at h1
      cases h1
    · have hex : ∃ i, i < n ∧ L.getD i true = false := by
        apply Classical.byContradiction
        intro hno
        exact hall fun i hi => by
          rw [← hs i hi]
          cases hh : L.getD i true with
          | true => rfl
          | false => exact absurd ⟨i, hi, hh⟩ hno
      have hlow : ∀ i, i ∈ Region.ready .any OP listed → i < n := fun i hi => by
        rcases T.one hz hi with h1 | h1
        · exact h1
        · subst h1
          obtain ⟨j, hj, hjf⟩ := hex
          obtain ⟨_, o, ho, h2⟩ := mem_ready.1 hi
          rw [T.last] at ho
          injection ho with ho
          subst ho
          obtain ⟨e, he, hb, hej⟩ := T.all j hj
          have h3 := h2 e he hb
          rw [hs j hj] at hjf
          rw [hej] at h3
          have l2 : j < listed.size := by omega
          simp only [Array.getD_eq_getD_getElem?, Array.getElem?_eq_getElem l2, Option.getD_some] at h3 hjf
          rw [h3] at hjf; cases hjf
      refine ⟨fun h0 => ?_, fun i hi => ?_⟩
      · exfalso
        obtain ⟨i, hi⟩ := T.least hL hex
        have hi2 : i < n := by
          obtain ⟨_, o, ho, _⟩ := mem_ready.1 hi
          have := (Array.getElem?_eq_some_iff.1 ho).1
          have := T.sizeH
          omega
        have : i ∈ Region.ready .any OP listed := by
          obtain ⟨h1, o, ho, h2⟩ := mem_ready.1 hi
          refine mem_ready.2 ⟨(hs i hi2).symm.trans h1, o, (T.same i hi2).trans ho, fun e he hb => ?_⟩
          have hlt := T.back i o ho e he hb
          have h3 := h2 e he hb
          have h4 := hs e.on (by omega)
          have l1 : e.on < L.size := by omega
          have l2 : e.on < listed.size := by omega
          simp only [Array.getD_eq_getD_getElem?, Array.getElem?_eq_getElem l1, Array.getElem?_eq_getElem l2, Option.getD_some] at h3 h4 ⊢
          exact h4.symm.trans h3
        rw [h0] at this
        cases this
      · have hin := hlow i hi
        have hq := h.2 i (T.head hz hL hs hin hi)
        have hop := T.same i hin
        have key : ∀ a' w', wpAny P .any OH (withTail P t Q) k (L.setIfInBounds i true) a' w' → wpAny P .any OP Q (k + 1) (listed.setIfInBounds i true) a' w' := fun a' w' hh => by
          refine ih _ _ a' w' (by rw [Array.size_setIfInBounds]; exact hz) (by rw [Array.size_setIfInBounds]; exact hL) (by rw [getD_set_ne true (by omega)]; exact hn) (fun j hj => ?_) hh
          by_cases hij : i = j
          · subst hij
            rw [Array.getD_eq_getD_getElem?, Array.getD_eq_getD_getElem?, Array.getElem?_setIfInBounds_self_of_lt (by omega), Array.getElem?_setIfInBounds_self_of_lt (by omega)]
          · rw [getD_set_ne true hij, getD_set_ne true hij]; exact hs j hj
        unfold wpOp at hq ⊢
        rw [hop]
        cases ho : OH[i]? with
        | none =>
          rw [ho] at hq
          exact key a w hq
        | some o =>
          rw [ho] at hq
          simp only at hq ⊢
          rw [T.wanted ho a]
          split
          · rename_i hw
            rw [if_pos hw] at hq
            exact hq.imp (fun q => wp_withTail key q) (fun q => ⟨q.1, q.2⟩)
          · rename_i hw
            rw [if_neg hw] at hq
            exact key _ w hq
/-- the others by held steps; then the last -/
theorem region_held_tail {S : World → Prop} {id : Nat} {a : Act} {w : World} {l : List Oper} (n : Nat) {t : Oper} (ht : l[n]? = some t) (hm : P.follows .mixedOrders = true) (hb : tailB l n = true) (hS : S w.drew)
    (h : S w.drew → wpAnyH P .any (l.take n).toArray (withTail P t Q) S (l.take n).toArray.size (Array.replicate (l.take n).toArray.size false) a w.drew) : (Code.region id l.toArray true).wp P Q a w := by
  have T := tailed hb ht
  refine wp_region_any hm ?_
  have h2 := wpAny_of_held _ _ _ _ (h hS)
  have e : l.toArray.size = n + 1 := T.sizeP
  have e2 : (l.take n).toArray.size = n := T.sizeH
  rw [e2] at h2
  rw [e]
  exact T.simAny n _ _ a _ (by simp) (by simp) (by simp) (fun i hi => by simp [Array.getD_eq_getD_getElem?, hi, Nat.lt_succ_of_lt hi]) h2
end
end Go.Proofs.YtgohkmdepjmpaaaDoor.nt

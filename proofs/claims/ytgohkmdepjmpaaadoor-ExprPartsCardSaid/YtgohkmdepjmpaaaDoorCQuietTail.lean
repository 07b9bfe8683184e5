/- A region that draws its order, whose last operation waits for every other one (a store, say): the others walked once, in the order of the text, as quiet ones; then the last. -/
import Derived.Test.YtgohkmdepjmpaaaDoorProg
import Derived.Lib.QuietBelow
import Derived.BigQuiet
namespace Go.Proofs.YtgohkmdepjmpaaaDoor.nt
open Go Go.RowKit

section
variable {P : Program} {OP OH : Array Oper} {C : World → Prop} {Q : Exit → Act → World → Prop} {n : Nat} {t : Oper}

/-- what the simulation wants of the two regions -/
structure Tailed (OP OH : Array Oper) (n : Nat) (t : Oper) : Prop where
  sizeP : OP.size = n + 1
  sizeH : OH.size = n
  same : ∀ i, i < n → OP[i]? = OH[i]?
  back : ∀ (i : Nat) (o : Oper), OH[i]? = some o → ∀ e ∈ o.after, Region.binds .any e = true → e.on < i
  guard : ∀ (i : Nat) (o : Oper), OH[i]? = some o → ∀ (g : Nat) (b : Bool), o.guard = some (g, b) → g < n
  last : OP[n]? = some t
  free : t.guard = none
  tback : ∀ e ∈ t.after, Region.binds .any e = true → e.on < n
  all : ∀ i, i < n → ∃ e ∈ t.after, Region.binds .any e = true ∧ e.on = i

theorem Tailed.wanted (T : Tailed OP OH n t) {i : Nat} {o : Oper} (hi : OH[i]? = some o) (a : Act) : Region.wanted o (yielded OP a.tmps) = Region.wanted o (yielded OH a.tmps) := by
  unfold Region.wanted
  cases hg : o.guard with
  | none => rfl
  | some gb =>
    obtain ⟨g, b⟩ := gb
    have := T.guard i o hi g b hg
    simp only [yielded]
    rw [T.same g this]

/-- the least one that has not come up is ready -/
theorem Tailed.least (T : Tailed OP OH n t) {L : Array Bool} (hL : L.size = n) (h : ∃ i, i < n ∧ L.getD i true = false) : ∃ i, i ∈ Region.ready .any OH L := by
  obtain ⟨i, hi, hf⟩ := h
  induction i using Nat.strongRecOn with
  | ind i ih =>
    by_cases h : ∃ j, j < i ∧ L.getD j true = false
    · obtain ⟨j, hj, hjf⟩ := h
      exact ih j hj (by omega) hjf
    · have hsome : ∃ o, OH[i]? = some o := ⟨_, Array.getElem?_eq_getElem (by rw [T.sizeH]; exact hi)⟩
      obtain ⟨o, ho⟩ := hsome
      refine ⟨i, mem_ready.2 ⟨hf, o, ho, fun e he hb => ?_⟩⟩
      have hlt := T.back i o ho e he hb
      have h2 : L.getD e.on true ≠ false := fun hh => h ⟨e.on, hlt, hh⟩
      have h3 : e.on < L.size := by omega
      simp only [Array.getD_eq_getD_getElem?, Array.getElem?_eq_getElem h3, Option.getD_some] at h2 ⊢
      simpa using h2

theorem Tailed.head (T : Tailed OP OH n t) {listed L : Array Bool} (hz : listed.size = n + 1) (hL : L.size = n) (hs : ∀ i, i < n → L.getD i true = listed.getD i true) {i : Nat} (hi : i < n) (h : i ∈ Region.ready .any OP listed) : i ∈ Region.ready .any OH L := by
  obtain ⟨h1, o, ho, h2⟩ := mem_ready.1 h
  rw [T.same i hi] at ho
  refine mem_ready.2 ⟨(hs i hi).trans h1, o, ho, fun e he hb => ?_⟩
  have hlt := T.back i o ho e he hb
  have h3 := h2 e he hb
  have h4 := hs e.on (by omega)
  have l1 : e.on < L.size := by omega
  have l2 : e.on < listed.size := by omega
  simp only [Array.getD_eq_getD_getElem?, Array.getElem?_eq_getElem l1, Array.getElem?_eq_getElem l2, Option.getD_some] at h3 h4 ⊢
  exact h4.trans h3

theorem Tailed.one (T : Tailed OP OH n t) {listed : Array Bool} (_ : listed.size = n + 1) {i : Nat} (h : i ∈ Region.ready .any OP listed) : i < n ∨ i = n := by
  obtain ⟨_, o, ho, _⟩ := mem_ready.1 h
  have := (Array.getElem?_eq_some_iff.1 ho).1
  have := T.sizeP
  omega

/-- all others have come up: the last one -/
theorem Tailed.fin (T : Tailed OP OH n t) {listed : Array Bool} (hz : listed.size = n + 1) (hn : listed.getD n true = false) (ha : ∀ i, i < n → listed.getD i true = true) {k : Nat} {a : Act} {w : World} (h : t.wp P a w (fun a' w' => Q .normal a' w') Q) : wpAny P .any OP Q (k + 1) listed a w := by
  have hr : n ∈ Region.ready .any OP listed := by
    refine mem_ready.2 ⟨hn, t, T.last, fun e he hb => ?_⟩
    have hlt := T.tback e he hb
    have h3 := ha e.on hlt
    have l2 : e.on < listed.size := by omega
    simp only [Array.getD_eq_getD_getElem?, Array.getElem?_eq_getElem l2, Option.getD_some] at h3 ⊢
    exact h3
  have hnone : ∀ i, i ∈ Region.ready .any OP (listed.setIfInBounds n true) → False := fun i hi => by
    have hd := (mem_ready.1 hi).1
    rcases T.one (by rw [Array.size_setIfInBounds]; exact hz) hi with h1 | h1
    · rw [getD_set_ne true (by omega), ha i h1] at hd; cases hd
    · subst h1
      rw [Array.getD_eq_getD_getElem?, Array.getElem?_setIfInBounds_self_of_lt (by omega)] at hd
      simp at hd
  have hnil : Region.ready .any OP (listed.setIfInBounds n true) = [] := List.eq_nil_iff_forall_not_mem.2 hnone
  refine ⟨fun h0 => absurd hr (by rw [h0]; exact List.not_mem_nil), fun i hi => ?_⟩
  rcases T.one hz hi with h1 | h1
  · have hd := (mem_ready.1 hi).1
    rw [ha i h1] at hd; cases hd
  · subst h1
    unfold wpOp
    rw [T.last]
    simp only
    have hw : Region.wanted t (yielded OP a.tmps) = true := by unfold Region.wanted; rw [T.free]
    rw [if_pos hw]
    refine Or.inl (Oper.wp_mono (fun a' w' hq => ?_) h)
    cases k with
    | zero => exact ⟨hnil, hq⟩
    | succ k => exact ⟨fun _ => hq, fun i hi => (hnone i hi).elim⟩

theorem Tailed.sim (T : Tailed OP OH n t) : ∀ (k : Nat) (listed L : Array Bool) (a : Act) (w : World), listed.size = n + 1 → L.size = n → listed.getD n true = false → (∀ i, i < n → L.getD i true = listed.getD i true) → C w →
    wpAnyQ P .any OH C (fun a' => ∀ w', C w' → t.wp P a' w' (fun a w => Q .normal a w) Q) k L a → wpAny P .any OP Q (k + 1) listed a w := by
  intro k
  induction k with
  | zero =>
    intro listed L a w hz hL hn hs hC h
    by_cases hall : ∀ i, i < n → listed.getD i true = true
    · exact T.fin hz hn hall (h.2 w hC)
    · exfalso
      have : ∃ i, i < n ∧ L.getD i true = false := by
        apply Classical.byContradiction
        intro hno
        exact hall fun i hi => by
          rw [← hs i hi]
          cases hh : L.getD i true with
          | true => rfl
          | false => exact absurd ⟨i, hi, hh⟩ hno
      obtain ⟨i, hi⟩ := T.least hL this
      rw [h.1] at hi
      cases hi
  | succ k ih =>
    intro listed L a w hz hL hn hs hC h
    by_cases hall : ∀ i, i < n → listed.getD i true = true
    · refine T.fin hz hn hall (h.1 ?_ w hC)
      refine List.eq_nil_iff_forall_not_mem.2 fun i hi => ?_
      obtain ⟨h1, o, ho, _⟩ := mem_ready.1 hi
      have hlt := (Array.getElem?_eq_some_iff.1 ho).1
      rw [T.sizeH] at hlt
      rw [hs i hlt, hall i hlt] at h1
      cases h1
    · have hex : ∃ i, i < n ∧ L.getD i true = false := by
        apply Classical.byContradiction
        intro hno
        exact hall fun i hi => by
          rw [← hs i hi]
          cases hh : L.getD i true with
          | true => rfl
          | false => exact absurd ⟨i, hi, hh⟩ hno
      have hlow : ∀ i, i ∈ Region.ready .any OP listed → i < n := fun i hi => by
        rcases T.one hz hi with h1 | h1
        · exact h1
        · subst h1
          obtain ⟨j, hj, hjf⟩ := hex
          obtain ⟨_, o, ho, h2⟩ := mem_ready.1 hi
          rw [T.last] at ho
          injection ho with ho
          subst ho
          obtain ⟨e, he, hb, hej⟩ := T.all j hj
          have h3 := h2 e he hb
          rw [hs j hj] at hjf
          rw [hej] at h3
          have l2 : j < listed.size := by omega
          simp only [Array.getD_eq_getD_getElem?, Array.getElem?_eq_getElem l2, Option.getD_some] at h3 hjf
          rw [h3] at hjf; cases hjf
      refine ⟨fun h0 => ?_, fun i hi => ?_⟩
      · exfalso
        obtain ⟨i, hi⟩ := T.least hL hex
        have hi2 : i < n := by
          obtain ⟨_, o, ho, _⟩ := mem_ready.1 hi
          have := (Array.getElem?_eq_some_iff.1 ho).1
          have := T.sizeH
          omega
        have : i ∈ Region.ready .any OP listed := by
          obtain ⟨h1, o, ho, h2⟩ := mem_ready.1 hi
          refine mem_ready.2 ⟨(hs i hi2).symm.trans h1, o, (T.same i hi2).trans ho, fun e he hb => ?_⟩
          have hlt := T.back i o ho e he hb
          have h3 := h2 e he hb
          have h4 := hs e.on (by omega)
          have l1 : e.on < L.size := by omega
          have l2 : e.on < listed.size := by omega
          simp only [Array.getD_eq_getD_getElem?, Array.getElem?_eq_getElem l1, Array.getElem?_eq_getElem l2, Option.getD_some] at h3 h4 ⊢
          exact h4.symm.trans h3
        rw [h0] at this
        cases this
      · have hin := hlow i hi
        have hq := h.2 i (T.head hz hL hs hin hi)
        have hop := T.same i hin
        have key : ∀ a' w', C w' → wpAnyQ P .any OH C (fun a' => ∀ w', C w' → t.wp P a' w' (fun a w => Q .normal a w) Q) k (L.setIfInBounds i true) a' → wpAny P .any OP Q (k + 1) (listed.setIfInBounds i true) a' w' := fun a' w' hC' hh => by
          refine ih _ _ a' w' (by rw [Array.size_setIfInBounds]; exact hz) (by rw [Array.size_setIfInBounds]; exact hL) (by rw [getD_set_ne true (by omega)]; exact hn) (fun j hj => ?_) hC' hh
          by_cases hij : i = j
          · subst hij
            rw [Array.getD_eq_getD_getElem?, Array.getD_eq_getD_getElem?, Array.getElem?_setIfInBounds_self_of_lt (by omega), Array.getElem?_setIfInBounds_self_of_lt (by omega)]
          · rw [getD_set_ne true hij, getD_set_ne true hij]; exact hs j hj
        unfold qOp at hq
        unfold wpOp
        rw [hop]
        cases ho : OH[i]? with
        | none =>
          rw [ho] at hq
          exact key a w hC hq
        | some o =>
          rw [ho] at hq
          simp only at hq ⊢
          rw [T.wanted ho a]
          split
          · rename_i hw
            rw [if_pos hw] at hq
            exact Or.inl (Oper.wp_of_quiet hC (fun a' w' hC' hh => key a' w' hC' hh) hq)
          · rename_i hw
            rw [if_neg hw] at hq
            exact key _ w hC hq
/-- what is looked at in the text -/
def tailB (l : List Oper) (n : Nat) : Bool :=
  decide (l.length = n + 1) && (List.range n).all (fun i => match l[i]? with
    | some o => (o.after.toList.all fun e => !Region.binds .any e || decide (e.on < i)) && (match o.guard with | none => true | some (g, _) => decide (g < n))
    | none => false) &&
  (match l[n]? with
    | some t => t.guard.isNone && (t.after.toList.all fun e => !Region.binds .any e || decide (e.on < n)) && (List.range n).all fun i => t.after.toList.any fun e => Region.binds .any e && e.on == i
    | none => false)
theorem tailed {l : List Oper} {n : Nat} {t : Oper} (h : tailB l n = true) (ht : l[n]? = some t) : Tailed l.toArray (l.take n).toArray n t := by
  unfold tailB at h
  rw [ht] at h
  simp only [Bool.and_eq_true, decide_eq_true_eq, List.all_eq_true, List.mem_range] at h
  obtain ⟨⟨hz, hh⟩, ⟨hf, htb⟩, hall⟩ := h
  have hin : ∀ (i : Nat) (o : Oper), (l.take n).toArray[i]? = some o → i < n ∧ l[i]? = some o := fun i o ho => by
    rw [List.getElem?_toArray, List.getElem?_take] at ho
    split at ho
    · exact ⟨by assumption, ho⟩
    · cases ho
  refine ⟨by simpa using hz, by simp; omega, fun i hi => by rw [List.getElem?_toArray, List.getElem?_toArray, List.getElem?_take, if_pos hi], fun i o ho e he hb => ?_, fun i o ho g b hg => ?_, by rw [List.getElem?_toArray]; exact ht, by simpa using hf, fun e he hb => ?_, fun i hi => ?_⟩
  · obtain ⟨hi, ho⟩ := hin i o ho
    have := hh i hi
    rw [ho] at this
    simp only [Bool.and_eq_true, List.all_eq_true] at this
    have := this.1 e (Array.mem_toList_iff.2 he)
    rw [hb] at this
    simpa using this
  · obtain ⟨hi, ho⟩ := hin i o ho
    have := hh i hi
    rw [ho] at this
    simp only [Bool.and_eq_true] at this
    have := this.2
    rw [hg] at this
    simpa using this
  · have := htb e (Array.mem_toList_iff.2 he)
    rw [hb] at this
    simpa using this
  · have := hall i hi
    rw [List.any_eq_true] at this
    obtain ⟨e, he, hb⟩ := this
    simp only [Bool.and_eq_true, beq_iff_eq] at hb
    exact ⟨e, Array.mem_toList_iff.1 he, hb.1, hb.2⟩
/-- the others once, as quiet ones, in whatever world of the class; then the last -/
theorem region_quiet_tail {id : Nat} {a : Act} {w : World} {l : List Oper} (n : Nat) {t : Oper} (ht : l[n]? = some t) (hm : P.follows .mixedOrders = true) (hb : tailB l n = true) (hB : Region.lexB .any (l.take n).toArray = true)
    (h : wpQuiet P (l.take n).toArray (fun w' => ∃ p : Regrown, w' = Go.Sort.grow (redrawn w p.d) p.os) (fun a' => ∀ w', (∃ p : Regrown, w' = Go.Sort.grow (redrawn w p.d) p.os) → t.wp P a' w' (fun a w => Q .normal a w) Q) (l.take n) a) : (Code.region id l.toArray true).wp P Q a w := by
  have T := tailed hb ht
  simp only [Region.lexB, Bool.and_eq_true] at hB
  have hC : ∃ p : Regrown, ({ w with drawn := w.drawn + 1 } : World) = Go.Sort.grow (redrawn w p.d) p.os := ⟨⟨w.drawn + 1, #[]⟩, by rw [Go.Sort.grow_empty]; rfl⟩
  have hl : (l.take n).length = n := by have := T.sizeH; simpa using this
  have h2 := wpAnyQ_lex (C := fun w' => ∃ p : Regrown, w' = Go.Sort.grow (redrawn w p.d) p.os) (md := .any) hB.1 (l.take n) 0 (Array.replicate (l.take n).toArray.size false) a (by simp) (by simpa using hB.2) h
  refine wp_region_any hm ?_
  have h3 := T.sim (C := fun w' => ∃ p : Regrown, w' = Go.Sort.grow (redrawn w p.d) p.os) (Q := Q) _ (Array.replicate (n + 1) false) _ a _ (by simp) (by rw [Array.size_replicate]; exact T.sizeH) (by simp) (fun i hi => by
    have e : (l.take n).toArray.size = n := T.sizeH
    rw [e]
    simp [Array.getD_eq_getD_getElem?, hi, Nat.lt_succ_of_lt hi]) hC h2
  rw [hl] at h3
  have e : l.toArray.size = n + 1 := T.sizeP
  rw [e]
  exact h3
end
end Go.Proofs.YtgohkmdepjmpaaaDoor.nt

/- How a value is read from a text: the reader's steps as plain functions; what is read has just that text, and each right value is read from its own. -/
import Derived.Test.YtjbdfckanabepaaDoorValNum
import Derived.Test.YtjbdfckanabepaaDoorValTree
namespace Go.Proofs.YtjbdfckanabepaaDoor.vt
open Go.RowKit whole

abbrev Frames := List (Int × List VT)
def clB (k : Int) : UInt8 := if k = 3 then 125 else 93
def opB (k : Int) : UInt8 := if k = 3 then 123 else 91
def isStop (c : UInt8) : Bool := c == 44 || c == 93 || c == 125
/-- the number or the flag that a text is of -/
def singleF (x : List UInt8) : Option VT :=
  if x = txtTrue then some (.mk 1 1 []) else if x = txtFalse then some (.mk 1 0 []) else if (signedS x).2 = 0 then some (.mk 0 (signedS x).1 []) else none
def opensF : List UInt8 → Frames → List UInt8 × Frames
  | [], f => ([], f)
  | c :: r, f => if c = 91 then opensF r ((2, []) :: f) else if c = 123 then opensF r ((3, []) :: f) else (c :: r, f)
def closeF : List UInt8 → Frames → VT → List UInt8 × Frames × VT
  | c :: r, (k, l) :: f, v => if c = clB k then closeF r f (.mk k 0 (l ++ [v])) else (c :: r, (k, l) :: f, v)
  | r, f, v => (r, f, v)
/-- an empty array or record, if it was just opened and is closed at once -/
def emptyF : Bool → List UInt8 → Frames → Option (List UInt8 × Frames × VT)
  | true, c :: r, (k, l) :: f => if c = clB k then some (r, f, .mk k 0 l) else none
  | _, _, _ => none
def plainF (r : List UInt8) : Option (List UInt8 × VT) :=
  match singleF (r.takeWhile fun c => !isStop c) with
  | some v => some (r.dropWhile (fun c => !isStop c), v)
  | none => none
def restF (opened : Bool) (r : List UInt8) (f : Frames) : Option (List UInt8 × Frames × VT) :=
  match emptyF opened r f with
  | some (r', f', v) => some (closeF r' f' v)
  | none => match plainF r with
    | some (r', v) => some (closeF r' f v)
    | none => none
def valueF (r : List UInt8) (f : Frames) : Option (List UInt8 × Frames × VT) :=
  restF (decide (f.length < (opensF r f).2.length)) (opensF r f).1 (opensF r f).2
/-- the reader's loop, so many rounds at most -/
def readF : Nat → List UInt8 → Frames → Option VT
  | 0, _, _ => none
  | n + 1, r, f => match valueF r f with
    | none => none
    | some (44 :: 32 :: r', (k, l) :: f', v) => readF n r' ((k, l ++ [v]) :: f')
    | some ([], [], v) => some v
    | some _ => none

/-! ### what is read has that text -/
def preL (l : List VT) : List UInt8 := textL l ++ (if l.isEmpty then [] else [44, 32])
def ren : Frames → List UInt8
  | [] => []
  | (k, l) :: f => ren f ++ [opB k] ++ preL l
def okF (f : Frames) : Prop := ∀ p ∈ f, (p.1 = 2 ∨ p.1 = 3) ∧ rightL p.2 = true
theorem preL_snoc (l : List VT) (v : VT) : textL (l ++ [v]) = preL l ++ v.text := by rw [textL_snoc]; rfl
theorem text_arr (k : Int) (l : List VT) (h : k = 2 ∨ k = 3) : (VT.mk k 0 l).text = [opB k] ++ textL l ++ [clB k] := by
  rw [text_mk, if_neg (by omega), if_neg (by omega)]
  rcases h with rfl | rfl <;> rfl
theorem right_of (k : Int) (l : List VT) (h : k = 2 ∨ k = 3) (hr : rightL l = true) : (VT.mk k 0 l).right = true := by
  rw [right_mk, if_neg (by omega), if_neg (by omega), if_pos h, hr]; rfl
theorem opens_ok : ∀ (r : List UInt8) (f : Frames), okF f → okF (opensF r f).2 ∧ ren (opensF r f).2 ++ (opensF r f).1 = ren f ++ r ∧ f.length ≤ (opensF r f).2.length ∧ (f.length < (opensF r f).2.length → ∃ k f', (opensF r f).2 = (k, []) :: f')
  | [], f, h => ⟨h, rfl, Nat.le_refl _, fun h => absurd h (Nat.lt_irrefl _)⟩
  | c :: r, f, h => by
    rw [opensF]
    split
    · rename_i hc
      subst hc
      obtain ⟨h1, h2, h3, h4⟩ := opens_ok r ((2, []) :: f) (by intro p hp; rcases List.mem_cons.1 hp with rfl | hp; exact ⟨Or.inl rfl, rfl⟩; exact h p hp)
      refine ⟨h1, ?_, by simp at h3; omega, fun _ => ?_⟩
      · rw [h2, ren]; simp [preL, textL, opB]
      · by_cases hl : ((2, []) :: f).length < (opensF r ((2, []) :: f)).2.length
        · exact h4 hl
        · exact opens_same r _ (by omega) 2 f rfl
    · split
      · rename_i hc
        subst hc
        obtain ⟨h1, h2, h3, h4⟩ := opens_ok r ((3, []) :: f) (by intro p hp; rcases List.mem_cons.1 hp with rfl | hp; exact ⟨Or.inr rfl, rfl⟩; exact h p hp)
        refine ⟨h1, ?_, by simp at h3; omega, fun _ => ?_⟩
        · rw [h2, ren]; simp [preL, textL, opB]
        · by_cases hl : ((3, []) :: f).length < (opensF r ((3, []) :: f)).2.length
          · exact h4 hl
          · exact opens_same r _ (by omega) 3 f rfl
      · exact ⟨h, rfl, Nat.le_refl _, fun h => absurd h (Nat.lt_irrefl _)⟩
where
  opens_len : ∀ (r : List UInt8) (f : Frames), f.length ≤ (opensF r f).2.length
  | [], f => Nat.le_refl _
  | c :: r, f => by
    rw [opensF]
    split
    · have := opens_len r ((2, []) :: f); simp at this; omega
    · split
      · have := opens_len r ((3, []) :: f); simp at this; omega
      · exact Nat.le_refl _
  opens_same : ∀ (r : List UInt8) (f : Frames), (opensF r f).2.length ≤ f.length → ∀ k f', f = (k, []) :: f' → ∃ k f', (opensF r f).2 = (k, []) :: f'
  | [], f, _, k, f', h => ⟨k, f', h⟩
  | c :: r, f, hl, k, f', h => by
    rw [opensF] at hl ⊢
    split
    · rename_i hc; rw [if_pos hc] at hl
      have := opens_len r ((2, []) :: f); simp at this; omega
    · rename_i hc; rw [if_neg hc] at hl
      split
      · rename_i hc; rw [if_pos hc] at hl
        have := opens_len r ((3, []) :: f); simp at this; omega
      · exact ⟨k, f', h⟩
theorem close_ok : ∀ (r : List UInt8) (f : Frames) (v : VT), okF f → v.right = true → okF (closeF r f v).2.1 ∧ (closeF r f v).2.2.right = true ∧ ren (closeF r f v).2.1 ++ (closeF r f v).2.2.text ++ (closeF r f v).1 = ren f ++ v.text ++ r
  | [], f, v, h, hv => by cases f <;> exact ⟨h, hv, rfl⟩
  | c :: r, [], v, h, hv => ⟨h, hv, rfl⟩
  | c :: r, (k, l) :: f, v, h, hv => by
    rw [closeF]
    split
    · rename_i hc
      have hk := h (k, l) (by simp)
      have hr : (VT.mk k 0 (l ++ [v])).right = true := right_of k _ hk.1 (by rw [rightL_append, hk.2]; simp [rightL, hv])
      obtain ⟨h1, h2, h3⟩ := close_ok r f (.mk k 0 (l ++ [v])) (fun p hp => h p (by simp [hp])) hr
      refine ⟨h1, h2, ?_⟩
      rw [h3, text_arr k _ hk.1, preL_snoc, ren, hc]
      simp [List.append_assoc]
    · exact ⟨h, hv, rfl⟩
theorem single_ok {x : List UInt8} {v : VT} (h : singleF x = some v) : v.right = true ∧ v.text = x ∧ v.fits ∧ v.kids = [] := by
  unfold singleF at h
  split at h
  · rename_i hx; cases h; subst hx; exact ⟨rfl, rfl, by rw [fits_mk]; exact ⟨⟨⟨by omega, by omega⟩, by omega, by omega⟩, by rw [fitsL]; trivial⟩, rfl⟩
  · split at h
    · rename_i hx; cases h; subst hx; exact ⟨rfl, rfl, by rw [fits_mk]; exact ⟨⟨⟨by omega, by omega⟩, by omega, by omega⟩, by rw [fitsL]; trivial⟩, rfl⟩
    · split at h
      · rename_i hs
        rcases signed_cases x with ⟨n, e, hi, hb⟩ | e
        · cases h
          rw [e]
          refine ⟨by rw [right_mk, if_pos rfl]; rfl, by rw [text_mk, if_pos rfl]; exact hi, by rw [fits_mk]; exact ⟨⟨⟨by omega, by omega⟩, hb⟩, by rw [fitsL]; trivial⟩, rfl⟩
        · rw [e] at hs; cases hs
      · cases h
theorem rest_ok (o : Bool) (r : List UInt8) (f : Frames) (h : okF f) (hz : o = true → ∃ k f', f = (k, []) :: f') {r' : List UInt8} {f' : Frames} {v : VT} (he : restF o r f = some (r', f', v)) : okF f' ∧ v.right = true ∧ ren f' ++ v.text ++ r' = ren f ++ r := by
  unfold restF at he
  split at he
  · rename_i r1 f1 v1 h1
    have he : closeF r1 f1 v1 = (r', f', v) := Option.some.inj he
    cases o with
    | false => simp [emptyF] at h1
    | true =>
      obtain ⟨k, f2, rfl⟩ := hz rfl
      cases r with
      | nil => simp [emptyF] at h1
      | cons c r =>
        rw [emptyF] at h1
        split at h1
        · rename_i hc
          cases h1
          have hk := (h (k, []) (by simp)).1
          have := close_ok r1 f1 (.mk k 0 []) (fun p hp => h p (by simp [hp])) (right_of k [] hk rfl)
          rw [he] at this
          refine ⟨this.1, this.2.1, this.2.2.trans ?_⟩
          rw [text_arr k _ hk, ren, hc]; simp [preL, textL]
        · cases h1
  · split at he
    · rename_i r1 v1 h1
      have he : closeF r1 f v1 = (r', f', v) := Option.some.inj he
      unfold plainF at h1
      split at h1
      · rename_i u hu
        cases h1
        have hs := single_ok hu
        have := close_ok (r.dropWhile fun c => !isStop c) f v1 h hs.1
        rw [he] at this
        refine ⟨this.1, this.2.1, this.2.2.trans ?_⟩
        rw [hs.2.1, List.append_assoc, List.takeWhile_append_dropWhile]
      · cases h1
    · cases he
theorem value_ok (r : List UInt8) (f : Frames) (h : okF f) {r' : List UInt8} {f' : Frames} {v : VT} (he : valueF r f = some (r', f', v)) : okF f' ∧ v.right = true ∧ ren f' ++ v.text ++ r' = ren f ++ r := by
  obtain ⟨h1, h2, h3, h4⟩ := opens_ok r f h
  have := rest_ok _ _ _ h1 (fun ho => h4 (of_decide_eq_true ho)) he
  exact ⟨this.1, this.2.1, this.2.2.trans h2⟩
/-- what is read has that text -/
theorem read_ok : ∀ (n : Nat) (r : List UInt8) (f : Frames) (v : VT), okF f → readF n r f = some v → v.right = true ∧ v.text = ren f ++ r
  | 0, _, _, _, _, h => by cases h
  | n + 1, r, f, v, hf, h => by
    rw [readF] at h
    split at h
    · cases h
    · rename_i r' k l f' u he
      obtain ⟨h1, h2, h3⟩ := value_ok r f hf he
      have hk := h1 (k, l) (by simp)
      have := read_ok n r' ((k, l ++ [u]) :: f') v (by
        intro p hp
        rcases List.mem_cons.1 hp with rfl | hp
        · exact ⟨hk.1, by show rightL (l ++ [u]) = true; rw [rightL_append, hk.2]; simp [rightL, h2]⟩
        · exact h1 p (by simp [hp])) h
      refine ⟨this.1, this.2.trans ?_⟩
      rw [← h3, ren, ren]
      have : preL (l ++ [u]) = preL l ++ u.text ++ [44, 32] := by
        show textL (l ++ [u]) ++ _ = _
        rw [preL_snoc, if_neg (by simp)]
      rw [this]; simp [List.append_assoc]
    · rename_i u he
      obtain ⟨h1, h2, h3⟩ := value_ok r f hf he
      cases h
      exact ⟨h2, by rw [← h3, ren]; simp⟩
    · cases h

/-! ### each right value is read from its own text -/
abbrev Plan := List (Int × List VT × List VT)
def Plan.fr (p : Plan) : Frames := p.map fun x => (x.1, x.2.1)
/-- what is still to come, behind a value -/
def finT : Plan → List UInt8
  | [] => []
  | (k, _, s) :: p => tailL s ++ [clB k] ++ finT p
def build : Plan → VT → VT
  | [], v => v
  | (k, l, s) :: p, v => build p (.mk k 0 (l ++ [v] ++ s))
def okP (p : Plan) : Prop := ∀ x ∈ p, (x.1 = 2 ∨ x.1 = 3) ∧ ∀ u ∈ x.2.2, u.right = true ∧ u.fits
def planSize : Plan → Nat
  | [] => 0
  | (_, _, s) :: p => sizeL s + 1 + planSize p
theorem fin_stop (p : Plan) (h : okP p) : finT p = [] ∨ ∃ c r, finT p = c :: r ∧ isStop c = true := by
  cases p with
  | nil => exact Or.inl rfl
  | cons x p =>
    obtain ⟨k, l, s⟩ := x
    right
    cases s with
    | nil =>
      refine ⟨clB k, finT p, by simp [finT, tailL], ?_⟩
      rcases (h (k, l, []) (by simp)).1 with e | e <;> (dsimp only at e; subst e; rfl)
    | cons u s => exact ⟨44, _, by rw [finT, tailL]; simp; rfl, rfl⟩
theorem take_stop (x r : List UInt8) (hx : x.all (fun c => !isStop c) = true) (hr : r = [] ∨ ∃ c r', r = c :: r' ∧ isStop c = true) : (x ++ r).takeWhile (fun c => !isStop c) = x ∧ (x ++ r).dropWhile (fun c => !isStop c) = r := by
  induction x with
  | nil =>
    rcases hr with rfl | ⟨c, r', rfl, hc⟩
    · exact ⟨rfl, rfl⟩
    · simp [hc]
  | cons a x ih =>
    rw [List.all_cons, Bool.and_eq_true] at hx
    obtain ⟨h1, h2⟩ := ih hx.2
    rw [List.cons_append, List.takeWhile_cons, List.dropWhile_cons, if_pos hx.1, if_pos hx.1, h1, h2]
    exact ⟨rfl, rfl⟩
theorem dec_plain (u : Nat) : ∀ c ∈ Lib.decDigits u, 48 ≤ c.toNat ∧ c.toNat ≤ 57 := by
  induction u using Nat.strongRecOn with
  | _ u ih =>
    by_cases h : 9 < u
    · rw [dec_big h]
      intro c hc
      rcases List.mem_append.1 hc with hc | hc
      · exact ih (u / 10) (by omega) c hc
      · simp at hc; subst hc; rw [dgB_nat _ (by omega)]; omega
    · rw [dec_small h]
      intro c hc
      simp at hc; subst hc; rw [dgB_nat _ (by omega)]; omega
theorem itoa_plain (n : Int) : ∀ c ∈ Lib.itoa n, (48 ≤ c.toNat ∧ c.toNat ≤ 57) ∨ c.toNat = 45 := by
  by_cases h : 0 ≤ n
  · obtain ⟨u, rfl⟩ := Int.eq_ofNat_of_zero_le h
    rw [Lib.itoa_nonneg]; exact fun c hc => Or.inl (dec_plain u c hc)
  · obtain ⟨u, hu⟩ := Int.eq_ofNat_of_zero_le (show 0 ≤ -n by omega)
    obtain rfl : n = -(u : Int) := by omega
    rw [Lib.itoa_neg u (by omega)]
    intro c hc
    rcases List.mem_cons.1 hc with rfl | hc
    · exact Or.inr rfl
    · exact Or.inl (dec_plain u c hc)
theorem itoa_ne (n : Int) : Lib.itoa n ≠ [] := by
  by_cases h : 0 ≤ n
  · obtain ⟨u, rfl⟩ := Int.eq_ofNat_of_zero_le h
    rw [Lib.itoa_nonneg]
    obtain ⟨c, r, h, _⟩ := dec_head u
    rw [h]; simp
  · obtain ⟨u, hu⟩ := Int.eq_ofNat_of_zero_le (show 0 ≤ -n by omega)
    obtain rfl : n = -(u : Int) := by omega
    rw [Lib.itoa_neg u (by omega)]; simp
theorem itoa_not (n : Int) : Lib.itoa n ≠ txtTrue ∧ Lib.itoa n ≠ txtFalse := by
  constructor
  · intro h
    have := itoa_plain n 116 (by rw [h]; simp [txtTrue])
    simp at this
  · intro h
    have := itoa_plain n 102 (by rw [h]; simp [txtFalse])
    simp at this
/-- a number's or a flag's text: no bracket and no comma in it -/
def plainT (x : List UInt8) : Prop := x ≠ [] ∧ x.all (fun c => !isStop c) = true ∧ ∀ c ∈ x, c ≠ 91 ∧ c ≠ 123
theorem single_back {v : VT} (hr : v.right = true) (hf : v.fits) (hk : v.kind = 0 ∨ v.kind = 1) : singleF v.text = some v ∧ plainT v.text := by
  obtain ⟨k, n, l⟩ := v
  rw [fits_mk] at hf
  change k = 0 ∨ k = 1 at hk
  rcases hk with rfl | rfl
  · have hl : l = [] := by rw [right_mk, if_pos rfl, List.isEmpty_iff] at hr; exact hr
    subst hl
    rw [text_mk, if_pos rfl]
    have h2 := itoa_not n
    refine ⟨?_, itoa_ne n, ?_, ?_⟩
    · unfold singleF; rw [if_neg h2.1, if_neg h2.2, signed_itoa n hf.1.2]; rfl
    · rw [List.all_eq_true]
      intro c hc
      have := itoa_plain n c hc
      have e1 : c ≠ 44 := by rintro rfl; simp at this
      have e2 : c ≠ 93 := by rintro rfl; simp at this
      have e3 : c ≠ 125 := by rintro rfl; simp at this
      simp [isStop, e1, e2, e3]
    · intro c hc
      have := itoa_plain n c hc
      exact ⟨by rintro rfl; simp at this, by rintro rfl; simp at this⟩
  · rw [right_mk, if_neg (by omega), if_pos rfl] at hr
    simp only [Bool.and_eq_true, decide_eq_true_eq, List.isEmpty_iff] at hr
    obtain ⟨hn, rfl⟩ := hr
    rcases hn with rfl | rfl
    · exact ⟨rfl, by simp [text_mk, txtFalse], rfl, by rw [text_mk]; decide⟩
    · exact ⟨rfl, by simp [text_mk, txtTrue], rfl, by rw [text_mk]; decide⟩
theorem opens_plain (x r : List UInt8) (hx : plainT x) (f : Frames) : opensF (x ++ r) f = (x ++ r, f) := by
  obtain ⟨h1, _, h3⟩ := hx
  cases x with
  | nil => exact absurd rfl h1
  | cons c x =>
    obtain ⟨a, b⟩ := h3 c (by simp)
    rw [List.cons_append, opensF, if_neg a, if_neg b]
/-- the rest of the reading, behind a value and what is closed with it -/
def contF (n : Nat) : List UInt8 × Frames × VT → Option VT
  | (44 :: 32 :: r', (k, l) :: f', v) => readF n r' ((k, l ++ [v]) :: f')
  | ([], [], v) => some v
  | _ => none
theorem readF_succ (n : Nat) (r : List UInt8) (f : Frames) : readF (n + 1) r f = (valueF r f).bind (contF n) := by
  rw [readF]
  cases h : valueF r f with
  | none => rfl
  | some x =>
    show _ = contF n x
    unfold contF
    split <;> simp_all
theorem empty_no (o : Bool) (x r : List UInt8) (hx : plainT x) (f : Frames) (hf : ∀ q ∈ f, q.1 = 2 ∨ q.1 = 3) : emptyF o (x ++ r) f = none := by
  obtain ⟨h1, h2, _⟩ := hx
  cases o with
  | false => rfl
  | true =>
    cases x with
    | nil => exact absurd rfl h1
    | cons c x =>
      cases f with
      | nil => rfl
      | cons q f =>
        obtain ⟨k, l⟩ := q
        rw [List.cons_append, emptyF, if_neg]
        intro hc
        rw [List.all_cons, Bool.and_eq_true] at h2
        have h2 := h2.1
        rcases hf (k, l) (by simp) with e | e <;> (dsimp only at e; subst e; subst hc; simp [isStop, clB] at h2)
theorem fr_kinds {p : Plan} (h : okP p) : ∀ q ∈ p.fr, q.1 = 2 ∨ q.1 = 3 := by
  intro q hq
  obtain ⟨x, hx, rfl⟩ := List.mem_map.1 hq
  exact (h x hx).1
theorem value_back (u : VT) : u.right = true → u.fits → ∀ (p : Plan) (N : Nat), okP p → N ≤ p.fr.length →
    ∃ (q : Plan) (w : VT), okP q ∧ build q w = build p u ∧ planSize q < u.size + planSize p ∧
      restF (decide (N < (opensF (u.text ++ finT p) p.fr).2.length)) (opensF (u.text ++ finT p) p.fr).1 (opensF (u.text ++ finT p) p.fr).2 = some (closeF (finT q) q.fr w) := by
  induction u using VT.ind with
  | h k n l ih =>
    intro hr hf p N hp hN
    by_cases hk : k = 0 ∨ k = 1
    · obtain ⟨hs, hx⟩ := single_back hr hf hk
      have ho := opens_plain _ (finT p) hx p.fr
      refine ⟨p, .mk k n l, hp, rfl, by rw [size_mk]; omega, ?_⟩
      rw [ho]
      dsimp only
      unfold restF
      rw [empty_no _ _ _ hx _ (fr_kinds hp)]
      dsimp only
      unfold plainF
      obtain ⟨t1, t2⟩ := take_stop _ (finT p) hx.2.1 (fin_stop p hp)
      rw [t1, t2, hs]
    · have h23 : (k = 2 ∨ k = 3) ∧ n = 0 ∧ rightL l = true := by
        rw [right_mk, if_neg (by omega), if_neg (by omega)] at hr
        by_cases h2 : k = 2 ∨ k = 3
        · rw [if_pos h2] at hr
          simp only [Bool.and_eq_true, decide_eq_true_eq] at hr
          exact ⟨h2, hr.1, hr.2⟩
        · rw [if_neg h2] at hr; cases hr
      obtain ⟨h23, rfl, hrl⟩ := h23
      rw [fits_mk] at hf
      have hop : ∀ r, opensF (opB k :: r) p.fr = opensF r ((k, []) :: p.fr) := by
        intro r
        rcases h23 with rfl | rfl
        · rfl
        · rfl
      rw [text_arr k l h23]
      cases l with
      | nil =>
        refine ⟨p, .mk k 0 [], hp, rfl, by rw [size_mk]; omega, ?_⟩
        have e : [opB k] ++ textL [] ++ [clB k] ++ finT p = opB k :: clB k :: finT p := by simp [textL]
        rw [e, hop]
        have ho : opensF (clB k :: finT p) ((k, []) :: p.fr) = (clB k :: finT p, (k, []) :: p.fr) := by
          rw [opensF]
          rcases h23 with rfl | rfl <;> rfl
        rw [ho]
        dsimp only
        rw [decide_eq_true (by simp; omega)]
        unfold restF
        rw [emptyF, if_pos rfl]
      | cons v vs =>
        rw [rightL, Bool.and_eq_true] at hrl
        have hfv := hf.2
        rw [fitsL] at hfv
        have hp' : okP ((k, [], vs) :: p) := by
          intro x hx
          rcases List.mem_cons.1 hx with rfl | hx
          · exact ⟨h23, fun u hu => ⟨rightL_mem hrl.2 hu, fitsL_mem hfv.2 u hu⟩⟩
          · exact hp x hx
        obtain ⟨q, w, h1, h2, h3, h4⟩ := ih v (by simp) hrl.1 hfv.1 ((k, [], vs) :: p) N hp' (by show N ≤ (p.fr).length + 1; omega)
        have e : [opB k] ++ textL (v :: vs) ++ [clB k] ++ finT p = opB k :: (v.text ++ finT ((k, [], vs) :: p)) := by simp [textL, finT]
        rw [e, hop]
        refine ⟨q, w, h1, by rw [h2]; rfl, ?_, h4⟩
        rw [size_mk, sizeL]
        have : planSize ((k, [], vs) :: p) = sizeL vs + 1 + planSize p := rfl
        omega
theorem cont_back (n : Nat) (hC : ∀ (u : VT) (p : Plan), okP p → u.right = true → u.fits → u.size + planSize p < n + 1 → readF (n + 1) (u.text ++ finT p) p.fr = some (build p u)) :
    ∀ (q : Plan) (w : VT), okP q → planSize q < n + 1 → contF (n + 1) (closeF (finT q) q.fr w) = some (build q w)
  | [], w, _, _ => rfl
  | (k, l, []) :: q, w, hq, hn => by
    have e : finT ((k, l, []) :: q) = clB k :: finT q := by simp [finT, tailL]
    have e2 : Plan.fr ((k, l, []) :: q) = (k, l) :: Plan.fr q := rfl
    rw [e, e2, closeF, if_pos rfl, cont_back n hC q (.mk k 0 (l ++ [w])) (fun x hx => hq x (by simp [hx])) (by have : planSize ((k, l, []) :: q) = 0 + 1 + planSize q := rfl; omega)]
    simp [build]
  | (k, l, u :: s) :: q, w, hq, hn => by
    have hk := hq (k, l, u :: s) (by simp)
    have e : finT ((k, l, u :: s) :: q) = 44 :: 32 :: (u.text ++ finT ((k, l ++ [w], s) :: q)) := by simp [finT, tailL]
    have e2 : Plan.fr ((k, l, u :: s) :: q) = (k, l) :: Plan.fr q := rfl
    rw [e, e2, closeF, if_neg (by rcases hk.1 with h | h <;> (dsimp only at h; subst h; decide))]
    show readF (n + 1) _ ((k, l ++ [w]) :: Plan.fr q) = _
    have hu := hk.2 u (by simp)
    have := hC u ((k, l ++ [w], s) :: q) (by
      intro x hx
      rcases List.mem_cons.1 hx with rfl | hx
      · exact ⟨hk.1, fun v hv => hk.2 v (by simp [hv])⟩
      · exact hq x (by simp [hx])) hu.1 hu.2 (by
        have a : planSize ((k, l, u :: s) :: q) = sizeL (u :: s) + 1 + planSize q := rfl
        have b : planSize ((k, l ++ [w], s) :: q) = sizeL s + 1 + planSize q := rfl
        rw [sizeL] at a
        omega)
    refine this.trans ?_
    simp [build]
theorem read_back : ∀ (n : Nat) (u : VT) (p : Plan), okP p → u.right = true → u.fits → u.size + planSize p < n → readF n (u.text ++ finT p) p.fr = some (build p u)
  | 0, _, _, _, _, _, h => by omega
  | n + 1, u, p, hp, hr, hf, hn => by
    obtain ⟨q, w, h1, h2, h3, h4⟩ := value_back u hr hf p p.fr.length hp (Nat.le_refl _)
    rw [readF_succ]
    have : valueF (u.text ++ finT p) p.fr = some (closeF (finT q) q.fr w) := h4
    rw [this, ← h2]
    show contF n _ = _
    cases n with
    | zero => have := size_pos u; omega
    | succ n => exact cont_back n (fun u p a b c d => read_back (n + 1) u p a b c d) q w h1 (by omega)
mutual
theorem text_ge : ∀ t : VT, t.right = true → t.size ≤ t.text.length
  | .mk k n l, h => by
    rw [text_mk, size_mk]
    rw [right_mk] at h
    split at h
    · rename_i hk
      rw [if_pos hk, List.isEmpty_iff.1 h, sizeL]
      exact List.length_pos_iff.2 (itoa_ne n)
    · rename_i hk
      rw [if_neg hk]
      split at h
      · rename_i hk
        simp only [Bool.and_eq_true, List.isEmpty_iff] at h
        rw [if_pos hk, h.2, sizeL]
        split <;> simp [txtTrue, txtFalse]
      · rename_i hk
        rw [if_neg hk]
        split at h
        · simp only [Bool.and_eq_true] at h
          have := textL_ge l h.2
          split <;> (simp only [List.length_append, List.length_singleton]; omega)
        · cases h
theorem textL_ge : ∀ l : List VT, rightL l = true → sizeL l ≤ (textL l).length
  | [], _ => by simp [sizeL]
  | v :: r, h => by
    rw [rightL, Bool.and_eq_true] at h
    rw [textL, sizeL, List.length_append]
    have h1 := text_ge v h.1
    have h2 := tailL_ge r h.2
    omega
theorem tailL_ge : ∀ l : List VT, rightL l = true → sizeL l ≤ (tailL l).length
  | [], _ => by simp [sizeL]
  | v :: r, h => by
    rw [rightL, Bool.and_eq_true] at h
    rw [tailL, sizeL, List.length_append, List.length_append]
    have h1 := text_ge v h.1
    have h2 := tailL_ge r h.2
    omega
end
/-- what Read tells of a text -/
def readS6 (s : List UInt8) : Option VT := readF (s.length + 1) s []
theorem readS6_back (v : VT) (hr : v.right = true) (hf : v.fits) : readS6 v.text = some v := by
  have := read_back (v.text.length + 1) v [] (fun x hx => by cases hx) hr hf (by have := text_ge v hr; show v.size + 0 < _; omega)
  rw [show v.text ++ finT [] = v.text by simp [finT]] at this
  exact this
theorem readS6_ok {s : List UInt8} {v : VT} (h : readS6 s = some v) : v.right = true ∧ v.text = s := by
  have := read_ok _ _ _ v (fun x hx => by cases hx) h
  exact ⟨this.1, by rw [this.2, ren]; rfl⟩
end Go.Proofs.YtjbdfckanabepaaDoor.vt

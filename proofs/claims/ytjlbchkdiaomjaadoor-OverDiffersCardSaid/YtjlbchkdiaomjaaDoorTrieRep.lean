/- A tree and the list of pairs by rising keys that it stands for: what put and drop do to both. -/
import Derived.Test.YtjlbchkdiaomjaaDoorTriePut
import Derived.Test.YtjlbchkdiaomjaaDoorTriePairs
namespace Go.Proofs.YtjlbchkdiaomjaaDoor.trie
open Go.RowKit mem tri mix

def Up (l : List (Int × Int)) : Prop := l.Pairwise fun p q => p.1 < q.1
theorem sorted_eq : ∀ (l m : List (Int × Int)), Up l → Up m → l.Perm m → l = m
  | [], m, _, _, h => h.nil_eq
  | p :: l, m, hl, hm, h => by
    cases m with
    | nil => exact absurd h.symm.nil_eq (by simp)
    | cons q m =>
      have hp : p ∈ q :: m := h.subset (by simp)
      have hq : q ∈ p :: l := h.symm.subset (by simp)
      obtain ⟨h1, h2⟩ := List.pairwise_cons.1 hl
      obtain ⟨h3, h4⟩ := List.pairwise_cons.1 hm
      have hpq : p = q := by
        rcases List.mem_cons.1 hp with h5 | h5
        · exact h5
        · rcases List.mem_cons.1 hq with h6 | h6
          · exact h6.symm
          · have := h1 q h6; have := h3 p h5; omega
      subst hpq
      rw [sorted_eq l m h2 h4 (List.Perm.cons_inv h)]
theorem up_nodup {l : List (Int × Int)} (h : Up l) : l.Nodup := List.Pairwise.imp (fun {a b} h e => by subst e; omega) h
theorem up_key {l : List (Int × Int)} (h : Up l) {k v u : Int} (h1 : (k, v) ∈ l) (h2 : (k, u) ∈ l) : v = u := by
  induction l with
  | nil => simp at h1
  | cons p l ih =>
    obtain ⟨hp, hl⟩ := List.pairwise_cons.1 h
    rcases List.mem_cons.1 h1 with e1 | e1 <;> rcases List.mem_cons.1 h2 with e2 | e2
    · rw [← e1] at e2; injection e2 with _ e2; exact e2.symm
    · have := hp _ e2; rw [← e1] at this; simp at this
    · have := hp _ e1; rw [← e2] at this; simp at this
    · exact ih hl e1 e2
theorem getS_some (l : List (Int × Int)) (h : Up l) (k v : Int) : (k, v) ∈ l ↔ getS l k = (v, true) := by
  induction l with
  | nil => simp [getS]
  | cons p l ih =>
    obtain ⟨hp, hl⟩ := List.pairwise_cons.1 h
    rw [getS, List.mem_cons]
    by_cases hk : p.1 = k
    · rw [if_pos hk]
      constructor
      · rintro (e | e)
        · rw [← e]
        · have := hp _ e; simp only at this; omega
      · intro e; injection e with e _; left; rw [← hk, ← e]
    · rw [if_neg hk, ← ih hl]
      constructor
      · rintro (e | e)
        · rw [← e] at hk; exact absurd rfl hk
        · exact e
      · intro e; exact .inr e
theorem getS_none (l : List (Int × Int)) (k : Int) : (∀ v, (k, v) ∉ l) → getS l k = (0, false) := by
  induction l with
  | nil => intro _; rfl
  | cons p l ih =>
    intro h
    have hk : ¬ p.1 = k := fun e => h p.2 (by rw [← e]; simp)
    rw [getS, if_neg hk]
    exact ih fun v hv => h v (by simp [hv])
theorem getS_is (l : List (Int × Int)) (k : Int) : (∃ v, getS l k = (v, true) ∧ (k, v) ∈ l) ∨ (getS l k = (0, false) ∧ ∀ v, (k, v) ∉ l) := by
  induction l with
  | nil => exact .inr ⟨rfl, by simp⟩
  | cons p l ih =>
    by_cases hk : p.1 = k
    · exact .inl ⟨p.2, by rw [getS, if_pos hk], by rw [← hk]; simp⟩
    · rcases ih with ⟨v, h1, h2⟩ | ⟨h1, h2⟩
      · exact .inl ⟨v, by rw [getS, if_neg hk]; exact h1, by simp [h2]⟩
      · refine .inr ⟨by rw [getS, if_neg hk]; exact h1, fun v hv => ?_⟩
        rcases List.mem_cons.1 hv with e | e
        · exact hk (by rw [← e])
        · exact h2 v e
/-- the document's put of a list by rising keys -/
theorem putR_true (k v : Int) : ∀ l : List (Int × Int), putR k v true l = l.filter fun p => p.1 != k
  | [] => rfl
  | p :: l => by
    rw [putR, if_neg (by simp), putR_true k v l]
    by_cases h : p.1 = k <;> simp [h]
theorem putS_mem (l : List (Int × Int)) (k v : Int) (q : Int × Int) : Up l → (q ∈ putS l k v ↔ q = (k, v) ∨ (q.1 ≠ k ∧ q ∈ l)) := by
  unfold putS
  induction l with
  | nil => intro _; simp [putR]
  | cons p l ih =>
    intro h
    obtain ⟨hp, hl⟩ := List.pairwise_cons.1 h
    rw [putR]
    by_cases hk : k ≤ p.1
    · rw [if_pos ⟨rfl, hk⟩, putR_true, List.mem_cons, List.mem_append, List.mem_filter]
      by_cases he : p.1 = k
      · rw [if_pos he]
        constructor
        · rintro (e | e | ⟨e1, e2⟩)
          · exact .inl e
          · simp at e
          · exact .inr ⟨by simpa using e2, by simp [e1]⟩
        · rintro (e | ⟨e1, e2⟩)
          · exact .inl e
          · rcases List.mem_cons.1 e2 with e3 | e3
            · rw [e3] at e1; exact absurd he e1
            · exact .inr (.inr ⟨e3, by simpa using e1⟩)
      · rw [if_neg he]
        constructor
        · rintro (e | e | ⟨e1, e2⟩)
          · exact .inl e
          · have : q = p := by simpa using e
            exact .inr ⟨by rw [this]; exact he, by simp [this]⟩
          · exact .inr ⟨by simpa using e2, by simp [e1]⟩
        · rintro (e | ⟨e1, e2⟩)
          · exact .inl e
          · rcases List.mem_cons.1 e2 with e3 | e3
            · exact .inr (.inl (by simp [e3]))
            · exact .inr (.inr ⟨e3, by simpa using e1⟩)
    · rw [if_neg (by simp [hk]), List.mem_append, ih hl]
      have he : ¬ p.1 = k := by omega
      rw [if_neg he]
      constructor
      · rintro (e | e | ⟨e1, e2⟩)
        · have : q = p := by simpa using e
          exact .inr ⟨by rw [this]; exact he, by simp [this]⟩
        · exact .inl e
        · exact .inr ⟨e1, by simp [e2]⟩
      · rintro (e | ⟨e1, e2⟩)
        · exact .inr (.inl e)
        · rcases List.mem_cons.1 e2 with e3 | e3
          · exact .inl (by simp [e3])
          · exact .inr (.inr ⟨e1, e3⟩)
theorem putS_up (l : List (Int × Int)) (k v : Int) : Up l → Up (putS l k v) := by
  unfold putS
  induction l with
  | nil => intro _; simp [putR, Up]
  | cons p l ih =>
    intro h
    obtain ⟨hp, hl⟩ := List.pairwise_cons.1 h
    rw [putR]
    by_cases hk : k ≤ p.1
    · rw [if_pos ⟨rfl, hk⟩, putR_true]
      have hf : Up (l.filter fun p => p.1 != k) := List.Pairwise.filter _ hl
      by_cases he : p.1 = k
      · rw [if_pos he, List.nil_append]
        refine List.pairwise_cons.2 ⟨fun q hq => ?_, hf⟩
        have := hp q (List.mem_filter.1 hq).1
        show k < q.1
        omega
      · rw [if_neg he]
        refine List.pairwise_cons.2 ⟨fun q hq => ?_, List.pairwise_cons.2 ⟨fun q hq => hp q (List.mem_filter.1 hq).1, hf⟩⟩
        show k < q.1
        rcases List.mem_append.1 hq with h1 | h1
        · have : q = p := by simpa using h1
          rw [this]; omega
        · have := hp q (List.mem_filter.1 h1).1
          omega
    · have he : ¬ p.1 = k := by omega
      rw [if_neg (by simp [hk]), if_neg he]
      refine List.pairwise_cons.2 ⟨fun q hq => ?_, ih hl⟩
      have hq' : q ∈ putS l k v := hq
      rcases (putS_mem l k v q hl).1 hq' with e | ⟨_, e⟩
      · rw [e]; show p.1 < k; omega
      · exact hp q e
theorem dropS_mem (l : List (Int × Int)) (k : Int) (q : Int × Int) : q ∈ dropS l k ↔ q.1 ≠ k ∧ q ∈ l := by
  unfold dropS; rw [List.mem_filter]; simp [and_comm]
theorem dropS_up (l : List (Int × Int)) (k : Int) (h : Up l) : Up (dropS l k) := List.Pairwise.filter _ h
theorem dropS_same (l : List (Int × Int)) (k : Int) (h : ∀ v, (k, v) ∉ l) : dropS l k = l := by
  unfold dropS; rw [List.filter_eq_self]; intro p hp
  have : p.1 ≠ k := fun e => h p.2 (by rw [← e]; exact hp)
  simpa using this
theorem up_perm {l m : List (Int × Int)} (hl : l.Nodup) (hm : m.Nodup) (h : ∀ q, q ∈ l ↔ q ∈ m) : l.Perm m := (List.perm_ext_iff_of_nodup hl hm).2 h
theorem dropS_one (l : List (Int × Int)) (k v : Int) (hu : Up l) (h : (k, v) ∈ l) : (dropS l k).length + 1 = l.length := by
  have hp : l.Perm ((k, v) :: dropS l k) := by
    refine up_perm (up_nodup hu) ?_ (fun q => ?_)
    · refine List.nodup_cons.2 ⟨fun hm => ((dropS_mem l k _).1 hm).1 rfl, up_nodup (dropS_up l k hu)⟩
    · rw [List.mem_cons, dropS_mem]
      constructor
      · intro hq
        by_cases hk : q.1 = k
        · left
          obtain ⟨a, b⟩ := q
          simp only at hk
          subst hk
          rw [up_key hu h hq]
        · exact .inr ⟨hk, hq⟩
      · rintro (e | e)
        · rw [e]; exact h
        · exact e.2
  have := hp.length_eq
  simp at this; omega
theorem putS_len (l : List (Int × Int)) (k v : Int) (hu : Up l) : ((∃ u, (k, u) ∈ l) → (putS l k v).length = l.length) ∧ ((∀ u, (k, u) ∉ l) → (putS l k v).length = l.length + 1) := by
  have hp : (putS l k v).Perm ((k, v) :: dropS l k) := by
    refine up_perm (up_nodup (putS_up l k v hu)) ?_ (fun q => ?_)
    · refine List.nodup_cons.2 ⟨fun hm => ((dropS_mem l k _).1 hm).1 rfl, up_nodup (dropS_up l k hu)⟩
    · rw [putS_mem l k v q hu, List.mem_cons, dropS_mem]
  have hl := hp.length_eq
  rw [List.length_cons] at hl
  constructor
  · rintro ⟨u, hm⟩
    have := dropS_one l k u hu hm; omega
  · intro h; rw [dropS_same l k h] at hl; exact hl

/-- a map: its tree and the list of its pairs -/
def MapOf (t : Tr) (l : List (Int × Int)) : Prop := ((t = .none ∧ l = []) ∨ (∃ b a, t = .kid b a) ∧ l ≠ []) ∧ Ok t 0 0 ∧ Up l ∧ (toL t).Perm l
theorem MapOf.mem {t : Tr} {l : List (Int × Int)} (h : MapOf t l) (k v : Int) : tri.get t 0 k = some v ↔ (k, v) ∈ l := by
  rw [get_mem t 0 0 k v h.2.1 (by decide)]
  exact h.2.2.2.mem_iff
theorem MapOf.got {t : Tr} {l : List (Int × Int)} (h : MapOf t l) (k : Int) : ((tri.get t 0 k).getD 0, (tri.get t 0 k).isSome) = getS l k := by
  rcases getS_is l k with ⟨v, h1, h2⟩ | ⟨h1, h2⟩
  · rw [(h.mem k v).2 h2, h1]; rfl
  · have : tri.get t 0 k = none := by
      cases hg : tri.get t 0 k with
      | none => rfl
      | some v => exact absurd ((h.mem k v).1 hg) (h2 v)
    rw [this, h1]; rfl
theorem perm_of_get {t : Tr} {l : List (Int × Int)} (ho : Ok t 0 0) (hu : Up l) (h : ∀ k v, tri.get t 0 k = some v ↔ (k, v) ∈ l) : (toL t).Perm l := by
  refine up_perm (List.Pairwise.imp (fun {a b} h e => h (by rw [e])) (toL_keys t 0 0 ho (by decide))) (up_nodup hu) (fun q => ?_)
  obtain ⟨k, v⟩ := q
  rw [← h k v, get_mem t 0 0 k v ho (by decide)]
theorem zero_bits (k : Int) : num k % 16 ^ 0 = 0 := by simp [Nat.mod_one]
theorem MapOf.put {t : Tr} {l : List (Int × Int)} {k v : Int} {b c : Nat} {a e : Nat → Tr} (h : MapOf t l) (_ht : t = .kid b a) (hk : I64 k) (hp : PutT k v 0 t (.kid c e)) :
    MapOf (.kid c e) (putS l k v) ∧ sh (.kid c e) (.kid c e) ≤ sh t (.kid c e) + 16 := by
  obtain ⟨h1, h2, h3⟩ := put_ok hp 0 h.2.1 hk (zero_bits k)
  have hle := sh0_le t (.kid c e)
  refine ⟨⟨.inr ⟨⟨c, e, rfl⟩, fun hn => ?_⟩, h1, putS_up l k v h.2.2.1, perm_of_get h1 (putS_up l k v h.2.2.1) fun key u => ?_⟩, by omega⟩
  · have : (k, v) ∈ putS l k v := (putS_mem l k v _ h.2.2.1).2 (.inl rfl)
    rw [hn] at this; simp at this
  · rw [h2 key (zero_bits key), putS_mem l k v _ h.2.2.1]
    by_cases hkey : key = k
    · subst hkey
      rw [if_pos rfl]
      constructor
      · intro e; cases e; exact .inl rfl
      · rintro (e | ⟨e, _⟩)
        · injection e with _ e; rw [e]
        · exact absurd rfl e
    · rw [if_neg hkey, h.mem key u]
      constructor
      · intro e; exact .inr ⟨hkey, e⟩
      · rintro (e | ⟨_, e⟩)
        · injection e with e _; exact absurd e hkey
        · exact e
theorem MapOf.lone {k v : Int} {b : Nat} (hk : I64 k) : MapOf (.kid b (tri.upd bare (nib k 0) (.pair k v))) (putS [] k v) ∧ sh (.kid b (tri.upd bare (nib k 0) (.pair k v))) (.kid b (tri.upd bare (nib k 0) (.pair k v))) ≤ 16 := by
  have ho : Ok (.kid b (tri.upd bare (nib k 0) (.pair k v))) 0 0 := single_ok hk (zero_bits k) (by decide)
  refine ⟨⟨.inr ⟨⟨_, _, rfl⟩, by simp [putS, putR]⟩, ho, putS_up [] k v (by simp [Up]), perm_of_get ho (putS_up [] k v (by simp [Up])) fun key u => ?_⟩, ?_⟩
  · rw [single_get]
    simp only [putS, putR, tri.get]
    by_cases hkey : k = key
    · subst hkey; simp; exact ⟨fun h => h.symm, fun h => h.symm⟩
    · have : ¬ key = k := fun e => hkey e.symm
      simp [hkey, this]
  · have h1 := single_sh0 (l := k) (u := v) (lv := 0) (b0 := b) (.kid b (tri.upd bare (nib k 0) (.pair k v)))
    rw [sh0_kid] at h1
    rw [sh_kid, h1, if_pos rfl]; omega
theorem MapOf.drop {t : Tr} {l : List (Int × Int)} {k v0 : Int} {b c : Nat} {a e : Nat → Tr} (h : MapOf t l) (_ht : t = .kid b a) (hm : (k, v0) ∈ l) (h2 : 2 ≤ l.length) (hp : DropT k 0 t (.kid c e)) :
    MapOf (.kid c e) (dropS l k) ∧ sh (.kid c e) (.kid c e) ≤ sh t (.kid c e) + 16 := by
  obtain ⟨h1, hg, h3⟩ := drop_ok hp 0 h.2.1 (zero_bits k)
  have hle := sh0_le t (.kid c e)
  have hlen := dropS_one l k v0 h.2.2.1 hm
  refine ⟨⟨.inr ⟨⟨c, e, rfl⟩, fun hn => ?_⟩, h1, dropS_up l k h.2.2.1, perm_of_get h1 (dropS_up l k h.2.2.1) fun key u => ?_⟩, by omega⟩
  · rw [hn] at hlen; simp at hlen; omega
  · rw [hg key (zero_bits key), dropS_mem]
    by_cases hkey : key = k
    · rw [if_pos hkey]; simp [hkey]
    · rw [if_neg hkey, h.mem key u]; simp [hkey]
theorem MapOf.none_ : MapOf .none [] := ⟨.inl ⟨rfl, rfl⟩, trivial, by simp [Up], by simp [toL]⟩
end Go.Proofs.YtjlbchkdiaomjaaDoor.trie

/- Where the parts of a map lie in memory: nodes of two cells, arms of three. -/
import Derived.Test.YtjlbchkdiaomjaaDoorTrieBits
namespace Go.Proofs.YtjlbchkdiaomjaaDoor.trie
open Go.RowKit mem tri mix

theorem got_form {B size n : Nat} {e : TypeId} {xs : List Value} {v : Value} {w0 w : World} (h : Got B e size n xs v w0 w) (hn : 0 < n) : ∃ g cap, v = .slice (some ⟨g, 0, none⟩) n cap ∧ B ≤ g ∧ g < w.heap.size := by
  have hlt := h.1.lt
  rcases h.1.2 with ⟨_, h0⟩ | ⟨g, cap, _, rfl, _⟩
  · omega
  · exact ⟨g, cap, rfl, hlt g rfl⟩
/-- an arm's three cells -/
def armV : Tr → List Value
  | .none => []
  | .pair k v => [.pointer none, .int .i64 k, .int .i64 v]
  | .kid b _ => [.pointer (some ⟨b, 0, none⟩), .int .i64 0, .int .i64 0]
def armsV (l : List Tr) : List Value := l.flatMap armV
theorem armsV_append (l m : List Tr) : armsV (l ++ m) = armsV l ++ armsV m := by unfold armsV; rw [List.flatMap_append]
theorem armsV_one {t : Tr} : armsV (one t) = armV t := by cases t <;> rfl
theorem armV_len {t : Tr} (h : isN t = false) : (armV t).length = 3 := by cases t <;> first | rfl | exact absurd h (by simp [isN])
theorem armsV_len {l : List Tr} (h : ∀ t ∈ l, isN t = false) : (armsV l).length = l.length * 3 := by
  induction l with
  | nil => rfl
  | cons t l ih =>
    show (armV t ++ armsV l).length = _
    rw [List.length_append, armV_len (h t (by simp)), ih fun u hu => h u (by simp [hu]), List.length_cons]; omega
theorem armV_one {t : Tr} : ∀ u ∈ armV t, u.oneCell' = true := by
  intro u hu
  cases t <;> simp [armV] at hu
  · rcases hu with rfl | rfl | rfl <;> rfl
  · rcases hu with rfl | rfl <;> rfl
theorem armsV_cells {l : List Tr} : ∀ u ∈ armsV l, u.oneCell' = true := by
  intro u hu
  unfold armsV at hu
  rw [List.mem_flatMap] at hu
  obtain ⟨t, _, h⟩ := hu
  exact armV_one u h
theorem armsV_at : ∀ {l : List Tr} (_ : ∀ t ∈ l, isN t = false) (i : Nat) (h : i < l.length) (j : Nat), j < 3 → (armsV l)[i * 3 + j]? = (armV l[i])[j]?
  | t :: l, H, 0, _, j, hj => by
    show (armV t ++ armsV l)[0 * 3 + j]? = _
    rw [Nat.zero_mul, Nat.zero_add, List.getElem?_append_left (by rw [armV_len (H t (by simp))]; exact hj)]; rfl
  | t :: l, H, i + 1, h, j, hj => by
    show (armV t ++ armsV l)[(i + 1) * 3 + j]? = _
    have e := armV_len (H t (by simp))
    rw [List.getElem?_append_right (by rw [e]; omega), e, show (i + 1) * 3 + j - 3 = i * 3 + j by omega]
    exact armsV_at (fun u hu => H u (by simp [hu])) i (by simpa using h) j hj
theorem subs_all (a : Nat → Tr) : ∀ t ∈ subs a, isN t = false := fun _ h => (mem_subs h).choose_spec.2.2

/-- a slice that may be cut: its length is within its capacity, and nil has none -/
def Roomy (v : Value) : Prop := ∀ A n cap, v = .slice A n cap → n ≤ cap ∧ (A = none → cap = 0) ∧ ∀ ad, A = some ad → ∃ g o, ad = ⟨g, o, none⟩
theorem Roomy.of_own {w : World} {base size n : Nat} {e : TypeId} {v : Value} {xs : List Value} (h : w.ownsRow base e size v n xs) : Roomy v := by
  intro A m cap hv
  rcases h.2 with ⟨rfl, _⟩ | ⟨g, c, _, rfl, _, _, hc, _⟩
  · injection hv with h1 h2 h3
    subst h1; subst h2; subst h3
    exact ⟨Nat.le_refl _, fun _ => rfl, fun ad h => by cases h⟩
  · injection hv with h1 h2 h3
    subst h1; subst h2; subst h3
    exact ⟨hc, (fun h => by cases h), fun ad h => by cases h; exact ⟨_, _, rfl⟩⟩
/-- a slice's row is a block of arms -/
def RowIs (w : World) (v : Value) : Prop := ∀ g o n cap, v = .slice (some ⟨g, o, none⟩) n cap → 0 < n → ∃ cs, w.heap[g]? = some (.cells cs 84 (0, 0))
theorem RowIs.of_own {w : World} {base size n : Nat} {v : Value} {xs : List Value} (h : w.ownsRow base 84 size v n xs) : RowIs w v := by
  intro g o m cap hv _
  rcases h.2 with ⟨rfl, _⟩ | ⟨g', c, cur, rfl, _, hh, _⟩
  · cases hv
  · injection hv with h1 h2 h3
    injection h1 with h1
    injection h1 with h1 _
    subst h1
    exact ⟨cur, hh⟩
/-- a map's part lies in blocks below B -/
def Lies (B : Nat) (w : World) : Tr → Prop
  | .none => True
  | .pair _ _ => True
  | .kid b a => b < B ∧ w.cell? ⟨b, 0, none⟩ = some (.int .u16 (hasS a : Nat)) ∧ (∃ v, w.cell? ⟨b, 1, none⟩ = some v ∧ Sees B 3 w v (subs a).length (armsV (subs a)) ∧ Roomy v ∧ (∃ cs, w.heap[b]? = some (.cells cs 88 (0, 0))) ∧ RowIs w v) ∧ ∀ f, f < 16 → Lies B w (a f)
theorem Lies.below {B : Nat} {w w' : World} {t : Tr} (h : Lies B w t) (hb : Below B w w') : Lies B w' t := by
  induction t with
  | none => trivial
  | pair k v => trivial
  | kid b a ih =>
    obtain ⟨h1, h2, ⟨v, h3, h4, h6, ⟨cs, h7⟩, h8⟩, h5⟩ := h
    exact ⟨h1, (hb.cell (p := ⟨b, 0, none⟩) h1).trans h2, ⟨v, (hb.cell (p := ⟨b, 1, none⟩) h1).trans h3, h4.below hb, h6, ⟨cs, (hb.block b h1).trans h7⟩, fun g o n cap hv hn => by
      obtain ⟨cs2, hc⟩ := h8 g o n cap hv hn
      obtain ⟨_, A, cap', hv', hcc⟩ := h4
      rw [hv] at hv'
      injection hv' with e1 e2 e3
      obtain ⟨g', o', hA, hg, _⟩ := hcc (by omega)
      rw [← e1] at hA
      injection hA with hA
      injection hA with hA _
      subst hA
      exact ⟨cs2, (hb.block g hg).trans hc⟩⟩, fun f hf => ih f (h5 f hf)⟩
/-- what is kept of a world: all nodes, and all rows of arms -/
def Keeps (w w' : World) : Prop := ∀ (k : Nat) (cs : Array Value), (w.heap[k]? = some (.cells cs 88 (0, 0)) ∨ w.heap[k]? = some (.cells cs 84 (0, 0))) → w'.heap[k]? = w.heap[k]?
theorem Keeps.refl (w : World) : Keeps w w := fun _ _ _ => rfl
theorem Keeps.trans {a b c : World} (h1 : Keeps a b) (h2 : Keeps b c) : Keeps a c := fun k cs h => by
  have e := h1 k cs h
  rw [← e] at h
  exact (h2 k cs h).trans e
theorem Keeps.below {B : Nat} {w w' : World} (h : Below B w w') (hB : w.heap.size ≤ B) : Keeps w w' := fun k cs hk => by
  refine h.block k (Nat.lt_of_lt_of_le ?_ hB)
  rcases hk with hk | hk <;> exact (Array.getElem?_eq_some_iff.1 hk).1
theorem Keeps.set {w : World} {p : Addr} {cs : Array Value} {t : TypeId} {fr : Nat × Nat} (h : w.heap[p.block]? = some (.cells cs t fr)) (h1 : t ≠ 88) (h2 : t ≠ 84) (v : Value) : Keeps w (w.setCell p v) := fun k c hk => by
  refine Below.heap_setCell w p v k ?_
  rintro rfl
  rcases hk with hk | hk
  · rw [h] at hk; injection hk with hk; injection hk with _ e; exact h1 e
  · rw [h] at hk; injection hk with hk; injection hk with _ e; exact h2 e
theorem Keeps.grown {w w' : World} {g : Nat} {cs : Array Value} {t : TypeId} {fr : Nat × Nat} (hg : w.grownBy w' (some g)) (h : w.heap[g]? = some (.cells cs t fr)) (h1 : t ≠ 88) (h2 : t ≠ 84) : Keeps w w' := fun k c hk => by
  have hlt : k < w.heap.size := by rcases hk with hk | hk <;> exact (Array.getElem?_eq_some_iff.1 hk).1
  refine hg.block k hlt ?_
  intro e
  injection e with e
  subst e
  rcases hk with hk | hk
  · rw [h] at hk; injection hk with hk; injection hk with _ e; exact h1 e
  · rw [h] at hk; injection hk with hk; injection hk with _ e; exact h2 e
theorem Keeps.grown_own {w w' : World} {base size n : Nat} {t : TypeId} {v : Value} {xs : List Value} (ho : w.ownsRow base t size v n xs) (hg : w.grownBy w' v.ownBlock) (h1 : t ≠ 88) (h2 : t ≠ 84) : Keeps w w' := by
  rcases ho.2 with ⟨rfl, _⟩ | ⟨g, c, cur, rfl, _, hh, _⟩
  · intro k c hk
    have hlt : k < w.heap.size := by rcases hk with hk | hk <;> exact (Array.getElem?_eq_some_iff.1 hk).1
    exact hg.block k hlt (by simp [Value.ownBlock])
  · exact Keeps.grown hg hh h1 h2
theorem heap_new_at (w : World) (o : Obj) (N : Nat) (h : N = w.heap.size) : (w.alloc o).heap[N]? = some o := by subst h; exact heap_alloc_new w o
theorem cell_of_block {w w' : World} {k o : Nat} (h : w'.heap[k]? = w.heap[k]?) : w'.cell? ⟨k, o, none⟩ = w.cell? ⟨k, o, none⟩ := by
  simp only [World.cell?, h]
theorem Lies.keep {B : Nat} {w w' : World} {t : Tr} (h : Lies B w t) (hk : Keeps w w') : Lies B w' t := by
  induction t with
  | none => trivial
  | pair k v => trivial
  | kid b a ih =>
    obtain ⟨h1, h2, ⟨v, h3, h4, h6, ⟨cs, h7⟩, h8⟩, h5⟩ := h
    have hb := hk b cs (.inl h7)
    refine ⟨h1, (cell_of_block hb).trans h2, ⟨v, (cell_of_block hb).trans h3, ?_, h6, ⟨cs, hb.trans h7⟩, fun g o n cap hv hn => ?_⟩, fun f hf => ih f (h5 f hf)⟩
    · obtain ⟨e1, A, cap, hv, hc⟩ := h4
      refine ⟨e1, A, cap, hv, fun hn => ?_⟩
      obtain ⟨g, o, hA, hg, hc⟩ := hc hn
      obtain ⟨cs2, h9⟩ := h8 g o _ cap (by rw [hv, hA]) hn
      have hg2 := hk g cs2 (.inr h9)
      exact ⟨g, o, hA, hg, fun j u hu => (cell_of_block hg2).trans (hc j u hu)⟩
    · obtain ⟨cs2, h9⟩ := h8 g o n cap hv hn
      exact ⟨cs2, (hk g cs2 (.inr h9)).trans h9⟩
theorem Lies.more {B B' : Nat} {w : World} {t : Tr} (h : Lies B w t) (hB : B ≤ B') : Lies B' w t := by
  induction t with
  | none => trivial
  | pair k v => trivial
  | kid b a ih =>
    obtain ⟨h1, h2, ⟨v, h3, h4, h6⟩, h5⟩ := h
    exact ⟨by omega, h2, ⟨v, h3, h4.more hB, h6⟩, fun f hf => ih f (h5 f hf)⟩
/-- a map's part, as a pointer -/
def ptr : Tr → Value
  | .kid b _ => .pointer (some ⟨b, 0, none⟩)
  | _ => .pointer none
theorem Lies.at {B b : Nat} {a : Nat → Tr} {w : World} (h : Lies B w (.kid b a)) (f : Nat) (hf : f < 16) : Lies B w (a f) := h.2.2.2 f hf
theorem Lies.has {B b : Nat} {a : Nat → Tr} {w : World} (h : Lies B w (.kid b a)) : w.cell? ⟨b, 0, none⟩ = some (.int .u16 (hasS a : Nat)) := h.2.1
/-- the arm that is there, in the row -/
theorem Lies.arm {B b f : Nat} {a : Nat → Tr} {w : World} (h : Lies B w (.kid b a)) (hf : f < 16) (ha : isN (a f) = false) :
    ∃ g o cap, g < B ∧ w.cell? ⟨b, 1, none⟩ = some (.slice (some ⟨g, o, none⟩) (subs a).length cap) ∧ (pre a f).length < (subs a).length ∧
      ∀ j u, (armV (a f))[j]? = some u → w.cell? ⟨g, o + (pre a f).length * 3 + j, none⟩ = some u := by
  obtain ⟨h1, h2, ⟨v, h3, h4, h6⟩, h5⟩ := h
  have hs := subs_split a f hf
  rw [one_not ha] at hs
  have hl : (pre a f).length < (subs a).length := by rw [hs]; simp
  obtain ⟨hlen, A, cap, rfl, hc⟩ := h4
  obtain ⟨g, o, rfl, hg, hc⟩ := hc (by omega)
  refine ⟨g, o, cap, hg, h3, hl, fun j u hu => ?_⟩
  have hj : j < 3 := by
    have := (List.getElem?_eq_some_iff.1 hu).1
    rwa [armV_len ha] at this
  rw [Nat.add_assoc]
  refine hc _ u ?_
  rw [armsV_at (subs_all a) _ hl j hj]
  have : (subs a)[(pre a f).length] = a f := by
    have e : (subs a)[(pre a f).length]? = some (a f) := by rw [hs]; simp
    rw [List.getElem?_eq_getElem hl] at e
    exact Option.some.inj e
  rw [this]; exact hu
/-- the whole row of a node that has arms -/
theorem Lies.row {B b : Nat} {a : Nat → Tr} {w : World} (h : Lies B w (.kid b a)) (hne : 0 < (subs a).length) :
    ∃ g o cap, g < B ∧ w.cell? ⟨b, 1, none⟩ = some (.slice (some ⟨g, o, none⟩) (subs a).length cap) ∧ ∀ j u, (armsV (subs a))[j]? = some u → w.cell? ⟨g, o + j, none⟩ = some u := by
  obtain ⟨h1, h2, ⟨v, h3, h4, h6⟩, h5⟩ := h
  obtain ⟨hlen, A, cap, rfl, hc⟩ := h4
  obtain ⟨g, o, rfl, hg, hc⟩ := hc hne
  exact ⟨g, o, cap, hg, h3, hc⟩
theorem pre_lt (a : Nat → Tr) (f : Nat) (hf : f < 16) (ha : isN (a f) = false) : (pre a f).length < (subs a).length := by
  rw [subs_split a f hf, one_not ha]; simp
theorem Lies.alloc {B : Nat} {w : World} {t : Tr} (h : Lies B w t) (hB : B ≤ w.heap.size) (o : Obj) : Lies B (w.alloc o) t := h.below ((Below.refl B w).alloc hB o)
theorem Lies.upd {B f : Nat} {a : Nat → Tr} {r : Tr} {w : World} (ha : ∀ f, f < 16 → Lies B w (a f)) (hr : Lies B w r) : ∀ g, g < 16 → Lies B w (upd a f r g) := by
  intro g hg
  unfold tri.upd
  split
  · exact hr
  · exact ha g hg

/-- the four bits of a key -/
theorem key_nib (k : Int) (lv : Nat) : nib k lv = mx.nibS (num k) lv := rfl
theorem knib_any (B : Nat) (k : Int) (lv : Nat) (w : World) (hlv : lv ≤ 15) (hB : B ≤ w.heap.size) (hL : Laid B w) :
    Calls Tryd.prog 53 #[.int .i64 k, .int .i64 lv] w fun e w' => e = .returned (.int .i64 (nib k lv : Nat)) ∧ Below B w w' := by
  have HL := Lib.hid hL
  clear hL
  have HN := Lib.hid (key_nib k lv)
  go_enter Tryd.func53, Tryd.ntmps53
  go_wp2_with (first | (go_at_call 67; refine (key_any B k _ hB HL.out).mono ?_; rintro e w' ⟨rfl, hb⟩) | (go_at_call 66; refine (nib_any (num k) lv _ hlv).mono ?_; rintro e w2 ⟨rfl, rfl⟩))
  go_ret
  exact ⟨by rw [HN.out]; rfl, hb⟩
end Go.Proofs.YtjlbchkdiaomjaaDoor.trie

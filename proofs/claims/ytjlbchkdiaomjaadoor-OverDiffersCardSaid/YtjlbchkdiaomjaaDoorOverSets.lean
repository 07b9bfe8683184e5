/- What lies over what: which pairs a list over another one has; a list over itself. -/
import Derived.Test.YtjlbchkdiaomjaaDoorOverWithout
import Derived.StillTailTactics
namespace Go.Proofs.YtjlbchkdiaomjaaDoor.trie
open Go.RowKit Go.Shelf mem tri mix

theorem overS_mem : ∀ (b a : List (Int × Int)) (_ : Up a) (_ : Up b) (q : Int × Int), q ∈ overS a b ↔ q ∈ b ∨ (q ∈ a ∧ ∀ v, (q.1, v) ∉ b)
  | [], a, _, _, q => by simp [overS]
  | x :: b, a, ha, hb, q => by
    obtain ⟨hx, hb'⟩ := List.pairwise_cons.1 hb
    have ih := overS_mem b (putS a x.1 x.2) (putS_up a x.1 x.2 ha) hb' q
    show q ∈ overS (putS a x.1 x.2) b ↔ _
    rw [ih, putS_mem a x.1 x.2 q ha]
    have hxe : ((x.1, x.2) : Int × Int) = x := rfl
    rw [hxe]
    constructor
    · rintro (h | ⟨h | ⟨h1, h2⟩, h3⟩)
      · exact .inl (by simp [h])
      · exact .inl (by simp [h])
      · refine .inr ⟨h2, fun v hv => ?_⟩
        rcases List.mem_cons.1 hv with e | e
        · exact h1 (by rw [← e])
        · exact h3 v e
    · rintro (h | ⟨h1, h2⟩)
      · rcases List.mem_cons.1 h with e | e
        · subst e
          refine .inr ⟨.inl rfl, fun v hv => ?_⟩
          have := hx _ hv
          simp at this
        · exact .inl e
      · by_cases hq : q ∈ b
        · exact .inl hq
        · refine .inr ⟨.inr ⟨fun e => h2 x.2 (by rw [e]; simp), h1⟩, fun v hv => h2 v (by simp [hv])⟩
theorem up_ext (a b : List (Int × Int)) (ha : Up a) (hb : Up b) (h : ∀ q, q ∈ a ↔ q ∈ b) : a = b := sorted_eq a b ha hb (up_perm (up_nodup ha) (up_nodup hb) h)
theorem overS_self (a : List (Int × Int)) (ha : Up a) : overS a a = a := by
  refine up_ext _ _ (overS_up a ha a) ha fun q => ?_
  rw [overS_mem a a ha ha]
  constructor
  · rintro (h | ⟨h, _⟩) <;> exact h
  · exact .inl
theorem ofS_up (L : List (Int × Int)) : Up (ofS L) := by
  have h := overS_up [] (by simp [Up]) L
  exact h
/-- the rows of an argument -/
def RowsOf (C : Nat) (LL : List (List (Int × Int))) (vs : List Value) (w : World) : Prop :=
  vs.length = LL.length ∧ ∀ (j : Nat) (L : List (Int × Int)), LL[j]? = some L → ∃ v, vs[j]? = some v ∧ Sees C 2 w v L.length (pairV L) ∧ ∀ x ∈ L, I64 x.1
theorem RowsOf.below {C : Nat} {LL : List (List (Int × Int))} {vs : List Value} {w w' : World} (h : RowsOf C LL vs w) (hb : Below C w w') : RowsOf C LL vs w' := ⟨h.1, fun j L hj => by
  obtain ⟨v, h1, h2, h3⟩ := h.2 j L hj
  exact ⟨v, h1, h2.below hb, h3⟩⟩
theorem MapsOf.keep {l : List (Option Addr × Nat)} {LL : List (List (Int × Int))} {w w' : World} (h : MapsOf l LL w) (hk : Keeps w w') (hz : w.heap.size ≤ w'.heap.size) : MapsOf l LL w' := ⟨h.1, fun j q hj => by
  obtain ⟨L, t, h1, h2, h3, h4, h5, h6⟩ := h.2 j q hj
  exact ⟨L, t, h1, h2, h3, h4, (h5.keep hk).more hz, h6⟩⟩
theorem MapsOf.snoc {l : List (Option Addr × Nat)} {LL : List (List (Int × Int))} {w : World} {L : List (Int × Int)} {t : Tr} {p : Option Addr} {m : Nat} (h : MapsOf l LL w) (hp : ptr t = .pointer p) (hm : m = L.length) (ht : MapOf t L) (hL : Lies w.heap.size w t) (hk : ∀ x ∈ L, I64 x.1) : MapsOf (l ++ [(p, m)]) (LL ++ [L]) w := by
  refine ⟨by rw [List.length_append, List.length_append, h.1]; rfl, fun j q hj => ?_⟩
  by_cases hlt : j < l.length
  · rw [List.getElem?_append_left hlt] at hj
    obtain ⟨L', t', h1, h2⟩ := h.2 j q hj
    refine ⟨L', t', ?_, h2⟩
    rw [List.getElem?_append_left (by rw [← h.1]; exact hlt)]; exact h1
  · rw [List.getElem?_append_right (by omega)] at hj
    have hj0 : j - l.length = 0 := by
      cases hd : j - l.length with
      | zero => rfl
      | succ d => rw [hd] at hj; simp at hj
    rw [hj0] at hj
    simp at hj
    subst hj
    refine ⟨L, t, ?_, hp, hm, ht, hL, hk⟩
    rw [List.getElem?_append_right (by rw [← h.1]; omega), ← h.1, hj0]; rfl
theorem overS_keys : ∀ (M a : List (Int × Int)), Up a → (∀ x ∈ a, I64 x.1) → (∀ x ∈ M, I64 x.1) → ∀ x ∈ overS a M, I64 x.1 := by
  intro M
  induction M with
  | nil => intro a _ ha _ x hx; exact ha x hx
  | cons q M ih =>
    intro a hu ha hM x hx
    refine ih (putS a q.1 q.2) (putS_up a q.1 q.2 hu) (fun y hy => ?_) (fun y hy => hM y (by simp [hy])) x hx
    rcases (putS_mem a q.1 q.2 y hu).1 hy with e | ⟨_, e⟩
    · rw [e]; exact hM q (by simp)
    · exact ha y e
theorem ofS_keys (L : List (Int × Int)) (h : ∀ x ∈ L, I64 x.1) : ∀ x ∈ ofS L, I64 x.1 := overS_keys L [] (by simp [Up]) (by simp) h
theorem overAll_keys (LL : List (List (Int × Int))) (h : ∀ L ∈ LL, ∀ x ∈ L, I64 x.1) : ∀ x ∈ overAll LL, I64 x.1 := by
  have aux : ∀ (M : List (List (Int × Int))) (a : List (Int × Int)), Up a → (∀ x ∈ a, I64 x.1) → (∀ L ∈ M, ∀ x ∈ L, I64 x.1) → ∀ x ∈ M.foldl overS a, I64 x.1 := by
    intro M
    induction M with
    | nil => intro a _ ha _ x hx; exact ha x hx
    | cons L M ih => intro a hu ha hM x hx; exact ih (overS a L) (overS_up a hu L) (overS_keys L a hu ha (hM L (by simp))) (fun N hN => hM N (by simp [hN])) x hx
  exact aux LL [] (by simp [Up]) (by simp) h
theorem overAll_snoc (LL : List (List (Int × Int))) (L : List (Int × Int)) : overAll (LL ++ [L]) = overS (overAll LL) L := by unfold overAll; rw [List.foldl_append]; rfl
theorem overAll_two (X : List (Int × Int)) (h : Up X) : overAll [X, X] = X := by
  show overS (overS [] X) X = X
  rw [overS_nil X h, overS_self X h]
def OverOwn (B B0 n : Nat) (a b : List (Int × Int)) (w : World) (o i : Value) (wr : World) : Prop :=
  ∃ (k : Nat) (acc : List (Int × Int)), k ≤ n ∧ acc.length ≤ a.length + k ∧ i = .int .i64 k ∧ Hid (acc = overS a (b.take k)) ∧ wr.ownsRow B0 40 2 o acc.length (pairV acc) ∧ Below B w wr
set_option maxRecDepth 100000 in
set_option maxHeartbeats 1000000 in
theorem rover_own (B0 : Nat) (a b : List (Int × Int)) (u v : Value) (w : World) (hl : a.length + b.length ≤ 1048000) (hB0 : B0 ≤ w.heap.size) (h1 : w.ownsRow B0 40 2 u a.length (pairV a)) (h2 : Sees w.heap.size 2 w v b.length (pairV b)) :
    Calls Tryd.prog 24 #[u, v] w fun e w' => ∃ r, e = .returned r ∧ w'.ownsRow B0 40 2 r (overS a b).length (pairV (overS a b)) ∧ Below w.heap.size w w' := by
  obtain ⟨A, cap, rfl⟩ := h2.form
  generalize hB : w.heap.size = B at hB0 h2 ⊢
  have HB := Lib.hid hB
  have H1 := Lib.hid h1
  have HS := Lib.hid h2
  have hBw : B ≤ w.heap.size := by omega
  obtain ⟨n, hn⟩ : ∃ n, n = b.length := ⟨_, rfl⟩
  rw [← hn] at hl ⊢
  have HN := Lib.hid hn
  clear hB h1 h2 hn
  go_enter Tryd.func24, Tryd.ntmps24
  go_wp2
  go_loopw [5, 6] (fun o i wr => OverOwn B B0 n a b w o i wr) (fun _ i _ => n - (intOf i).toNat)
  case atStart => unfold OverOwn; exact ⟨0, a, Nat.zero_le _, Nat.le_refl _, rfl, Lib.hid rfl, H1.out, Below.refl _ _⟩
  case round =>
    obtain ⟨k, acc, hk, hal, rfl, HA, hsee, hbel⟩ := hrel
    have HSe := Lib.hid hsee
    have HBe := Lib.hid hbel
    have hsz := hbel.size
    by_cases hlt : k < n
    · have hkl : k < b.length := by have := HN.out; omega
      obtain ⟨g, off, cap', hv, hb, hc1, hc2⟩ := (HS.out.below hbel).pair k hkl
      have hT := overS_take a b k hkl
      injection hv with hA hL hC
      subst hA
      subst hC
      clear hL
      obtain ⟨p, hp⟩ : ∃ p, p = b[k] := ⟨_, rfl⟩
      obtain ⟨x, y⟩ := p
      rw [← hp, ← HA.out] at hT
      rw [← hp] at hc1 hc2
      have HT := Lib.hid hT
      have hpl := putS_le1 acc x y
      clear hp hT hkl hsee hbel
      have x1 : (k : Int) < (n : Int) := by omega
      have x2 : (0 : Int) ≤ (k : Int) := by omega
      go_wp2_with (fail)
      go_still_tail 11, (by kernel_rfl)
      change wpList _ _ _ _ _ wr.drew
      have HSd : Hid (Sees wr.drew.heap.size 2 wr.drew u5 acc.length (pairV acc)) := Sees.of_own HSe.out.drew
      go_wp2_with (go_at_call 20; refine (rput_any acc x y _ _ (by omega) HSd.out).mono ?_; rintro e w1 ⟨r, rfl, hg⟩; have hgot := Lib.hid hg; clear hg)
      go_roundw
      case rel =>
        unfold OverOwn
        have hb1 : Below B w w1 := (HBe.out.drew).trans (hgot.out.2.mono (by show B ≤ wr.heap.size; omega))
        refine ⟨k + 1, putS acc x y, by omega, by omega, by go_num, Lib.hid HT.out.symm, hgot.out.1.mono (by simp; omega), hb1⟩
      case measure => simp [intOf]; omega
    · have hkn : Hid (b.take k = b) := by
        have h1 : k = n := by omega
        show _ = _
        rw [List.take_of_length_le (by rw [h1, HN.out]; exact Nat.le_refl _)]
      go_wp2
      go_ret
      exact ⟨_, rfl, by have h := HA.out; rw [hkn.out] at h; rw [← h]; exact HSe.out, HBe.out⟩
end Go.Proofs.YtjlbchkdiaomjaaDoor.trie

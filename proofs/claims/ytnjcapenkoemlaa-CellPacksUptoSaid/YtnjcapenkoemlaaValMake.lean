/- What is made of numbers, flags and values; copies. -/
import Derived.Test.YtnjcapenkoemlaaValOwn
import Derived.Test.YtnjcapenkoemlaaValSize
import Derived.WalkSpells
namespace Go.Proofs.Ytnjcapenkoemlaa.vt
open Go.RowKit mem

theorem int_any (n : Int) (w : World) : Calls Try.prog 35 #[.int .i64 n] w fun e w' => e = .returned (.agg #[.int .i64 0, .int .i64 n, .slice none 0 0]) ∧ Below w.heap.size w w' := by
  go_enter Try.func35, Try.ntmps35
  go_wp2
  exact bodyPost_ret (v := .agg #[.int .i64 0, .int .i64 n, .slice none 0 0]) (by simp [results, Try.results35, go_sem]) rfl ⟨rfl, (Below.refl _ _).alloc (Nat.le_refl _) _⟩
def bit (b : Bool) : Int := if b then 1 else 0
theorem bool_any (b : Bool) (w : World) : Calls Try.prog 36 #[.bool b] w fun e w' => e = .returned (.agg #[.int .i64 1, .int .i64 (bit b), .slice none 0 0]) ∧ Below w.heap.size w w' := by
  cases b
  · go_enter Try.func36, Try.ntmps36
    go_wp2
    exact bodyPost_ret (v := .agg #[.int .i64 1, .int .i64 0, .slice none 0 0]) (by simp [results, Try.results36, go_sem]) rfl ⟨rfl, (Below.refl _ _).alloc (Nat.le_refl _) _⟩
  · go_enter Try.func36, Try.ntmps36
    go_wp2
    exact bodyPost_ret (v := .agg #[.int .i64 1, .int .i64 1, .slice none 0 0]) (by simp [results, Try.results36, go_sem]) rfl ⟨rfl, (Below.refl _ _).alloc (Nat.le_refl _) _⟩
theorem made_row {G : Nat → Prop} {w0 w w1 : World} {l : List VT} {vs : List Value} {v' : Value} (hv : Vals (fun b => G b ∧ b < w0.heap.size) w l vs) (hg : w.grownBy w1 none) (ho : w1.ownsRow (w0.heap.size + 1) 24 3 v' l.length vs) :
    Below w.heap.size w w1 ∧ Hid (Own (w0.heap.size + 1) (fun b => G b ∧ b < w0.heap.size) w1 l v') :=
  ⟨below_grown hg, Lib.hid ⟨vs, hv.below (below_grown hg), ho⟩⟩
theorem val_ret (k n : Int) (s : Value) (P : Ending → World → Prop) (w : World) (h : P (.returned (.agg #[.int .i64 k, .int .i64 n, s])) w) : P (.returned (.agg #[.int .i64 k, .int .i64 n, s])) w := h
set_option maxHeartbeats 400000 in
set_option maxRecDepth 100000 in
theorem made_sl {G : Nat → Prop} (k : Int) (l : List VT) (A : Option Addr) (cap : Nat) (w : World) (hcap : A = none → cap = 0) (hnil : A = none → l = []) (hvs0 : ∀ ad, A = some ad → ∃ vs, Vals G w l vs ∧ ∀ j u, vs[j]? = some u → w.cell? (ad.add j) = some u) (hl : l.length ≤ 1048576) :
    Calls Try.prog 41 #[.int .i64 k, .slice A l.length cap] w (MadePost k G l w) := by
  obtain ⟨i0, hi, hz0, hz1, hz2⟩ := info_parts infoV
  obtain ⟨N, hN⟩ : ∃ N, N = l.length := ⟨_, rfl⟩
  have HNIL : Hid ((w.alloc (.cells #[.int .i64 0, .int .i64 0, .slice none 0 0] 24)).ownsRow (w.heap.size + 1) 24 3 (.slice none 0 0) 0 []) := Lib.hid (World.ownsRow_nil _ _ _ _)
  cases A with
  | none =>
    have h0 : l = [] := hnil rfl
    subst h0
    obtain rfl : N = 0 := hN
    clear hvs0 hl
    show Calls Try.prog 41 #[.int .i64 k, .slice none 0 cap] w _
    obtain rfl : cap = 0 := hcap rfl
    · go_enter Try.func41, Try.ntmps41
      go_wp2_with (at_builtin; refine wpList_append_own_none rfl (.const (.slice none 0 0)) (.tmp 6) 22 rfl (w.heap.size + 1) 24 i0 3 Try.underlying22 hi _ _ _ rfl HNIL.out rfl ?_)
      refine bodyPost_ret (v := .agg #[.int .i64 k, .int .i64 0, .slice none 0 0]) (by simp [results, Try.results41, go_sem]) rfl ?_
      exact ⟨_, rfl, (Below.refl _ _).alloc (Nat.le_refl _) _, Own.nil_ _ _ _⟩
  | some ad =>
    have hvs : ∃ vs, Vals (fun b => G b ∧ b < w.heap.size) w l vs ∧ ∀ j u, vs[j]? = some u → w.cell? (ad.add j) = some u := by
      obtain ⟨vs, hv, hc⟩ := hvs0 ad rfl
      exact ⟨vs, hv.lt, hc⟩
    obtain ⟨vs, hv, hcells⟩ := hvs
    have HV := Lib.hid hv
    have HL := Lib.hid hv.len
    have HO := Lib.hid hv.one
    have HC : ∀ o, Hid (∀ j u, vs[j]? = some u → (w.alloc o).cell? (ad.add j) = some u) := fun o => Lib.hid fun j u hu => (Below.cell ((Below.refl w.heap.size w).alloc (Nat.le_refl _) o) (p := ad.add j) (World.block_lt_of_cell? _ _ (hcells j u hu))).trans (hcells j u hu)
    have HN := Lib.hid hN
    rw [← hN] at hl ⊢
    have HVW := Lib.hid (hv.below ((Below.refl w.heap.size w).alloc (Nat.le_refl _) (.cells #[.int .i64 0, .int .i64 0, .slice none 0 0] 24)))
    clear hvs0 hv hcells hN
    go_enter Try.func41, Try.ntmps41
    go_wp2_with (at_builtin; refine wpList_append_own _ rfl (.const (.slice none 0 0)) (.tmp 6) 22 rfl (w.heap.size + 1) 24 i0 (.agg #[.int .i64 0, .int .i64 0, .slice none 0 0]) 3 40 Try.underlying22 hi hz0 hz1 hz2 rfl (by decide) _ _ _ rfl HNIL.out ad N cap vs rfl (by rw [HL.out, HN.out]) (HC _).out HO.out (by unfold maxLen; omega) (by omega) (by simp) ?_; intro v' w1 hown hgrow _; obtain ⟨Av, cv, rfl⟩ := own_form hown; obtain ⟨hb1, HOWN⟩ := made_row (v' := .slice Av (0 + N) cv) HVW.out hgrow (by rw [← HN.out]; simpa using hown); have hz := hb1.size; simp only [World.size_alloc] at hz; have HS := Lib.hid (cell_since (N := w.heap.size) rfl (by simpa using hb1)); clear hown hgrow; have d0 := (HS.out 0).1; have d1 := (HS.out 1).1; have d2 := (HS.out 2).1; have f0 := (HS.out 0).2; have f1 := (HS.out 1).2; have f2 := (HS.out 2).2; have HB1 := Lib.hid hb1; clear hb1)
    refine bodyPost_ret (v := .agg #[.int .i64 k, .int .i64 0, .slice Av (0 + N) cv]) (by simp [results, Try.results41, go_sem, d0, d1, d2]) rfl ?_
    refine ⟨_, rfl, below_told (((Below.refl _ _).alloc (Nat.le_refl _) _).trans (HB1.out.mono (by simp))) (Nat.le_refl _), (own_told HOWN.out (Nat.lt_succ_self _) (fun c hc => by omega)).mono (Nat.le_succ _) (fun _ hc => hc.1)⟩
theorem made_any {G : Nat → Prop} (k : Int) (l : List VT) (s : Value) (w : World) (h : Kids G w l s) (hl : l.length ≤ 1048576) :
    Calls Try.prog 41 #[.int .i64 k, s] w (MadePost k G l w) := by
  obtain ⟨A, cap, hs, ⟨_, hcap⟩, hc⟩ := h
  subst hs
  refine made_sl k l A cap w hcap (fun hA => ?_) (fun ad hA => ?_) hl
  · cases l with
    | nil => rfl
    | cons a r => obtain ⟨b, off, h, _⟩ := hc (by simp); rw [hA] at h; cases h
  · by_cases h0 : l = []
    · subst h0; exact ⟨[], by rw [Vals], fun j u h => by simp at h⟩
    · obtain ⟨b, off, hA', hb, hr⟩ := hc (List.length_pos_iff.2 h0)
      rw [hA] at hA'
      injection hA' with hA'
      subst hA'
      obtain ⟨vs, hv, hcells⟩ := row_vals hr
      refine ⟨vs, hv, fun j u hu => ?_⟩
      rw [show (⟨b, off, none⟩ : Addr).add j = ⟨b, off + j, none⟩ by unfold Addr.add; split <;> simp_all]
      exact hcells j u hu
theorem arr_any {G : Nat → Prop} (l : List VT) (s : Value) (w : World) (h : Kids G w l s) (hl : l.length ≤ 1048576) :
    Calls Try.prog 39 #[s] w (MadePost 2 G l w) := by
  have HM := Lib.hid (fun o => made_any 2 l s (w.alloc o) (h.lt.below ((Below.refl _ _).alloc (Nat.le_refl _) o)) hl)
  obtain ⟨A, cap, hs, _⟩ := h.form
  subst hs
  clear h hl
  go_enter Try.func39, Try.ntmps39
  go_wp2_with (go_at_call 41; refine (HM.out _).mono ?_; rintro e w1 ⟨s', rfl, hb, ho⟩; obtain ⟨A', c', rfl⟩ := (show ∃ A' c', s' = .slice A' l.length c' from by obtain ⟨vs, _, ho⟩ := ho; exact own_form ho); have hz := hb.size; simp only [World.size_alloc] at hz; have HS := Lib.hid (cell_since (N := w.heap.size) rfl (by simpa using hb)); have d0 := (HS.out 0).1; have d1 := (HS.out 1).1; have d2 := (HS.out 2).1; have f0 := (HS.out 0).2; have f1 := (HS.out 1).2; have f2 := (HS.out 2).2; have HB1 := Lib.hid hb; have HOWN := Lib.hid ho; clear hb ho)
  refine bodyPost_ret (v := .agg #[.int .i64 2, .int .i64 0, .slice A' l.length c']) (by simp [results, Try.results39, go_sem, d0, d1, d2]) rfl ?_
  exact ⟨_, rfl, below_told (((Below.refl _ _).alloc (Nat.le_refl _) _).trans (HB1.out.mono (by simp))) (Nat.le_refl _), (own_told HOWN.out (by simp) (fun c hc => by omega)).mono (by simp) (fun _ hc => hc.1)⟩
theorem rec_any {G : Nat → Prop} (l : List VT) (s : Value) (w : World) (h : Kids G w l s) (hl : l.length ≤ 1048576) :
    Calls Try.prog 40 #[s] w (MadePost 3 G l w) := by
  have HM := Lib.hid (fun o => made_any 3 l s (w.alloc o) (h.lt.below ((Below.refl _ _).alloc (Nat.le_refl _) o)) hl)
  obtain ⟨A, cap, hs, _⟩ := h.form
  subst hs
  clear h hl
  go_enter Try.func40, Try.ntmps40
  go_wp2_with (go_at_call 41; refine (HM.out _).mono ?_; rintro e w1 ⟨s', rfl, hb, ho⟩; obtain ⟨A', c', rfl⟩ := (show ∃ A' c', s' = .slice A' l.length c' from by obtain ⟨vs, _, ho⟩ := ho; exact own_form ho); have hz := hb.size; simp only [World.size_alloc] at hz; have HS := Lib.hid (cell_since (N := w.heap.size) rfl (by simpa using hb)); have d0 := (HS.out 0).1; have d1 := (HS.out 1).1; have d2 := (HS.out 2).1; have f0 := (HS.out 0).2; have f1 := (HS.out 1).2; have f2 := (HS.out 2).2; have HB1 := Lib.hid hb; have HOWN := Lib.hid ho; clear hb ho)
  refine bodyPost_ret (v := .agg #[.int .i64 3, .int .i64 0, .slice A' l.length c']) (by simp [results, Try.results40, go_sem, d0, d1, d2]) rfl ?_
  exact ⟨_, rfl, below_told (((Below.refl _ _).alloc (Nat.le_refl _) _).trans (HB1.out.mono (by simp))) (Nat.le_refl _), (own_told HOWN.out (by simp) (fun c hc => by omega)).mono (by simp) (fun _ hc => hc.1)⟩
theorem own_mono {B L : Nat} {G : Nat → Prop} {w : World} {l : List VT} {s : Value} (h : Own B (fun b => G b ∧ b < L) w l s) : Own B G w l s := h.mono (Nat.le_refl _) fun _ hb => hb.1
def ClonedPost (G : Nat → Prop) (l : List VT) (w : World) (e : Ending) (w' : World) : Prop := ∃ s, e = .returned s ∧ Below w.heap.size w w' ∧ Own w.heap.size G w' l s
end Go.Proofs.Ytnjcapenkoemlaa.vt

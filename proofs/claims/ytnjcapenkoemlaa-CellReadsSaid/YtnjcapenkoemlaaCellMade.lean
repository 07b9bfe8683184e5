/- An array or a record is made of a part of a row. -/
import Derived.Test.YtnjcapenkoemlaaCellPush
namespace Go.Proofs.Ytnjcapenkoemlaa.vt.ce
open Go.RowKit mem vt

/-- a slice of values, and what is told of its cells -/
def Slc (G : Nat → Prop) (w : World) (l : List VT) (A : Option Addr) (cap : Nat) : Prop :=
  (A = none → cap = 0) ∧ (A = none → l = []) ∧ ∀ ad, A = some ad → ∃ vs, Vals G w l vs ∧ ∀ j u, vs[j]? = some u → w.cell? (ad.add j) = some u
theorem Slc.below {G : Nat → Prop} {w w' : World} {l : List VT} {A : Option Addr} {cap : Nat} (h : Slc G w l A cap) (hb : Below w.heap.size w w') : Slc G w' l A cap :=
  ⟨h.1, h.2.1, fun ad ha => by
    obtain ⟨vs, h1, h2⟩ := h.2.2 ad ha
    exact ⟨vs, h1.below hb, fun j u hu => (hb.cell (p := ad.add j) (World.block_lt_of_cell? _ _ (h2 j u hu))).trans (h2 j u hu)⟩⟩
theorem Slc.lt {G : Nat → Prop} {w : World} {l : List VT} {A : Option Addr} {cap : Nat} (h : Slc G w l A cap) : Slc (fun b => G b ∧ b < w.heap.size) w l A cap :=
  ⟨h.1, h.2.1, fun ad ha => by
    obtain ⟨vs, h1, h2⟩ := h.2.2 ad ha
    exact ⟨vs, h1.lt, h2⟩⟩
theorem arr_sl {G : Nat → Prop} (l : List VT) (A : Option Addr) (cap : Nat) (w : World) (h : Slc G w l A cap) (hl : l.length ≤ 1048576) :
    Calls Try.prog 39 #[.slice A l.length cap] w (MadePost 2 G l w) := by
  have HM := Lib.hid (fun o => by have h' := h.lt.below ((Below.refl w.heap.size w).alloc (Nat.le_refl _) o); exact made_sl 2 l A cap (w.alloc o) h'.1 h'.2.1 h'.2.2 hl)
  obtain ⟨N, hN⟩ : ∃ N, N = l.length := ⟨_, rfl⟩
  have HN := Lib.hid hN
  rw [← hN] at HM ⊢
  clear h hl hN
  go_enter Try.func39, Try.ntmps39
  go_wp2_with (go_at_call 41; refine (HM.out _).mono ?_; rintro e w1 ⟨s', rfl, hb, ho⟩; obtain ⟨A', c', rfl⟩ := (show ∃ A' c', s' = .slice A' l.length c' from by obtain ⟨vs, _, ho⟩ := ho; exact own_form ho); have hz := hb.size; simp only [World.size_alloc] at hz; have HS := Lib.hid (cell_since (N := w.heap.size) rfl (by simpa using hb)); have d0 := (HS.out 0).1; have d1 := (HS.out 1).1; have d2 := (HS.out 2).1; have f0 := (HS.out 0).2; have f1 := (HS.out 1).2; have f2 := (HS.out 2).2; have HB1 := Lib.hid hb; have HOWN := Lib.hid ho; clear hb ho)
  refine bodyPost_ret (v := .agg #[.int .i64 2, .int .i64 0, .slice A' l.length c']) (by simp [results, Try.results39, go_sem, d0, d1, d2]) rfl ?_
  exact ⟨_, rfl, below_told (((Below.refl _ _).alloc (Nat.le_refl _) _).trans (HB1.out.mono (by simp))) (Nat.le_refl _), (own_told HOWN.out (by simp) (fun c hc => by omega)).mono (by simp) (fun _ hc => hc.1)⟩
theorem rec_sl {G : Nat → Prop} (l : List VT) (A : Option Addr) (cap : Nat) (w : World) (h : Slc G w l A cap) (hl : l.length ≤ 1048576) :
    Calls Try.prog 40 #[.slice A l.length cap] w (MadePost 3 G l w) := by
  have HM := Lib.hid (fun o => by have h' := h.lt.below ((Below.refl w.heap.size w).alloc (Nat.le_refl _) o); exact made_sl 3 l A cap (w.alloc o) h'.1 h'.2.1 h'.2.2 hl)
  obtain ⟨N, hN⟩ : ∃ N, N = l.length := ⟨_, rfl⟩
  have HN := Lib.hid hN
  rw [← hN] at HM ⊢
  clear h hl hN
  go_enter Try.func40, Try.ntmps40
  go_wp2_with (go_at_call 41; refine (HM.out _).mono ?_; rintro e w1 ⟨s', rfl, hb, ho⟩; obtain ⟨A', c', rfl⟩ := (show ∃ A' c', s' = .slice A' l.length c' from by obtain ⟨vs, _, ho⟩ := ho; exact own_form ho); have hz := hb.size; simp only [World.size_alloc] at hz; have HS := Lib.hid (cell_since (N := w.heap.size) rfl (by simpa using hb)); have d0 := (HS.out 0).1; have d1 := (HS.out 1).1; have d2 := (HS.out 2).1; have f0 := (HS.out 0).2; have f1 := (HS.out 1).2; have f2 := (HS.out 2).2; have HB1 := Lib.hid hb; have HOWN := Lib.hid ho; clear hb ho)
  refine bodyPost_ret (v := .agg #[.int .i64 3, .int .i64 0, .slice A' l.length c']) (by simp [results, Try.results40, go_sem, d0, d1, d2]) rfl ?_
  exact ⟨_, rfl, below_told (((Below.refl _ _).alloc (Nat.le_refl _) _).trans (HB1.out.mono (by simp))) (Nat.le_refl _), (own_told HOWN.out (by simp) (fun c hc => by omega)).mono (by simp) (fun _ hc => hc.1)⟩
theorem made_form {k : Int} {G : Nat → Prop} {l : List VT} {w w' : World} {e : Ending} (h : MadePost k G l w e w') : ∃ A c, e = .returned (.agg #[.int .i64 k, .int .i64 0, .slice A l.length c]) ∧ Below w.heap.size w w' ∧ Own w.heap.size G w' l (.slice A l.length c) := by
  obtain ⟨s, rfl, hb, vs, hv, ho⟩ := h
  obtain ⟨A, c, rfl⟩ := own_form ho
  exact ⟨A, c, rfl, hb, vs, hv, ho⟩
theorem cmade_sl {G : Nat → Prop} (k : Int) (hk : k = 2 ∨ k = 3) (l : List VT) (A : Option Addr) (cap : Nat) (w : World) (h : Slc G w l A cap) (hl : l.length ≤ 1048576) :
    Calls Try.prog 37 #[.int .i64 k, .slice A l.length cap] w (MadePost k G l w) := by
  have HA := Lib.hid (fun o => by have h' := h.lt.below ((Below.refl w.heap.size w).alloc (Nat.le_refl _) o); exact arr_sl l A cap (w.alloc o) h' hl)
  have HR := Lib.hid (fun o => by have h' := h.lt.below ((Below.refl w.heap.size w).alloc (Nat.le_refl _) o); exact rec_sl l A cap (w.alloc o) h' hl)
  obtain ⟨N, hN⟩ : ∃ N, N = l.length := ⟨_, rfl⟩
  have HN := Lib.hid hN
  rw [← hN] at HA HR ⊢
  clear h hl hN
  rcases hk with rfl | rfl
  · go_enter Try.func37, Try.ntmps37
    go_wp2_with (go_at_call 39; refine (HA.out _).mono ?_; rintro e w1 ⟨s', rfl, hb, ho⟩; obtain ⟨A', c', rfl⟩ := (show ∃ A' c', s' = .slice A' l.length c' from by obtain ⟨vs, _, ho⟩ := ho; exact own_form ho); have hz := hb.size; simp only [World.size_alloc] at hz; have HS := Lib.hid (cell_since (N := w.heap.size) rfl (by simpa using hb)); have d0 := (HS.out 0).1; have d1 := (HS.out 1).1; have d2 := (HS.out 2).1; have f0 := (HS.out 0).2; have f1 := (HS.out 1).2; have f2 := (HS.out 2).2; have HB1 := Lib.hid hb; have HOWN := Lib.hid ho; clear hb ho)
    refine bodyPost_ret (v := .agg #[.int .i64 2, .int .i64 0, .slice A' l.length c']) (by simp [results, Try.results37, go_sem, d0, d1, d2]) rfl ?_
    exact ⟨_, rfl, below_told (((Below.refl _ _).alloc (Nat.le_refl _) _).trans (HB1.out.mono (by simp))) (Nat.le_refl _), (own_told HOWN.out (by simp) (fun c hc => by omega)).mono (by simp) (fun _ hc => hc.1)⟩
  · go_enter Try.func37, Try.ntmps37
    go_wp2_with (go_at_call 40; refine (HR.out _).mono ?_; rintro e w1 ⟨s', rfl, hb, ho⟩; obtain ⟨A', c', rfl⟩ := (show ∃ A' c', s' = .slice A' l.length c' from by obtain ⟨vs, _, ho⟩ := ho; exact own_form ho); have hz := hb.size; simp only [World.size_alloc] at hz; have HS := Lib.hid (cell_since (N := w.heap.size) rfl (by simpa using hb)); have d0 := (HS.out 0).1; have d1 := (HS.out 1).1; have d2 := (HS.out 2).1; have f0 := (HS.out 0).2; have f1 := (HS.out 1).2; have f2 := (HS.out 2).2; have HB1 := Lib.hid hb; have HOWN := Lib.hid ho; clear hb ho)
    refine bodyPost_ret (v := .agg #[.int .i64 3, .int .i64 0, .slice A' l.length c']) (by simp [results, Try.results37, go_sem, d0, d1, d2]) rfl ?_
    exact ⟨_, rfl, below_told (((Below.refl _ _).alloc (Nat.le_refl _) _).trans (HB1.out.mono (by simp))) (Nat.le_refl _), (own_told HOWN.out (by simp) (fun c hc => by omega)).mono (by simp) (fun _ hc => hc.1)⟩
end Go.Proofs.Ytnjcapenkoemlaa.vt.ce

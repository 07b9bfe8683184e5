/- Steps in memory; whether a step leads on. -/
import Derived.Test.YtlejcmojimkjeaaPathTree
import Derived.Test.YtlejcmojimkjeaaValOwn
import Derived.Test.YtlejcmojimkjeaaValRight
import Derived.Laws.OwnMore
namespace Go.Proofs.Ytlejcmojimkjeaa.vt
open Go.RowKit mem

/-- a slice that reads as a list of steps -/
def Ways (G : Nat → Prop) (w : World) (l : List Way) (s : Value) : Prop :=
  ∃ A cap, s = .slice A l.length cap ∧ (l.length ≤ 9223372036854775807 ∧ l.length ≤ cap ∧ cap ≤ 9223372036854775807) ∧ (0 < l.length → ∃ b off, A = some ⟨b, off, none⟩ ∧ G b ∧ ∀ (k : Nat) (hk : k < l.length), I64 l[k].2 ∧ w.cell? ⟨b, off + k * 2, none⟩ = some (.bool l[k].1) ∧ w.cell? ⟨b, off + k * 2 + 1, none⟩ = some (.int .i64 l[k].2))
theorem Ways.carry {G G' : Nat → Prop} {w w' : World} {l : List Way} {s : Value} (h : Ways G w l s) (hc : ∀ b o v, G b → w.cell? ⟨b, o, none⟩ = some v → G' b ∧ w'.cell? ⟨b, o, none⟩ = some v) : Ways G' w' l s := by
  obtain ⟨A, cap, hs, hl, h⟩ := h
  refine ⟨A, cap, hs, hl, fun h0 => ?_⟩
  obtain ⟨b, off, hA, hb, h⟩ := h h0
  exact ⟨b, off, hA, (hc _ _ _ hb (h 0 h0).2.1).1, fun k hk => ⟨(h k hk).1, (hc _ _ _ hb (h k hk).2.1).2, (hc _ _ _ hb (h k hk).2.2).2⟩⟩
theorem Ways.below {G : Nat → Prop} {w w' : World} {l : List Way} {s : Value} (h : Ways G w l s) (hb : Below w.heap.size w w') : Ways G w' l s :=
  h.carry fun b o _ hg hc => ⟨hg, (hb.cell (p := ⟨b, o, none⟩) (World.block_lt_of_cell? _ _ hc)).trans hc⟩
theorem Ways.mono {G G' : Nat → Prop} {w : World} {l : List Way} {s : Value} (h : Ways G w l s) (hg : ∀ b, G b → G' b) : Ways G' w l s := h.carry fun b _ _ hb hc => ⟨hg b hb, hc⟩
theorem Ways.lt {G : Nat → Prop} {w : World} {l : List Way} {s : Value} (h : Ways G w l s) : Ways (fun b => G b ∧ b < w.heap.size) w l s :=
  h.carry fun _ _ _ hb hc => ⟨⟨hb, World.block_lt_of_cell? _ _ hc⟩, hc⟩
theorem Ways.form {G : Nat → Prop} {w : World} {l : List Way} {s : Value} (h : Ways G w l s) : ∃ A cap, s = .slice A l.length cap ∧ (l.length ≤ 9223372036854775807 ∧ l.length ≤ cap ∧ cap ≤ 9223372036854775807) := by
  obtain ⟨A, cap, hs, hl, _⟩ := h
  exact ⟨A, cap, hs, hl⟩
/-- one step, told by a world behind -/
theorem Ways.step {G : Nat → Prop} {w wr : World} {l : List Way} {s : Value} (h : Ways G w l s) (hb : Below w.heap.size w wr) (k : Nat) (hk : k < l.length) :
    ∃ b off cap, s = .slice (some ⟨b, off, none⟩) l.length cap ∧ b < wr.heap.size ∧ I64 l[k].2 ∧ wr.cell? ⟨b, off + k * 2, none⟩ = some (.bool l[k].1) ∧ wr.cell? ⟨b, off + k * 2 + 1, none⟩ = some (.int .i64 l[k].2) := by
  obtain ⟨A, cap, hs, _, h⟩ := h.below hb
  obtain ⟨b, off, rfl, _, h⟩ := h (by omega)
  obtain ⟨i, c0, c1⟩ := h k hk
  exact ⟨b, off, cap, hs, World.block_lt_of_cell? _ _ c0, i, c0, c1⟩
theorem Ways.nil_ (G : Nat → Prop) (w : World) : Ways G w [] (.slice none 0 0) := ⟨none, 0, rfl, ⟨by simp, by simp, by omega⟩, fun h => absurd h (by simp)⟩

theorem leads_end {t : VT} {f : Bool} {n K : Int} {N : Nat} (hN : N = t.kids.length) (hK : K = t.kind) : leadsB t (f, n) = (decide (K = fromK f) && (decide (0 ≤ n) && decide (n < (N : Int)))) := by
  subst hN; subst hK; rfl
set_option maxHeartbeats 1000000 in
/-- whether a step leads on -/
theorem leads_any (t : VT) (A : Option Addr) (cap : Nat) (wy : Way) (w : World) (hi : I64 t.kind ∧ I64 wy.2) (hl : t.kids.length ≤ 9223372036854775807) :
    Calls Try.prog 21 #[.agg #[.int .i64 t.kind, .int .i64 t.num, .slice A t.kids.length cap], .agg #[.bool wy.1, .int .i64 wy.2]] w fun e w' => e = .returned (.bool (leadsB t wy)) ∧ Below w.heap.size w w' := by
  obtain ⟨f, n⟩ := wy
  obtain ⟨N, hN⟩ : ∃ N, N = t.kids.length := ⟨_, rfl⟩
  obtain ⟨K, hK⟩ : ∃ K, K = t.kind := ⟨_, rfl⟩
  have HE := Lib.hid (leads_end (f := f) (n := n) hN hK)
  rw [← hN] at hl ⊢
  rw [← hK] at hi ⊢
  obtain ⟨hk, hn⟩ := hi
  dsimp only at hn ⊢
  unfold I64 at hk hn
  have HB : Hid (∀ o o', Below w.heap.size w ((w.alloc o).alloc o')) := Lib.hid fun o o' => ((Below.refl _ _).alloc (Nat.le_refl _) _).alloc (by simp) _
  clear hN hK
  cases f
  · by_cases h1 : K = 2
    · subst h1
      by_cases h2 : 0 ≤ n <;> by_cases h3 : n < (N : Int)
      rotate_right
      · exfalso; omega
      all_goals
        have HF := Lib.hid (HE.out.trans (by simp [fromK, h2, h3] : _ = (decide (0 ≤ n) && decide (n < (N : Int)))))
        simp only [h2, h3, decide_true, decide_false, Bool.and_true, Bool.and_false] at HF
        clear HE
        go_enter Try.func21, Try.ntmps21
        go_wp2
        go_ret
        exact ⟨by rw [HF.out]; rfl, HB.out _ _⟩
    · have h1' : (K == 2) = false := by simpa using h1
      have HF : Hid (leadsB t (false, n) = false) := Lib.hid (by rw [HE.out]; simp [fromK, h1])
      clear HE
      go_enter Try.func21, Try.ntmps21
      go_wp2
      go_ret
      exact ⟨by rw [HF.out]; rfl, HB.out _ _⟩
  · by_cases h1 : K = 3
    · subst h1
      by_cases h2 : 0 ≤ n <;> by_cases h3 : n < (N : Int)
      rotate_right
      · exfalso; omega
      all_goals
        have HF := Lib.hid (HE.out.trans (by simp [fromK, h2, h3] : _ = (decide (0 ≤ n) && decide (n < (N : Int)))))
        simp only [h2, h3, decide_true, decide_false, Bool.and_true, Bool.and_false] at HF
        clear HE
        go_enter Try.func21, Try.ntmps21
        go_wp2
        go_ret
        exact ⟨by rw [HF.out]; rfl, HB.out _ _⟩
    · have h1' : (K == 3) = false := by simpa using h1
      have HF : Hid (leadsB t (true, n) = false) := Lib.hid (by rw [HE.out]; simp [fromK, h1])
      clear HE
      go_enter Try.func21, Try.ntmps21
      go_wp2
      go_ret
      exact ⟨by rw [HF.out]; rfl, HB.out _ _⟩
end Go.Proofs.Ytlejcmojimkjeaa.vt

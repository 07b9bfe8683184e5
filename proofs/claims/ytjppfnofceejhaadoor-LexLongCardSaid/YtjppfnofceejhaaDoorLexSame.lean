/- The document's Same: two rows of the same tokens are the same. -/
import Derived.Test.YtjppfnofceejhaaDoorLexAll
import Derived.Test.YtjppfnofceejhaaDoorLexFuel
import Derived.BigQuiet
namespace Go.Proofs.YtjppfnofceejhaaDoor.lx
open Go.RowKit mem vt wd

/-- a slice that reads as these tokens, all below block B -/
def TokS (B : Nat) (w : World) (l : List Tok) (v : Value) : Prop := Sees B 4 w v l.length (toksV l)
theorem TokS.below {B : Nat} {w w' : World} {l : List Tok} {v : Value} (h : TokS B w l v) (hb : Below B w w') : TokS B w' l v := Sees.below h hb
theorem TokS.more {B B' : Nat} {w : World} {l : List Tok} {v : Value} (h : TokS B w l v) (hB : B ≤ B') : TokS B' w l v := Sees.more h hB
theorem TokS.of_got {B : Nat} {w w' : World} {l : List Tok} {v : Value} (h : Got B TokT 4 l.length (toksV l) v w w') : TokS w'.heap.size w' l v := h.sees
theorem TokS.form {B : Nat} {w : World} {l : List Tok} {v : Value} (h : TokS B w l v) : ∃ A c, v = .slice A l.length c := by
  obtain ⟨_, A, c, hv, _⟩ := h; exact ⟨A, c, hv⟩
/-- where the tokens lie -/
theorem TokS.cells {B : Nat} {w : World} {l : List Tok} {A : Option Addr} {n c : Nat} (h : TokS B w l (.slice A n c)) (h0 : 0 < l.length) : ∃ b off, A = some ⟨b, off, none⟩ ∧ b < B ∧ ∀ k (hk : k < l.length),
    w.cell? ⟨b, off + k * 4, none⟩ = some (.int .i64 l[k].kind) ∧ w.cell? ⟨b, off + k * 4 + 1, none⟩ = some (.int .i64 l[k].at_) ∧ w.cell? ⟨b, off + k * 4 + 2, none⟩ = some (.int .i64 l[k].n) ∧ w.cell? ⟨b, off + k * 4 + 3, none⟩ = some (.string ⟨l[k].text.toArray⟩) := by
  obtain ⟨_, A', c', hv, hc⟩ := h
  injection hv with hA hn hcc
  subst hA
  obtain ⟨b, off, hA, hb, hcc⟩ := hc h0
  refine ⟨b, off, hA, hb, fun k hk => ⟨?_, ?_, ?_, ?_⟩⟩
  · exact hcc (k * 4) _ ((toksV_at l k 0 hk (by omega)).trans rfl)
  · have := hcc (k * 4 + 1) _ ((toksV_at l k 1 hk (by omega)).trans rfl); rw [← Nat.add_assoc] at this; exact this
  · have := hcc (k * 4 + 2) _ ((toksV_at l k 2 hk (by omega)).trans rfl); rw [← Nat.add_assoc] at this; exact this
  · have := hcc (k * 4 + 3) _ ((toksV_at l k 3 hk (by omega)).trans rfl); rw [← Nat.add_assoc] at this; exact this
theorem rsame_any (l : List Tok) (v1 v2 : Value) (w : World) (B : Nat) (h1 : TokS B w l v1) (h2 : TokS B w l v2) (hl : l.length ≤ 1048576) :
    Calls Tryd.prog 9 #[v1, v2] w fun e w' => e = .returned (.bool true) ∧ ∃ q, w' = w.drewN q := by
  obtain ⟨A1, c1, rfl⟩ := h1.form
  obtain ⟨A2, c2, rfl⟩ := h2.form
  have H1 := Lib.hid h1
  have H2 := Lib.hid h2
  clear h1 h2
  obtain ⟨N, hN⟩ : ∃ N, N = l.length := ⟨_, rfl⟩
  rw [← hN] at hl ⊢
  have HN := Lib.hid hN
  clear hN
  go_enter Tryd.func9, Tryd.ntmps9
  go_wp2_with (fail)
  go_loopw [5] (fun i wr => ∃ k q : Nat, i = .int .i64 k ∧ k ≤ N ∧ wr = w.drewN q) (fun i _ => N - (intOf i).toNat)
  case atStart => exact ⟨0, 0, rfl, by omega, rfl⟩
  case round =>
    obtain ⟨k, q, rfl, hk, rfl⟩ := hrel
    by_cases hlt : k < N
    · have hlt' : (k : Int) < (N : Int) := by omega
      have hk0 : (0 : Int) ≤ (k : Int) := by omega
      have hkl : k < l.length := by rw [← HN.out]; exact hlt
      obtain ⟨b1, o1, rfl, _, x⟩ := TokS.cells H1.out (by omega)
      obtain ⟨b2, o2, rfl, _, y⟩ := TokS.cells H2.out (by omega)
      obtain ⟨x0, x1, x2, x3⟩ := x k hkl
      obtain ⟨y0, y1, y2, y3⟩ := y k hkl
      obtain ⟨t, ht⟩ : ∃ t, t = l[k] := ⟨_, rfl⟩
      rw [← ht] at x0 x1 x2 x3 y0 y1 y2 y3
      clear ht x y hkl
      go_wp2_with (fail)
      go_quiet (fail)
      go_wp2_with (fail)
      exact ⟨⟨k + 1, _, by go_num, by omega, rfl⟩, by simp [intOf]; omega⟩
    · obtain rfl : k = N := by omega
      go_wp2_with (fail)
      go_ret
      exact ⟨rfl, _, rfl⟩
end Go.Proofs.YtjppfnofceejhaaDoor.lx

/- The document's own Check; what the package's functions tell; the layer's works() answers true. -/
import Derived.Test.YthohfepolidgkaaNestRef
namespace Go.Proofs.Ythohfepolidgkaa.ne
open Go.RowKit mem
open vt (wpList_append_mine own_form)

/-- where the states lie -/
theorem pr_cells {w : World} {B N : Nat} {L : List (Nat × Nat)} {A : Option Addr} {n c : Nat} {w0 : World} (h : Got B PairT 2 n (prV L) (.slice A n c) w0 w) (hL : L.length = n) (k : Nat) (hk : k < L.length) (hN : N = n) : ∃ b off, A = some ⟨b, off, none⟩ ∧ w.cell? ⟨b, off + k * 2, none⟩ = some (.int .i64 L[k].1) ∧ w.cell? ⟨b, off + k * 2 + 1, none⟩ = some (.int .i64 L[k].2) := by
  obtain ⟨_, A', c', hv, hc⟩ := h.sees
  injection hv with hA hn hcc
  subst hA
  obtain ⟨b, off, hA, _, hcc⟩ := hc (by omega)
  obtain ⟨p1, p2⟩ := prV_at L k hk
  refine ⟨b, off, hA, hcc _ _ p1, ?_⟩
  have := hcc _ _ p2
  rw [← Nat.add_assoc] at this
  exact this
def CkRel (l : List Tk) (W : World) (i : Value) (wr : World) : Prop := ∃ k : Nat, k ≤ l.length ∧ i = .int .i64 k ∧ Hid (fineN l k) ∧ wr = W
def CheckPost (l : List Tk) (w : World) (e : Ending) (w' : World) : Prop := e = .returned (.tuple #[.int .i64 (checkN l).1, .int .i64 (checkN l).2]) ∧ Below w.heap.size w w'
set_option maxHeartbeats 2000000 in
theorem rcheck_any (l : List Tk) (v : Value) (w : World) (B : Nat) (h : TksS B w l v) (hB : B ≤ w.heap.size) (hl : l.length ≤ 1048576) :
    Calls Try.prog 9 #[v] w (CheckPost l w) := by
  obtain ⟨A, c, rfl⟩ := h.form
  have HS := Lib.hid h
  have HA := Lib.hid (rat_any l _ w B h hB hl)
  obtain ⟨N, hN⟩ : ∃ N, N = l.length := ⟨_, rfl⟩
  rw [← hN] at hl HA ⊢
  have HN := Lib.hid hN
  clear hN h
  go_enter Try.func9, Try.ntmps9
  go_wp2_with (fail)
  refine HA.out.mono ?_
  rintro e w1 ⟨o, rfl, hg⟩
  obtain ⟨A2, c2, rfl⟩ := own_form hg.1
  have HG := Lib.hid hg
  have HS1 := Lib.hid (HS.out.below (hg.2.mono hB))
  clear hg HA HS
  go_wp2_with (fail)
  go_loopw [5] (fun i wr => CkRel l w1 i wr) (fun i _ => N - (intOf i).toNat)
  case atStart => unfold CkRel; exact ⟨0, Nat.zero_le _, rfl, Lib.hid (fine_zero l), rfl⟩
  case round =>
    unfold CkRel at hrel
    obtain ⟨k, hk, rfl, HF, rfl⟩ := hrel
    rw [← HN.out] at hk
    by_cases hlt : k < N
    · have hlt' : (k : Int) < (N : Int) := by omega
      have hk0 : (0 : Int) ≤ (k : Int) := by omega
      have hkl : k < l.length := by rw [← HN.out]; exact hlt
      obtain ⟨b, off, rfl, _, x⟩ := TksS.cells HS1.out (by omega)
      obtain ⟨_, x1, _, _⟩ := x k hkl
      obtain ⟨b2, off2, rfl, y0, y1⟩ := pr_cells HG.out (sts_len l N) k (by rw [sts_len]; exact hlt) rfl
      rw [sts_at] at y0 y1
      have HD := Lib.hid (fun h1 h2 => check_deep hkl (l := l) h1 h2)
      have HFS := Lib.hid (fun h1 h2 => fine_succ HF.out h1 h2)
      obtain ⟨⟨p, q⟩, hpq⟩ : ∃ s, s = stN l (k + 1) := ⟨_, rfl⟩
      obtain ⟨ta, hta⟩ : ∃ t, t = l[k].at_ := ⟨_, rfl⟩
      rw [← hpq] at y0 y1 HD HFS
      rw [← hta] at x1 HD
      simp only at y0 y1 HD HFS
      clear hpq hta x
      by_cases hp : 60 < p
      · have hp' : (60 : Int) < (p : Int) := by omega
        have HR := Lib.hid (HD.out HF.out (Or.inl hp))
        clear HD HFS
        go_wp2_with (fail)
        go_ret2
        unfold CheckPost
        exact ⟨by rw [HR.out]; rfl, HG.out.2⟩
      · have hp' : decide ((60 : Int) < (p : Int)) = false := by rw [decide_eq_false_iff_not]; omega
        by_cases hq : 60 < q
        · have hq' : (60 : Int) < (q : Int) := by omega
          have HR := Lib.hid (HD.out HF.out (Or.inr hq))
          clear HD HFS
          go_wp2_with (fail)
          go_ret2
          unfold CheckPost
          exact ⟨by rw [HR.out]; rfl, HG.out.2⟩
        · have hq' : decide ((60 : Int) < (q : Int)) = false := by rw [decide_eq_false_iff_not]; omega
          have HR := Lib.hid (HFS.out (by omega) (by omega))
          clear HD HFS
          go_wp2_with (fail)
          go_roundw
          case rel => unfold CkRel; exact ⟨k + 1, by rw [← HN.out]; omega, by go_num, HR, rfl⟩
          case measure => simp [intOf]; omega
    · obtain rfl : k = N := by omega
      have HR : Hid (checkN l = (0, 0)) := Lib.hid (check_fine (by have h := HF.out; rw [HN.out] at h; exact h))
      have hlt' : ¬ (k : Int) < (k : Int) := by omega
      clear hlt hk
      go_wp2_with (fail)
      go_ret2
      unfold CheckPost
      exact ⟨by rw [HR.out]; rfl, HG.out.2⟩
end Go.Proofs.Ythohfepolidgkaa.ne

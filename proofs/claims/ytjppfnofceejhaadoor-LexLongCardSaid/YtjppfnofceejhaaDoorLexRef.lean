/- The document's own tokens: classes, one token. -/
import Derived.Test.YtjppfnofceejhaaDoorLexBack
import Derived.Test.YtjppfnofceejhaaDoorWordRef
namespace Go.Proofs.YtjppfnofceejhaaDoor.lx
open Go.RowKit mem vt wd

theorem class_any (n : Nat) (w : World) (hn : n < 256) : Calls Tryd.prog 13 #[.int .u8 n] w fun e w' => e = .returned (.int .i64 (clsN n)) ∧ w = w' := by
  obtain ⟨K, hK⟩ : ∃ K, K = clsN n := ⟨_, rfl⟩
  have HK := Lib.hid hK
  rw [← hK]
  clear hK
  go_enter Tryd.func13, Tryd.ntmps13
  go_wp2_with (fail)
  all_goals go_ret
  all_goals refine ⟨congrArg (fun x => Ending.returned (Value.int IntKind.i64 x)) ?_, rfl⟩
  all_goals have hk := HK.out
  all_goals unfold clsN at hk
  all_goals try simp only [beq_iff_eq, beq_eq_false_iff_ne] at *
  all_goals (split at hk <;> first | omega | (split at hk <;> first | omega | (split at hk <;> first | omega | (split at hk <;> omega))))
/-! ### a run of bytes of some classes -/
theorem tw_in (L : List UInt8) (p : UInt8 → Bool) (k : Nat) (hk : k < (L.takeWhile p).length) : ∃ h : k < L.length, p L[k] = true := by
  have h1 := tw_pre p L
  have hlt : k < L.length := by
    have := (List.takeWhile_sublist p (l := L)).length_le
    omega
  refine ⟨hlt, ?_⟩
  have h2 := tw_all p L
  rw [List.all_eq_true] at h2
  have h3 : (L.takeWhile p)[k] = L[k] := by
    have : (L.take (L.takeWhile p).length)[k]? = (L.takeWhile p)[k]? := by rw [h1]
    rw [List.getElem?_take, if_pos hk, List.getElem?_eq_getElem hk, List.getElem?_eq_getElem hlt] at this
    exact (Option.some.inj this).symm
  rw [← h3]
  exact h2 _ (List.getElem_mem hk)
theorem tw_end (L : List UInt8) (p : UInt8 → Bool) (h : (L.takeWhile p).length < L.length) : p (L[(L.takeWhile p).length]) = false := by
  induction L with
  | nil => simp at h
  | cons c r ih =>
    by_cases hc : p c = true
    · have e : (c :: r).takeWhile p = c :: r.takeWhile p := by rw [List.takeWhile_cons, if_pos hc]
      have h2 : (r.takeWhile p).length < r.length := by rw [e] at h; simpa using h
      have := ih h2
      simp only [e, List.length_cons, List.getElem_cons_succ]
      exact this
    · have e : (c :: r).takeWhile p = [] := by rw [List.takeWhile_cons, if_neg hc]
      simp only [e, List.length_nil, List.getElem_cons_zero]
      simpa using hc
/-- the run's end, as a place of the whole text -/
def runE (s : ByteArray) (p : UInt8 → Bool) (at_ : Nat) : Nat := at_ + ((s.data.toList.drop at_).takeWhile p).length
theorem run_le (s : ByteArray) (p : UInt8 → Bool) (at_ : Nat) (h : at_ ≤ s.size) : runE s p at_ ≤ s.size ∧ at_ ≤ runE s p at_ := by
  unfold runE
  have := (List.takeWhile_sublist p (l := s.data.toList.drop at_)).length_le
  rw [List.length_drop] at this
  have e : s.data.toList.length = s.size := by simp
  omega
theorem run_inside (s : ByteArray) (p : UInt8 → Bool) (at_ e : Nat) (h1 : at_ ≤ e) (h2 : e < runE s p at_) : ∃ h : e < s.size, p s[e] = true := by
  unfold runE at h2
  obtain ⟨hk, hp⟩ := tw_in (s.data.toList.drop at_) p (e - at_) (by omega)
  have he : e < s.size := by rw [List.length_drop] at hk; have e : s.data.toList.length = s.size := by simp
                             omega
  refine ⟨he, ?_⟩
  rw [List.getElem_drop] at hp
  simp only [show at_ + (e - at_) = e by omega] at hp
  exact hp
theorem run_end (s : ByteArray) (p : UInt8 → Bool) (at_ : Nat) (h : runE s p at_ < s.size) : p (s[runE s p at_]) = false := by
  have hl : ((s.data.toList.drop at_).takeWhile p).length < (s.data.toList.drop at_).length := by
    unfold runE at h
    rw [List.length_drop]
    have e : s.data.toList.length = s.size := by simp
    omega
  have := tw_end (s.data.toList.drop at_) p hl
  rw [List.getElem_drop] at this
  exact this
theorem run_text (s : ByteArray) (p : UInt8 → Bool) (at_ : Nat) : s.extract at_ (runE s p at_) = ⟨((s.data.toList.drop at_).takeWhile p).toArray⟩ := by
  apply ByteArray.ext
  apply Array.ext'
  rw [Lib.extract_data]
  unfold runE
  rw [show at_ + ((s.data.toList.drop at_).takeWhile p).length - at_ = ((s.data.toList.drop at_).takeWhile p).length by omega, tw_pre]
end Go.Proofs.YtjppfnofceejhaaDoor.lx

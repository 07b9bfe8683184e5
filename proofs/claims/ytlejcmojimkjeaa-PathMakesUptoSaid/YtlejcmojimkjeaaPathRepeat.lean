/- One value many times: the library's Repeat, of a list of one value. -/
import Derived.Test.YtlejcmojimkjeaaPathAt
import Derived.Test.YtlejcmojimkjeaaCopyRow
import Derived.Laws.Bits64b
import Derived.LoopTactic
import Derived.Outline
import Derived.Deep.RegionHeld3
namespace Go.Proofs.Ytlejcmojimkjeaa.vt
open Go.RowKit mem

theorem and_low (n : Nat) (h : n ≤ 4294967295) : bits .and .u64 (n : Int) 4294967295 = (n : Int) := by
  have e := bits_and_u64_nat n 4294967295 (by omega) (by omega)
  rw [show ((4294967295 : Nat) : Int) = 4294967295 from rfl] at e
  rw [e]
  congr 1
  exact Nat.and_two_pow_sub_one_of_lt_two_pow (n := 32) (by omega)
theorem mul64_one (n : Nat) (w : World) (h : n ≤ 65536) : Calls Try.prog 35 #[.int .u64 1, .int .u64 n] w fun e w' => e = .returned (.tuple #[.int .u64 0, .int .u64 n]) ∧ w' = w := by
  have h1 := and_low n (by omega)
  have h2 : bits .and .u64 1 4294967295 = 1 := and_low 1 (by omega)
  have h3 : (n : Int) / 4294967296 = 0 := by omega
  have h4 : bits .and .u64 0 4294967295 = 0 := and_low 0 (by omega)
  go_enter Try.func35, Try.ntmps35
  go_wp2
  go_ret2
  exact ⟨rfl, rfl⟩
theorem mul_one (n : Nat) (w : World) (h : n ≤ 65536) : Calls Try.prog 32 #[.int .u64 1, .int .u64 n] w fun e w' => e = .returned (.tuple #[.int .u64 0, .int .u64 n]) ∧ w' = w := by
  go_enter Try.func32, Try.ntmps32
  go_wp2_with (go_at_call 35; refine (mul64_one n _ h).mono ?_; rintro e w1 ⟨rfl, rfl⟩)
  go_ret2
  exact ⟨rfl, rfl⟩
def v3 (a b c : Value) : Nat → Value
  | 0 => a
  | 1 => b
  | _ => c
theorem range_get {f : Nat → Value} {m j : Nat} {v : Value} (h : ((List.range m).map f)[j]? = some v) : j < m ∧ v = f j := by
  by_cases hj : j < m
  · rw [List.getElem?_map, List.getElem?_range hj] at h; simp at h; exact ⟨hj, h.symm⟩
  · rw [List.getElem?_eq_none (by simp; omega)] at h; cases h
def RepRel (H g n : Nat) (a b c : Value) (w0 : World) (i : Value) (wr : World) : Prop :=
  ∃ k : Nat, k ≤ n ∧ (0 < n → 0 < k) ∧ i = .int .i64 k ∧ Hid ((∀ j, j < n * 3 → (wr.cell? ⟨g, j, none⟩).isSome = true ∧ wr.frozen? ⟨g, j, none⟩ = false) ∧ (∀ j, j < k * 3 → wr.cell? ⟨g, j, none⟩ = some (v3 a b c (j % 3))) ∧ Below H w0 wr)
theorem rep_start {n : Nat} {a b c : Value} {w : World} {Z : Array Value} (hZ : Z.size = n * 3) :
    RepRel w.heap.size w.heap.size n a b c w (.int .i64 (Nat.min 1 n : Nat)) ((w.alloc (.cells Z TV)).setCells w.heap.size 0 ((List.range (Nat.min 1 n * 3)).map (v3 a b c))) := by
  have hm : Nat.min 1 n ≤ n := Nat.min_le_right _ _
  have hm1 : Nat.min 1 n ≤ 1 := Nat.min_le_left _ _
  have hz : ∀ j, j < n * 3 → ((w.alloc (.cells Z TV)).cell? ⟨w.heap.size, j, none⟩).isSome = true := fun j hj => by
    rw [cell_new w _ rfl, Array.getElem?_eq_getElem (by omega)]; rfl
  refine ⟨Nat.min 1 n, hm, fun h => by have e : Nat.min 1 n = 1 := Nat.min_eq_left h; omega, rfl, Lib.hid ⟨fun j hj => ⟨setCells_some _ _ _ _ (fun i hi => ?_) _ (hz j hj), ?_⟩, fun j hj => ?_, below_setCells (Nat.le_refl _) _ _ _ ((Below.refl _ _).alloc (Nat.le_refl _) _)⟩⟩
  · simp only [List.length_map, List.length_range] at hi
    exact hz _ (by omega)
  · rw [World.frozen?_setCells]; exact frozen_new w _ rfl _ _ _
  · have := World.cell?_setCells_in w.heap.size ((List.range (Nat.min 1 n * 3)).map (v3 a b c)) 0 (w.alloc (.cells Z TV)) (fun i hi => by simp only [List.length_map, List.length_range] at hi; exact hz _ (by omega)) j (by simpa using hj)
    rw [Nat.zero_add] at this
    rw [this]
    simp only [List.getElem_map, List.getElem_range]
    rw [Nat.mod_eq_of_lt (by omega)]
theorem rep_step {H g n k m : Nat} {a b c : Value} {w0 wr : World} (hk : k ≤ n) (hm : m = Nat.min k (n - k)) (hk0 : 0 < n → 0 < k) (hH : H ≤ g)
    (h1 : ∀ j, j < n * 3 → (wr.cell? ⟨g, j, none⟩).isSome = true ∧ wr.frozen? ⟨g, j, none⟩ = false) (h2 : ∀ j, j < k * 3 → wr.cell? ⟨g, j, none⟩ = some (v3 a b c (j % 3))) (h3 : Below H w0 wr) :
    RepRel H g n a b c w0 (.int .i64 (k + m : Nat)) (wr.setCells g (k * 3) ((List.range (m * 3)).map fun j => v3 a b c (j % 3))) := by
  have hm1 : m ≤ n - k := by rw [hm]; exact Nat.min_le_right _ _
  have hin : ∀ i, i < m * 3 → (wr.cell? ⟨g, k * 3 + i, none⟩).isSome = true := fun i hi => (h1 _ (by omega)).1
  refine ⟨k + m, by omega, fun h => by have := hk0 h; omega, rfl, Lib.hid ⟨fun j hj => ⟨setCells_some _ _ _ _ (fun i hi => hin i (by simpa using hi)) _ (h1 j hj).1, ?_⟩, fun j hj => ?_, below_setCells hH _ _ _ h3⟩⟩
  · rw [World.frozen?_setCells]; exact (h1 j hj).2
  · by_cases hj' : j < k * 3
    · rw [World.cell?_setCells_out _ _ _ _ _ (fun _ _ => Or.inl hj')]
      exact h2 j hj'
    · have := World.cell?_setCells_in g ((List.range (m * 3)).map fun j => v3 a b c (j % 3)) (k * 3) wr (fun i hi => hin i (by simpa using hi)) (j - k * 3) (by simp; omega)
      rw [show k * 3 + (j - k * 3) = j by omega] at this
      rw [this]
      simp only [List.getElem_map, List.getElem_range]
      congr 2
      omega
set_option maxHeartbeats 1000000 in
theorem repeat_any {G : Nat → Prop} (t : VT) (n b : Nat) (s : Value) (w : World) (hn : n ≤ 65536) (hi : I64 t.kind ∧ I64 t.num) (hk : Kids G w t.kids s)
    (c0 : w.cell? ⟨b, 0, none⟩ = some (.int .i64 t.kind)) (c1 : w.cell? ⟨b, 1, none⟩ = some (.int .i64 t.num)) (c2 : w.cell? ⟨b, 2, none⟩ = some s) :
    Calls Try.prog 27 #[.slice (some ⟨b, 0, none⟩) 1 1, .int .i64 n] w
      fun e w' => ∃ s', e = .returned s' ∧ Below w.heap.size w w' ∧ Kids (fun b => G b ∨ w.heap.size ≤ b) w' (List.replicate n t) s' := by
  obtain ⟨A, cap, rfl, _⟩ := hk.form
  have HK := Lib.hid hk
  have HI := Lib.hid hi
  obtain ⟨M, hM⟩ : ∃ M, M = t.kids.length := ⟨_, rfl⟩
  rw [← hM] at c2 HK
  have hn2 : (n : Int) ≤ 9223372036854775807 := by omega
  have hblt := World.block_lt_of_cell? _ _ c0
  obtain ⟨i0, hi0, hz0, hz1, hz2⟩ := info_parts infoV
  have hsz3 : (Try.prog.info? TV).map (·.size) = some 3 := by rw [hi0]; exact congrArg some hz1
  have hmk : ∀ w : World, (Instr.makeSlice 22 (.int .i64 n) (.int .i64 n)).run Try.prog w = .ok (.slice (some ⟨w.heap.size, 0, none⟩) n n) (w.alloc (.cells (madeCells (Value.agg #[.int .i64 0, .int .i64 0, .slice none 0 0]).cells (n * 3)) TV)) := by
    intro w
    have e := run_makeSlice (P := Try.prog) w 22 TV i0 (.agg #[.int .i64 0, .int .i64 0, .slice none 0 0]) Try.underlying22 hi0 hz0 .i64 .i64 n n (by omega) (by omega) (by rw [hz1]; omega) (by rw [hz2]; omega) (by omega)
    rw [hz1] at e
    simpa using e
  have hZs : (madeCells (Value.agg #[.int .i64 0, .int .i64 0, .slice none 0 0]).cells (n * 3)).size = n * 3 := size_madeCells _ _
  obtain ⟨Z, hZ⟩ : ∃ Z, Z = madeCells (Value.agg #[.int .i64 0, .int .i64 0, .slice none 0 0]).cells (n * 3) := ⟨_, rfl⟩
  rw [← hZ] at hmk hZs
  have HZS := Lib.hid hZs
  clear hk hM hi hZ hZs
  obtain ⟨va, hva⟩ : ∃ va, va = Value.int .i64 t.kind := ⟨_, rfl⟩
  obtain ⟨vb, hvb⟩ : ∃ vb, vb = Value.int .i64 t.num := ⟨_, rfl⟩
  obtain ⟨vc, hvc⟩ : ∃ vc, vc = Value.slice A M cap := ⟨_, rfl⟩
  have hone : ∀ j, (v3 va vb vc j).oneCell' = true := by
    intro j
    match j with
    | 0 => rw [hva]; rfl
    | 1 => rw [hvb]; rfl
    | j + 2 => rw [hvc]; rfl
  have HONE := Lib.hid hone
  have HS3 := Lib.hid hsz3
  -- the first copy
  have hcp0 : (Builtin.copy_ #[22, 22] 3 #[.slice (some ⟨w.heap.size, 0, none⟩) n n, .slice (some ⟨b, 0, none⟩) 1 1]).run Try.prog (w.alloc (.cells Z TV)) = .ok (goInt (Nat.min 1 n)) ((w.alloc (.cells Z TV)).setCells w.heap.size 0 ((List.range (Nat.min 1 n * 3)).map (v3 va vb vc))) := by
    refine run_copy_size _ _ _ _ TV 3 _ _ _ _ _ _ _ _ Try.underlying22 hsz3 (by simp) (fun j v hj => ?_) (fun j hj => ?_) (fun j _ => ?_) (fun v hv => ?_)
    · obtain ⟨hlt, rfl⟩ := range_get hj
      have hm1 : Nat.min 1 n ≤ 1 := Nat.min_le_left _ _
      have hb' : ∀ o, (w.alloc (.cells Z TV)).cell? ⟨b, o, none⟩ = w.cell? ⟨b, o, none⟩ := fun o => ((Below.refl w.heap.size w).alloc (Nat.le_refl _) _).cell (p := ⟨b, o, none⟩) hblt
      match j, hlt with
      | 0, _ => exact (hb' _).trans (by rw [hva]; exact c0)
      | 1, _ => exact (hb' _).trans (by rw [hvb]; exact c1)
      | 2, _ => exact (hb' _).trans (by rw [hvc]; exact c2)
      | j + 3, h => omega
    · rw [cell_new w _ rfl]
      simp only [List.length_map, List.length_range] at hj
      have : Nat.min 1 n ≤ n := Nat.min_le_right _ _
      rw [Nat.zero_add, Array.getElem?_eq_getElem (by rw [HZS.out]; omega)]; rfl
    · rw [Nat.zero_add]; exact frozen_new w _ rfl _ _ _
    · obtain ⟨j, _, rfl⟩ := List.mem_map.1 hv
      exact hone j
  have HCP := Lib.hid hcp0
  have HST := Lib.hid (rep_start (a := va) (b := vb) (c := vc) (w := w) HZS.out)
  obtain ⟨W, hW⟩ : ∃ W, W = (w.alloc (.cells Z TV)).setCells w.heap.size 0 ((List.range (Nat.min 1 n * 3)).map (v3 va vb vc)) := ⟨_, rfl⟩
  rw [← hW] at HCP HST
  have HVA := Lib.hid (And.intro hva (And.intro hvb hvc))
  obtain ⟨m0, hm0⟩ : ∃ m0, m0 = Nat.min 1 n := ⟨_, rfl⟩
  rw [← hm0] at HCP HST
  have hm0n : m0 ≤ n := by rw [hm0]; exact Nat.min_le_right _ _
  have hcp := HCP.out
  have hd1 : decide ((n : Int) < 0) = false := by simp
  have hd2 : decide ((9223372036854775807 : Int) < n) = false := by simp; omega
  clear hcp0 hva hvb hvc c0 c1 c2 hone hW hm0 hsz3 HCP
  go_enter Try.func27, Try.ntmps27
  go_wp2_with (first | (go_at_call 32; refine (mul_one n _ hn).mono ?_; rintro e w1 ⟨rfl, hww⟩; subst hww) )
  clear hcp
  have hmk0 := Lib.hid hmk
  clear hmk
  obtain ⟨g, hg⟩ : ∃ g, g = w1.heap.size := ⟨_, rfl⟩
  have HG := Lib.hid hg
  rw [← hg] at HST ⊢
  clear hg
  go_loopw [8] (fun i wr => RepRel g g n va vb vc w1 i wr) (fun i _ => n - (intOf i).toNat)
  case atStart => exact HST.out
  case round =>
    obtain ⟨k, hk, hk0, rfl, HR⟩ := hrel
    by_cases hlt : k < n
    · obtain ⟨m, hm⟩ : ∃ m, m = Nat.min k (n - k) := ⟨_, rfl⟩
      have hm1 : m ≤ n - k := by rw [hm]; exact Nat.min_le_right _ _
      have hm2 : m ≤ k := by rw [hm]; exact Nat.min_le_left _ _
      have hmp : 0 < m := by
        rw [hm]
        rcases Nat.le_total k (n - k) with h | h
        · rw [show Nat.min k (n - k) = k from Nat.min_eq_left h]; omega
        · rw [show Nat.min k (n - k) = n - k from Nat.min_eq_right h]; omega
      have hz : g < wr.heap.size := World.block_lt_of_cell? _ _ (HR.out.2.1 0 (by omega))
      have HCP : Hid ((Builtin.copy_ #[22, 22] 3 #[.slice (some ⟨g, k * 3, none⟩) (n - k) (n - k), .slice (some ⟨g, 0, none⟩) k n]).run Try.prog wr.drew = .ok (goInt m) (wr.drew.setCells g (k * 3) ((List.range (m * 3)).map fun j => v3 va vb vc (j % 3)))) := Lib.hid (by
        have e := run_copy_size (P := Try.prog) wr.drew 22 22 3 TV 3 g (k * 3) (n - k) (n - k) ⟨g, 0, none⟩ k n ((List.range (m * 3)).map fun j => v3 va vb vc (j % 3)) Try.underlying22 HS3.out (by simp [hm]) (fun j v hj => ?_) (fun j hj => ?_) (fun j hj => ?_) (fun v hv => ?_)
        · rw [← hm] at e; exact e
        · obtain ⟨hlt', rfl⟩ := range_get hj
          have := HR.out.2.1 j (by omega)
          rw [show ((⟨g, 0, none⟩ : Addr).add j) = ⟨g, 0 + j, none⟩ by unfold Addr.add; split <;> simp_all, Nat.zero_add]
          exact this
        · simp only [List.length_map, List.length_range] at hj
          exact (HR.out.1 (k * 3 + j) (by omega)).1
        · simp only [List.length_map, List.length_range] at hj
          exact (HR.out.1 (k * 3 + j) (by omega)).2
        · obtain ⟨j, _, rfl⟩ := List.mem_map.1 hv
          exact HONE.out _)
      have HNX := Lib.hid (rep_step (n := n) (g := g) (H := g) (a := va) (b := vb) (c := vc) (w0 := w1) (wr := wr.drew) hk hm hk0 (Nat.le_refl _) HR.out.1 HR.out.2.1 HR.out.2.2.drew)
      obtain ⟨X, hX⟩ : ∃ X, X = wr.drew.setCells g (k * 3) ((List.range (m * 3)).map fun j => v3 va vb vc (j % 3)) := ⟨_, rfl⟩
      rw [← hX] at HCP HNX
      have i0 : (0 : Int) ≤ (k : Int) := by omega
      have i1 : (k : Int) ≤ (n : Int) := by omega
      have i4 : IntKind.i64.wrap ((k : Int) + (m : Int)) = (k : Int) + (m : Int) := IntWalk.i64_in _ (by omega)
      have i5 : ¬ n = k := by omega
      clear hX hm
      go_wp2_with (fail)
      go_region_held3 (fun _ => True) (trivial) (refine step_copy_known (by rfl) (.tmp 41) (.tmp 44) 22 22 (by rfl) (.slice (some ⟨g, k * 3, none⟩) (n - k) (n - k)) (.slice (some ⟨g, 0, none⟩) k n) (by rfl) (by rfl) HCP.out ?_)
      go_wp2
      go_roundw
      case rel => exact HNX.out
      case measure => simp [intOf]; omega
    · have hkn : k = n := by omega
      subst hkn
      have hkid : Hid (Kids (fun b => G b ∨ w1.heap.size ≤ b) wr (List.replicate k t) (.slice (some ⟨g, 0, none⟩) k k)) := Lib.hid (by
        obtain ⟨h1, h2, h3⟩ := HR.out
        obtain ⟨ea, eb, ec⟩ := HVA.out
        have hkk := (HK.out.below (by rw [← HG.out]; exact h3)).mono (G' := fun b => G b ∨ w1.heap.size ≤ b) fun b hb => Or.inl hb
        refine ⟨some ⟨g, 0, none⟩, k, by simp, ⟨by simp; omega, fun e => by cases e⟩, fun _ => ⟨g, 0, rfl, Or.inr (by rw [← HG.out]; exact Nat.le_refl _), row_of fun i hi => ?_⟩⟩
        simp only [List.length_replicate] at hi
        rw [List.getElem_replicate, Nat.zero_add]
        refine ⟨HI.out.1, HI.out.2, ?_, ?_, _, ?_, hkk⟩
        · rw [h2 _ (by omega), show i * 3 % 3 = 0 by omega, ← ea]; rfl
        · rw [h2 _ (by omega), show (i * 3 + 1) % 3 = 1 by omega, ← eb]; rfl
        · rw [h2 _ (by omega), show (i * 3 + 2) % 3 = 2 by omega, ← ec]; rfl)
      have hB : Hid (Below w1.heap.size w1 wr) := Lib.hid (by rw [← HG.out]; exact HR.out.2.2)
      go_wp2
      go_ret
      exact ⟨_, rfl, hB.out, hkid.out⟩
end Go.Proofs.Ytlejcmojimkjeaa.vt

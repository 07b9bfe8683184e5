/- A map of pairs and the list of them: package marlinelaw05's made and listed. -/
import Derived.Test.YtjlbchkdiaomjaaDoorTrieOps
import Derived.Test.YtjlbchkdiaomjaaDoorOverRef
namespace Go.Proofs.YtjlbchkdiaomjaaDoor.trie
open Go.RowKit Go.Shelf mem tri mix

theorem ofS_len (L : List (Int × Int)) : (ofS L).length ≤ L.length := by
  have h := overS_len L []
  simpa [overS, ofS] using h
def ListRel (B n : Nat) (L : List (Int × Int)) (w : World) (o i : Value) (wr : World) : Prop :=
  ∃ (k m : Nat) (acc : List (Int × Int)), k ≤ n ∧ m ≤ k ∧ i = .int .i64 k ∧ Hid (acc = ofS (L.take k) ∧ m = acc.length) ∧ Got B 40 2 m (pairV acc) o w wr
set_option maxRecDepth 100000 in
set_option maxHeartbeats 1000000 in
theorem listed_any (C : Nat) (L : List (Int × Int)) (v : Value) (w : World) (hC : C ≤ w.heap.size) (hl : L.length ≤ 1048000) (hs : Sees C 2 w v L.length (pairV L)) :
    Calls Tryd.prog 25 #[v] w fun e w' => ∃ r, e = .returned r ∧ Got w.heap.size 40 2 (ofS L).length (pairV (ofS L)) r w w' := by
  obtain ⟨A, cap, rfl⟩ := hs.form
  obtain ⟨B, hB⟩ : ∃ B, B = w.heap.size := ⟨_, rfl⟩
  rw [← hB]
  have HS := Lib.hid (hs.more hC)
  obtain ⟨n, hn⟩ : ∃ n, n = L.length := ⟨_, rfl⟩
  rw [← hn] at hl ⊢
  have HN := Lib.hid hn
  have HB := Lib.hid hB
  have hBw : B ≤ w.heap.size := by omega
  clear hs hn hB
  go_enter Tryd.func25, Tryd.ntmps25
  go_wp2
  go_loopw [3, 4] (fun o i wr => ListRel B n L w o i wr) (fun _ i _ => n - (intOf i).toNat)
  case atStart => unfold ListRel; exact ⟨0, 0, [], Nat.zero_le _, Nat.le_refl _, rfl, Lib.hid ⟨rfl, rfl⟩, Got.nil_ _ _ _ _⟩
  case round =>
    obtain ⟨k, m, acc, hk, hm, rfl, HA, hgot⟩ := hrel
    have HG := Lib.hid hgot
    have hsz := hgot.2.size
    have hbel := hgot.2
    by_cases hlt : k < n
    · have hkl : k < L.length := by have := HN.out; omega
      obtain ⟨g, off, cap', hv, hb, hc1, hc2⟩ := ((HS.out).below (by rw [← HB.out]; exact hbel)).pair k hkl
      have hT := ofS_take L k hkl
      rw [← HN.out] at hv
      injection hv with hA hL hC
      subst hA
      subst hC
      clear hL
      obtain ⟨p, hp⟩ : ∃ p, p = L[k] := ⟨_, rfl⟩
      obtain ⟨x, y⟩ := p
      rw [← hp, ← HA.out.1] at hT
      rw [← hp] at hc1 hc2
      have HT := Lib.hid hT
      have x1 : (k : Int) < (n : Int) := by omega
      have x2 : (0 : Int) ≤ (k : Int) := by omega
      have hml : acc.length ≤ 1048576 := by rw [← HA.out.2]; omega
      have hsd : Sees wr.drew.heap.size 2 wr.drew u3 acc.length (pairV acc) := by rw [← HA.out.2]; exact Sees.of_own HG.out.drew.1
      have HPut := Lib.hid (rput_any acc x y _ _ hml hsd)
      have hle := putS_le1 acc x y
      rw [← HA.out.2] at hle
      clear hT hp hkl hgot hbel hsd
      go_wp2_with (fail)
      go_still_tail 11, (by kernel_rfl)
      change wpList _ _ _ _ _ wr.drew
      go_wp2_with (fail)
      refine HPut.out.mono ?_
      rintro e w1 ⟨r, rfl, hg⟩
      have HG1 := Lib.hid hg
      obtain ⟨m2, hm2⟩ : ∃ m2, m2 = (putS acc x y).length := ⟨_, rfl⟩
      have HM2 := Lib.hid hm2
      have hm3 : m2 ≤ m + 1 := by rw [hm2]; exact hle
      clear hg hm2 hle
      go_wp2_with (fail)
      go_roundw
      case rel =>
        unfold ListRel
        have h1 := HG1.out
        rw [← HM2.out] at h1
        refine ⟨k + 1, m2, putS acc x y, by omega, by omega, by go_num, Lib.hid ⟨HT.out.symm, HM2.out⟩, h1.1.mono (by simp; omega), HG.out.2.drew.trans (h1.2.mono (by simp; omega))⟩
      case measure => simp [intOf]; omega
    · have hkn : Hid (ofS (L.take k) = ofS L) := by
        show _ = _
        rw [List.take_of_length_le (by have := HN.out; omega)]
      go_wp2
      go_ret
      refine ⟨_, rfl, ?_⟩
      have h := HG.out
      rw [HA.out.2, HA.out.1, hkn.out] at h
      exact h
set_option maxRecDepth 100000 in
set_option maxHeartbeats 2000000 in
theorem made_any (B C : Nat) (L : List (Int × Int)) (v : Value) (w : World) (hB : B ≤ w.heap.size) (hT : Laid B w) (hC : C ≤ w.heap.size) (hs : Sees C 2 w v L.length (pairV L)) (hl : L.length ≤ 1048576) (hk : ∀ p ∈ L, I64 p.1) :
    Calls Tryd.prog 23 #[v] w (OfPost L w) := by
  have HT := Lib.hid hT
  have HS := Lib.hid hs
  have HK := Lib.hid hk
  obtain ⟨A, cap, rfl⟩ := hs.form
  obtain ⟨n, hn⟩ : ∃ n, n = L.length := ⟨_, rfl⟩
  obtain ⟨N, hN⟩ : ∃ N, N = w.heap.size := ⟨_, rfl⟩
  rw [← hn] at hl ⊢
  have HN := Lib.hid hn
  have HNN := Lib.hid hN
  clear hT hs hk hn
  go_enter Tryd.func23, Tryd.ntmps23
  go_wp2_with (fail)
  rw [← HNN.out]
  clear hN
  go_loopw [4] (fun i wr => OfRel L N n w i wr) (fun i _ => n - (intOf i).toNat)
  case atStart =>
    unfold OfRel
    have h2 : Box ((w.alloc (.cells #[.pointer none, .int .i64 0] 26)).alloc (.cells #[.pointer none, .int .i64 0] 26)) (N + 1) 26 #[.pointer none, .int .i64 0] := Box.new _ _ _ _ (by rw [HNN.out]; simp)
    exact ⟨0, 0, .none, none, Nat.zero_le _, Nat.le_refl _, rfl, Lib.hid ⟨rfl, rfl, MapOf.none_, trivial⟩, (Box.new w _ _ N HNN.out).alloc _, h2, ((Below.refl _ w).alloc (Nat.le_refl _) _).alloc (by simp) _⟩
  case round =>
    obtain ⟨k, m, t, p, hk, hm, rfl, HM, hb1, hb2, HB⟩ := hrel
    have hsz := HB.size
    by_cases hlt : k < n
    · have hkl : k < L.length := by have := HN.out; omega
      obtain ⟨b, off, cap', hv, hb, hc1, hc2⟩ := ((HS.out.more hC).below HB).pair k hkl
      have hT := ofS_take L k hkl
      injection hv with hA hL hC
      subst hA
      subst hC
      clear hL
      have hkey := HK.out _ (List.getElem_mem hkl)
      obtain ⟨q, hq⟩ : ∃ q, q = L[k] := ⟨_, rfl⟩
      rw [← hq] at hc1 hc2 hT hkey
      obtain ⟨x, y⟩ := q
      have HTT := Lib.hid hT
      have HX := Lib.hid hkey
      have d0 : wr.cell? ⟨N + 1, 0, none⟩ = some (.pointer p) := hb2.cell 0
      have d1 : wr.cell? ⟨N + 1, 1, none⟩ = some (.int .i64 m) := hb2.cell 1
      have hlt2 := hb2.lt
      have hlt1 := hb1.lt
      have e0 := hb2.frozen 0
      have e1 := hb2.frozen 1
      clear hT hkey hq
      have x1 : (k : Int) < (n : Int) := by omega
      have x2 : (0 : Int) ≤ (k : Int) := by omega
      have hbA : Below w.heap.size w wr.drew := HB.drew
      have hput := mput_any B t (ofS (L.take k)) x y wr.drew (by simp; omega) (HT.out.on (hbA.mono hB)) HX.out HM.out.2.2.1 ((HM.out.2.2.2.below ((Below.refl _ wr).drew)).more (by simp)) (by rw [← HM.out.2.1]; omega)
      unfold mapV at hput
      rw [HM.out.1, ← HM.out.2.1] at hput
      have HPut := Lib.hid hput
      have hb1' : Box wr.drew N 26 #[.pointer none, .int .i64 0] := hb1
      have hb2' : Box wr.drew (N + 1) 26 #[.pointer p, .int .i64 m] := hb2
      clear hput
      go_wp2_with (fail)
      go_still_tail 11, (by kernel_rfl)
      change wpList _ _ _ _ _ wr.drew
      go_wp2_with (fail)
      refine HPut.out.mono ?_
      rintro e w2 ⟨u, rfl, hu, hul, hbu, _⟩
      obtain ⟨p2, hp2⟩ := ptr_is u
      unfold mapV
      rw [hp2]
      have hle := putS_le (ofS (L.take k)) x y HM.out.2.2.1.2.2.1
      obtain ⟨m2, hm2⟩ : ∃ m2, m2 = (putS (ofS (L.take k)) x y).length := ⟨_, rfl⟩
      rw [← hm2] at hle ⊢
      rw [← HM.out.2.1] at hle
      have g1 := hb1'.below hbu (by simp; omega)
      have g2 := hb2'.below hbu (by simp; omega)
      have z0 : w2.cell? ⟨N + 1, 0, none⟩ = some (.pointer p) := g2.cell 0
      have z1 : w2.cell? ⟨N + 1, 1, none⟩ = some (.int .i64 m) := g2.cell 1
      have f0 := g2.frozen 0
      have f1 := g2.frozen 1
      have hbw := hbA.trans (hbu.mono (by simp; omega))
      have HU : Hid (ptr u = .pointer p2 ∧ m2 = (putS (ofS (L.take k)) x y).length ∧ MapOf u (putS (ofS (L.take k)) x y) ∧ Lies w2.heap.size w2 u) := ⟨hp2, hm2, hu, hul⟩
      clear hp2 hm2 hu hul hbu hb1' hb2' d0 d1 e0 e1 hc1 hc2
      go_wp2_with (fail)
      go_roundw
      case rel =>
        unfold OfRel
        have hNN := HNN.out
        have hk2 := keeps_set2 g2 (by decide) (by decide) 0 1 (.pointer p2) (.int .i64 m2)
        refine ⟨k + 1, m2, u, p2, by omega, by omega, by go_num, Lib.hid ⟨HU.out.1, ?_, ?_⟩, ?_, g2.two _ _, ?_⟩
        · rw [HTT.out]; exact HU.out.2.1
        · rw [HTT.out]
          refine ⟨HU.out.2.2.1, ?_⟩
          rw [World.size_setCell, World.size_setCell]
          exact HU.out.2.2.2.keep hk2
        · exact (g1.far (p := ⟨N + 1, 0, none⟩) (by dsimp only; omega) _).far (p := ⟨N + 1, 1, none⟩) (by dsimp only; omega) _
        · exact (hbw.setCell (p := ⟨N + 1, 0, none⟩) (by dsimp only; omega) _).setCell (p := ⟨N + 1, 1, none⟩) (by dsimp only; omega) _
      case measure => simp [intOf]; omega
    · have hfin : Hid (ofS (L.take k) = ofS L) := by
        show _ = _
        rw [List.take_of_length_le (by have := HN.out; omega)]
      have d0 : wr.cell? ⟨N + 1, 0, none⟩ = some (.pointer p) := hb2.cell 0
      have d1 : wr.cell? ⟨N + 1, 1, none⟩ = some (.int .i64 m) := hb2.cell 1
      have e0 : wr.cell? ⟨N, 0, none⟩ = some (.pointer none) := hb1.cell 0
      have e1 : wr.cell? ⟨N, 1, none⟩ = some (.int .i64 0) := hb1.cell 1
      have f0 := hb1.frozen 0
      have f1 := hb1.frozen 1
      have hlt1 := hb1.lt
      go_wp2_with (fail)
      refine bodyPost_ret (v := .agg #[.pointer p, .int .i64 m]) (by simp [results, Tryd.results23, go_sem, e0, e1]) rfl ?_
      have hk2 := keeps_set2 hb1 (by decide) (by decide) 0 1 (.pointer p) (.int .i64 m)
      have hNN := HNN.out
      have h1 := HM.out
      rw [hfin.out] at h1
      refine ⟨t, by unfold mapV; rw [h1.1, ← h1.2.1], ⟨h1.2.2.1, ?_⟩, (HB.setCell (p := ⟨N, 0, none⟩) (by dsimp only; omega) _).setCell (p := ⟨N, 1, none⟩) (by dsimp only; omega) _⟩
      rw [World.size_setCell, World.size_setCell]
      exact h1.2.2.2.keep hk2
end Go.Proofs.YtjlbchkdiaomjaaDoor.trie

/- The pairs of a map, as they lie. -/
import Derived.Test.YtjlbchkdiaomjaaDoorTrieGet
import Derived.Test.YtjlbchkdiaomjaaDoorTrieRef
namespace Go.Proofs.YtjlbchkdiaomjaaDoor.trie
open Go.RowKit mem tri mix

theorem infoTP : (Tryd.prog.info? 50).map (fun i => (i.zero, i.size, i.bytes)) = some (some (.agg #[.int .i64 0, .int .i64 0]), 2, 16) := by kernel_rfl
theorem pair_at (w : World) (x y : Value) (t : TypeId) (N : Nat) (h : N = w.heap.size) : ∀ j u, [x, y][j]? = some u → (w.alloc (.cells #[x, y] t)).cell? ((⟨N, 0, none⟩ : Addr).add j) = some u := by
  subst h; exact pair_new w x y t
theorem got_alloc {B size n : Nat} {e : TypeId} {xs : List Value} {v : Value} {w0 w : World} (h : Got B e size n xs v w0 w) (hB : B ≤ w.heap.size) (o : Obj) : Got B e size n xs v w0 (w.alloc o) := ⟨h.1.alloc _, h.2.alloc hB _⟩
/-- one of the arms that are there -/
theorem Sees_arm {B k : Nat} {w : World} {v : Value} {a : Nat → Tr} (h : Sees B 3 w v (subs a).length (armsV (subs a))) (hk : k < (subs a).length) :
    ∃ g o cap, v = .slice (some ⟨g, o, none⟩) (subs a).length cap ∧ g < B ∧ ∀ j u, (armV (subs a)[k])[j]? = some u → w.cell? ⟨g, o + k * 3 + j, none⟩ = some u := by
  obtain ⟨_, A, cap, rfl, hc⟩ := h
  obtain ⟨g, o, rfl, hg, hc⟩ := hc (by omega)
  refine ⟨g, o, cap, rfl, hg, fun j u hu => ?_⟩
  have hj : j < 3 := by
    have := (List.getElem?_eq_some_iff.1 hu).1
    rwa [armV_len (subs_all a _ (List.getElem_mem hk))] at this
  rw [Nat.add_assoc]
  refine hc _ u ?_
  rw [armsV_at (subs_all a) k hk j hj]; exact hu
def upTo (a : Nat → Tr) (k : Nat) : List (Int × Int) := ((subs a).take k).flatMap toL
theorem upTo_step (a : Nat → Tr) (k : Nat) (h : k < (subs a).length) : upTo a (k + 1) = upTo a k ++ toL (subs a)[k] := by
  unfold upTo; rw [List.take_succ_eq_append_getElem h, List.flatMap_append]; simp
theorem upTo_all (b : Nat) (a : Nat → Tr) (k : Nat) (h : (subs a).length ≤ k) : upTo a k = toL (.kid b a) := by
  unfold upTo; rw [List.take_of_length_le h, toL_subs]
theorem upTo_le (b : Nat) (a : Nat → Tr) (k : Nat) : (upTo a k).length ≤ (toL (.kid b a)).length := by
  rw [toL_subs]
  conv => rhs; rw [← List.take_append_drop k (subs a)]
  rw [List.flatMap_append, List.length_append]; exact Nat.le_add_right _ _
def PairsRel (B n N : Nat) (xs : List Value) (a : Nat → Tr) (w0 : World) (o i : Value) (wr : World) : Prop :=
  ∃ k m : Nat, k ≤ N ∧ m ≤ 1048576 ∧ i = .int .i64 k ∧ Hid (m = n + (upTo a k).length) ∧ Got B 50 2 m (xs ++ pairV (upTo a k)) o w0 wr
def PairsPost (B n : Nat) (xs : List Value) (t : Tr) (w0 : World) (e : Ending) (w' : World) : Prop :=
  ∃ r, e = .returned r ∧ Got B 50 2 (n + (toL t).length) (xs ++ pairV (toL t)) r w0 w'
set_option maxHeartbeats 2000000 in
set_option maxRecDepth 100000 in
theorem pairs_any (t : Tr) : ∀ (B n b : Nat) (a : Nat → Tr) (xs : List Value) (v : Value) (w0 w : World), t = .kid b a → B ≤ w0.heap.size → Lies B w0 t → Got B 50 2 n xs v w0 w → n + (toL t).length ≤ 1048576 →
    Calls Tryd.prog 57 #[.pointer (some ⟨b, 0, none⟩), v] w (PairsPost B n xs t w0) := by
  obtain ⟨i0, hi, hz0, hz1, hz2⟩ := info_parts infoTP
  induction t with
  | none => intro B n b a xs v w0 w h; cases h
  | pair k u => intro B n b a xs v w0 w h; cases h
  | kid b1 a1 ih =>
    intro B n b a xs v w0 w h hB hL hgot hbd
    injection h with h1 h2
    subst h1
    subst h2
    obtain ⟨hbB, _, ⟨v1, cv, hs, _, _⟩, hk⟩ := id hL
    have cv1 := (hgot.2.cell (p := ⟨b1, 1, none⟩) hbB).trans cv
    obtain ⟨A, cap, rfl⟩ := hs.form
    have h16 := subs_len a1
    obtain ⟨N, hN⟩ : ∃ N, N = (subs a1).length := ⟨_, rfl⟩
    rw [← hN] at cv1 h16
    have HN := Lib.hid hN
    have HS := Lib.hid hs
    have HK := Lib.hid hk
    have IH := Lib.hid ih
    have HG0 := Lib.hid hgot
    have HBD := Lib.hid hbd
    have HLE := Lib.hid (upTo_le b1 a1)
    have hn := hbd
    clear hN hs hk ih hL cv hgot hbd
    go_enter Tryd.func57, Tryd.ntmps57
    go_wp2
    go_loopw [1, 12] (fun o i wr => PairsRel B n N xs a1 w0 o i wr) (fun _ i _ => N - (intOf i).toNat)
    case atStart => unfold PairsRel; exact ⟨0, n, Nat.zero_le _, by omega, rfl, Lib.hid rfl, by simpa [upTo, pairV] using HG0.out⟩
    case round =>
      obtain ⟨k, m, hk, hm, rfl, HM, hgot⟩ := hrel
      have hsz := hgot.2.size
      by_cases hlt : k < N
      · have hkl : k < (subs a1).length := by have := HN.out; omega
        obtain ⟨g, o, cap', hv, hg, hrow⟩ := Sees_arm HS.out hkl
        injection hv with hA hL hC
        subst hA
        subst hC
        clear hL
        obtain ⟨f, hf, hfe, hni⟩ := mem_subs (List.getElem_mem hkl)
        have hup := upTo_step a1 k hkl
        have hle := HLE.out (k + 1)
        rw [hfe] at hrow hup hni
        have hrw : ∀ j u, (armV (a1 f))[j]? = some u → wr.cell? ⟨g, o + k * 3 + j, none⟩ = some u := fun j u hu => (hgot.2.cell (p := ⟨g, o + k * 3 + j, none⟩) hg).trans (hrow j u hu)
        cases ht : a1 f with
        | none => rw [ht] at hni; simp [isN] at hni
        | pair x y =>
          rw [ht] at hrw hup
          have hr0 := hrw 0 _ rfl
          have hr1 := hrw 1 _ rfl
          have hr2 := hrw 2 _ rfl
          rw [Nat.add_zero] at hr0
          have HUP : Hid (upTo a1 (k + 1) = upTo a1 k ++ [(x, y)]) := hup
          have hm1 : m + 1 ≤ 1048576 := by
            have h1 := HUP.out
            have h2 := congrArg List.length h1
            rw [List.length_append, List.length_singleton] at h2
            have h3 := HM.out
            have h4 := HBD.out
            omega
          have HM1 : Hid (m + 1 = n + (upTo a1 (k + 1)).length) := by
            show _ = _
            rw [HUP.out, List.length_append, List.length_singleton, HM.out]; omega
          clear hup hle hfe hni ht hrw hrow hkl
          go_wp2_with (at_builtin; refine wpList_append_own _ rfl (.tmp 23) (.tmp 26) 49 rfl B 50 i0 (.agg #[.int .i64 0, .int .i64 0]) 2 16 Tryd.underlying49 hi hz0 hz1 hz2 rfl (by decide) _ _ _ rfl ((hgot.1.alloc _).alloc _) ⟨wr.heap.size + 1, 0, none⟩ 1 1 [.int .i64 x, .int .i64 y] rfl rfl (pair_at _ _ _ _ _ (by simp)) (two_int _ _ _) (by unfold maxLen; omega) (by omega) (by simp; omega) ?_; intro v' w1 hown' hgrow _; have hgot' := Lib.hid ((got_alloc hgot (by omega) _).app (by simp; omega) hown' hgrow); clear hown' hgrow)
          go_roundw
          case rel => unfold PairsRel; exact ⟨k + 1, m + 1, by omega, hm1, by go_num, HM1, by rw [HUP.out, pairV_append, ← List.append_assoc]; exact hgot'.out⟩
          case measure => simp [intOf]; omega
        | kid c e =>
          have HTT := Lib.hid ht
          rw [ht] at hrw
          have hr0 := hrw 0 _ rfl
          have hr1 := hrw 1 _ rfl
          have hr2 := hrw 2 _ rfl
          rw [Nat.add_zero] at hr0
          have HUP := Lib.hid hup
          have hm1 : m + (toL (a1 f)).length ≤ 1048576 := by
            have h2 := congrArg List.length HUP.out
            rw [List.length_append] at h2
            have h3 := HM.out
            have h4 := HBD.out
            omega
          have HM1 : Hid (m + (toL (a1 f)).length = n + (upTo a1 (k + 1)).length) := by
            show _ = _
            rw [HUP.out, List.length_append, HM.out]; omega
          have HF := Lib.hid (HK.out f hf)
          have HG := Lib.hid hgot
          clear hup hle hfe hni ht hrw hrow hkl
          go_wp2_with (fail)
          refine (IH.out f B m c e (xs ++ pairV (upTo a1 k)) _ w0 _ HTT.out hB HF.out (got_alloc hgot (by omega) _) hm1).mono ?_
          rintro e1 w1 ⟨r, rfl, hgot'⟩
          have HG' := Lib.hid hgot'
          clear hgot'
          go_wp2_with (fail)
          go_roundw
          case rel => unfold PairsRel; exact ⟨k + 1, _, by omega, hm1, by go_num, HM1, by rw [HUP.out, pairV_append, ← List.append_assoc]; exact HG'.out⟩
          case measure => simp [intOf]; omega
      · have hfin : Hid (upTo a1 k = toL (.kid b1 a1)) := upTo_all b1 a1 k (by have := HN.out; omega)
        go_wp2
        go_ret
        exact ⟨_, rfl, by have h := hgot; rw [HM.out, hfin.out] at h; exact h⟩
end Go.Proofs.YtjlbchkdiaomjaaDoor.trie

/- How many nodes two maps have in common. -/
import Derived.Test.YtjlbchkdiaomjaaDoorTrieGet
import Derived.LaidEqlPtr
namespace Go.Proofs.YtjlbchkdiaomjaaDoor.trie
open Go.RowKit mem tri mix

theorem infoNode : (Tryd.prog.info? 88).map (fun i => i.size) = some 2 := by kernel_rfl
theorem eql_same (b : Nat) (w : World) : (binOp .eql 24 (.pointer (some ⟨b, 0, none⟩)) (.pointer (some ⟨b, 0, none⟩))).run Tryd.prog w = .ok (.bool true) w := by
  cases hi : Tryd.prog.info? 88 with
  | none => have := infoNode; rw [hi] at this; cases this
  | some j => exact run_eql_ptr_same w _ Tryd.underlying24 hi
theorem eql_other {B C b c : Nat} {a e : Nat → Tr} {w : World} (hb : Lies B w (.kid b a)) (hc : Lies C w (.kid c e)) (hne : b ≠ c) : (binOp .eql 24 (.pointer (some ⟨b, 0, none⟩)) (.pointer (some ⟨c, 0, none⟩))).run Tryd.prog w = .ok (.bool false) w := by
  obtain ⟨_, _, ⟨_, _, _, _, ⟨c1, h1⟩, _⟩, _⟩ := hb
  obtain ⟨_, _, ⟨_, _, _, _, ⟨c2, h2⟩, _⟩, _⟩ := hc
  cases hi : Tryd.prog.info? 88 with
  | none => have := infoNode; rw [hi] at this; cases this
  | some j =>
    have hj : j.size = 2 := by have := infoNode; rw [hi] at this; exact Option.some.inj this
    exact run_eql_ptr_other w Tryd.underlying24 hi (by rw [hj]; decide) (fun h => hne (by injection h)) h1 h2
def ShPost (t u : Tr) (w : World) (e : Ending) (w' : World) : Prop := e = .returned (.int .i64 (sh t u : Nat)) ∧ Below w.heap.size w w'
theorem sh_none {t u : Tr} (h : ptr t = .pointer none ∨ ptr u = .pointer none) : sh t u = 0 := by
  cases t <;> cases u <;> first | rfl | (simp [ptr] at h) | simp [sh]
def ShRel (b c : Nat) (a e : Nat → Tr) (w : World) (s i : Value) (wr : World) : Prop :=
  ∃ k m : Nat, k ≤ 16 ∧ m ≤ 1229782938247303441 ∧ i = .int .i64 k ∧ s = .int .i64 m ∧ Hid (m = (if b = c then 1 else 0) + sumTo k fun f => sh (a f) (e f)) ∧ Below w.heap.size w wr
set_option maxHeartbeats 2000000 in
set_option maxRecDepth 100000 in
theorem shared_any (t : Tr) : ∀ (u : Tr) (lv x : Nat) (w : World), Ok t lv x → Lies w.heap.size w t → Lies w.heap.size w u →
    Calls Tryd.prog 42 #[ptr t, ptr u] w (ShPost t u w) := by
  have hnil : ∀ (u : Tr) (w : World), Calls Tryd.prog 42 #[.pointer none, ptr u] w fun e w' => e = .returned (.int .i64 0) ∧ w = w' := by
    intro u w
    cases u <;> (
      unfold ptr
      go_enter Tryd.func42, Tryd.ntmps42
      go_wp2
      go_ret
      exact ⟨rfl, rfl⟩)
  induction t with
  | none =>
    intro u lv x w _ _ _
    refine (hnil u w).mono ?_
    rintro e w' ⟨rfl, rfl⟩
    exact ⟨by simp [sh], Below.refl _ _⟩
  | pair k v =>
    intro u lv x w _ _ _
    refine (hnil u w).mono ?_
    rintro e w' ⟨rfl, rfl⟩
    exact ⟨by simp [sh], Below.refl _ _⟩
  | kid b a ih =>
    intro u lv x w hok hlt hlu
    by_cases hu : ptr u = .pointer none
    · rw [hu]
      have hs := sh_none (t := .kid b a) (.inr hu)
      unfold ptr
      have HS := Lib.hid hs
      clear hs hu hnil ih
      go_enter Tryd.func42, Tryd.ntmps42
      go_wp2
      go_ret
      exact ⟨by rw [HS.out]; rfl, Below.refl _ _⟩
    · cases u with
      | none => exact absurd rfl hu
      | pair k v => exact absurd rfl hu
      | kid c e =>
        have hbnd := sh_bound (.kid b a) lv x (.kid c e) hok
        have hcap := cap_le (16 - lv) (by omega)
        have HSH := Lib.hid (sh_kid b c a e)
        have HPart := Lib.hid (fun n (h : n ≤ 16) => sh_part (a := a) (e := e) n 16 h)
        have hle : (if b = c then 1 else 0) + sumTo 16 (fun f => sh (a f) (e f)) ≤ 1229782938247303441 := by rw [← HSH.out]; omega
        have HLE := Lib.hid hle
        have IH := Lib.hid ih
        have HO := Lib.hid hok
        have HLT := Lib.hid hlt
        have HLU := Lib.hid hlu
        clear hnil ih hok hlt hlu hu hbnd hcap hle
        unfold ptr
        by_cases hbc : b = c
        · have hne : (binOp .eql 24 (.pointer (some ⟨b, 0, none⟩)) (.pointer (some ⟨c, 0, none⟩))).run Tryd.prog w = .ok (.bool true) w := by rw [← hbc]; exact eql_same b w
          have HBC : Hid (1 = (if b = c then 1 else 0) + sumTo 0 fun f => sh (a f) (e f)) := by show _ = _; simp [hbc, sumTo]
          clear hbc
          go_enter Tryd.func42, Tryd.ntmps42
          go_wp2
          clear hne
          go_loopw [5, 16] (fun s i wr => ShRel b c a e w s i wr) (fun _ i _ => 16 - (intOf i).toNat)
          case atStart => unfold ShRel; exact ⟨0, 1, by omega, by omega, rfl, rfl, HBC, Below.refl _ _⟩
          case round =>
            obtain ⟨k, m, hk, hm, rfl, rfl, HM, HB⟩ := hrel
            have hsz := HB.size
            by_cases hlt : k < 16
            · obtain ⟨d, hd⟩ : ∃ d, d = sh (a k) (e k) := ⟨_, rfl⟩
              have hmd : m + d ≤ 1229782938247303441 := by
                have h1 := HPart.out (k + 1) (by omega)
                have h2 := HLE.out
                have h3 := HM.out
                have h4 : sumTo (k + 1) (fun f => sh (a f) (e f)) = sumTo k (fun f => sh (a f) (e f)) + d := by rw [hd]; rfl
                omega
              have HD : Hid (m + d = (if b = c then 1 else 0) + sumTo (k + 1) fun f => sh (a f) (e f)) := by
                show _ = _
                have h4 : sumTo (k + 1) (fun f => sh (a f) (e f)) = sumTo k (fun f => sh (a f) (e f)) + d := by rw [hd]; rfl
                rw [h4, HM.out, Nat.add_assoc]
              have HDD := Lib.hid hd
              clear hd
              go_wp2_with (fail)
              refine (below_any b k a _ _ (HLT.out.below HB) (by omega)).mono ?_
              rintro e1 w1 ⟨rfl, d1, hw1⟩
              have hb1 : Below w.heap.size w w1 := by rw [hw1]; exact below_drewN HB d1
              clear hw1
              go_wp2_with (fail)
              refine (below_any c k e _ _ (HLU.out.below hb1) (by omega)).mono ?_
              rintro e1 w2 ⟨rfl, d2, hw2⟩
              have hb2 : Below w.heap.size w w2 := by rw [hw2]; exact below_drewN hb1 d2
              have hz2 := hb2.size
              clear hw2
              go_wp2_with (fail)
              refine (IH.out k (e k) (lv + 1) _ w2 (HO.out.2 k hlt) (((HLT.out.at k hlt).below hb2).more hz2) (((HLU.out.at k hlt).below hb2).more hz2)).mono ?_
              rintro e1 w3 ⟨rfl, hb3⟩
              rw [← HDD.out]
              go_wp2_with (fail)
              go_roundw
              case rel => unfold ShRel; exact ⟨k + 1, m + d, by omega, hmd, by go_num, by go_num, HD, hb2.trans (hb3.mono hz2)⟩
              case measure => simp [intOf]; omega
            · have hfin : Hid (m = sh (.kid b a) (.kid c e)) := by
                show _ = _
                have h16 : k = 16 := by omega
                rw [HM.out, HSH.out, h16]
              go_wp2
              go_ret
              exact ⟨by rw [← hfin.out]; rfl, HB⟩
        · have hne := eql_other HLT.out HLU.out hbc
          have HBC : Hid (0 = (if b = c then 1 else 0) + sumTo 0 fun f => sh (a f) (e f)) := by show _ = _; simp [hbc, sumTo]
          clear hbc
          go_enter Tryd.func42, Tryd.ntmps42
          go_wp2
          clear hne
          go_loopw [5, 16] (fun s i wr => ShRel b c a e w s i wr) (fun _ i _ => 16 - (intOf i).toNat)
          case atStart => unfold ShRel; exact ⟨0, 0, by omega, by omega, rfl, rfl, HBC, Below.refl _ _⟩
          case round =>
            obtain ⟨k, m, hk, hm, rfl, rfl, HM, HB⟩ := hrel
            have hsz := HB.size
            by_cases hlt : k < 16
            · obtain ⟨d, hd⟩ : ∃ d, d = sh (a k) (e k) := ⟨_, rfl⟩
              have hmd : m + d ≤ 1229782938247303441 := by
                have h1 := HPart.out (k + 1) (by omega)
                have h2 := HLE.out
                have h3 := HM.out
                have h4 : sumTo (k + 1) (fun f => sh (a f) (e f)) = sumTo k (fun f => sh (a f) (e f)) + d := by rw [hd]; rfl
                omega
              have HD : Hid (m + d = (if b = c then 1 else 0) + sumTo (k + 1) fun f => sh (a f) (e f)) := by
                show _ = _
                have h4 : sumTo (k + 1) (fun f => sh (a f) (e f)) = sumTo k (fun f => sh (a f) (e f)) + d := by rw [hd]; rfl
                rw [h4, HM.out, Nat.add_assoc]
              have HDD := Lib.hid hd
              clear hd
              go_wp2_with (fail)
              refine (below_any b k a _ _ (HLT.out.below HB) (by omega)).mono ?_
              rintro e1 w1 ⟨rfl, d1, hw1⟩
              have hb1 : Below w.heap.size w w1 := by rw [hw1]; exact below_drewN HB d1
              clear hw1
              go_wp2_with (fail)
              refine (below_any c k e _ _ (HLU.out.below hb1) (by omega)).mono ?_
              rintro e1 w2 ⟨rfl, d2, hw2⟩
              have hb2 : Below w.heap.size w w2 := by rw [hw2]; exact below_drewN hb1 d2
              have hz2 := hb2.size
              clear hw2
              go_wp2_with (fail)
              refine (IH.out k (e k) (lv + 1) _ w2 (HO.out.2 k hlt) (((HLT.out.at k hlt).below hb2).more hz2) (((HLU.out.at k hlt).below hb2).more hz2)).mono ?_
              rintro e1 w3 ⟨rfl, hb3⟩
              rw [← HDD.out]
              go_wp2_with (fail)
              go_roundw
              case rel => unfold ShRel; exact ⟨k + 1, m + d, by omega, hmd, by go_num, by go_num, HD, hb2.trans (hb3.mono hz2)⟩
              case measure => simp [intOf]; omega
            · have hfin : Hid (m = sh (.kid b a) (.kid c e)) := by
                show _ = _
                have h16 : k = 16 := by omega
                rw [HM.out, HSH.out, h16]
              go_wp2
              go_ret
              exact ⟨by rw [← hfin.out]; rfl, HB⟩
end Go.Proofs.YtjlbchkdiaomjaaDoor.trie

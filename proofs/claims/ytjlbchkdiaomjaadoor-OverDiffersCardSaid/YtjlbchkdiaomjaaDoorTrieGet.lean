/- What hangs on an arm, and what is got. -/
import Derived.Test.YtjlbchkdiaomjaaDoorTrieNode
namespace Go.Proofs.YtjlbchkdiaomjaaDoor.trie
open Go.RowKit mem tri mix

theorem below_kid (b f : Nat) (a : Nat → Tr) (B : Nat) (w : World) (hL : Lies B w (.kid b a)) (hf : f ≤ 15) (ha : isN (a f) = false) (q : Option Addr) (k v : Int) (hv : armV (a f) = [.pointer q, .int .i64 k, .int .i64 v]) :
    Calls Tryd.prog 56 #[.pointer (some ⟨b, 0, none⟩), .int .i64 f] w fun e w' => e = .returned (.pointer q) ∧ ∃ n, w' = w.drewN n := by
  obtain ⟨g, o, cap, hg, hc1, hlt, hcells⟩ := hL.arm (by omega) ha
  have h16 := subs_len a
  have hc := hcells 0 (.pointer q) (by rw [hv]; rfl)
  rw [Nat.add_zero] at hc
  have hF := Lib.hid (find_any a b f w hf hL.has)
  rw [ha] at hF
  obtain ⟨n, hn⟩ : ∃ n, n = (subs a).length := ⟨_, rfl⟩
  obtain ⟨p, hp⟩ : ∃ p, p = (pre a f).length := ⟨_, rfl⟩
  rw [← hn] at hc1 hlt h16
  rw [← hp] at hlt hc hF
  clear hn hp hcells hL hv
  go_enter Tryd.func56, Tryd.ntmps56
  go_wp2_with (fail)
  refine hF.out.mono ?_
  rintro e w' ⟨rfl, d, rfl⟩
  go_wp2_with (fail)
  go_ret
  exact ⟨rfl, _, rfl⟩
theorem below_none (b f : Nat) (a : Nat → Tr) (B : Nat) (w : World) (hL : Lies B w (.kid b a)) (hf : f ≤ 15) (ha : isN (a f) = true) :
    Calls Tryd.prog 56 #[.pointer (some ⟨b, 0, none⟩), .int .i64 f] w fun e w' => e = .returned (.pointer none) ∧ ∃ n, w' = w.drewN n := by
  have hF := Lib.hid (find_any a b f w hf hL.has)
  rw [ha] at hF
  obtain ⟨p, hp⟩ : ∃ p, p = (pre a f).length := ⟨_, rfl⟩
  rw [← hp] at hF
  clear hp hL
  go_enter Tryd.func56, Tryd.ntmps56
  go_wp2_with (fail)
  refine hF.out.mono ?_
  rintro e w' ⟨rfl, d, rfl⟩
  go_wp2_with (fail)
  go_ret
  exact ⟨rfl, _, rfl⟩
/-- what hangs on an arm: a further node, or nil -/
theorem below_any (b f : Nat) (a : Nat → Tr) (B : Nat) (w : World) (hL : Lies B w (.kid b a)) (hf : f ≤ 15) :
    Calls Tryd.prog 56 #[.pointer (some ⟨b, 0, none⟩), .int .i64 f] w fun e w' => e = .returned (ptr (a f)) ∧ ∃ n, w' = w.drewN n := by
  cases h : a f with
  | none => exact below_none b f a B w hL hf (by rw [h]; rfl)
  | pair k v => exact below_kid b f a B w hL hf (by rw [h]; rfl) none k v (by rw [h]; rfl)
  | kid c e => exact below_kid b f a B w hL hf (by rw [h]; rfl) (some ⟨c, 0, none⟩) 0 0 (by rw [h]; rfl)
theorem find_no (a : Nat → Tr) (g f p : Nat) (w : World) (hf : f ≤ 15) (ha : isN (a f) = true) (hp : p = (pre a f).length) (hc : w.cell? ⟨g, 0, none⟩ = some (.int .u16 (hasS a : Nat))) :
    Calls Tryd.prog 52 #[.pointer (some ⟨g, 0, none⟩), .int .i64 f] w fun e w' => e = .returned (.tuple #[.int .i64 p, .bool false]) ∧ ∃ n, w' = w.drewN n := by
  have h := find_any a g f w hf hc
  rw [ha, ← hp] at h; exact h
theorem find_yes (a : Nat → Tr) (g f p : Nat) (w : World) (hf : f ≤ 15) (ha : isN (a f) = false) (hp : p = (pre a f).length) (hc : w.cell? ⟨g, 0, none⟩ = some (.int .u16 (hasS a : Nat))) :
    Calls Tryd.prog 52 #[.pointer (some ⟨g, 0, none⟩), .int .i64 f] w fun e w' => e = .returned (.tuple #[.int .i64 p, .bool true]) ∧ ∃ n, w' = w.drewN n := by
  have h := find_any a g f w hf hc
  rw [ha, ← hp] at h; exact h
/-- what get tells -/
def gotV (o : Option Int) : Value := .tuple #[.int .i64 (o.getD 0), .bool o.isSome]
theorem get_of {a : Nat → Tr} {b lv : Nat} {key : Int} {t : Tr} (h : a (nib key lv) = t) : tri.get (.kid b a) lv key = tri.get t (lv + 1) key := by rw [get_kid, h]
def GetAt (B : Nat) (t : Tr) (key : Int) (w : World) (p i : Value) (wr : World) : Prop :=
  ∃ (b : Nat) (a : Nat → Tr) (lv x : Nat), p = .pointer (some ⟨b, 0, none⟩) ∧ i = .int .i64 lv ∧ lv ≤ 15 ∧ Hid (Ok (.kid b a) lv x ∧ num key % 16 ^ lv = x ∧ tri.get (.kid b a) lv key = tri.get t 0 key) ∧ Hid (Lies B w (.kid b a)) ∧ Below B w wr
set_option maxHeartbeats 1000000 in
theorem get_any (B b : Nat) (a : Nat → Tr) (key : Int) (w : World) (hB : B ≤ w.heap.size) (hT : Laid B w) (hL : Lies B w (.kid b a)) (hok : Ok (.kid b a) 0 0) :
    Calls Tryd.prog 40 #[.pointer (some ⟨b, 0, none⟩), .int .i64 key] w fun e w' => e = .returned (gotV (tri.get (.kid b a) 0 key)) ∧ Below B w w' := by
  have HT := Lib.hid hT
  have HL := Lib.hid hL
  have HO := Lib.hid hok
  clear hT hL hok
  go_enter Tryd.func40, Tryd.ntmps40
  go_wp2
  go_loopw [0, 7] (fun p i wr => GetAt B (.kid b a) key w p i wr) (fun _ i _ => 16 - (intOf i).toNat)
  case atStart => unfold GetAt; exact ⟨b, a, 0, 0, rfl, rfl, by omega, Lib.hid ⟨HO.out, by simp [Nat.mod_one], rfl⟩, HL, Below.refl _ _⟩
  case round =>
    obtain ⟨c, e, lv, x, rfl, rfl, hlv, HG, HLc, HB⟩ := hrel
    have hsz := HB.size
    have hf := nib_lt key lv
    obtain ⟨p, hp⟩ : ∃ p, p = (pre e (nib key lv)).length := ⟨_, rfl⟩
    have HP := Lib.hid hp
    obtain ⟨f, hfe⟩ : ∃ f, f = nib key lv := ⟨_, rfl⟩
    rw [← hfe] at hf
    have HN := Lib.hid hfe
    clear hp hfe
    cases ht : e (nib key lv) with
    | none =>
      have HR : Hid (tri.get (.kid b a) 0 key = none) := by show _ = _; rw [← HG.out.2.2, get_of ht]; rfl
      have HI : Hid (isN (e f) = true) := by show _ = _; rw [HN.out, ht]; rfl
      clear ht
      go_wp2_with (fail)
      refine (knib_any B key lv _ hlv (by omega) (HT.out.on HB)).mono ?_
      rintro e1 w1 ⟨rfl, hb1⟩
      rw [← HN.out]
      go_wp2_with (fail)
      refine (find_no e c f p _ (by omega) HI.out (by rw [HN.out]; exact HP.out) ((HLc.out.below (HB.trans hb1)).has)).mono ?_
      rintro e1 w2 ⟨rfl, d, rfl⟩
      go_wp2_with (fail)
      go_ret2
      exact ⟨by rw [HR.out]; rfl, below_drewN (HB.trans hb1) _⟩
    | pair k v =>
      have HR : Hid (tri.get (.kid b a) 0 key = if k = key then some v else none) := by show _ = _; rw [← HG.out.2.2, get_of ht]; rfl
      by_cases hk : k = key
      · have hkb : (k == key) = true := by rw [hk]; simp
        have HR : Hid (tri.get (.kid b a) 0 key = some v) := by show _ = _; rw [HR.out, if_pos hk]
        have HI : Hid (isN (e f) = false) := by show _ = _; rw [HN.out, ht]; rfl
        have HV : Hid (armV (e f) = [.pointer none, .int .i64 k, .int .i64 v]) := by show _ = _; rw [HN.out, ht]; rfl
        clear ht hk
        go_wp2_with (fail)
        refine (knib_any B key lv _ hlv (by omega) (HT.out.on HB)).mono ?_
        rintro e1 w1 ⟨rfl, hb1⟩
        rw [← HN.out]
        go_wp2_with (fail)
        refine (find_yes e c f p _ (by omega) HI.out (by rw [HN.out]; exact HP.out) ((HLc.out.below (HB.trans hb1)).has)).mono ?_
        rintro e1 w2 ⟨rfl, d, hw2⟩
        have hb2 : Below B w w2 := by rw [hw2]; exact below_drewN (HB.trans hb1) d
        clear hw2
        obtain ⟨g, o, cap, hg, hc1, hlt, hcells⟩ := (HLc.out.below hb2).arm hf HI.out
        rw [HV.out, show pre e f = pre e (nib key lv) by rw [HN.out], ← HP.out] at hcells
        rw [show pre e f = pre e (nib key lv) by rw [HN.out], ← HP.out] at hlt
        have hr0 := hcells 0 _ rfl
        have hr1 := hcells 1 _ rfl
        have hr2 := hcells 2 _ rfl
        rw [Nat.add_zero] at hr0
        have h16 := subs_len e
        obtain ⟨n, hn⟩ : ∃ n, n = (subs e).length := ⟨_, rfl⟩
        rw [← hn] at hc1 hlt h16
        clear hcells hn
        have hz1 := hb2.size
        go_wp2_with (fail)
        go_ret2
        exact ⟨by rw [HR.out]; rfl, hb2.alloc (by omega) _⟩
      · have hkb : (k == key) = false := by rw [beq_eq_false_iff_ne]; exact hk
        have HR : Hid (tri.get (.kid b a) 0 key = none) := by show _ = _; rw [HR.out, if_neg hk]
        have HI : Hid (isN (e f) = false) := by show _ = _; rw [HN.out, ht]; rfl
        have HV : Hid (armV (e f) = [.pointer none, .int .i64 k, .int .i64 v]) := by show _ = _; rw [HN.out, ht]; rfl
        clear ht hk
        go_wp2_with (fail)
        refine (knib_any B key lv _ hlv (by omega) (HT.out.on HB)).mono ?_
        rintro e1 w1 ⟨rfl, hb1⟩
        rw [← HN.out]
        go_wp2_with (fail)
        refine (find_yes e c f p _ (by omega) HI.out (by rw [HN.out]; exact HP.out) ((HLc.out.below (HB.trans hb1)).has)).mono ?_
        rintro e1 w2 ⟨rfl, d, hw2⟩
        have hb2 : Below B w w2 := by rw [hw2]; exact below_drewN (HB.trans hb1) d
        clear hw2
        obtain ⟨g, o, cap, hg, hc1, hlt, hcells⟩ := (HLc.out.below hb2).arm hf HI.out
        rw [HV.out, show pre e f = pre e (nib key lv) by rw [HN.out], ← HP.out] at hcells
        rw [show pre e f = pre e (nib key lv) by rw [HN.out], ← HP.out] at hlt
        have hr0 := hcells 0 _ rfl
        have hr1 := hcells 1 _ rfl
        have hr2 := hcells 2 _ rfl
        rw [Nat.add_zero] at hr0
        have h16 := subs_len e
        obtain ⟨n, hn⟩ : ∃ n, n = (subs e).length := ⟨_, rfl⟩
        rw [← hn] at hc1 hlt h16
        clear hcells hn
        have hz1 := hb2.size
        go_wp2_with (fail)
        go_ret2
        exact ⟨by rw [HR.out]; rfl, hb2.alloc (by omega) _⟩
    | kid d1 s =>
      have HR : Hid (tri.get (.kid d1 s) (lv + 1) key = tri.get (.kid b a) 0 key) := by show _ = _; rw [← HG.out.2.2, get_of ht]
      have HS : Hid (Ok (.kid d1 s) (lv + 1) (x + 16 ^ lv * nib key lv) ∧ Lies B w (.kid d1 s)) := by
        have h1 := HG.out.1.2 _ (nib_lt key lv)
        have h2 := HLc.out.at _ (nib_lt key lv)
        rw [ht] at h1 h2
        exact ⟨h1, h2⟩
      have hlv1 : lv + 1 ≤ 15 := HS.out.1.1
      have HI : Hid (isN (e f) = false) := by show _ = _; rw [HN.out, ht]; rfl
      have HV : Hid (armV (e f) = [.pointer (some ⟨d1, 0, none⟩), .int .i64 0, .int .i64 0]) := by show _ = _; rw [HN.out, ht]; rfl
      clear ht
      go_wp2_with (fail)
      refine (knib_any B key lv _ hlv (by omega) (HT.out.on HB)).mono ?_
      rintro e1 w1 ⟨rfl, hb1⟩
      rw [← HN.out]
      go_wp2_with (fail)
      refine (find_yes e c f p _ (by omega) HI.out (by rw [HN.out]; exact HP.out) ((HLc.out.below (HB.trans hb1)).has)).mono ?_
      rintro e1 w2 ⟨rfl, d, hw2⟩
      have hb2 : Below B w w2 := by rw [hw2]; exact below_drewN (HB.trans hb1) d
      clear hw2
      obtain ⟨g, o, cap, hg, hc1, hlt, hcells⟩ := (HLc.out.below hb2).arm hf HI.out
      rw [HV.out, show pre e f = pre e (nib key lv) by rw [HN.out], ← HP.out] at hcells
      rw [show pre e f = pre e (nib key lv) by rw [HN.out], ← HP.out] at hlt
      have hr0 := hcells 0 _ rfl
      have hr1 := hcells 1 _ rfl
      have hr2 := hcells 2 _ rfl
      rw [Nat.add_zero] at hr0
      have h16 := subs_len e
      obtain ⟨n, hn⟩ : ∃ n, n = (subs e).length := ⟨_, rfl⟩
      rw [← hn] at hc1 hlt h16
      clear hcells hn
      have hz1 := hb2.size
      go_wp2_with (fail)
      go_roundw
      case rel =>
        unfold GetAt
        exact ⟨d1, s, lv + 1, x + 16 ^ lv * nib key lv, rfl, by go_num, hlv1, Lib.hid ⟨HS.out.1, by rw [num_step, HG.out.2.1], HR.out⟩, Lib.hid HS.out.2, hb2.alloc (by omega) _⟩
      case measure => simp [intOf]; omega
end Go.Proofs.YtjlbchkdiaomjaaDoor.trie

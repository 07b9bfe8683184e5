/- The node without a key: drop. -/
import Derived.Test.YtjlbchkdiaomjaaDoorTriePut2
namespace Go.Proofs.YtjlbchkdiaomjaaDoor.trie
open Go.RowKit mem tri mix

theorem off_bits : ∀ f i : Fin 16, (65535 - 2 ^ f.1).testBit i.1 = !(decide (i.1 = f.1)) := by decide +kernel
theorem has_without (a : Nat → Tr) (f : Nat) (hf : f < 16) : hasS a &&& (65535 - 2 ^ f) = hasS (tri.upd a f .none) := by
  apply Nat.eq_of_testBit_eq
  intro i
  rw [Nat.testBit_and, has_off]
  by_cases hi : i < 16
  · rw [off_bits ⟨f, hf⟩ ⟨i, hi⟩]
  · have h1 : (hasS a).testBit i = false := by rw [hasS_bit]; simp [hi]
    rw [h1]; simp
theorem drop_cat (w : World) (x1 x3 : Value) (n1 n3 : Nat) (y1 y3 : List Value) (s1 : Sees w.heap.size 3 w x1 n1 y1) (s3 : Sees w.heap.size 3 w x3 n3 y3)
    (o1 : ∀ u ∈ y1, u.oneCell' = true) (o3 : ∀ u ∈ y3, u.oneCell' = true) (hn : n1 + n3 ≤ 32) :
    Calls Tryd.prog 54 #[.slice (some ⟨w.heap.size, 0, none⟩) 2 2] (w.alloc (.cells #[x1, x3] 86)).drew
      fun e w' => ∃ r, e = .returned r ∧ Got w.heap.size 84 3 (n1 + n3) (y1 ++ y3) r w w' := by
  have hb := ((Below.refl w.heap.size w).alloc (Nat.le_refl _) (.cells #[x1, x3] 86)).drew
  refine (concat2 w.heap.size 2 x1 x3 n1 n3 y1 y3 _ hn (by simp) (by simp) (by simp) ((s1.below hb).more (by simp)) ((s3.below hb).more (by simp)) o1 o3).mono ?_
  rintro e w' ⟨r, rfl, hg⟩
  exact ⟨r, rfl, hg.1.mono (by simp), hb.trans (hg.2.mono (by simp))⟩
def DropEnd (k : Int) (lv : Nat) (t : Tr) (w : World) (e : Ending) (w' : World) : Prop :=
  ∃ c a, e = .returned (.pointer (some ⟨c, 0, none⟩)) ∧ DropT k lv t (.kid c a) ∧ Lies w'.heap.size w' (.kid c a) ∧ Below w.heap.size w w'
/-- a row without the arm -/
theorem cut_out {a : Nat → Tr} {f : Nat} (hf : f < 16) (ha : isN (a f) = false) : armsV (subs a) = armsV (pre a f) ++ (armV (a f) ++ armsV (post a f)) ∧ (armsV (pre a f)).length = (pre a f).length * 3 ∧ (subs a).length = (pre a f).length + 1 + (post a f).length := by
  have hs := subs_split a f hf
  rw [one_not ha] at hs
  refine ⟨?_, pre_arms a f, ?_⟩
  · rw [hs, armsV_append, armsV_append]
    have : armsV [a f] = armV (a f) := by show armV (a f) ++ [] = _; simp
    rw [this]
  · rw [hs]; simp; omega
theorem drop_fin {b f lv m cap : Nat} {A : Option Addr} {a : Nat → Tr} {k v0 : Int} {w w2 w3 : World} (hf : f < 16) (hfe : f = nib k lv) (ha : a f = .pair k v0) (hL : Lies w.heap.size w (.kid b a)) (hb2 : Below w.heap.size w w2)
    (hgot : Got w2.heap.size 84 3 m (armsV (pre a f) ++ armsV (post a f)) (.slice A m cap) w2 w3) (hm : m = (pre a f).length + (post a f).length) (z : Int) (hz : z = ((hasS a &&& (65535 - 2 ^ f) : Nat) : Int)) :
    DropEnd k lv (.kid b a) w (.returned (.pointer (some ⟨w3.heap.size, 0, none⟩))) ((w3.alloc (.cells #[.int .u16 z, .slice A m cap] 88)).drew) := by
  have hb3 : Below w.heap.size w w3 := hb2.trans (hgot.2.mono hb2.size)
  have hsz := hb3.size
  have es : subs (tri.upd a f .none) = pre a f ++ post a f := by rw [subs_upd a f _ hf]; rfl
  rw [← armsV_append, ← es] at hgot
  have hm2 : m = (subs (tri.upd a f .none)).length := by rw [es, List.length_append]; exact hm
  subst hz
  have hn := node_new (a := tri.upd a f .none) (v := .slice A m cap) (w := w3) (hasS a &&& (65535 - 2 ^ f)) (has_without a f hf) (by rw [← hm2]; exact Sees.of_own hgot.1) (Roomy.of_own hgot.1) (RowIs.of_own hgot.1) (Lies.upd (fun g hg => ((hL.at g hg).below hb3).more hsz) trivial)
  have hsn : ((w3.alloc (.cells #[.int .u16 ((hasS a &&& (65535 - 2 ^ f) : Nat) : Int), .slice A m cap] 88)).drew).heap.size = w3.heap.size + 1 := by simp
  refine ⟨w3.heap.size, _, rfl, ?_, by rw [hsn]; exact hn.below (Below.refl _ _).drew, (hb3.alloc hsz _).drew⟩
  have h := DropT.kid (k := k) lv b a w3.heap.size .none .none (by rw [← hfe, ha]; exact DropT.lone _ _) (.inl rfl)
  rw [← hfe] at h
  exact h
set_option maxHeartbeats 2000000 in
set_option maxRecDepth 100000 in
theorem drop_leaf (B lv b : Nat) (a : Nat → Tr) (k v0 : Int) (w : World) (hlv : lv ≤ 15) (hB : B ≤ w.heap.size) (hT : Laid B w) (hL : Lies w.heap.size w (.kid b a)) (ht : a (nib k lv) = .pair k v0) :
    Calls Tryd.prog 41 #[.pointer (some ⟨b, 0, none⟩), .int .i64 k, .int .i64 lv] w (DropEnd k lv (.kid b a) w) := by
  have HT := Lib.hid hT
  have HL := Lib.hid hL
  obtain ⟨f, hfe⟩ : ∃ f, f = nib k lv := ⟨_, rfl⟩
  have hf := nib_lt k lv
  rw [← hfe] at hf ht
  have HN := Lib.hid hfe
  have HTT := Lib.hid ht
  have HI : Hid (isN (a f) = false) := by show _ = _; rw [ht]; rfl
  have HV : Hid (armV (a f) = [.pointer none, .int .i64 k, .int .i64 v0]) := by show _ = _; rw [ht]; rfl
  obtain ⟨p, hp⟩ : ∃ p, p = (pre a f).length := ⟨_, rfl⟩
  have HP := Lib.hid hp
  clear hT hL hfe ht hp
  go_enter Tryd.func41, Tryd.ntmps41
  go_wp2_with (fail)
  refine (knib_on B k lv w _ hlv (Below.refl _ _) hB HT.out).mono ?_
  rintro e w1 ⟨rfl, hb1⟩
  rw [← HN.out]
  go_wp2_with (fail)
  refine (find_yes a b f p _ (by omega) HI.out HP.out ((HL.out.below hb1).has)).mono ?_
  rintro e w2 ⟨rfl, d, hw2⟩
  have hbw2 : Below w.heap.size w w2 := by rw [hw2]; exact below_drewN hb1 d
  clear hw2 hb1
  obtain ⟨_, ch, ⟨v1, cv, hs, hro, _⟩, _⟩ := HL.out.below hbw2
  obtain ⟨e1, e2, e3⟩ := cut_out hf HI.out
  obtain ⟨hsl, A, cap, hvv, hcells0⟩ := hs
  subst hvv
  obtain ⟨r1, r2, r3⟩ := hro _ _ _ rfl
  obtain ⟨g, o, hA, hg, hcells⟩ := hcells0 (by omega)
  subst hA
  have hrow : ∀ j u, (armV (a f))[j]? = some u → w2.cell? ⟨g, o + p * 3 + j, none⟩ = some u := by
    intro j u hu
    have hj : j < (armV (a f)).length := (List.getElem?_eq_some_iff.1 hu).1
    rw [Nat.add_assoc]
    refine hcells (p * 3 + j) u ?_
    rw [e1, List.getElem?_append_right (by rw [e2, HP.out]; omega), e2, HP.out, Nat.add_sub_cancel_left, List.getElem?_append_left hj]; exact hu
  rw [HV.out] at hrow
  have hr0 := hrow 0 _ rfl
  rw [Nat.add_zero] at hr0
  have hs : Sees w.heap.size 3 w2 (.slice (some ⟨g, o, none⟩) (subs a).length cap) (subs a).length (armsV (subs a)) := ⟨hsl, _, cap, rfl, fun _ => ⟨g, o, rfl, hg, hcells⟩⟩
  obtain ⟨q, hq⟩ : ∃ q, q = (post a f).length := ⟨_, rfl⟩
  obtain ⟨n, hn⟩ : ∃ n, n = (subs a).length := ⟨_, rfl⟩
  obtain ⟨x, hx⟩ : ∃ x, x = hasS a := ⟨_, rfl⟩
  have h16 := subs_len a
  rw [← hn] at cv r1 e3 hs h16
  rw [← HP.out] at e2 e3
  rw [← hq] at e3
  rw [← hx] at ch
  have HE1 := Lib.hid e1
  have HE2 := Lib.hid e2
  have HQ := Lib.hid hq
  have HX := Lib.hid hx
  have HS := Lib.hid hs
  have hpn : p < n := by omega
  have HE3 := Lib.hid e3
  have hbl : b < w2.heap.size := by have := HL.out.1; have := hbw2.size; omega
  have hw12 := hbw2.size
  have hX : Hid (armsV (subs a) = (armsV (pre a f) ++ armV (a f)) ++ armsV (post a f) ∧ (armsV (pre a f) ++ armV (a f)).length = (p + 1) * 3) := by
    refine ⟨by rw [e1, List.append_assoc], ?_⟩
    rw [List.length_append, e2, HV.out]; simp; omega
  clear e1 e2 hq hn hx hs e3 hro r2 r3 hrow hcells hsl hcells0
  have s1 := sees_low (c := cap) HS.out (by omega) _ _ HE1.out HE2.out
  by_cases hcp : cap = p + 1
  · obtain rfl : cap = n := by omega
    have HCP := Lib.hid hcp
    have hpost : armsV (post a f) = [] := by
      have h1 := HS.out.1
      rw [hX.out.1, List.length_append, hX.out.2] at h1
      exact List.eq_nil_of_length_eq_zero (by omega)
    have s3 : Sees w2.heap.size 3 w2 (.slice (some ⟨g, o, none⟩) 0 0) 0 (armsV (post a f)) := by rw [hpost]; exact sees_empty _ _ _ _
    have HC := Lib.hid (drop_cat w2 _ _ _ _ _ _ (s1.more (by omega)) s3 armsV_cells armsV_cells (by omega))
    clear s1 s3 hpost
    have i0 : (0 : Int) ≤ (p : Int) := by omega
    have i1 : (p : Int) ≤ (cap : Int) := by omega
    have i3 : (0 : Int) ≤ (cap : Int) := by omega
    have i4 : IntKind.i64.wrap ((p : Int) + 1) = (cap : Int) := by rw [IntWalk.i64_in _ (by omega)]; omega
    clear hcp
    go_wp2_with (fail)
    go_region_held3 (fun w' => w'.cell? ⟨b, 1, none⟩ = some (.slice (some ⟨g, o, none⟩) cap cap)) (first | go_keep) (first | (go_at_call 54; refine HC.out.mono ?_; rintro e w3 ⟨r, rfl, hgot⟩; obtain ⟨A3, cap3, rfl⟩ := (Sees.of_own hgot.1).form; have q0 := hgot.2.cell (p := ⟨b, 1, none⟩) hbl))
    all_goals
      have ch3 := (hgot.2.cell (p := ⟨b, 0, none⟩) hbl).trans ch
      have HG := Lib.hid hgot
      clear q0 cv ch hgot i4 hr0
      go_wp2_with (fail)
      go_still_tail 9, (by kernel_rfl)
      change wpList _ _ _ _ _ w3.drew
      go_wp2
      go_ret
      exact drop_fin hf HN.out HTT.out HL.out hbw2 HG.out (by have h1 := HP.out; have h2 := HQ.out; have h3 := HE3.out; have h4 := HCP.out; omega) _ (by rw [(bit_wrap f (by omega)).1, HX.out]; exact u16_andNot_nat _ _ (by have := hasS_lt a; omega) (by have := (bit_wrap f (by omega)).2.1; omega))
  · have s3 := sees_high (c := cap - (p + 1)) HS.out (by omega) _ _ hX.out.1 hX.out.2
    have HC := Lib.hid (drop_cat w2 _ _ _ _ _ _ (s1.more (by omega)) (s3.more (by omega)) armsV_cells armsV_cells (by omega))
    clear s1 s3
    have i0 : (0 : Int) ≤ (p : Int) := by omega
    have i1 : (p : Int) ≤ (cap : Int) := by omega
    have i2 : (p : Int) + 1 ≤ (n : Int) := by omega
    have i3 : (0 : Int) ≤ (p : Int) + 1 := by omega
    have i4 : IntKind.i64.wrap ((p : Int) + 1) = (p : Int) + 1 := IntWalk.i64_in _ (by omega)
    have i5 : ((p : Int) + 1).toNat = p + 1 := by omega
    go_wp2_with (fail)
    go_region_held3 (fun w' => w'.cell? ⟨b, 1, none⟩ = some (.slice (some ⟨g, o, none⟩) n cap)) (first | go_keep) (first | (go_at_call 54; refine HC.out.mono ?_; rintro e w3 ⟨r, rfl, hgot⟩; obtain ⟨A3, cap3, rfl⟩ := (Sees.of_own hgot.1).form; have q0 := hgot.2.cell (p := ⟨b, 1, none⟩) hbl))
    all_goals
      have ch3 := (hgot.2.cell (p := ⟨b, 0, none⟩) hbl).trans ch
      have HG := Lib.hid hgot
      clear q0 cv ch hgot i5 i4 hr0
      go_wp2_with (fail)
      go_still_tail 9, (by kernel_rfl)
      change wpList _ _ _ _ _ w3.drew
      go_wp2
      go_ret
      exact drop_fin hf HN.out HTT.out HL.out hbw2 HG.out (by have h1 := HP.out; have h2 := HQ.out; have h3 := HE3.out; omega) _ (by rw [(bit_wrap f (by omega)).1, HX.out]; exact u16_andNot_nat _ _ (by have := hasS_lt a; omega) (by have := (bit_wrap f (by omega)).2.1; omega))
end Go.Proofs.YtjlbchkdiaomjaaDoor.trie

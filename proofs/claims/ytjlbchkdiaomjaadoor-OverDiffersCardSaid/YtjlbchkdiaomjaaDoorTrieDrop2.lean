/- The node without a key: the recursion of drop. -/
import Derived.Test.YtjlbchkdiaomjaaDoorTrieDrop
namespace Go.Proofs.YtjlbchkdiaomjaaDoor.trie
open Go.RowKit mem tri mix

theorem drop_end {b c lv : Nat} {a : Nat → Tr} {k : Int} {r s : Tr} {w w3 w4 : World} {f : Nat} (hfe : f = nib k lv) (hr : DropT k (lv + 1) (a f) r) (hs : Slim r s) (hL : Lies w4.heap.size w4 (.kid c (tri.upd a f s))) (hb : Below w.heap.size w w3) (hb4 : Below w3.heap.size w3 w4) :
    DropEnd k lv (.kid b a) w (.returned (.pointer (some ⟨c, 0, none⟩))) w4 := by
  subst hfe
  exact ⟨c, _, rfl, DropT.kid lv b a c r s hr hs, hL, hb.trans (hb4.mono hb.size)⟩
/-- what a node's one arm is: a pair, or a further node, or there are not just one -/
theorem arms_are (a : Nat → Tr) : (∃ k v, subs a = [.pair k v]) ∨ (∃ c e, subs a = [.kid c e]) ∨ (subs a).length ≠ 1 := by
  by_cases h : (subs a).length = 1
  · match hs : subs a, h with
    | [t], _ =>
      have ht := subs_all a t (by rw [hs]; simp)
      cases t with
      | none => simp [isN] at ht
      | pair k v => exact .inl ⟨k, v, rfl⟩
      | kid c e => exact .inr (.inl ⟨c, e, rfl⟩)
  · exact .inr (.inr h)
set_option maxHeartbeats 2000000 in
set_option maxRecDepth 100000 in
theorem drop_any (B : Nat) : ∀ (d lv b : Nat) (a : Nat → Tr) (k : Int) (x : Nat) (w : World), lv + d = 16 → B ≤ w.heap.size → Laid B w → Lies w.heap.size w (.kid b a) → Ok (.kid b a) lv x → num k % 16 ^ lv = x → tri.get (.kid b a) lv k ≠ none →
    Calls Tryd.prog 41 #[.pointer (some ⟨b, 0, none⟩), .int .i64 k, .int .i64 lv] w (DropEnd k lv (.kid b a) w) := by
  intro d
  induction d with
  | zero =>
    intro lv b a k x w hd _ _ _ hok _ _
    have := hok.1
    omega
  | succ d ih =>
    intro lv b a k x w hd hB hT hL hok hx hget
    have hlv := hok.1
    rw [get_kid] at hget
    cases ht0 : a (nib k lv) with
    | none => rw [ht0] at hget; exact absurd rfl hget
    | pair l u =>
      rw [ht0, tri.get] at hget
      have hlk : l = k := by
        apply Classical.byContradiction
        intro h
        rw [if_neg h] at hget
        exact hget rfl
      rw [hlk] at ht0
      exact drop_leaf B lv b a k u w hlv hB hT hL ht0
    | kid c e =>
      have IH : Hid (∀ (W : World), B ≤ W.heap.size → Laid B W → Lies W.heap.size W (.kid c e) → Ok (.kid c e) (lv + 1) (x + 16 ^ lv * nib k lv) → Calls Tryd.prog 41 #[.pointer (some ⟨c, 0, none⟩), .int .i64 k, .int .i64 ((lv : Int) + 1)] W (DropEnd k (lv + 1) (.kid c e) W)) :=
        fun W h1 h2 h3 h4 => ih (lv + 1) c e k (x + 16 ^ lv * nib k lv) W (by omega) h1 h2 h3 h4 (by rw [num_step, hx]) (by rw [← ht0]; exact hget)
      clear ih
      have HO := Lib.hid hok
      have HT := Lib.hid hT
      have HL := Lib.hid hL
      obtain ⟨f, hfe⟩ : ∃ f, f = nib k lv := ⟨_, rfl⟩
      have hf := nib_lt k lv
      have ht := ht0
      rw [← hfe] at hf ht
      have HN := Lib.hid hfe
      have HTT := Lib.hid ht
      have HI : Hid (isN (a f) = false) := by show _ = _; rw [ht]; rfl
      have HV : Hid (armV (a f) = [.pointer (some ⟨c, 0, none⟩), .int .i64 0, .int .i64 0]) := by show _ = _; rw [ht]; rfl
      obtain ⟨p, hp⟩ : ∃ p, p = (pre a f).length := ⟨_, rfl⟩
      have HP := Lib.hid hp
      have e63 : (lv : Int) + 1 ≤ 9223372036854775807 := by omega
      clear hT hL hok hfe hp ht ht0 hget hd hx
      go_enter Tryd.func41, Tryd.ntmps41
      go_wp2_with (fail)
      refine (knib_on B k lv w _ hlv (Below.refl _ _) hB HT.out).mono ?_
      rintro e1 w1 ⟨rfl, hb1⟩
      rw [← HN.out]
      go_wp2_with (fail)
      refine (find_yes a b f p _ (by omega) HI.out HP.out ((HL.out.below hb1).has)).mono ?_
      rintro e1 w2 ⟨rfl, dd, hw2⟩
      have hbw2 : Below w.heap.size w w2 := by rw [hw2]; exact below_drewN hb1 dd
      clear hw2 hb1
      obtain ⟨g, o, cap, hg, hc1, hlt, hcells⟩ := (HL.out.below hbw2).arm hf HI.out
      rw [HV.out, ← HP.out] at hcells
      rw [← HP.out] at hlt
      have hr0 := hcells 0 _ rfl
      rw [Nat.add_zero] at hr0
      have h16 := subs_len a
      obtain ⟨n, hn⟩ : ∃ n, n = (subs a).length := ⟨_, rfl⟩
      rw [← hn] at hc1 hlt h16
      clear hcells hn
      have hz2 := hbw2.size
      have hkid : Hid (Lies w.heap.size w (.kid c e)) := by show Lies _ _ _; rw [← HTT.out]; exact HL.out.at f hf
      have hoc : Hid (Ok (.kid c e) (lv + 1) (x + 16 ^ lv * nib k lv)) := by show Ok _ _ _; rw [← HTT.out, HN.out]; exact HO.out.2 _ (nib_lt k lv)
      go_wp2_with (fail)
      refine (IH.out w2 (by omega) (HT.out.on (hbw2.mono hB)) ((hkid.out.below hbw2).more hz2) hoc.out).mono ?_
      rintro e1 w3 ⟨c2, a2, rfl, hdrop, hlies, hbb⟩
      have hb3 := hbw2.trans (hbb.mono hz2)
      obtain ⟨_, _, ⟨v2, hv2, hs2, _⟩, _⟩ := id hlies
      obtain ⟨A2, cap2, rfl⟩ := hs2.form
      have h162 := subs_len a2
      have HDrop := Lib.hid hdrop
      have HLies := Lib.hid hlies
      have HB3 := Lib.hid hb3
      clear hc1 hr0 hbb hdrop hlies hb3
      rcases arms_are a2 with ⟨l1, u1, h1⟩ | ⟨c1, e2, h1⟩ | h1
      · have HS := Lib.hid h1
        obtain ⟨g2, o2, cap3, hg2, hcell2, hrow2⟩ := HLies.out.row (by rw [h1]; simp)
        rw [h1] at hcell2 hrow2 hv2
        have q0 := hrow2 0 _ rfl
        have q1 := hrow2 1 _ rfl
        have q2 := hrow2 2 _ rfl
        rw [Nat.add_zero] at q0
        simp only [List.length_cons, List.length_nil, Nat.zero_add] at hcell2
        clear h1 hrow2 hv2 hs2
        go_wp2_with (fail)
        refine (with_at b f p a (.pair l1 u1) none l1 u1 _ ((HL.out.below HB3.out).more HB3.out.size) hf HI.out rfl rfl trivial HP.out).mono ?_
        rintro e1 w4 ⟨c3, rfl, hl4, hb4⟩
        have HL4 := Lib.hid hl4
        have HB4 := Lib.hid hb4
        clear hl4 hb4
        go_wp2_with (fail)
        go_ret
        exact drop_end HN.out (by rw [HTT.out]; exact HDrop.out) (slim_of HS.out) HL4.out HB3.out HB4.out
      · obtain ⟨g2, o2, cap3, hg2, hcell2, hrow2⟩ := HLies.out.row (by rw [h1]; simp)
        rw [h1] at hcell2 hrow2 hv2
        have q0 := hrow2 0 _ rfl
        rw [Nat.add_zero] at q0
        simp only [List.length_cons, List.length_nil, Nat.zero_add] at hcell2
        clear h1 hrow2 hv2 hs2
        go_wp2_with (fail)
        refine (with_at b f p a (.kid c2 a2) (some ⟨c2, 0, none⟩) 0 0 _ ((HL.out.below HB3.out).more HB3.out.size) hf HI.out rfl rfl HLies.out HP.out).mono ?_
        rintro e1 w4 ⟨c3, rfl, hl4, hb4⟩
        have HL4 := Lib.hid hl4
        have HB4 := Lib.hid hb4
        clear hl4 hb4
        go_wp2_with (fail)
        go_ret
        exact drop_end HN.out (by rw [HTT.out]; exact HDrop.out) (.inl rfl) HL4.out HB3.out HB4.out
      · obtain ⟨m2, hm2⟩ : ∃ m, m = (subs a2).length := ⟨_, rfl⟩
        rw [← hm2] at hv2 h1 h162
        have hne : ((m2 : Int) == 1) = false := by rw [beq_eq_false_iff_ne]; omega
        clear hm2 hs2
        go_wp2_with (fail)
        refine (with_at b f p a (.kid c2 a2) (some ⟨c2, 0, none⟩) 0 0 _ ((HL.out.below HB3.out).more HB3.out.size) hf HI.out rfl rfl HLies.out HP.out).mono ?_
        rintro e1 w4 ⟨c3, rfl, hl4, hb4⟩
        have HL4 := Lib.hid hl4
        have HB4 := Lib.hid hb4
        clear hl4 hb4
        go_wp2_with (fail)
        go_ret
        exact drop_end HN.out (by rw [HTT.out]; exact HDrop.out) (.inl rfl) HL4.out HB3.out HB4.out
end Go.Proofs.YtjlbchkdiaomjaaDoor.trie

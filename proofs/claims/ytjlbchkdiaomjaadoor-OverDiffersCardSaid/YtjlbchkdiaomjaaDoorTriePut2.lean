/- The node with a pair: the recursion of put. -/
import Derived.Test.YtjlbchkdiaomjaaDoorTriePutN
import Derived.Deep.RegionHeld3
namespace Go.Proofs.YtjlbchkdiaomjaaDoor.trie
open Go.RowKit mem tri mix

/-- what with makes of a node, told as a put's end -/
theorem put_end {b c lv : Nat} {a : Nat → Tr} {k v : Int} {r : Tr} {w w3 w4 : World} {f : Nat} (hfe : f = nib k lv) (hr : PutT k v (lv + 1) (a f) r) (hL : Lies w4.heap.size w4 (.kid c (tri.upd a f r))) (hb : Below w.heap.size w w3) (hb4 : Below w3.heap.size w3 w4) :
    PutEnd k v lv (.kid b a) w (.returned (.pointer (some ⟨c, 0, none⟩))) w4 := by
  subst hfe
  exact ⟨c, _, rfl, PutT.kid lv b a c r hr, hL, hb.trans (hb4.mono hb.size)⟩
theorem with_at (b f p : Nat) (a : Nat → Tr) (r : Tr) (q : Option Addr) (k v : Int) (w : World) (hL : Lies w.heap.size w (.kid b a)) (hf : f < 16) (ha : isN (a f) = false) (hr : isN r = false)
    (hv : armV r = [.pointer q, .int .i64 k, .int .i64 v]) (hrl : Lies w.heap.size w r) (hp : p = (pre a f).length) :
    Calls Tryd.prog 55 #[.pointer (some ⟨b, 0, none⟩), .int .i64 p, .agg #[.pointer q, .int .i64 k, .int .i64 v]] w fun e w' => ∃ c, e = .returned (.pointer (some ⟨c, 0, none⟩)) ∧ Lies w'.heap.size w' (.kid c (tri.upd a f r)) ∧ Below w.heap.size w w' := by
  subst hp; exact with_any b f a r q k v w hL hf ha hr hv hrl
set_option maxHeartbeats 2000000 in
set_option maxRecDepth 100000 in
theorem put_any (B : Nat) : ∀ (d lv b : Nat) (a : Nat → Tr) (k v : Int) (x : Nat) (w : World), lv + d = 16 → B ≤ w.heap.size → Laid B w → Lies w.heap.size w (.kid b a) → Ok (.kid b a) lv x → I64 k → num k % 16 ^ lv = x →
    Calls Tryd.prog 51 #[.pointer (some ⟨b, 0, none⟩), .agg #[.int .i64 k, .int .i64 v], .int .i64 lv] w (PutEnd k v lv (.kid b a) w) := by
  intro d
  induction d with
  | zero =>
    intro lv b a k v x w hd _ _ _ hok _ _
    have := hok.1
    omega
  | succ d ih =>
    intro lv b a k v x w hd hB hT hL hok hk hx
    have hlv := hok.1
    by_cases ha0 : isN (a (nib k lv)) = true
    · exact put_new B lv b a k v w hlv hB hT hL ha0
    · have ha : isN (a (nib k lv)) = false := by simpa using ha0
      have IH : Hid (∀ (b1 : Nat) (a1 : Nat → Tr) (W : World), B ≤ W.heap.size → Laid B W → Lies W.heap.size W (.kid b1 a1) → Ok (.kid b1 a1) (lv + 1) (x + 16 ^ lv * nib k lv) → Calls Tryd.prog 51 #[.pointer (some ⟨b1, 0, none⟩), .agg #[.int .i64 k, .int .i64 v], .int .i64 ((lv : Int) + 1)] W (PutEnd k v (lv + 1) (.kid b1 a1) W)) :=
        fun b1 a1 W h1 h2 h3 h4 => ih (lv + 1) b1 a1 k v (x + 16 ^ lv * nib k lv) W (by omega) h1 h2 h3 h4 hk (by rw [num_step, hx])
      clear ih
      have HX := Lib.hid (show num k % 16 ^ (lv + 1) = x + 16 ^ lv * nib k lv by rw [num_step, hx])
      have HO := Lib.hid hok
      have HK := Lib.hid hk
      have HT := Lib.hid hT
      have HL := Lib.hid hL
      have HXX := Lib.hid hx
      obtain ⟨f, hfe⟩ : ∃ f, f = nib k lv := ⟨_, rfl⟩
      have hf := nib_lt k lv
      rw [← hfe] at hf ha
      have HN := Lib.hid hfe
      have HI := Lib.hid ha
      obtain ⟨p, hp⟩ : ∃ p, p = (pre a f).length := ⟨_, rfl⟩
      have HP := Lib.hid hp
      have e63 : (lv : Int) + 1 ≤ 9223372036854775807 := by omega
      cases ht : a f with
      | none => rw [ht] at ha; simp [isN] at ha
      | kid c e =>
        have HTT := Lib.hid ht
        have HV : Hid (armV (a f) = [.pointer (some ⟨c, 0, none⟩), .int .i64 0, .int .i64 0]) := by show _ = _; rw [ht]; rfl
        clear ha0 ha hT hL hfe hp hok hk hx ht hd
        go_enter Tryd.func51, Tryd.ntmps51
        go_wp2_with (fail)
        have hb0 := (Below.refl w.heap.size w).alloc (Nat.le_refl _) (.cells #[.int .i64 k, .int .i64 v] 50)
        refine (knib_on B k lv w _ hlv hb0 hB HT.out).mono ?_
        rintro e1 w1 ⟨rfl, hb1⟩
        have d0 := (hb1.cell (p := ⟨w.heap.size, 0, none⟩) (by simp)).trans (show _ = some (.int .i64 k) by simp)
        have d1 := (hb1.cell (p := ⟨w.heap.size, 1, none⟩) (by simp)).trans (show _ = some (.int .i64 v) by simp)
        have hbw1 : Below w.heap.size w w1 := hb0.trans (hb1.mono (by simp))
        have hz1 := hb1.size
        rw [World.size_alloc] at hz1
        rw [← HN.out]
        go_wp2_with (fail)
        refine (find_yes a b f p _ (by omega) HI.out HP.out ((HL.out.below hbw1).has)).mono ?_
        rintro e1 w2 ⟨rfl, dd, hw2⟩
        have hbw2 : Below w.heap.size w w2 := by rw [hw2]; exact below_drewN hbw1 dd
        have c0 : w2.cell? ⟨w.heap.size, 0, none⟩ = some (.int .i64 k) := by rw [hw2]; exact d0
        have c1 : w2.cell? ⟨w.heap.size, 1, none⟩ = some (.int .i64 v) := by rw [hw2]; exact d1
        have hz2 : w.heap.size < w2.heap.size := by rw [hw2]; simp; omega
        clear hw2 d0 d1 hb1 hz1 hbw1
        obtain ⟨g, o, cap, hg, hc1, hlt, hcells⟩ := (HL.out.below hbw2).arm hf HI.out
        rw [HV.out, ← HP.out] at hcells
        rw [← HP.out] at hlt
        have hr0 := hcells 0 _ rfl
        have hr1 := hcells 1 _ rfl
        have hr2 := hcells 2 _ rfl
        rw [Nat.add_zero] at hr0
        have h16 := subs_len a
        obtain ⟨n, hn⟩ : ∃ n, n = (subs a).length := ⟨_, rfl⟩
        rw [← hn] at hc1 hlt h16
        clear hcells hn
        have hbl : b < w2.heap.size := by have := HL.out.1; omega
        go_wp2_with (fail)
        have hb3 : Below w.heap.size w (w2.alloc (.cells #[.pointer (some ⟨c, 0, none⟩), .int .i64 0, .int .i64 0] 84)) := hbw2.alloc (by omega) _
        have hkid : Lies w.heap.size w (.kid c e) := by rw [← HTT.out]; exact HL.out.at f hf
        have hoc : Ok (.kid c e) (lv + 1) (x + 16 ^ lv * nib k lv) := by rw [← HTT.out, HN.out]; exact HO.out.2 _ (nib_lt k lv)
        refine (IH.out c e _ (by simp; omega) (HT.out.on (hb3.mono hB)) ((hkid.below hb3).more (by simp; omega)) hoc).mono ?_
        rintro e1 w3 ⟨c2, a2, rfl, hput, hlies, hbb⟩
        have hb03 := hb3.trans (hbb.mono (by simp; omega))
        have HPut := Lib.hid hput
        have HLies := Lib.hid hlies
        have HB3 := Lib.hid hb03
        have hq0 := hbb.cell (p := ⟨b, 0, none⟩) (by simp; omega)
        clear hput hlies hb03 hkid hoc hbb hq0
        go_wp2_with (fail)
        refine (with_at b f p a (.kid c2 a2) (some ⟨c2, 0, none⟩) 0 0 _ ((HL.out.below HB3.out).more HB3.out.size) hf HI.out rfl rfl HLies.out HP.out).mono ?_
        rintro e1 w4 ⟨c3, rfl, hl4, hb4⟩
        have HL4 := Lib.hid hl4
        have HB4 := Lib.hid hb4
        clear hl4 hb4
        go_wp2_with (fail)
        go_ret
        exact put_end HN.out (by rw [HTT.out]; exact HPut.out) HL4.out HB3.out HB4.out
      | pair l u =>
        have HTT := Lib.hid ht
        have hol : I64 l ∧ num l % 16 ^ (lv + 1) = x + 16 ^ lv * nib k lv := by
          have h1 := hok.2 _ (nib_lt k lv)
          rw [← hfe, ht] at h1
          rw [← hfe]; exact h1
        by_cases hlk : l = k
        · have hkb : (l == k) = true := by rw [hlk]; simp
          have HLK := Lib.hid hlk
          have HV : Hid (armV (a f) = [.pointer none, .int .i64 l, .int .i64 u]) := by show _ = _; rw [ht]; rfl
          clear ha0 ha hT hL hfe hp hok hk hx ht hd hlk hol
          go_enter Tryd.func51, Tryd.ntmps51
          go_wp2_with (fail)
          have hb0 := (Below.refl w.heap.size w).alloc (Nat.le_refl _) (.cells #[.int .i64 k, .int .i64 v] 50)
          refine (knib_on B k lv w _ hlv hb0 hB HT.out).mono ?_
          rintro e1 w1 ⟨rfl, hb1⟩
          have d0 := (hb1.cell (p := ⟨w.heap.size, 0, none⟩) (by simp)).trans (show _ = some (.int .i64 k) by simp)
          have d1 := (hb1.cell (p := ⟨w.heap.size, 1, none⟩) (by simp)).trans (show _ = some (.int .i64 v) by simp)
          have hbw1 : Below w.heap.size w w1 := hb0.trans (hb1.mono (by simp))
          have hz1 := hb1.size
          rw [World.size_alloc] at hz1
          rw [← HN.out]
          go_wp2_with (fail)
          refine (find_yes a b f p _ (by omega) HI.out HP.out ((HL.out.below hbw1).has)).mono ?_
          rintro e1 w2 ⟨rfl, dd, hw2⟩
          have hbw2 : Below w.heap.size w w2 := by rw [hw2]; exact below_drewN hbw1 dd
          have c0 : w2.cell? ⟨w.heap.size, 0, none⟩ = some (.int .i64 k) := by rw [hw2]; exact d0
          have c1 : w2.cell? ⟨w.heap.size, 1, none⟩ = some (.int .i64 v) := by rw [hw2]; exact d1
          have hz2 : w.heap.size < w2.heap.size := by rw [hw2]; simp; omega
          clear hw2 d0 d1 hb1 hz1 hbw1
          obtain ⟨g, o, cap, hg, hc1, hlt, hcells⟩ := (HL.out.below hbw2).arm hf HI.out
          rw [HV.out, ← HP.out] at hcells
          rw [← HP.out] at hlt
          have hr0 := hcells 0 _ rfl
          have hr1 := hcells 1 _ rfl
          have hr2 := hcells 2 _ rfl
          rw [Nat.add_zero] at hr0
          have h16 := subs_len a
          obtain ⟨n, hn⟩ : ∃ n, n = (subs a).length := ⟨_, rfl⟩
          rw [← hn] at hc1 hlt h16
          clear hcells hn
          have hbl : b < w2.heap.size := by have := HL.out.1; omega
          go_wp2_with (fail)
          have hb3 : Below w.heap.size w (w2.alloc (.cells #[.pointer none, .int .i64 l, .int .i64 u] 84)) := hbw2.alloc (by omega) _
          have HB3 := Lib.hid hb3
          clear hb3
          refine (with_at b f p a (.pair k v) none k v _ ((HL.out.below HB3.out).more HB3.out.size) hf HI.out rfl rfl trivial HP.out).mono ?_
          rintro e1 w4 ⟨c3, rfl, hl4, hb4⟩
          have HL4 := Lib.hid hl4
          have HB4 := Lib.hid hb4
          clear hl4 hb4
          go_wp2_with (fail)
          go_ret
          exact put_end HN.out (by rw [HTT.out, HLK.out]; exact PutT.same _ _) HL4.out HB3.out HB4.out
        · have hkb : (l == k) = false := by rw [beq_eq_false_iff_ne]; exact hlk
          have hlv1 : lv + 1 ≤ 15 := lv_of hk hol.1 (by rw [num_step, hx]) hol.2 hlk
          have HLone : Hid (∀ W, Below w.heap.size w W → Calls Tryd.prog 50 #[.agg #[.int .i64 l, .int .i64 u], .int .i64 ((lv : Int) + 1)] W fun e w' => ∃ b0, e = .returned (.pointer (some ⟨b0, 0, none⟩)) ∧ Lies w'.heap.size w' (.kid b0 (tri.upd bare (nib l (lv + 1)) (.pair l u))) ∧ Below W.heap.size W w') :=
            fun W h => lone_any B l u (lv + 1) W hlv1 (by have := h.size; omega) (hT.on (h.mono hB))
          have HOK : Hid (∀ b0, Ok (.kid b0 (tri.upd bare (nib l (lv + 1)) (.pair l u))) (lv + 1) (x + 16 ^ lv * nib k lv)) := fun b0 => single_ok hol.1 hol.2 hlv1
          have HNE := Lib.hid hlk
          have HV : Hid (armV (a f) = [.pointer none, .int .i64 l, .int .i64 u]) := by show _ = _; rw [ht]; rfl
          clear ha0 ha hT hL hfe hp hok hk hx ht hd hlk hol
          go_enter Tryd.func51, Tryd.ntmps51
          go_wp2_with (fail)
          have hb0 := (Below.refl w.heap.size w).alloc (Nat.le_refl _) (.cells #[.int .i64 k, .int .i64 v] 50)
          refine (knib_on B k lv w _ hlv hb0 hB HT.out).mono ?_
          rintro e1 w1 ⟨rfl, hb1⟩
          have d0 := (hb1.cell (p := ⟨w.heap.size, 0, none⟩) (by simp)).trans (show _ = some (.int .i64 k) by simp)
          have d1 := (hb1.cell (p := ⟨w.heap.size, 1, none⟩) (by simp)).trans (show _ = some (.int .i64 v) by simp)
          have hbw1 : Below w.heap.size w w1 := hb0.trans (hb1.mono (by simp))
          have hz1 := hb1.size
          rw [World.size_alloc] at hz1
          rw [← HN.out]
          go_wp2_with (fail)
          refine (find_yes a b f p _ (by omega) HI.out HP.out ((HL.out.below hbw1).has)).mono ?_
          rintro e1 w2 ⟨rfl, dd, hw2⟩
          have hbw2 : Below w.heap.size w w2 := by rw [hw2]; exact below_drewN hbw1 dd
          have c0 : w2.cell? ⟨w.heap.size, 0, none⟩ = some (.int .i64 k) := by rw [hw2]; exact d0
          have c1 : w2.cell? ⟨w.heap.size, 1, none⟩ = some (.int .i64 v) := by rw [hw2]; exact d1
          have hz2 : w.heap.size < w2.heap.size := by rw [hw2]; simp; omega
          clear hw2 d0 d1 hb1 hz1 hbw1
          obtain ⟨g, o, cap, hg, hc1, hlt, hcells⟩ := (HL.out.below hbw2).arm hf HI.out
          rw [HV.out, ← HP.out] at hcells
          rw [← HP.out] at hlt
          have hr0 := hcells 0 _ rfl
          have hr1 := hcells 1 _ rfl
          have hr2 := hcells 2 _ rfl
          rw [Nat.add_zero] at hr0
          have h16 := subs_len a
          obtain ⟨n, hn⟩ : ∃ n, n = (subs a).length := ⟨_, rfl⟩
          rw [← hn] at hc1 hlt h16
          clear hcells hn
          have hbl : b < w2.heap.size := by have := HL.out.1; omega
          go_wp2_with (fail)
          obtain ⟨W3, hW3⟩ : ∃ W, W = w2.alloc (.cells #[.pointer none, .int .i64 l, .int .i64 u] 84) := ⟨_, rfl⟩
          have hb3 : Below w.heap.size w W3.drew := by rw [hW3]; exact (hbw2.alloc (by omega) _).drew
          have hz3 : w2.heap.size < W3.heap.size := by rw [hW3]; simp
          have a0 : W3.cell? ⟨w2.heap.size, 0, none⟩ = some (.pointer none) := by rw [hW3]; simp
          have a1 : W3.cell? ⟨w2.heap.size, 1, none⟩ = some (.int .i64 l) := by rw [hW3]; simp
          have a2 : W3.cell? ⟨w2.heap.size, 2, none⟩ = some (.int .i64 u) := by rw [hW3]; simp
          have c0 : W3.cell? ⟨w.heap.size, 0, none⟩ = some (.int .i64 k) := by rw [hW3]; exact Lib.cell?_alloc_some _ c0
          have c1 : W3.cell? ⟨w.heap.size, 1, none⟩ = some (.int .i64 v) := by rw [hW3]; exact Lib.cell?_alloc_some _ c1
          rw [← hW3]
          clear hW3 hr0 hr1 hr2 hc1
          have i0 : IntKind.i64.wrap ((lv : Int) + 1) = (lv : Int) + 1 := IntWalk.i64_in _ (by omega)
          have hbw := hb3.size
          rw [World.size_drew] at hbw
          go_region_held3 (fun w' => w'.cell? ⟨w.heap.size, 0, none⟩ = some (.int .i64 k) ∧ w'.cell? ⟨w.heap.size, 1, none⟩ = some (.int .i64 v) ∧ w'.cell? ⟨w2.heap.size, 0, none⟩ = some (.pointer none) ∧ w'.cell? ⟨w2.heap.size, 1, none⟩ = some (.int .i64 l) ∧ w'.cell? ⟨w2.heap.size, 2, none⟩ = some (.int .i64 u)) (first | go_keep)
            (first
              | (go_at_call 50; refine (HLone.out _ hb3).mono ?_; rintro e1 w4 ⟨b0, rfl, hl4, hb4⟩; have hbw4 : Below w.heap.size w w4 := hb3.trans (hb4.mono hb3.size); have hz4 : B ≤ w4.heap.size := Nat.le_trans hB hbw4.size; have hs4 := hb4.size; rw [World.size_drew] at hs4; have hb4q0 := hb4.cell (p := ⟨w.heap.size, 0, none⟩) (by simp; omega); have hb4q1 := hb4.cell (p := ⟨w.heap.size, 1, none⟩) (by simp; omega); have hb4q2 := hb4.cell (p := ⟨w2.heap.size, 0, none⟩) (by simp; omega); have hb4q3 := hb4.cell (p := ⟨w2.heap.size, 1, none⟩) (by simp; omega); have hb4q4 := hb4.cell (p := ⟨w2.heap.size, 2, none⟩) (by simp; omega))
              | (go_at_call 55; refine (with_at b f p a (.kid c2 a2) (some ⟨c2, 0, none⟩) 0 0 _ ((HL.out.below hbw5).more hbw5.size) hf HI.out rfl rfl hl5 HP.out).mono ?_; rintro e1 w6 ⟨c3, rfl, hl6, hb6⟩; have hs6 := hb6.size; have hb6q0 := hb6.cell (p := ⟨w.heap.size, 0, none⟩) (by dsimp only; omega); have hb6q1 := hb6.cell (p := ⟨w.heap.size, 1, none⟩) (by dsimp only; omega); have hb6q2 := hb6.cell (p := ⟨w2.heap.size, 0, none⟩) (by dsimp only; omega); have hb6q3 := hb6.cell (p := ⟨w2.heap.size, 1, none⟩) (by dsimp only; omega); have hb6q4 := hb6.cell (p := ⟨w2.heap.size, 2, none⟩) (by dsimp only; omega))
              | (go_at_call 51; refine (IH.out b0 _ w4 hz4 (HT.out.on (hbw4.mono hB)) hl4 (HOK.out b0)).mono ?_; rintro e1 w5 ⟨c2, a2, rfl, hput, hl5, hb5⟩; have hbw5 : Below w.heap.size w w5 := hbw4.trans (hb5.mono hbw4.size); have hs5 := hb5.size; have hb5q0 := hb5.cell (p := ⟨w.heap.size, 0, none⟩) (by dsimp only; omega); have hb5q1 := hb5.cell (p := ⟨w.heap.size, 1, none⟩) (by dsimp only; omega); have hb5q2 := hb5.cell (p := ⟨w2.heap.size, 0, none⟩) (by dsimp only; omega); have hb5q3 := hb5.cell (p := ⟨w2.heap.size, 1, none⟩) (by dsimp only; omega); have hb5q4 := hb5.cell (p := ⟨w2.heap.size, 2, none⟩) (by dsimp only; omega)))
          have HPut := Lib.hid (PutT.split (lv + 1) l u b0 _ HNE.out hput)
          have HL6 := Lib.hid hl6
          have HB5 := Lib.hid hbw5
          have HB6 := Lib.hid hb6
          clear hb4q0 hb4q1 hb4q2 hb4q3 hb4q4 hb5q0 hb5q1 hb5q2 hb5q3 hb5q4 hb6q0 hb6q1 hb6q2 hb6q3 hb6q4 a0 a1 c0 c1 i0
          go_wp2
          go_ret
          exact put_end HN.out (by rw [HTT.out]; exact HPut.out) HL6.out HB5.out HB6.out
end Go.Proofs.YtjlbchkdiaomjaaDoor.trie

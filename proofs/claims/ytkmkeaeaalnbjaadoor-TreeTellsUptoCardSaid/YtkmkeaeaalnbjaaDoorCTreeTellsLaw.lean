/- The law on what any node is, and all below it. -/
import Derived.Test.YtkmkeaeaalnbjaaDoorCTreeWorks
namespace Go.Proofs.YtkmkeaeaalnbjaaDoor.nt
open Go.RowKit mem wd lx

/-- at most one of the three -/
theorem one_of (t : NT) : (t.typ = false ∧ t.expr = false ∧ t.stmt = false) ∨ (t.typ = true ∧ t.expr = false ∧ t.stmt = false) ∨ (t.typ = false ∧ t.expr = true ∧ t.stmt = false) ∨ (t.typ = false ∧ t.expr = false ∧ t.stmt = true) := by
  cases h1 : t.typ
  · cases h2 : t.expr
    · cases h3 : t.stmt <;> simp
    · cases h3 : t.stmt
      · simp
      · have := expr_kind h2; have := stmt_kind h3; omega
  · have k1 := typ_kind h1
    cases h2 : t.expr
    · cases h3 : t.stmt
      · simp
      · have := stmt_kind h3; omega
    · have := expr_kind h2; omega
def TtRel (W : World) (N : Nat) (i : Value) (wr : World) : Prop := ∃ k : Nat, k ≤ N ∧ i = .int .i64 k ∧ Below W.heap.size W wr
set_option maxHeartbeats 4000000 in
set_option maxRecDepth 100000 in
theorem tells_law (G : Nat → Prop) (t : NT) (hd : Hd t) (hz : t.size ≤ 1048576) (s : Value) (w : World) (hL : LD w) (h : Kids G w t.kids s) :
    Calls Tryd.prog 3 #[.agg #[.int .i64 t.kind, .int .i64 t.at_, .int .i64 t.num, .string ⟨t.name.toArray⟩, s]] w fun e w' => e = .returned (.bool true) ∧ Below w.heap.size w w' := by
  obtain ⟨W, hW⟩ : ∃ W, W = w.alloc (.cells #[.int .i64 t.kind, .int .i64 t.at_, .int .i64 t.num, .string ⟨t.name.toArray⟩, s] NodeT) := ⟨_, rfl⟩
  obtain ⟨K, hK⟩ : ∃ K, K = w.heap.size := ⟨_, rfl⟩
  have hbW : Below w.heap.size w W := by rw [hW]; exact (Below.refl _ _).alloc (Nat.le_refl _) _
  have hn : NodeAt W K t s := by rw [hW, hK]; exact NodeAt.new w t s
  have hk0 : Kids G W t.kids s := h.below hbW
  have HLW := Lib.hid (fun w' (hb : Below W.heap.size W w') => (hL.on hbW).on hb)
  have HWK := Lib.hid (pworks_any W (hL.on hbW))
  have HC : Hid (∀ w', Below W.heap.size W w' → NodeAt w' K t s) := Lib.hid fun w' hb => hn.below hb
  have HSM := Lib.hid (fun w' (hb : Below W.heap.size W w') => psmall_any G t hd (by omega) s w' (hk0.below hb))
  have HWA := Lib.hid (fun w' (hb : Below W.heap.size W w') => rwalk_any (G := G) t hd s w' (hk0.below hb) (by omega))
  have HB := Lib.hid hbW
  have HW := Lib.hid hW
  have HKK := Lib.hid hK
  have HZ := Lib.hid hz
  clear hbW hK hW hn h hL hk0 hz
  go_enter Tryd.func3, Tryd.ntmps3
  go_wp2_with (first | (rw [← HW.out, ← HKK.out]))
  refine HWK.out.mono ?_
  rintro e w1 ⟨rfl, hb1⟩
  obtain ⟨a0, a1, a2, a3, a4⟩ := HC.out w1 hb1
  have HS1 := Lib.hid (HSM.out w1 hb1)
  have HB1 := Lib.hid hb1
  clear hb1 HWK HSM
  go_wp2_with (fail)
  refine HS1.out.mono ?_
  rintro e w2 ⟨rfl, hb2⟩
  have HB2 := Lib.hid (HB1.out.trans (hb2.mono HB1.out.size))
  clear hb2 HB1 HS1 a0 a1 a2 a3 a4
  by_cases h4 : 400 < t.size
  · rw [if_pos h4]
    have HWK := Lib.hid (pworks_any w2 (HLW.out w2 HB2.out))
    go_wp2_with (fail)
    refine HWK.out.mono ?_
    rintro e w3 ⟨rfl, hb3⟩
    go_wp2_with (fail)
    go_ret
    exact ⟨rfl, HB.out.trans ((HB2.out.trans (hb3.mono HB2.out.size)).mono HB.out.size)⟩
  rw [if_neg h4]
  obtain ⟨a0, a1, a2, a3, a4⟩ := HC.out w2 HB2.out
  have HWL := Lib.hid (HWA.out w2 HB2.out)
  clear HWA HC
  go_wp2_with (fail)
  refine HWL.out.mono ?_
  intro e w3 hp
  unfold WalkPost at hp
  obtain ⟨v, rfl, ho, hb3⟩ := hp
  have HB3 := Lib.hid (HB2.out.trans (hb3.mono HB2.out.size))
  have hks : Kids (fun _ => True) w3 t.walk v := ho.kids (fun _ _ => trivial) (fun _ _ => trivial)
  have HKS := Lib.hid hks
  have HHD := Lib.hid hks.head
  obtain ⟨A, c, rfl⟩ := ho.form
  obtain ⟨N, hN⟩ : ∃ N, N = t.walk.length := ⟨_, rfl⟩
  have hNz : N ≤ 400 := by rw [hN, walk_len]; omega
  rw [← hN] at HKS ⊢
  have HN := Lib.hid hN
  clear hks hb3 ho hN HWL a0 a1 a2 a3 a4
  go_wp2_with (fail)
  go_loopw [4] (fun i wr => TtRel w3 N i wr) (fun i _ => N - (intOf i).toNat)
  case atStart => unfold TtRel; exact ⟨0, Nat.zero_le _, rfl, Below.refl _ _⟩
  case round =>
    unfold TtRel at hrel
    obtain ⟨k, hk, rfl, hb⟩ := hrel
    by_cases hlt : k < N
    · have hlt' : (k : Int) < (N : Int) := by omega
      have hk0 : (0 : Int) ≤ (k : Int) := by omega
      have hkl : k < t.walk.length := by rw [← HN.out]; exact hlt
      obtain ⟨b, off, cap, s', hs, hblt, hdk, c0, c1, c2, c3, c4, hkk⟩ := Kids.kid HKS.out hb k hkl
      injection hs with hs1 hs2 hs3
      subst hs1
      clear hs2 hs3
      have hsz : t.walk[k].size ≤ 1073741824 := by
        have h1 := walk_sub t _ (List.getElem_mem hkl)
        have := HZ.out
        omega
      obtain ⟨u, hu⟩ : ∃ u, u = t.walk[k] := ⟨_, rfl⟩
      rw [← hu] at hdk c0 c1 c2 c3 hkk hsz
      have hcel : ∀ w', Below wr.heap.size wr w' → w'.cell? ⟨b, off + k * 5, none⟩ = some (.int .i64 u.kind) ∧ w'.cell? ⟨b, off + k * 5 + 1, none⟩ = some (.int .i64 u.at_) ∧ w'.cell? ⟨b, off + k * 5 + 2, none⟩ = some (.int .i64 u.num) ∧ w'.cell? ⟨b, off + k * 5 + 3, none⟩ = some (.string ⟨u.name.toArray⟩) ∧ w'.cell? ⟨b, off + k * 5 + 4, none⟩ = some s' := fun w' hb' =>
        ⟨(hb'.cell (p := ⟨b, off + k * 5, none⟩) hblt).trans c0, (hb'.cell (p := ⟨b, off + k * 5 + 1, none⟩) hblt).trans c1, (hb'.cell (p := ⟨b, off + k * 5 + 2, none⟩) hblt).trans c2, (hb'.cell (p := ⟨b, off + k * 5 + 3, none⟩) hblt).trans c3, (hb'.cell (p := ⟨b, off + k * 5 + 4, none⟩) hblt).trans c4⟩
      have HCE := Lib.hid hcel
      have hLr : ∀ w', Below wr.heap.size wr w' → LD w' := fun w' hb' => HLW.out w' ((HB3.out.trans (hb.mono HB3.out.size)).trans (hb'.mono (Nat.le_trans HB3.out.size hb.size)))
      have call : ∀ {F : FuncId} {f : NT → Bool}, IsP F f → ∀ w', Below wr.heap.size wr w' → Calls Tryd.prog F #[.agg #[.int .i64 u.kind, .int .i64 u.at_, .int .i64 u.num, .string ⟨u.name.toArray⟩, s']] w' fun e w'' => Told wr (f u) e w'' := fun hF w' hb' => (hF _ u hdk hsz s' w' (hLr w' hb') (hkk.below hb')).mono fun e w'' ⟨h1, h2⟩ => ⟨h1, hb'.trans (h2.mono hb'.size)⟩
      have H1 := Lib.hid (call ptyp_any)
      have H2 := Lib.hid (call pexpr_any)
      have H3 := Lib.hid (call pstmt_any)
      have H4 : Hid (∀ w', Below wr.heap.size wr w' → Calls Tryd.prog 13 #[.agg #[.int .i64 u.kind, .int .i64 u.at_, .int .i64 u.num, .string ⟨u.name.toArray⟩, s']] w' fun e w'' => Told wr true e w'') := Lib.hid (fun w' hb' => (is_any _ u hdk hsz s' w' (hLr w' hb') (hkk.below hb')).mono fun e w'' ⟨h1, h2⟩ => ⟨h1, hb'.trans (h2.mono hb'.size)⟩)
      have hor := one_of u
      obtain ⟨g1, e1⟩ : ∃ g, g = u.typ := ⟨_, rfl⟩
      obtain ⟨g2, e2⟩ : ∃ g, g = u.expr := ⟨_, rfl⟩
      obtain ⟨g3, e3⟩ : ∃ g, g = u.stmt := ⟨_, rfl⟩
      rw [← e1] at H1 hor
      rw [← e2] at H2 hor
      rw [← e3] at H3 hor
      have HBR := Lib.hid hb
      clear hu hcel hLr call hkk hdk hsz e1 e2 e3 hb hblt
      rcases hor with ⟨rfl, rfl, rfl⟩ | ⟨rfl, rfl, rfl⟩ | ⟨rfl, rfl, rfl⟩ | ⟨rfl, rfl, rfl⟩
      all_goals
        go_wp2_with (fail)
        refine (H1.out wr (Below.refl _ _)).mono ?_
        rintro e w4 ⟨rfl, hb4⟩
        obtain ⟨p0, p1, p2, p3, p4⟩ := HCE.out w4 hb4
        have HT2 := Lib.hid (H2.out w4 hb4)
        clear hb4
        go_wp2_with (fail)
        refine HT2.out.mono ?_
        rintro e w5 ⟨rfl, hb5⟩
        obtain ⟨q0, q1, q2, q3, q4⟩ := HCE.out w5 hb5
        have HT3 := Lib.hid (H3.out w5 hb5)
        clear hb5 HT2
        go_wp2_with (fail)
        refine HT3.out.mono ?_
        rintro e w6 ⟨rfl, hb6⟩
        obtain ⟨r0, r1, r2, r3, r4⟩ := HCE.out w6 hb6
        have HT4 := Lib.hid (H4.out w6 hb6)
        clear hb6 HT3
        go_wp2_with (fail)
        refine HT4.out.mono ?_
        rintro e w7 ⟨rfl, hb7⟩
        have HB7 := Lib.hid (HBR.out.trans (hb7.mono HBR.out.size))
        clear hb7 HT4
        go_wp2_with (fail)
        go_roundw
        case rel => unfold TtRel; exact ⟨k + 1, by omega, by go_num, HB7.out⟩
        case measure => simp [intOf]; omega
    · obtain rfl : k = N := by omega
      have HE := Lib.hid (HB.out.trans ((HB3.out.trans (hb.mono HB3.out.size)).mono HB.out.size))
      have hlt' : ¬ (k : Int) < (k : Int) := by omega
      clear hb
      go_wp2_with (fail)
      go_ret
      exact ⟨rfl, HE.out⟩
end Go.Proofs.YtkmkeaeaalnbjaaDoor.nt

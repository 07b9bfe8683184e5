/- The law's functions is and Small. -/
import Derived.Test.YtkmkeaeaalnbjaaDoorCTreeCon
import Derived.Deep.RegionHeld3
namespace Go.Proofs.YtkmkeaeaalnbjaaDoor.nt
open Go.RowKit mem wd lx

/-- a node in its own block -/
def NodeAt (w : World) (K : Nat) (t : NT) (s : Value) : Prop :=
  w.cell? ⟨K, 0, none⟩ = some (.int .i64 t.kind) ∧ w.cell? ⟨K, 1, none⟩ = some (.int .i64 t.at_) ∧ w.cell? ⟨K, 2, none⟩ = some (.int .i64 t.num) ∧ w.cell? ⟨K, 3, none⟩ = some (.string ⟨t.name.toArray⟩) ∧ w.cell? ⟨K, 4, none⟩ = some s
theorem NodeAt.below {w w' : World} {K : Nat} {t : NT} {s : Value} (h : NodeAt w K t s) (hb : Below w.heap.size w w') : NodeAt w' K t s := by
  have hk : ∀ o u, w.cell? ⟨K, o, none⟩ = some u → w'.cell? ⟨K, o, none⟩ = some u := fun o u hc => (hb.cell (p := ⟨K, o, none⟩) (World.block_lt_of_cell? _ _ hc)).trans hc
  exact ⟨hk _ _ h.1, hk _ _ h.2.1, hk _ _ h.2.2.1, hk _ _ h.2.2.2.1, hk _ _ h.2.2.2.2⟩
theorem NodeAt.new (w : World) (t : NT) (s : Value) : NodeAt (w.alloc (.cells #[.int .i64 t.kind, .int .i64 t.at_, .int .i64 t.num, .string ⟨t.name.toArray⟩, s] NodeT)) w.heap.size t s := by
  have hb : Box (w.alloc (.cells #[.int .i64 t.kind, .int .i64 t.at_, .int .i64 t.num, .string ⟨t.name.toArray⟩, s] NodeT)) w.heap.size NodeT #[.int .i64 t.kind, .int .i64 t.at_, .int .i64 t.num, .string ⟨t.name.toArray⟩, s] := Box.new _ _ _ _ rfl
  exact ⟨hb.cell 0, hb.cell 1, hb.cell 2, hb.cell 3, hb.cell 4⟩
def Told (W : World) (b : Bool) (e : Ending) (w' : World) : Prop := e = .returned (.bool b) ∧ Below W.heap.size W w'
set_option maxHeartbeats 4000000 in
set_option maxRecDepth 100000 in
theorem is_any (G : Nat → Prop) (t : NT) (hd : Hd t) (hz : t.size ≤ 1073741824) (s : Value) (w : World) (hL : LD w) (h : Kids G w t.kids s) :
    Calls Tryd.prog 13 #[.agg #[.int .i64 t.kind, .int .i64 t.at_, .int .i64 t.num, .string ⟨t.name.toArray⟩, s]] w fun e w' => e = .returned (.bool true) ∧ Below w.heap.size w w' := by
  obtain ⟨W, hW⟩ : ∃ W, W = w.alloc (.cells #[.int .i64 t.kind, .int .i64 t.at_, .int .i64 t.num, .string ⟨t.name.toArray⟩, s] NodeT) := ⟨_, rfl⟩
  obtain ⟨K, hK⟩ : ∃ K, K = w.heap.size := ⟨_, rfl⟩
  have hbW : Below w.heap.size w W := by rw [hW]; exact (Below.refl _ _).alloc (Nat.le_refl _) _
  have hn : NodeAt W K t s := by rw [hW, hK]; exact NodeAt.new w t s
  have hk : Kids G W t.kids s := h.below hbW
  have hLW := hL.on hbW
  have call : ∀ {F : FuncId} {f : NT → Bool}, IsP F f → ∀ w', Below W.heap.size W w' → Calls Tryd.prog F #[.agg #[.int .i64 t.kind, .int .i64 t.at_, .int .i64 t.num, .string ⟨t.name.toArray⟩, s]] w' fun e w'' => Told W (f t) e w'' := fun hF w' hb => (hF G t hd hz s w' (hLW.on hb) (hk.below hb)).mono fun e w'' ⟨h1, h2⟩ => ⟨h1, hb.trans (h2.mono hb.size)⟩
  have callr : ∀ {F : FuncId} {f : NT → Bool}, IsOf G F f t → ∀ w', Below W.heap.size W w' → Calls Tryd.prog F #[.agg #[.int .i64 t.kind, .int .i64 t.at_, .int .i64 t.num, .string ⟨t.name.toArray⟩, s]] w' fun e w'' => Told W (f t) e w'' := fun hF w' hb => (hF hd s w' (hk.below hb)).mono fun e w'' ⟨h1, h2⟩ => ⟨h1, hb.trans (h2.mono hb.size)⟩
  have H1 := Lib.hid (call ptyp_any)
  have H2 := Lib.hid (callr (rtyp_any (G := G) t))
  have H3 := Lib.hid (call pexpr_any)
  have H4 := Lib.hid (callr (rexpr_any (G := G) t))
  have H5 := Lib.hid (call pstmt_any)
  have H6 := Lib.hid (callr (rstmt_any (G := G) t))
  have H7 := Lib.hid (call pdecl_any)
  have H8 := Lib.hid (callr (rdecl_any (G := G) t))
  have H9 := Lib.hid (call pprog_any)
  have H10 := Lib.hid (callr (rprog_any (G := G) t))
  have HC : Hid (∀ w', Below W.heap.size W w' → NodeAt w' K t s) := Lib.hid fun w' hb => hn.below hb
  have HB := Lib.hid hbW
  have HW := Lib.hid hW
  have HKK := Lib.hid hK
  clear call callr hLW hk hbW hK hW hn h hL
  obtain ⟨b1, e1⟩ : ∃ b, b = t.typ := ⟨_, rfl⟩
  obtain ⟨b2, e2⟩ : ∃ b, b = t.expr := ⟨_, rfl⟩
  obtain ⟨b3, e3⟩ : ∃ b, b = t.stmt := ⟨_, rfl⟩
  obtain ⟨b4, e4⟩ : ∃ b, b = declN t := ⟨_, rfl⟩
  obtain ⟨b5, e5⟩ : ∃ b, b = progN t := ⟨_, rfl⟩
  rw [← e1] at H1 H2
  rw [← e2] at H3 H4
  rw [← e3] at H5 H6
  rw [← e4] at H7 H8
  rw [← e5] at H9 H10
  clear e1 e2 e3 e4 e5
  have hB0 : Below W.heap.size W W := Below.refl _ _
  obtain ⟨a0, a1, a2, a3, a4⟩ := HC.out W hB0
  go_enter Tryd.func13, Tryd.ntmps13
  go_wp2_with (first | (rw [← HW.out, ← HKK.out]))
  go_region_held3 (fun w' => w'.cell? ⟨K, 0, none⟩ = some (.int .i64 t.kind) ∧ w'.cell? ⟨K, 1, none⟩ = some (.int .i64 t.at_) ∧ w'.cell? ⟨K, 2, none⟩ = some (.int .i64 t.num) ∧ w'.cell? ⟨K, 3, none⟩ = some (.string ⟨t.name.toArray⟩) ∧ w'.cell? ⟨K, 4, none⟩ = some s) (first | go_keep)
    (first
      | (go_at_call 10; (with_reducible refine (H1.out _ (Below.refl _ W).drew).mono ?_); rintro e w1 ⟨rfl, hb1⟩; obtain ⟨p0, p1, p2, p3, p4⟩ := HC.out w1 hb1)
      | (go_at_call 31; (with_reducible refine (H2.out w1 hb1).mono ?_); rintro e w2 ⟨rfl, hb2⟩; obtain ⟨q0, q1, q2, q3, q4⟩ := HC.out w2 hb2)
      | (go_at_call 11; (with_reducible refine (H3.out w2 hb2).mono ?_); rintro e w3 ⟨rfl, hb3⟩; obtain ⟨r0, r1, r2, r3, r4⟩ := HC.out w3 hb3)
      | (go_at_call 32; (with_reducible refine (H4.out w3 hb3).mono ?_); rintro e w4 ⟨rfl, hb4⟩; obtain ⟨s0, s1, s2, s3, s4⟩ := HC.out w4 hb4)
      | (go_at_call 12; (with_reducible refine (H5.out w4 hb4).mono ?_); rintro e w5 ⟨rfl, hb5⟩; obtain ⟨t0, t1, t2, t3, t4⟩ := HC.out w5 hb5)
      | (go_at_call 33; (with_reducible refine (H6.out w5 hb5).mono ?_); rintro e w6 ⟨rfl, hb6⟩; obtain ⟨u0, u1, u2, u3, u4⟩ := HC.out w6 hb6)
      | (go_at_call 34; (with_reducible refine (H7.out w6 hb6).mono ?_); rintro e w7 ⟨rfl, hb7⟩; obtain ⟨v0, v1, v2, v3, v4⟩ := HC.out w7 hb7)
      | (go_at_call 35; (with_reducible refine (H8.out w7 hb7).mono ?_); rintro e w8 ⟨rfl, hb8⟩; obtain ⟨x0, x1, x2, x3, x4⟩ := HC.out w8 hb8)
      | (go_at_call 16; (with_reducible refine (H9.out w8 hb8).mono ?_); rintro e w9 ⟨rfl, hb9⟩; obtain ⟨y0, y1, y2, y3, y4⟩ := HC.out w9 hb9)
      | (go_at_call 36; (with_reducible refine (H10.out w9 hb9).mono ?_); rintro e w10 ⟨rfl, hb10⟩; obtain ⟨z0, z1, z2, z3, z4⟩ := HC.out w10 hb10))
  have HE := Lib.hid (HB.out.trans (hb10.mono HB.out.size))
  clear hb1 hb2 hb3 hb4 hb5 hb6 hb7 hb8 hb9 hb10
  go_wp2_with (fail)
  go_ret
  exact ⟨rfl, HE.out⟩
end Go.Proofs.YtkmkeaeaalnbjaaDoor.nt

/- What grows of seeds: types. -/
import Derived.Test.YtkmkeaeaalnbjaaDoorCGrowSeed
namespace Go.Proofs.YtkmkeaeaalnbjaaDoor.nt
open Go.RowKit mem wd lx
open vt (I64 own_base own_form own_below)

/-- a node that has grown: it is what f says, it and the numbers used for it are no more than K, its memory is new -/
def GrowPost (f : NT → Bool) (K p u : Nat) (sl : Value) (w : World) (e : Ending) (w' : World) : Prop :=
  ∃ (t : NT) (s : Value) (u' : Nat), e = .returned (.agg #[.int .i64 t.kind, .int .i64 t.at_, .int .i64 t.num, .string ⟨t.name.toArray⟩, s]) ∧ f t = true ∧ Hd t ∧ t.size ≤ K ∧ Kids (fun b => w.heap.size ≤ b) w' t.kids s ∧ Sd w' p sl u' ∧ u' ≤ u + K ∧ w.grownBy w' (some p)
theorem node_ret {fn : Func} (hr : fn.results = #[ResultVar.cell 4 NodeT]) {tm : Array Value} {w2 : World} {R : Nat} {a b c d e : Value} (h4 : tm.getD 4 undef = .pointer (some ⟨R, 0, none⟩)) (hb : Box w2 R NodeT #[a, b, c, d, e]) :
    (results fn tm).run Tryd.prog w2 = .ok (.agg #[a, b, c, d, e]) w2 := by
  have x0 := hb.cell 0
  have x1 := hb.cell 1
  have x2 := hb.cell 2
  have x3 := hb.cell 3
  have x4 := hb.cell 4
  simp only [List.getElem?_toArray, List.getElem?_cons_zero, List.getElem?_cons_succ] at x0 x1 x2 x3 x4
  have h4' : tm[4]?.getD undef = .pointer (some ⟨R, 0, none⟩) := by simpa using h4
  simp [results, hr, go_sem, h4', x0, x1, x2, x3, x4]
abbrev five (w : World) (R : Nat) (a b c d e : Value) : World := ((((w.setCell ⟨R, 0, none⟩ a).setCell ⟨R, 1, none⟩ b).setCell ⟨R, 2, none⟩ c).setCell ⟨R, 3, none⟩ d).setCell ⟨R, 4, none⟩ e
theorem box_five {w : World} {R : Nat} {x y z u v : Value} (h : Box w R NodeT #[x, y, z, u, v]) (a b c d e : Value) : Box (five w R a b c d e) R NodeT #[a, b, c, d, e] := ((((h.set 0 a).set 1 b).set 2 c).set 3 d).set 4 e
theorem grow_five {w w1 : World} {p R : Nat} (h : w.grownBy w1 (some p)) (hR : w.heap.size ≤ R) (a b c d e : Value) : w.grownBy (five w1 R a b c d e) (some p) :=
  grow_set (grow_set (grow_set (grow_set (grow_set h (Or.inr hR) a) (Or.inr hR) b) (Or.inr hR) c) (Or.inr hR) d) (Or.inr hR) e
theorem five_cell (w : World) (R : Nat) (a b c d e : Value) (g o : Nat) (h : g ≠ R) : (five w R a b c d e).cell? ⟨g, o, none⟩ = w.cell? ⟨g, o, none⟩ := by
  unfold five
  rw [vt.cell_set_other _ _ _ _ _ _ h, vt.cell_set_other _ _ _ _ _ _ h, vt.cell_set_other _ _ _ _ _ _ h, vt.cell_set_other _ _ _ _ _ _ h, vt.cell_set_other _ _ _ _ _ _ h]
theorem kids_five {G : Nat → Prop} {w : World} {l : List NT} {s : Value} {R : Nat} (h : Kids G w l s) (hR : ∀ b, G b → b ≠ R) (a b c d e : Value) : Kids G (five w R a b c d e) l s :=
  h.keep fun b' o hG _ => five_cell w R a b c d e b' o (hR b' hG)
theorem sd_five {w0 w : World} {p u0 u R : Nat} {sl : Value} (h0 : Sd w0 p sl u0) (h : Sd w p sl u) (hR : p ≠ R) (a b c d e : Value) (hg : w0.grownBy (five w R a b c d e) (some p)) : Sd (five w R a b c d e) p sl u :=
  h0.keep hg (((((h.1.far hR a).far hR b).far hR c).far hR d).far hR e)
/-- what a node that is told at the end of its function comes to: from the world w0 of the call; the result's own block is R -/
theorem grow_end {f : NT → Bool} {K p u u1 R : Nat} {sl : Value} {w0 w : World} {t : NT} {s : Value} {x y z q v : Value} (h0 : Sd w0 p sl u) (hR : R = w0.heap.size) (hbx : Box w R NodeT #[x, y, z, q, v]) (hf : f t = true) (hd : Hd t) (hsz : t.size ≤ K) (hk : Kids (fun b => w0.heap.size < b) w t.kids s) (hs : Sd w p sl u1) (hu : u1 ≤ u + K) (hg : w0.grownBy w (some p)) :
    Box (five w R (.int .i64 t.kind) (.int .i64 t.at_) (.int .i64 t.num) (.string ⟨t.name.toArray⟩) s) R NodeT #[.int .i64 t.kind, .int .i64 t.at_, .int .i64 t.num, .string ⟨t.name.toArray⟩, s] ∧ GrowPost f K p u sl w0 (.returned (.agg #[.int .i64 t.kind, .int .i64 t.at_, .int .i64 t.num, .string ⟨t.name.toArray⟩, s])) (five w R (.int .i64 t.kind) (.int .i64 t.at_) (.int .i64 t.num) (.string ⟨t.name.toArray⟩) s) := by
  have hp : p < w0.heap.size := h0.1.lt
  have hg2 := grow_five hg (by omega : w0.heap.size ≤ R) (.int .i64 t.kind) (.int .i64 t.at_) (.int .i64 t.num) (.string ⟨t.name.toArray⟩) s
  refine ⟨box_five hbx _ _ _ _ _, t, s, u1, rfl, hf, hd, hsz, ?_, sd_five h0 hs (by omega) _ _ _ _ _ hg2, hu, hg2⟩
  exact (kids_five hk (fun b hb => by omega) _ _ _ _ _).mono fun b hb => by omega
theorem nil_kids (G : Nat → Prop) (w : World) : Kids G w [] (.slice none 0 0) := Kids.nil_ G w
theorem hd_of (k a n : Int) (s : List UInt8) (l : List NT) (h1 : I64 k) (h2 : I64 a) (h3 : I64 n) (h4 : s.length ≤ 3) : Hd (.mk k a n s l) := ⟨h1, h2, h3, by show s.length ≤ _; omega⟩
/-- one node in a row of one, which is new -/
theorem row_one {w : World} {G : Nat → Prop} {t : NT} {s : Value} {N : Nat} (hN : N = w.heap.size) (hd : Hd t) (hk : Kids G w t.kids s) (hG : G N) :
    Kids G (w.alloc (.cells #[.int .i64 t.kind, .int .i64 t.at_, .int .i64 t.num, .string ⟨t.name.toArray⟩, s] NodeT)) [t] (.slice (some ⟨N, 0, none⟩) 1 1) := by
  have hbx : Box (w.alloc (.cells #[.int .i64 t.kind, .int .i64 t.at_, .int .i64 t.num, .string ⟨t.name.toArray⟩, s] NodeT)) N NodeT _ := Box.new _ _ _ _ hN
  refine ⟨_, _, rfl, ⟨by simp, (fun h => by cases h), by simp⟩, fun _ => ⟨N, 0, rfl, hG, row_of fun k hk2 => ?_⟩⟩
  obtain rfl : k = 0 := by simpa using hk2
  exact ⟨hd, hbx.cell 0, hbx.cell 1, hbx.cell 2, hbx.cell 3, s, hbx.cell 4, hk.below ((Below.refl _ _).alloc (Nat.le_refl _) _)⟩
theorem typ_small {q : Int} (h1 : 1 ≤ q) (h2 : q ≤ 3) : (NT.mk q 0 0 [] []).typ = true := by
  rw [typ_mk, if_neg (by simp), if_neg (by omega), if_neg (by simp), if_neg (by omega)]
  simp; omega
set_option maxHeartbeats 1000000 in
theorem gtype_any (d : Nat) : ∀ (p u : Nat) (sl : Value) (w : World), d ≤ 20 → Sd w p sl u → u + (2 * d + 2) ≤ 1099511627776 →
    Calls Tryd.prog 60 #[.pointer (some ⟨p, 0, none⟩), .int .i64 d] w (GrowPost NT.typ (2 * d + 2) p u sl w) := by
  induction d using Nat.strongRecOn with
  | _ d ih =>
    intro p u sl w hd hs hu
    have HS0 := Lib.hid hs
    have IH := Lib.hid ih
    obtain ⟨R, hR⟩ : ∃ R, R = w.heap.size := ⟨_, rfl⟩
    obtain ⟨W, hW⟩ : ∃ W, W = w.alloc (.cells #[.int .i64 0, .int .i64 0, .int .i64 0, .string ⟨#[]⟩, .slice none 0 0] NodeT) := ⟨_, rfl⟩
    have hbW : Below w.heap.size w W := by rw [hW]; exact (Below.refl _ _).alloc (Nat.le_refl _) _
    have HBX : Hid (Box W R NodeT #[.int .i64 0, .int .i64 0, .int .i64 0, .string ⟨#[]⟩, .slice none 0 0]) := Lib.hid (by rw [hW]; exact Box.new _ _ _ _ hR)
    have HN := Lib.hid (next_any 6 p u sl W (by decide) (hs.below hbW) (by omega))
    have HGW : Hid (w.grownBy W (some p)) := Lib.hid (grow_below (grow_refl w p) hbW)
    have hpR : p ≠ R := by have := hs.1.lt; omega
    have HpR := Lib.hid hpR
    have HU := Lib.hid hu
    have HD := Lib.hid hd
    have HW := Lib.hid hW
    have HRR := Lib.hid hR
    clear hW hR hbW ih hs hu
    go_enter Tryd.func60, Tryd.ntmps60
    go_wp2_with (first | (rw [← HW.out, ← HRR.out]))
    refine HN.out.mono ?_
    intro e w1 hp1
    unfold NextPost at hp1
    obtain ⟨x, rfl, hx, hs1, hg1⟩ := hp1
    have HS1 := Lib.hid hs1
    have HB1 : Hid (Box w1 R NodeT #[.int .i64 0, .int .i64 0, .int .i64 0, .string ⟨#[]⟩, .slice none 0 0]) := Lib.hid ((hg1.block R HBX.out.lt (by simpa using hpR.symm)).trans HBX.out)
    have HG1 := Lib.hid (grow_trans HGW.out hg1)
    have HW1 : Hid (w.heap.size < w1.heap.size) := Lib.hid (by have := HB1.out.lt; have := HRR.out; omega)
    obtain ⟨k, rfl⟩ : ∃ k : Nat, x = (k : Int) := ⟨x.toNat, by omega⟩
    have hk6 : k < 6 := by omega
    by_cases c4 : 4 ≤ k ∧ 0 < d
    · obtain ⟨c4, cd⟩ := c4
      obtain ⟨d1, rfl⟩ : ∃ d1, d = d1 + 1 := ⟨d - 1, by omega⟩
      have hu := HU.out
      have HI := Lib.hid (IH.out d1 (by omega) p (u + 1) sl w1 (by omega) hs1 (by omega))
      have hdd := IntWalk.i64_in (d1 : Int) (by omega)
      have c4' : 4 ≤ (k : Int) := by omega
      have cd' : 0 < (d1 : Int) + 1 := by omega
      clear hs1 hg1 hx cd hu
      go_wp2_with (fail)
      refine HI.out.mono ?_
      intro e w2 hp2
      unfold GrowPost at hp2
      obtain ⟨t, s, u2, rfl, hf, hdt, hsz, hkk, hs2, hu2, hg2⟩ := hp2
      have HB2 : Hid (Box w2 R NodeT #[.int .i64 0, .int .i64 0, .int .i64 0, .string ⟨#[]⟩, .slice none 0 0]) := Lib.hid ((hg2.block R HB1.out.lt (by simpa using hpR.symm)).trans HB1.out)
      obtain ⟨V, hV⟩ : ∃ V, V = w2.alloc (.cells #[.int .i64 t.kind, .int .i64 t.at_, .int .i64 t.num, .string ⟨t.name.toArray⟩, s] NodeT) := ⟨_, rfl⟩
      obtain ⟨H2, hH2⟩ : ∃ H2, H2 = w2.heap.size := ⟨_, rfl⟩
      have hg02 : w.grownBy w2 (some p) := grow_trans HG1.out hg2
      have hbV : Below w2.heap.size w2 V := by rw [hV]; exact (Below.refl _ _).alloc (Nat.le_refl _) _
      have hrow : Kids (fun b => w.heap.size < b) V [t] (.slice (some ⟨H2, 0, none⟩) 1 1) := by
        rw [hV]
        exact row_one hH2 hdt (hkk.mono fun b hb => by have := HW1.out; omega) (by have := hg2.size; have := HW1.out; omega)
      have HE := Lib.hid (grow_end (f := NT.typ) (K := 2 * (d1 + 1) + 2) (t := .mk 5 0 0 [] [t]) HS0.out HRR.out (HB2.out.on hbV) (by rw [typ_mk]; simp [typ1_one, hf]) (hd_of _ _ _ _ _ (by unfold I64; omega) (by unfold I64; omega) (by unfold I64; omega) (by simp)) (by rw [size_mk, sizeL, sizeL]; omega) hrow (hs2.below hbV) (by omega) (grow_below hg02 hbV))
      have b2 := (HB2.out.on hbV)
      have r0 := b2.cell 0
      have r1 := b2.cell 1
      have r2 := b2.cell 2
      have r3 := b2.cell 3
      have r4 := b2.cell 4
      have fr := fun i => b2.frozen i
      simp only [List.getElem?_toArray, List.getElem?_cons_zero, List.getElem?_cons_succ] at r0 r1 r2 r3 r4
      have f0 := fr 0
      have f1 := fr 1
      have f2 := fr 2
      have f3 := fr 3
      have f4 := fr 4
      have HV := Lib.hid hV
      have HH2 := Lib.hid hH2
      clear hf hdt hsz hkk hs2 hu2 hg2 hV hH2 hg02 hbV hrow b2 fr
      go_wp2_with (first | (rw [← HV.out, ← HH2.out]))
      exact bodyPost_ret (node_ret rfl rfl HE.out.1) rfl HE.out.2
    · have hbx := HB1.out
      have r0 := hbx.cell 0
      have r1 := hbx.cell 1
      have r2 := hbx.cell 2
      have r3 := hbx.cell 3
      have r4 := hbx.cell 4
      have fr := fun i => hbx.frozen i
      simp only [List.getElem?_toArray, List.getElem?_cons_zero, List.getElem?_cons_succ] at r0 r1 r2 r3 r4
      have f0 := fr 0
      have f1 := fr 1
      have f2 := fr 2
      have f3 := fr 3
      have f4 := fr 4
      clear hbx fr hs1 hg1
      by_cases c3 : k = 3
      · subst c3
        have hu := HU.out
        have HI := Lib.hid (word_any p (u + 1) sl w1 HS1.out (by omega))
        clear hu c4 hx hk6
        go_wp2_with (fail)
        refine HI.out.mono ?_
        intro e w2 hp2
        unfold WordPost at hp2
        obtain ⟨nm, rfl, ⟨hnm, hnl⟩, hs2, hg2⟩ := hp2
        have b2 : Box w2 R NodeT #[.int .i64 0, .int .i64 0, .int .i64 0, .string ⟨#[]⟩, .slice none 0 0] := (hg2.block R HB1.out.lt (by simpa using hpR.symm)).trans HB1.out
        have HE := Lib.hid (grow_end (f := NT.typ) (K := 2 * d + 2) (t := .mk 4 0 0 nm []) HS0.out HRR.out b2 (by rw [typ_mk]; simp [hnm]) (hd_of _ _ _ _ _ (by unfold I64; omega) (by unfold I64; omega) (by unfold I64; omega) hnl) (by rw [size_mk, sizeL]; omega) (nil_kids _ _) hs2 (by omega) (grow_trans HG1.out hg2))
        have q0 := b2.cell 0
        have q1 := b2.cell 1
        have q2 := b2.cell 2
        have q3 := b2.cell 3
        have q4 := b2.cell 4
        have fr := fun i => b2.frozen i
        simp only [List.getElem?_toArray, List.getElem?_cons_zero, List.getElem?_cons_succ] at q0 q1 q2 q3 q4
        have g0 := fr 0
        have g1 := fr 1
        have g2 := fr 2
        have g3 := fr 3
        have g4 := fr 4
        clear hnm hnl hs2 hg2 b2 fr r0 r1 r2 r3 r4 f0 f1 f2 f3 f4
        go_wp2_with (fail)
        exact bodyPost_ret (node_ret rfl rfl HE.out.1) rfl HE.out.2
      · have e3 : ((k : Int) == 3) = false := beq_eq_false_iff_ne.2 (by omega)
        have hm := Int.emod_nonneg (k : Int) (show (3 : Int) ≠ 0 by omega)
        have hm2 := Int.emod_lt_of_pos (k : Int) (show (0 : Int) < 3 by omega)
        have HE := Lib.hid (grow_end (f := NT.typ) (K := 2 * d + 2) (t := .mk (1 + (k : Int) % 3) 0 0 [] []) HS0.out HRR.out HB1.out (typ_small (by omega) (by omega)) (hd_of _ _ _ _ _ (by unfold I64; omega) (by unfold I64; omega) (by unfold I64; omega) (by simp)) (by rw [size_mk, sizeL]; omega) (nil_kids _ _) HS1.out (by omega) HG1.out)
        by_cases c5 : 4 ≤ k
        · have c5' : 4 ≤ (k : Int) := by omega
          have hd0 : ¬ 0 < (d : Int) := by omega
          clear c4 hx c3 c5
          go_wp2_with (fail)
          exact bodyPost_ret (node_ret rfl rfl HE.out.1) rfl HE.out.2
        · have c5' : ¬ 4 ≤ (k : Int) := by omega
          clear c4 hx c3 c5
          go_wp2_with (fail)
          exact bodyPost_ret (node_ret rfl rfl HE.out.1) rfl HE.out.2
end Go.Proofs.YtkmkeaeaalnbjaaDoor.nt

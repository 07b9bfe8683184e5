/- What grows of any numbers: a program. -/
import Derived.Test.YtkmkeaeaalnbjaaDoorCGrowDecl
namespace Go.Proofs.YtkmkeaeaalnbjaaDoor.nt
open Go.RowKit mem wd lx
open vt (I64 own_base own_form own_below wpList_append_mine)

def gG : Nat := 700000
theorem gG_eq : gG = 700000 := rfl
theorem prog_of {l : List NT} {b : NT} (h : ∀ t ∈ l, declN t = true) (h2 : b.blk = true) : progN (.mk 55 0 0 [] (l ++ [b])) = true := by
  have h4 : l.all declN = true := by rw [List.all_eq_true]; exact h
  rw [prog_mk]
  simp [aloneN, lastB, h2]
  exact h
/-- a list of numbers that is read alone -/
def Ints0 (w : World) (sl : Value) : Prop :=
  ∃ A n cap, sl = .slice A n cap ∧ n ≤ 4611686018427387904 ∧ ∀ i, i < n → ∃ b off x, A = some ⟨b, off, none⟩ ∧ w.cell? ⟨b, off + i, none⟩ = some (.int .i64 x) ∧ I64 x
theorem Ints0.at_ {w W : World} {sl : Value} {p : Nat} (h : Ints0 w sl) (hb : Below w.heap.size w W) (hp : w.heap.size ≤ p) : IntsAt W sl p := by
  obtain ⟨A, n, cap, hs, hn, hc⟩ := h
  refine ⟨A, n, cap, hs, hn, fun i hi => ?_⟩
  obtain ⟨b, off, x, hA, hcell, hx⟩ := hc i hi
  have hlt : b < w.heap.size := World.block_lt_of_cell? _ _ hcell
  exact ⟨b, off, x, hA, by omega, (hb.cell (p := ⟨b, off + i, none⟩) hlt).trans hcell, hx⟩
def GrRel (N p R O : Nat) (sl : Value) (w1 : World) (i : Value) (wr : World) : Prop :=
  ∃ (j : Nat) (l : List NT) (v : Value) (u : Nat), j ≤ N ∧ i = .int .i64 j ∧ l.length = j ∧ Hid (∀ t ∈ l, declN t = true) ∧ Hid (sizeL l ≤ j * gD) ∧ Hid (DSt w1 p R O sl wr u 55 0 [] l v) ∧ Hid (u ≤ 1 + j * gD)
def GrowAll (w : World) (e : Ending) (w' : World) : Prop :=
  ∃ (t : NT) (s : Value), e = .returned (.agg #[.int .i64 t.kind, .int .i64 t.at_, .int .i64 t.num, .string ⟨t.name.toArray⟩, s]) ∧ progN t = true ∧ Hd t ∧ t.size ≤ gG ∧ Kids (fun b => w.heap.size ≤ b) w' t.kids s ∧ Below w.heap.size w w'
/-- the program is told -/
theorem grow_told {w w1 wi : World} {p R O u : Nat} {sl v : Value} {l : List NT} (h : DSt w1 p R O sl wi u 55 0 [] l v) (hR : R = w.heap.size) (hw1 : Below w.heap.size w w1) (hp : w.heap.size ≤ p) (hf : progN (.mk 55 0 0 [] l) = true) (hsz : sizeL l + 1 ≤ gG) :
    Box (five wi R (.int .i64 55) (.int .i64 0) (.int .i64 0) (.string ⟨#[]⟩) v) R NodeT #[.int .i64 55, .int .i64 0, .int .i64 0, .string ⟨#[]⟩, v] ∧ GrowAll w (.returned (.agg #[.int .i64 55, .int .i64 0, .int .i64 0, .string ⟨#[]⟩, v])) (five wi R (.int .i64 55) (.int .i64 0) (.int .i64 0) (.string ⟨#[]⟩) v) := by
  have hRO := h.hRO
  have hbw : Below w.heap.size w wi := ⟨h.hg.os.trans hw1.os, h.hg.tape.trans hw1.tape, h.hg.output.trans hw1.output, Nat.le_trans hw1.size h.hg.size, fun k hk => (h.hg.block k (Nat.lt_of_lt_of_le hk hw1.size) (fun e => by injection e with e; omega)).trans (hw1.block k hk)⟩
  refine ⟨box_five h.hb _ _ _ _ _, .mk 55 0 0 [] l, v, rfl, hf, hd_of _ _ _ _ _ (by unfold I64; omega) (by unfold I64; omega) (by unfold I64; omega) (by simp), by rw [size_mk]; exact hsz, ?_, ?_⟩
  · exact (kids_five h.hl.kids (fun b hb => by have hb2 : O + 1 ≤ b := hb; omega) _ _ _ _ _).mono fun b hb => by have hb2 : O + 1 ≤ b := hb; omega
  · exact ((((hbw.setCell (by dsimp only; omega) _).setCell (by dsimp only; omega) _).setCell (by dsimp only; omega) _).setCell (by dsimp only; omega) _).setCell (by dsimp only; omega) _
set_option maxHeartbeats 4000000 in
set_option maxRecDepth 100000 in
theorem grow_any (sl : Value) (w : World) (hi : Ints0 w sl) : Calls Tryd.prog 14 #[sl] w (GrowAll w) := by
  obtain ⟨Al, nl, cl, rfl⟩ : ∃ A n c, sl = .slice A n c := by obtain ⟨A, n, c, h, _⟩ := hi; exact ⟨A, n, c, h⟩
  obtain ⟨sl, hsl⟩ : ∃ sl, sl = Value.slice Al nl cl := ⟨_, rfl⟩
  rw [← hsl] at hi
  obtain ⟨R, hR⟩ : ∃ R, R = w.heap.size := ⟨_, rfl⟩
  obtain ⟨W0, hW0⟩ : ∃ W, W = w.alloc (.cells ZN NodeT) := ⟨_, rfl⟩
  obtain ⟨p, hp⟩ : ∃ p, p = W0.heap.size := ⟨_, rfl⟩
  obtain ⟨w1, hw1⟩ : ∃ W, W = W0.alloc (.cells #[sl, .int .i64 0] SeedsT) := ⟨_, rfl⟩
  obtain ⟨O, hO⟩ : ∃ O, O = w1.heap.size := ⟨_, rfl⟩
  obtain ⟨w2, hw2⟩ : ∃ W, W = w1.alloc (.cells #[.int .i64 55, .int .i64 0, .int .i64 0, .string ⟨#[]⟩, .slice none 0 0] NodeT) := ⟨_, rfl⟩
  have b0 : Below w.heap.size w W0 := by rw [hW0]; exact (Below.refl _ _).alloc (Nat.le_refl _) _
  have hpR : p = R + 1 := by rw [hp, hW0, hR]; exact Array.size_push _
  have b1 : Below w.heap.size w w1 := by rw [hw1]; exact b0.alloc b0.size _
  have b01 : Below W0.heap.size W0 w1 := by rw [hw1]; exact (Below.refl _ _).alloc (Nat.le_refl _) _
  have b12 : Below w1.heap.size w1 w2 := by rw [hw2]; exact (Below.refl _ _).alloc (Nat.le_refl _) _
  have hOp : O = p + 1 := by rw [hO, hw1, hp]; exact Array.size_push _
  have hs1 : Sd w1 p sl 0 := ⟨by rw [hw1]; exact Box.new _ _ _ _ hp, hi.at_ b1 (by omega)⟩
  have hb0 : Box W0 R NodeT ZN := by rw [hW0]; exact Box.new _ _ _ _ hR
  have D2 : Hid (DSt w1 p R O sl w2 0 55 0 [] [] (.slice none 0 0)) := Lib.hid { hpR := by omega, hRO := by omega, hpO := by omega, hO := by omega, h0 := ⟨0, hs1⟩, hb := (hb0.on b01).on b12, ho := by rw [hw2]; exact Box.new _ _ _ _ hO, hl := Own2.nil_ _ _, hs := hs1.below b12, hg := grow_below (grow_refl w1 p) b12 }
  have HW0 := Lib.hid hW0
  have HW1 := Lib.hid hw1
  have HW2 := Lib.hid hw2
  have HRR := Lib.hid hR
  have HPP := Lib.hid hp
  have HOO := Lib.hid hO
  have HB1 := Lib.hid b1
  have HpR := Lib.hid hpR
  have HN := Lib.hid (next_any 4 p 0 sl w2 (by decide) D2.out.hs (by omega))
  have HOp := Lib.hid hOp
  rw [hsl] at D2 HW1 HN
  clear hW0 hw1 hw2 hR hp hO b0 b1 b01 b12 hs1 hb0 hi hpR hOp hsl
  go_enter Tryd.func14, Tryd.ntmps14
  go_wp2_with (first | (rw [← HW0.out, ← HRR.out]) | (rw [← HW1.out, ← HPP.out]) | (rw [← HW2.out, ← HOO.out]) | (rw [← HW2.out, ← HOp.out]))
  refine HN.out.mono ?_
  intro e w3 hp2
  unfold NextPost at hp2
  obtain ⟨x, rfl, hx, hs, hg⟩ := hp2
  obtain ⟨N, rfl⟩ : ∃ N : Nat, x = (N : Int) := ⟨x.toNat, by omega⟩
  have hN : N ≤ 3 := by omega
  have D3 := Lib.hid (D2.out.call hg hs)
  clear hs hg hx
  go_wp2_with (fail)
  go_loopw [6] (fun i wr => GrRel N p R O (.slice Al nl cl) w1 i wr) (fun i _ => N - (intOf i).toNat)
  case atStart => unfold GrRel; exact ⟨0, [], _, 1, Nat.zero_le _, rfl, rfl, Lib.hid (by simp), Lib.hid (by simp [sizeL]), D3, Lib.hid (by omega)⟩
  case round =>
    unfold GrRel at hrel
    obtain ⟨j, l, v, u, hj, rfl, hl, hf, hsz, D, hu⟩ := hrel
    obtain ⟨A9, c9, rfl⟩ := D.out.hl.form
    clear D2 D3 HN
    have bx := D.out.ho
    have xx4 := bx.cell 4
    simp only [List.getElem?_toArray, List.getElem?_cons_zero, List.getElem?_cons_succ] at xx4
    have xxf := bx.frozen 4
    clear bx
    by_cases hlt : j < N
    · have hlt' : (j : Int) < (N : Int) := by omega
      have hjq : j * gD ≤ 2 * gD := Nat.mul_le_mul_right gD (by omega)
      have HI : Hid (∀ w', Below wr.heap.size wr w' → Calls Tryd.prog 38 #[.pointer (some ⟨p, 0, none⟩)] w' (GrowPost declN gD p u (.slice Al nl cl) w')) := Lib.hid (fun w' hb' => gdecl_any p u (.slice Al nl cl) w' (D.out.hs.below hb') (by have := hu.out; have := gD_eq; omega))
      clear hjq
      obtain ⟨n9, hn9⟩ : ∃ n9, n9 = l.length := ⟨_, rfl⟩
      rw [← hn9] at D xx4 hl
      obtain rfl := hl
      have HNN := Lib.hid hn9
      clear hn9
      have bx := D.out.ho
      have xx4 := bx.cell 4
      simp only [List.getElem?_toArray, List.getElem?_cons_zero, List.getElem?_cons_succ] at xx4
      have xxf := bx.frozen 4
      clear bx
      go_wp2_with (fail)
      go_region_law (first
        | (refine step_node (p := p) (w0 := w1) (wr := w11) (by rfl) _ _ (by rfl) (O + 1) n9 l tb (.slice A9 n9 c9) stb w11.heap.size (by rfl) (by rfl) D11.out.hl HDtb.out HKtb.out D11.out.hg (by have := D11.out.hO; omega) D11.out.size HNN.out (by omega) (by rfl) ?_; intro A5 c5 w10 ho4 hg4 hk4; have HAP := Lib.hid (D11.out.app ho4 hg4 hk4); have hbz := HAP.out.1; have zz4 := hbz.cell 4; simp only [List.getElem?_toArray, List.getElem?_cons_zero, List.getElem?_cons_succ] at zz4; have zzf := hbz.frozen 4; clear hbz; (obtain ⟨w12, hw12⟩ : ∃ W, W = w10.setCell ⟨O, 4, none⟩ (.slice A5 (n9 + 1) c5) := ⟨_, rfl⟩); have Hw12 := Lib.hid hw12; have D12 := Lib.hid HAP.out.2; (rw [← hw12] at D12); clear ho4 hg4 hk4 hw12)
        | (go_simp; go_at_call 38; (with_reducible refine (HI.out _ ((Below.refl _ _).drew)).mono ?_); intro e w11 hp2; unfold GrowPost at hp2; obtain ⟨tb, stb, utb, rfl, hft, hdt, hst, hkk, hs, hu2, hg⟩ := hp2; have D11 := Lib.hid (D.out.call (grow_trans (grow_below (grow_refl wr p) ((Below.refl _ _).drew)) hg) hs); have HFtb := Lib.hid hft; have HDtb := Lib.hid hdt; have HZtb := Lib.hid hst; have HUtb := Lib.hid hu2; have HKtb := Lib.hid (kids_apart D.out hkk); clear hft hdt hst hkk hu2; have hby := D11.out.ho; have yy4 := hby.cell 4; simp only [List.getElem?_toArray, List.getElem?_cons_zero, List.getElem?_cons_succ] at yy4; have yyf := hby.frozen 4; have hbq := hby.on ((Below.refl _ _).alloc (Nat.le_refl _) (.cells #[.int .i64 tb.kind, .int .i64 tb.at_, .int .i64 tb.num, .string ⟨tb.name.toArray⟩, stb] NodeT)); have qq4 := hbq.cell 4; simp only [List.getElem?_toArray, List.getElem?_cons_zero, List.getElem?_cons_succ] at qq4; clear hbq hby hs hg))
      all_goals
        go_wp2_with (first | (rw [← Hw12.out]))
        go_roundw
        case rel =>
          unfold GrRel
          refine ⟨n9 + 1, l ++ [tb], _, utb, by omega, by go_num, by rw [List.length_append, ← HNN.out]; rfl, Lib.hid ?_, Lib.hid ?_, D12, Lib.hid ?_⟩
          · intro z hz
            rcases List.mem_append.1 hz with hz | hz
            · exact hf.out z hz
            · have : z = tb := by simpa using hz
              rw [this]; exact HFtb.out
          · rw [sizeL_append, Nat.add_mul, Nat.one_mul]; have := hsz.out; have := HZtb.out; simp [sizeL]; omega
          · rw [Nat.add_mul, Nat.one_mul]; have := hu.out; have := HUtb.out; omega
        case measure => simp [intOf]; omega
    · have hjq : j * gD ≤ 3 * gD := Nat.mul_le_mul_right gD (by omega)
      have HI : Hid (∀ w', Below wr.heap.size wr w' → Calls Tryd.prog 39 #[.pointer (some ⟨p, 0, none⟩), .int .i64 3] w' (GrowPost NT.blk (3 * gS 3 + 1) p u (.slice Al nl cl) w')) := Lib.hid (fun w' hb' => gblock_any 3 (by decide) p u (.slice Al nl cl) w' (D.out.hs.below hb') (by have := hu.out; have := gS_three; have := gD_eq; omega))
      have HSZ : Hid (sizeL l ≤ 3 * gD) := Lib.hid (Nat.le_trans hsz.out hjq)
      obtain ⟨n9, hn9⟩ : ∃ n9, n9 = l.length := ⟨_, rfl⟩
      rw [← hn9] at D xx4 hl
      obtain rfl := hl
      have HNN := Lib.hid hn9
      have hlt' : ¬ (n9 : Int) < (N : Int) := by omega
      clear hn9 hjq hsz
      have bx := D.out.ho
      have xx4 := bx.cell 4
      simp only [List.getElem?_toArray, List.getElem?_cons_zero, List.getElem?_cons_succ] at xx4
      have xxf := bx.frozen 4
      clear bx
      go_wp2_with (fail)
      go_region_law (first
        | (refine step_node (p := p) (w0 := w1) (wr := w11) (by rfl) _ _ (by rfl) (O + 1) n9 l tb (.slice A9 n9 c9) stb w11.heap.size (by rfl) (by rfl) D11.out.hl HDtb.out HKtb.out D11.out.hg (by have := D11.out.hO; omega) D11.out.size HNN.out (by omega) (by rfl) ?_; intro A5 c5 w10 ho4 hg4 hk4; have HAP := Lib.hid (D11.out.app ho4 hg4 hk4); have hbz := HAP.out.1; have zz4 := hbz.cell 4; simp only [List.getElem?_toArray, List.getElem?_cons_zero, List.getElem?_cons_succ] at zz4; have zzf := hbz.frozen 4; clear hbz; (obtain ⟨w12, hw12⟩ : ∃ W, W = w10.setCell ⟨O, 4, none⟩ (.slice A5 (n9 + 1) c5) := ⟨_, rfl⟩); have Hw12 := Lib.hid hw12; have D12 := Lib.hid HAP.out.2; (rw [← hw12] at D12); clear ho4 hg4 hk4 hw12)
        | (go_simp; go_at_call 39; (with_reducible refine (HI.out _ ((Below.refl _ _).drew)).mono ?_); intro e w11 hp2; unfold GrowPost at hp2; obtain ⟨tb, stb, utb, rfl, hft, hdt, hst, hkk, hs, hu2, hg⟩ := hp2; have D11 := Lib.hid (D.out.call (grow_trans (grow_below (grow_refl wr p) ((Below.refl _ _).drew)) hg) hs); have HFtb := Lib.hid hft; have HDtb := Lib.hid hdt; have HZtb := Lib.hid hst; have HUtb := Lib.hid hu2; have HKtb := Lib.hid (kids_apart D.out hkk); clear hft hdt hst hkk hu2; have hby := D11.out.ho; have yy4 := hby.cell 4; simp only [List.getElem?_toArray, List.getElem?_cons_zero, List.getElem?_cons_succ] at yy4; have yyf := hby.frozen 4; have hbq := hby.on ((Below.refl _ _).alloc (Nat.le_refl _) (.cells #[.int .i64 tb.kind, .int .i64 tb.at_, .int .i64 tb.num, .string ⟨tb.name.toArray⟩, stb] NodeT)); have qq4 := hbq.cell 4; simp only [List.getElem?_toArray, List.getElem?_cons_zero, List.getElem?_cons_succ] at qq4; clear hbq hby hs hg))
      all_goals
        have bx := D12.out.ho
        have x0 := bx.cell 0
        have x1 := bx.cell 1
        have x2 := bx.cell 2
        have x3 := bx.cell 3
        have x4 := bx.cell 4
        simp only [List.getElem?_toArray, List.getElem?_cons_zero, List.getElem?_cons_succ] at x0 x1 x2 x3 x4
        have xf0 := bx.frozen 0
        have xf1 := bx.frozen 1
        have xf2 := bx.frozen 2
        have xf3 := bx.frozen 3
        have xf4 := bx.frozen 4
        clear bx
        have bx := D12.out.hb
        have r0 := bx.cell 0
        have r1 := bx.cell 1
        have r2 := bx.cell 2
        have r3 := bx.cell 3
        have r4 := bx.cell 4
        simp only [List.getElem?_toArray, List.getElem?_cons_zero, List.getElem?_cons_succ] at r0 r1 r2 r3 r4
        have rf0 := bx.frozen 0
        have rf1 := bx.frozen 1
        have rf2 := bx.frozen 2
        have rf3 := bx.frozen 3
        have rf4 := bx.frozen 4
        clear bx
        have HE := Lib.hid (grow_told D12.out HRR.out HB1.out (by have := HpR.out; have := HRR.out; omega) (prog_of hf.out HFtb.out) (by have := HSZ.out; have := HZtb.out; simp only [sizeL_append, sizeL]; have := gS_three; have := gD_eq; have := gG_eq; omega))
        go_wp2_with (first | (rw [← Hw12.out]))
        exact bodyPost_ret (node_ret2 rfl rfl HE.out.1) rfl HE.out.2
end Go.Proofs.YtkmkeaeaalnbjaaDoor.nt

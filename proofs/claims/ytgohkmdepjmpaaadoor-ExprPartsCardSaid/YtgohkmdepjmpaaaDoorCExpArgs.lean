/- The package's reader begins arguments. -/
import Derived.Test.YtgohkmdepjmpaaaDoorCGExpRow
--KEEP
namespace Go.Proofs.YtgohkmdepjmpaaaDoor.pm.em
open Go.RowKit wd lx nt ne pm mem
open vt (I64 own_base own_form own_below own_step set_same Typ set_comm wpList_append_mine)
variable {l : List Tk} {v : Value} {w0 : World} {rb : Nat} {A A' : Nat → Prop} {i j : Int} {wants over : Bool} {rs : List NT} {G : List Frm} {w w' : World}

/-- the reader as a state of the machine -/
def RdS (l : List Tk) (v : Value) (w0 : World) (rb : Nat) (s : MS) (w : World) : Prop :=
  match s with
  | .want i G => Rd l v w0 rb (fun _ => False) i true false (rdL G) G w
  | .have_ i G n => Rd l v w0 rb (fun _ => False) i false false (rdL G ++ [n]) G w
/-- what a step of the reader tells -/
def OutP (l : List Tk) (v : Value) (w0 : World) (rb : Nat) (o : Out) (e : Ending) (w : World) : Prop :=
  match o with
  | .go s => e = .returned (.bool true) ∧ RdS l v w0 rb s w
  | .no j => e = .returned (.bool false) ∧ ∃ wants over rs G, Rd l v w0 rb (fun _ => False) j wants over rs G w
  | .over n j => e = .returned (.bool true) ∧ Rd l v w0 rb (fun _ => False) j false true [n] [] w
theorem push_kids {ks : List NT} {vr vo vr' : Value} {vs news : List Value} {V w3 : World} (h : Rd l v w0 rb A i wants over rs G V) (hb : Box V rb RdT #[v, .int .i64 i, .bool wants, .bool over, vr, vo]) (hr : Rows w0 rb A rs G vr vo vs V) (hn : Nods (fun b => A b) V ks news)
    (hown : w3.ownsRow w0.heap.size NodeT 5 vr' (rs.length + ks.length) (vs ++ news)) (hg : V.grownBy w3 vr.ownBlock) (hat : ∀ k, vr'.ownBlock = some k → vr.ownBlock = some k ∨ V.heap.size ≤ k) :
    Rd l v w0 rb A i wants over (rs ++ ks) G (w3.setCell ⟨rb, 4, none⟩ vr') ∧ Keep A V (w3.setCell ⟨rb, 4, none⟩ vr') := by
  have key : ∀ b o, b < V.heap.size → some b ≠ vr.ownBlock → w3.cell? ⟨b, o, none⟩ = V.cell? ⟨b, o, none⟩ := fun b o h1 h2 => World.cell?_of_block (w := V) (w' := w3) (a := ⟨b, o, none⟩) (hg.block b h1 h2)
  refine Rd.setr h hb hr hg hat (by rw [List.length_append]; exact hown) ?_
  refine Nods.append (hr.nods.carry fun b o u q hc => ?_) (hn.carry fun b o u q hc => ?_)
  · have hlt : b < V.heap.size := World.block_lt_of_cell? _ _ hc
    exact ⟨⟨q, hlt⟩, (key b o hlt q.2.2.1).trans hc⟩
  · have hlt : b < V.heap.size := World.block_lt_of_cell? _ _ hc
    have ha := h.ap b q
    have hb2 := hr.apr b q
    exact ⟨⟨⟨ha.1, ha.2.2, hb2.1, hb2.2⟩, hlt⟩, (key b o hlt hb2.1).trans hc⟩
set_option maxRecDepth 100000 in
set_option maxHeartbeats 4000000 in
theorem args_nil_no (k a : Int) (nm : List UInt8)  (hp : isM l i [40] = false) (h : Rd l v w0 rb A i wants false (rdL G) G w) (hl : (rdL G).length ≤ 1048580) (hG : G.length ≤ 1048580) (hd : Hd (.mk k a 0 nm [])) (hk0 : k ≠ 0) :
    Calls Tryd.prog 29 #[.pointer (some ⟨rb, 0, none⟩), .agg #[.int .i64 k, .int .i64 a, .int .i64 0, .string ⟨nm.toArray⟩, .slice none 0 0], .slice none 0 0] w (OutP l v w0 rb (argsM l i k a nm [] G)) := by
  obtain ⟨H, hH⟩ : ∃ H, H = w.heap.size := ⟨_, rfl⟩
  obtain ⟨W, hW⟩ : ∃ W, W = w.alloc (.cells #[.int .i64 k, .int .i64 a, .int .i64 0, .string ⟨nm.toArray⟩, .slice none 0 0] NodeT) := ⟨_, rfl⟩
  have bH : Box W H NodeT #[.int .i64 k, .int .i64 a, .int .i64 0, .string ⟨nm.toArray⟩, .slice none 0 0] := by rw [hW]; exact Box.new _ _ _ _ hH
  have hbW : Below w.heap.size w W := by rw [hW]; exact (Below.refl _ _).alloc (Nat.le_refl _) _
  have HW := Lib.hid hW
  have HHH := Lib.hid hH
  unfold argsM
  rw [if_neg (by rw [hp]; decide)]
  have HT := Lib.hid (took_no [40] (h.on_ hbW) hp)
  have HRW := Lib.hid (h.on_ hbW)
  clear hW hH h bH hbW hp
  go_enter Tryd.func29, Tryd.ntmps29
  go_wp2_with (first | (rw [← HW.out, ← HHH.out]))
  refine HT.out.mono ?_
  rintro e w1 ⟨rfl, hb1⟩
  have HR1 := Lib.hid ((HRW.out.on_ hb1).mono (A' := fun _ => False) fun b q => q.elim)
  clear hb1
  go_wp2_with (fail)
  go_ret
  exact ⟨rfl, _, _, _, _, HR1.out⟩
set_option maxRecDepth 100000 in
set_option maxHeartbeats 4000000 in
theorem args_nil_end (k a : Int) (nm : List UInt8)  (hp : isM l i [40] = true) (hc : isM l (i + 1) [41] = true) (h : Rd l v w0 rb A i wants false (rdL G) G w) (hl : (rdL G).length ≤ 1048580) (hG : G.length ≤ 1048580) (hd : Hd (.mk k a 0 nm [])) (hk0 : k ≠ 0) :
    Calls Tryd.prog 29 #[.pointer (some ⟨rb, 0, none⟩), .agg #[.int .i64 k, .int .i64 a, .int .i64 0, .string ⟨nm.toArray⟩, .slice none 0 0], .slice none 0 0] w (OutP l v w0 rb (argsM l i k a nm [] G)) := by
  obtain ⟨H, hH⟩ : ∃ H, H = w.heap.size := ⟨_, rfl⟩
  obtain ⟨W, hW⟩ : ∃ W, W = w.alloc (.cells #[.int .i64 k, .int .i64 a, .int .i64 0, .string ⟨nm.toArray⟩, .slice none 0 0] NodeT) := ⟨_, rfl⟩
  have bH : Box W H NodeT #[.int .i64 k, .int .i64 a, .int .i64 0, .string ⟨nm.toArray⟩, .slice none 0 0] := by rw [hW]; exact Box.new _ _ _ _ hH
  have hbW : Below w.heap.size w W := by rw [hW]; exact (Below.refl _ _).alloc (Nat.le_refl _) _
  have HW := Lib.hid hW
  have HHH := Lib.hid hH
  have HT := Lib.hid (took_yes [40] (h.on hbW) hp)
  have HHA : Hid (Up A w W H) := Lib.hid (Or.inr ⟨by omega, bH.lt⟩)
  have HBH := Lib.hid bH
  have hHrb : ¬ H = rb := by have := h.lt; omega
  have HD := Lib.hid hd
  have HK0 := Lib.hid hk0
  obtain ⟨N, hN⟩ : ∃ N, N = (rdL G).length := ⟨_, rfl⟩
  obtain ⟨M, hM⟩ : ∃ M, M = G.length := ⟨_, rfl⟩
  rw [← hN] at hl
  rw [← hM] at hG
  have HN := Lib.hid hN
  have HM := Lib.hid hM
  obtain ⟨i0, hi, hz0, hz1, hz2⟩ := info_parts infoB
  obtain ⟨j0, ji, jz0, jz1, jz2⟩ := info_parts infoN
  have HPp := Lib.hid hp
  have HPc := Lib.hid hc
  have HHS := Lib.hid bH.lt
  clear hW hH h bH hbW hp hd hk0 hN hM hc
  go_enter Tryd.func29, Tryd.ntmps29
  go_wp2_with (first | (rw [← HW.out, ← HHH.out]))
  refine HT.out.mono ?_
  rintro e w1 ⟨rfl, hr1, ho1⟩
  have bH1 : Box w1 H NodeT _ := ho1.box HBH.out hHrb
  obtain ⟨vr, vo, vs, ⟨_, _, _, _, c4, c5⟩, hf, hbx, hr⟩ := hr1.cells
  obtain ⟨Ar, cr, rfl⟩ := own_form hr.own
  obtain ⟨Ao, co, rfl⟩ := own_form hr.opn
  have f5 := hf 5
  have y0 := bH1.cell 0
  have y1 := bH1.cell 1
  have y2 := bH1.cell 2
  have y3 := bH1.cell 3
  have y4 := bH1.cell 4
  simp only [List.getElem?_toArray, List.getElem?_cons_zero, List.getElem?_cons_succ] at y0 y1 y2 y3 y4
  have hrz : rb < w1.heap.size := hbx.lt
  have hHz : H < w1.heap.size := bH1.lt
  obtain ⟨F, hF⟩ : ∃ F, F = cnt G := ⟨_, rfl⟩
  have hNF : N = F := by rw [HN.out, hF, rdL_len]
  rw [← HN.out] at c4
  rw [← HM.out] at c5
  rw [hNF] at c4
  have hcs : [.int .i64 k, .int .i64 a, .int .i64 0, .string ⟨nm.toArray⟩, .slice none 0 0, .int .i64 (F : Int), .int .i64 0, .string ⟨#[41]⟩, .bool true] = opnC G (.arg k a nm []) := by show _ = opnC G _; rw [hF]; rfl
  have HST : Hid (∀ V w3 vo', Below w1.heap.size w1 V → w3.ownsRow w0.heap.size BgT 9 vo' (M + 1) (opnV G ++ [.int .i64 k, .int .i64 a, .int .i64 0, .string ⟨nm.toArray⟩, .slice none 0 0, .int .i64 (F : Int), .int .i64 0, .string ⟨#[41]⟩, .bool true]) → V.grownBy w3 (Value.slice Ao M co).ownBlock → (∀ k, vo'.ownBlock = some k → (Value.slice Ao M co).ownBlock = some k ∨ V.heap.size ≤ k) → _) := Lib.hid (fun V w3 vo' hV h1 h2 h3 => have p := push_frm (wants := wants) (M := M) (.arg k a nm []) _ (hr1.on_ hV) (by rw [HM.out]; exact hbx.on hV) (by rw [HM.out]; exact ⟨own_below hr.own hV, hr.nods.below hV, own_below hr.opn hV, hr.apr⟩) HM.out HD.out hcs h1 h2 h3; And.intro (And.intro p.1.1 ((hr1.keep hV).trans p.1.2)) p.2)
  have HO : Hid (w1.ownsRow w0.heap.size BgT 9 (.slice Ao M co) M (opnV G)) := Lib.hid (by rw [HM.out]; exact hr.opn)
  have HBz : Hid (w0.heap.size ≤ w1.heap.size) := Lib.hid hr1.low.size
  have h1c : Hid (∀ u ∈ [Value.int .i64 k, .int .i64 a, .int .i64 0, .string ⟨nm.toArray⟩, .slice none 0 0, .int .i64 (F : Int), .int .i64 0, .string ⟨#[41]⟩, .bool true], u.oneCell' = true) := Lib.hid (by intro u hu; simp at hu; rcases hu with rfl | rfl | rfl | rfl | rfl | rfl | rfl | rfl | rfl <;> rfl)
  have HFL : Hid (F ≤ 1048580) := Lib.hid (by omega)
  have HNF := Lib.hid hNF
  clear hbx hr hf hcs ho1 hr1 bH1 hF hNF hl
  go_wp2_with (fail)
  go_region_law (first
    | (refine step_append_lies _ (by rfl) (.tmp 14) (.tmp 22) 47 (by rfl) w0.heap.size BgT i0 _ 9 104 Tryd.underlying47 hi hz0 hz1 hz2 (by rfl) (by decide) (.slice Ao M co) M (opnV G) (by rfl) (HO.out.alloc _) ⟨w1.heap.size, 0, none⟩ 1 1 [.int .i64 k, .int .i64 a, .int .i64 0, .string ⟨nm.toArray⟩, .slice none 0 0, .int .i64 (F : Int), .int .i64 0, .string ⟨#[41]⟩, .bool true] (by rfl) (by rfl) (World.news_of_block (heap_alloc_new w1 _)) h1c.out (by decide) (by unfold maxLen; omega) (by omega) (by simp; have := HBz.out; omega) (w1.heap.size + 1) (by simp) ?_; intro g cap w3 hown hgrow hat hlt; obtain ⟨p1, p2, p3, p4, p5⟩ := HST.out _ w3 _ (((Below.refl w1.heap.size w1).alloc (Nat.le_refl _) _).drew) hown hgrow (fun k hk => by have e : g = k := (by simpa [Value.ownBlock] using hk); subst e; exact hat.imp id fun h => by rw [h]; simp); have HP1 := Lib.hid p1; clear p1 hown hgrow hat))
  all_goals
    obtain ⟨X3, hX3⟩ : ∃ X3, X3 = w3.setCell ⟨rb, 5, none⟩ (.slice (some ⟨g, 0, none⟩) (M + 1) cap) := ⟨_, rfl⟩
    have hp1 := HP1.out
    rw [← hX3] at hp1 ⊢
    clear hX3 HP1 p2 p3 p4 p5 c4 c5 f5 y0 y1 y2 y3 y4
    obtain ⟨vr2, vo2, vs2, ⟨_, _, _, _, c4, _⟩, hf2, hbx2, hr2⟩ := hp1.1.cells
    obtain ⟨Ar2, cr2, rfl⟩ := own_form hr2.own
    rw [← HN.out, HNF.out] at c4
    have f4 := hf2 4
    have f2 := hf2 2
    have HRX := Lib.hid (And.intro hp1.1 (And.intro hbx2 hr2))
    have HOX : Hid (X3.ownsRow w0.heap.size NodeT 5 (.slice Ar2 F cr2) F vs2) := Lib.hid (by have := hr2.own; rw [← HN.out, HNF.out] at this; exact this)
    have HBX0 : Hid (w0.heap.size ≤ X3.heap.size) := Lib.hid hp1.1.low.size
    clear hbx2 hr2 hp1 hf2
    go_wp2_with (at_builtin; refine wpList_append_own_none rfl (.tmp 30) (.tmp 31) 27 rfl w0.heap.size NodeT j0 5 Tryd.underlying27 ji (.slice Ar2 F cr2) F vs2 rfl HOX.out rfl ?_)
    obtain ⟨hr5, hk5⟩ := push_kids (ks := []) (vr' := .slice Ar2 F cr2) (w3 := X3) (news := []) HRX.out.1 (by have := HRX.out.2.1; rw [← HN.out, HNF.out] at this; exact this) (by have := HRX.out.2.2; rw [← HN.out, HNF.out] at this; exact this) (by rw [Nods]) (by have := HOX.out; rw [← HNF.out, HN.out] at this; rw [List.append_nil, ← HNF.out, HN.out]; exact this) ⟨rfl, rfl, rfl, Nat.le_refl _, fun _ _ _ => rfl⟩ (fun k hk => Or.inl hk)
    obtain ⟨X5, hX5⟩ : ∃ X5, X5 = (X3.setCell ⟨rb, 4, none⟩ (.slice Ar2 F cr2)).setCell ⟨rb, 2, none⟩ (.bool true) := ⟨_, rfl⟩
    rw [← hX5]
    have hR6 := (hr5.setw true).mono (A' := fun _ => False) fun b q => q.elim
    rw [← hX5] at hR6
    have HR6 := Lib.hid hR6
    clear hX5 hr5 hk5 hR6
    have HT2 := Lib.hid (took_yes [41] HR6.out HPc.out)
    refine HT2.out.mono ?_
    rintro e w7 ⟨rfl, hr7, _⟩
    have HR7 := Lib.hid (hr7.mono (A' := fun _ => False) fun b q => q.elim)
    clear hr7
    have HEN := Lib.hid (end_node (.arg k a nm []) [] (fun e => by cases e) HK0.out HR7.out (by have := HN.out; have := HNF.out; have := HFL.out; simp only [List.length_append, List.length_cons, List.length_nil]; omega) (by have := HM.out; omega))
    go_wp2_with (fail)
    refine HEN.out.mono ?_
    rintro e w8 ⟨rfl, hr8, _⟩
    have HR8 := Lib.hid hr8
    clear hr8
    go_wp2_with (fail)
    go_ret
    unfold argsM
    rw [if_pos HPp.out, if_pos HPc.out]
    have e2 : i + 2 = i + 1 + 1 := by omega
    rw [e2]
    exact ⟨rfl, HR8.out⟩
set_option maxRecDepth 100000 in
set_option maxHeartbeats 4000000 in
theorem args_nil_go (k a : Int) (nm : List UInt8)  (hp : isM l i [40] = true) (hc : isM l (i + 1) [41] = false) (h : Rd l v w0 rb A i wants false (rdL G) G w) (hl : (rdL G).length ≤ 1048580) (hG : G.length ≤ 1048580) (hd : Hd (.mk k a 0 nm [])) (hk0 : k ≠ 0) :
    Calls Tryd.prog 29 #[.pointer (some ⟨rb, 0, none⟩), .agg #[.int .i64 k, .int .i64 a, .int .i64 0, .string ⟨nm.toArray⟩, .slice none 0 0], .slice none 0 0] w (OutP l v w0 rb (argsM l i k a nm [] G)) := by
  obtain ⟨H, hH⟩ : ∃ H, H = w.heap.size := ⟨_, rfl⟩
  obtain ⟨W, hW⟩ : ∃ W, W = w.alloc (.cells #[.int .i64 k, .int .i64 a, .int .i64 0, .string ⟨nm.toArray⟩, .slice none 0 0] NodeT) := ⟨_, rfl⟩
  have bH : Box W H NodeT #[.int .i64 k, .int .i64 a, .int .i64 0, .string ⟨nm.toArray⟩, .slice none 0 0] := by rw [hW]; exact Box.new _ _ _ _ hH
  have hbW : Below w.heap.size w W := by rw [hW]; exact (Below.refl _ _).alloc (Nat.le_refl _) _
  have HW := Lib.hid hW
  have HHH := Lib.hid hH
  have HT := Lib.hid (took_yes [40] (h.on hbW) hp)
  have HHA : Hid (Up A w W H) := Lib.hid (Or.inr ⟨by omega, bH.lt⟩)
  have HBH := Lib.hid bH
  have hHrb : ¬ H = rb := by have := h.lt; omega
  have HD := Lib.hid hd
  have HK0 := Lib.hid hk0
  obtain ⟨N, hN⟩ : ∃ N, N = (rdL G).length := ⟨_, rfl⟩
  obtain ⟨M, hM⟩ : ∃ M, M = G.length := ⟨_, rfl⟩
  rw [← hN] at hl
  rw [← hM] at hG
  have HN := Lib.hid hN
  have HM := Lib.hid hM
  obtain ⟨i0, hi, hz0, hz1, hz2⟩ := info_parts infoB
  obtain ⟨j0, ji, jz0, jz1, jz2⟩ := info_parts infoN
  have HPp := Lib.hid hp
  have HPc := Lib.hid hc
  have HHS := Lib.hid bH.lt
  clear hW hH h bH hbW hp hd hk0 hN hM hc
  go_enter Tryd.func29, Tryd.ntmps29
  go_wp2_with (first | (rw [← HW.out, ← HHH.out]))
  refine HT.out.mono ?_
  rintro e w1 ⟨rfl, hr1, ho1⟩
  have bH1 : Box w1 H NodeT _ := ho1.box HBH.out hHrb
  obtain ⟨vr, vo, vs, ⟨_, _, _, _, c4, c5⟩, hf, hbx, hr⟩ := hr1.cells
  obtain ⟨Ar, cr, rfl⟩ := own_form hr.own
  obtain ⟨Ao, co, rfl⟩ := own_form hr.opn
  have f5 := hf 5
  have y0 := bH1.cell 0
  have y1 := bH1.cell 1
  have y2 := bH1.cell 2
  have y3 := bH1.cell 3
  have y4 := bH1.cell 4
  simp only [List.getElem?_toArray, List.getElem?_cons_zero, List.getElem?_cons_succ] at y0 y1 y2 y3 y4
  have hrz : rb < w1.heap.size := hbx.lt
  have hHz : H < w1.heap.size := bH1.lt
  obtain ⟨F, hF⟩ : ∃ F, F = cnt G := ⟨_, rfl⟩
  have hNF : N = F := by rw [HN.out, hF, rdL_len]
  rw [← HN.out] at c4
  rw [← HM.out] at c5
  rw [hNF] at c4
  have hcs : [.int .i64 k, .int .i64 a, .int .i64 0, .string ⟨nm.toArray⟩, .slice none 0 0, .int .i64 (F : Int), .int .i64 0, .string ⟨#[41]⟩, .bool true] = opnC G (.arg k a nm []) := by show _ = opnC G _; rw [hF]; rfl
  have HST : Hid (∀ V w3 vo', Below w1.heap.size w1 V → w3.ownsRow w0.heap.size BgT 9 vo' (M + 1) (opnV G ++ [.int .i64 k, .int .i64 a, .int .i64 0, .string ⟨nm.toArray⟩, .slice none 0 0, .int .i64 (F : Int), .int .i64 0, .string ⟨#[41]⟩, .bool true]) → V.grownBy w3 (Value.slice Ao M co).ownBlock → (∀ k, vo'.ownBlock = some k → (Value.slice Ao M co).ownBlock = some k ∨ V.heap.size ≤ k) → _) := Lib.hid (fun V w3 vo' hV h1 h2 h3 => have p := push_frm (wants := wants) (M := M) (.arg k a nm []) _ (hr1.on_ hV) (by rw [HM.out]; exact hbx.on hV) (by rw [HM.out]; exact ⟨own_below hr.own hV, hr.nods.below hV, own_below hr.opn hV, hr.apr⟩) HM.out HD.out hcs h1 h2 h3; And.intro (And.intro p.1.1 ((hr1.keep hV).trans p.1.2)) p.2)
  have HO : Hid (w1.ownsRow w0.heap.size BgT 9 (.slice Ao M co) M (opnV G)) := Lib.hid (by rw [HM.out]; exact hr.opn)
  have HBz : Hid (w0.heap.size ≤ w1.heap.size) := Lib.hid hr1.low.size
  have h1c : Hid (∀ u ∈ [Value.int .i64 k, .int .i64 a, .int .i64 0, .string ⟨nm.toArray⟩, .slice none 0 0, .int .i64 (F : Int), .int .i64 0, .string ⟨#[41]⟩, .bool true], u.oneCell' = true) := Lib.hid (by intro u hu; simp at hu; rcases hu with rfl | rfl | rfl | rfl | rfl | rfl | rfl | rfl | rfl <;> rfl)
  have HFL : Hid (F ≤ 1048580) := Lib.hid (by omega)
  have HNF := Lib.hid hNF
  clear hbx hr hf hcs ho1 hr1 bH1 hF hNF hl
  go_wp2_with (fail)
  go_region_law (first
    | (refine step_append_lies _ (by rfl) (.tmp 14) (.tmp 22) 47 (by rfl) w0.heap.size BgT i0 _ 9 104 Tryd.underlying47 hi hz0 hz1 hz2 (by rfl) (by decide) (.slice Ao M co) M (opnV G) (by rfl) (HO.out.alloc _) ⟨w1.heap.size, 0, none⟩ 1 1 [.int .i64 k, .int .i64 a, .int .i64 0, .string ⟨nm.toArray⟩, .slice none 0 0, .int .i64 (F : Int), .int .i64 0, .string ⟨#[41]⟩, .bool true] (by rfl) (by rfl) (World.news_of_block (heap_alloc_new w1 _)) h1c.out (by decide) (by unfold maxLen; omega) (by omega) (by simp; have := HBz.out; omega) (w1.heap.size + 1) (by simp) ?_; intro g cap w3 hown hgrow hat hlt; obtain ⟨p1, p2, p3, p4, p5⟩ := HST.out _ w3 _ (((Below.refl w1.heap.size w1).alloc (Nat.le_refl _) _).drew) hown hgrow (fun k hk => by have e : g = k := (by simpa [Value.ownBlock] using hk); subst e; exact hat.imp id fun h => by rw [h]; simp); have HP1 := Lib.hid p1; clear p1 hown hgrow hat))
  all_goals
    obtain ⟨X3, hX3⟩ : ∃ X3, X3 = w3.setCell ⟨rb, 5, none⟩ (.slice (some ⟨g, 0, none⟩) (M + 1) cap) := ⟨_, rfl⟩
    have hp1 := HP1.out
    rw [← hX3] at hp1 ⊢
    clear hX3 HP1 p2 p3 p4 p5 c4 c5 f5 y0 y1 y2 y3 y4
    obtain ⟨vr2, vo2, vs2, ⟨_, _, _, _, c4, _⟩, hf2, hbx2, hr2⟩ := hp1.1.cells
    obtain ⟨Ar2, cr2, rfl⟩ := own_form hr2.own
    rw [← HN.out, HNF.out] at c4
    have f4 := hf2 4
    have f2 := hf2 2
    have HRX := Lib.hid (And.intro hp1.1 (And.intro hbx2 hr2))
    have HOX : Hid (X3.ownsRow w0.heap.size NodeT 5 (.slice Ar2 F cr2) F vs2) := Lib.hid (by have := hr2.own; rw [← HN.out, HNF.out] at this; exact this)
    have HBX0 : Hid (w0.heap.size ≤ X3.heap.size) := Lib.hid hp1.1.low.size
    clear hbx2 hr2 hp1 hf2
    go_wp2_with (at_builtin; refine wpList_append_own_none rfl (.tmp 30) (.tmp 31) 27 rfl w0.heap.size NodeT j0 5 Tryd.underlying27 ji (.slice Ar2 F cr2) F vs2 rfl HOX.out rfl ?_)
    obtain ⟨hr5, hk5⟩ := push_kids (ks := []) (vr' := .slice Ar2 F cr2) (w3 := X3) (news := []) HRX.out.1 (by have := HRX.out.2.1; rw [← HN.out, HNF.out] at this; exact this) (by have := HRX.out.2.2; rw [← HN.out, HNF.out] at this; exact this) (by rw [Nods]) (by have := HOX.out; rw [← HNF.out, HN.out] at this; rw [List.append_nil, ← HNF.out, HN.out]; exact this) ⟨rfl, rfl, rfl, Nat.le_refl _, fun _ _ _ => rfl⟩ (fun k hk => Or.inl hk)
    obtain ⟨X5, hX5⟩ : ∃ X5, X5 = (X3.setCell ⟨rb, 4, none⟩ (.slice Ar2 F cr2)).setCell ⟨rb, 2, none⟩ (.bool true) := ⟨_, rfl⟩
    rw [← hX5]
    have hR6 := (hr5.setw true).mono (A' := fun _ => False) fun b q => q.elim
    rw [← hX5] at hR6
    have HR6 := Lib.hid hR6
    clear hX5 hr5 hk5 hR6
    have HT2 := Lib.hid (took_no [41] HR6.out HPc.out)
    refine HT2.out.mono ?_
    rintro e w7 ⟨rfl, hb7⟩
    have HR7 := Lib.hid (HR6.out.on_ hb7)
    clear hb7
    go_wp2_with (fail)
    go_ret
    unfold argsM
    rw [if_pos HPp.out, if_neg (by rw [HPc.out]; decide)]
    exact ⟨rfl, HR7.out⟩
theorem args_nil (k a : Int) (nm : List UInt8)  (h : Rd l v w0 rb A i wants false (rdL G) G w) (hl : (rdL G).length ≤ 1048580) (hG : G.length ≤ 1048580) (hd : Hd (.mk k a 0 nm [])) (hk0 : k ≠ 0) :
    Calls Tryd.prog 29 #[.pointer (some ⟨rb, 0, none⟩), .agg #[.int .i64 k, .int .i64 a, .int .i64 0, .string ⟨nm.toArray⟩, .slice none 0 0], .slice none 0 0] w (OutP l v w0 rb (argsM l i k a nm [] G)) := by
  cases hp : isM l i [40]
  · exact args_nil_no k a nm  hp h hl hG hd hk0
  · cases hc : isM l (i + 1) [41]
    · exact args_nil_go k a nm  hp hc h hl hG hd hk0
    · exact args_nil_end k a nm  hp hc h hl hG hd hk0
set_option maxRecDepth 100000 in
set_option maxHeartbeats 4000000 in
theorem args_one_no (k a : Int) (nm : List UInt8) (n : NT) (K : Nat) (hks : nt.Kids (fun b => A b) w [n] (.slice (some ⟨K, 0, none⟩) 1 1)) (hp : isM l i [40] = false) (h : Rd l v w0 rb A i wants false (rdL G) G w) (hl : (rdL G).length ≤ 1048580) (hG : G.length ≤ 1048580) (hd : Hd (.mk k a 0 nm [])) (hk0 : k ≠ 0) :
    Calls Tryd.prog 29 #[.pointer (some ⟨rb, 0, none⟩), .agg #[.int .i64 k, .int .i64 a, .int .i64 0, .string ⟨nm.toArray⟩, .slice none 0 0], .slice (some ⟨K, 0, none⟩) 1 1] w (OutP l v w0 rb (argsM l i k a nm [n] G)) := by
  obtain ⟨H, hH⟩ : ∃ H, H = w.heap.size := ⟨_, rfl⟩
  obtain ⟨W, hW⟩ : ∃ W, W = w.alloc (.cells #[.int .i64 k, .int .i64 a, .int .i64 0, .string ⟨nm.toArray⟩, .slice none 0 0] NodeT) := ⟨_, rfl⟩
  have bH : Box W H NodeT #[.int .i64 k, .int .i64 a, .int .i64 0, .string ⟨nm.toArray⟩, .slice none 0 0] := by rw [hW]; exact Box.new _ _ _ _ hH
  have hbW : Below w.heap.size w W := by rw [hW]; exact (Below.refl _ _).alloc (Nat.le_refl _) _
  have HW := Lib.hid hW
  have HHH := Lib.hid hH
  unfold argsM
  rw [if_neg (by rw [hp]; decide)]
  have HT := Lib.hid (took_no [40] (h.on_ hbW) hp)
  have HRW := Lib.hid (h.on_ hbW)
  clear hW hH h bH hbW hp
  go_enter Tryd.func29, Tryd.ntmps29
  go_wp2_with (first | (rw [← HW.out, ← HHH.out]))
  refine HT.out.mono ?_
  rintro e w1 ⟨rfl, hb1⟩
  have HR1 := Lib.hid ((HRW.out.on_ hb1).mono (A' := fun _ => False) fun b q => q.elim)
  clear hb1
  go_wp2_with (fail)
  go_ret
  exact ⟨rfl, _, _, _, _, HR1.out⟩
set_option maxRecDepth 100000 in
set_option maxHeartbeats 4000000 in
theorem args_one_end (k a : Int) (nm : List UInt8) (n : NT) (K : Nat) (hks : nt.Kids (fun b => A b) w [n] (.slice (some ⟨K, 0, none⟩) 1 1)) (hp : isM l i [40] = true) (hc : isM l (i + 1) [41] = true) (h : Rd l v w0 rb A i wants false (rdL G) G w) (hl : (rdL G).length ≤ 1048580) (hG : G.length ≤ 1048580) (hd : Hd (.mk k a 0 nm [])) (hk0 : k ≠ 0) :
    Calls Tryd.prog 29 #[.pointer (some ⟨rb, 0, none⟩), .agg #[.int .i64 k, .int .i64 a, .int .i64 0, .string ⟨nm.toArray⟩, .slice none 0 0], .slice (some ⟨K, 0, none⟩) 1 1] w (OutP l v w0 rb (argsM l i k a nm [n] G)) := by
  obtain ⟨H, hH⟩ : ∃ H, H = w.heap.size := ⟨_, rfl⟩
  obtain ⟨W, hW⟩ : ∃ W, W = w.alloc (.cells #[.int .i64 k, .int .i64 a, .int .i64 0, .string ⟨nm.toArray⟩, .slice none 0 0] NodeT) := ⟨_, rfl⟩
  have bH : Box W H NodeT #[.int .i64 k, .int .i64 a, .int .i64 0, .string ⟨nm.toArray⟩, .slice none 0 0] := by rw [hW]; exact Box.new _ _ _ _ hH
  have hbW : Below w.heap.size w W := by rw [hW]; exact (Below.refl _ _).alloc (Nat.le_refl _) _
  have HW := Lib.hid hW
  have HHH := Lib.hid hH
  have HT := Lib.hid (took_yes [40] (h.on hbW) hp)
  have HHA : Hid (Up A w W H) := Lib.hid (Or.inr ⟨by omega, bH.lt⟩)
  have HBH := Lib.hid bH
  have hHrb : ¬ H = rb := by have := h.lt; omega
  have HD := Lib.hid hd
  have HK0 := Lib.hid hk0
  have HKN : Hid (nt.Kids (fun b => A b) W [n] (.slice (some ⟨K, 0, none⟩) 1 1)) := Lib.hid (hks.below hbW)
  have HHW := Lib.hid (h.on hbW)
  clear hks
  obtain ⟨N, hN⟩ : ∃ N, N = (rdL G).length := ⟨_, rfl⟩
  obtain ⟨M, hM⟩ : ∃ M, M = G.length := ⟨_, rfl⟩
  rw [← hN] at hl
  rw [← hM] at hG
  have HN := Lib.hid hN
  have HM := Lib.hid hM
  obtain ⟨i0, hi, hz0, hz1, hz2⟩ := info_parts infoB
  obtain ⟨j0, ji, jz0, jz1, jz2⟩ := info_parts infoN
  have HPp := Lib.hid hp
  have HPc := Lib.hid hc
  have HHS := Lib.hid bH.lt
  clear hW hH h bH hbW hp hd hk0 hN hM hc
  go_enter Tryd.func29, Tryd.ntmps29
  go_wp2_with (first | (rw [← HW.out, ← HHH.out]))
  refine HT.out.mono ?_
  rintro e w1 ⟨rfl, hr1, ho1⟩
  have bH1 : Box w1 H NodeT _ := ho1.box HBH.out hHrb
  obtain ⟨vr, vo, vs, ⟨_, _, _, _, c4, c5⟩, hf, hbx, hr⟩ := hr1.cells
  obtain ⟨Ar, cr, rfl⟩ := own_form hr.own
  obtain ⟨Ao, co, rfl⟩ := own_form hr.opn
  have f5 := hf 5
  have y0 := bH1.cell 0
  have y1 := bH1.cell 1
  have y2 := bH1.cell 2
  have y3 := bH1.cell 3
  have y4 := bH1.cell 4
  simp only [List.getElem?_toArray, List.getElem?_cons_zero, List.getElem?_cons_succ] at y0 y1 y2 y3 y4
  have hrz : rb < w1.heap.size := hbx.lt
  have hHz : H < w1.heap.size := bH1.lt
  obtain ⟨F, hF⟩ : ∃ F, F = cnt G := ⟨_, rfl⟩
  have hNF : N = F := by rw [HN.out, hF, rdL_len]
  rw [← HN.out] at c4
  rw [← HM.out] at c5
  rw [hNF] at c4
  have hcs : [.int .i64 k, .int .i64 a, .int .i64 0, .string ⟨nm.toArray⟩, .slice none 0 0, .int .i64 (F : Int), .int .i64 0, .string ⟨#[41]⟩, .bool true] = opnC G (.arg k a nm [n]) := by show _ = opnC G _; rw [hF]; rfl
  have HST : Hid (∀ V w3 vo', Below w1.heap.size w1 V → w3.ownsRow w0.heap.size BgT 9 vo' (M + 1) (opnV G ++ [.int .i64 k, .int .i64 a, .int .i64 0, .string ⟨nm.toArray⟩, .slice none 0 0, .int .i64 (F : Int), .int .i64 0, .string ⟨#[41]⟩, .bool true]) → V.grownBy w3 (Value.slice Ao M co).ownBlock → (∀ k, vo'.ownBlock = some k → (Value.slice Ao M co).ownBlock = some k ∨ V.heap.size ≤ k) → _) := Lib.hid (fun V w3 vo' hV h1 h2 h3 => have p := push_frm (wants := wants) (M := M) (.arg k a nm [n]) _ (hr1.on_ hV) (by rw [HM.out]; exact hbx.on hV) (by rw [HM.out]; exact ⟨own_below hr.own hV, hr.nods.below hV, own_below hr.opn hV, hr.apr⟩) HM.out HD.out hcs h1 h2 h3; And.intro (And.intro p.1.1 ((hr1.keep hV).trans p.1.2)) p.2)
  have HO : Hid (w1.ownsRow w0.heap.size BgT 9 (.slice Ao M co) M (opnV G)) := Lib.hid (by rw [HM.out]; exact hr.opn)
  have HBz : Hid (w0.heap.size ≤ w1.heap.size) := Lib.hid hr1.low.size
  have h1c : Hid (∀ u ∈ [Value.int .i64 k, .int .i64 a, .int .i64 0, .string ⟨nm.toArray⟩, .slice none 0 0, .int .i64 (F : Int), .int .i64 0, .string ⟨#[41]⟩, .bool true], u.oneCell' = true) := Lib.hid (by intro u hu; simp at hu; rcases hu with rfl | rfl | rfl | rfl | rfl | rfl | rfl | rfl | rfl <;> rfl)
  have HKN1 : Hid (nt.Kids (fun b => A b) w1 [n] (.slice (some ⟨K, 0, none⟩) 1 1)) := Lib.hid (HKN.out.carry fun b o u q hc => ⟨q, (World.cell?_of_block (w := W) (w' := w1) (a := ⟨b, o, none⟩) (ho1 b (HHW.out.ap b (Or.inl q)).2.1 (HHW.out.ap b (Or.inl q)).2.2)).trans hc⟩)
  have HFL : Hid (F ≤ 1048580) := Lib.hid (by omega)
  have HNF := Lib.hid hNF
  clear hbx hr hf hcs ho1 hr1 bH1 hF hNF hl
  go_wp2_with (fail)
  go_region_law (first
    | (refine step_append_lies _ (by rfl) (.tmp 14) (.tmp 22) 47 (by rfl) w0.heap.size BgT i0 _ 9 104 Tryd.underlying47 hi hz0 hz1 hz2 (by rfl) (by decide) (.slice Ao M co) M (opnV G) (by rfl) (HO.out.alloc _) ⟨w1.heap.size, 0, none⟩ 1 1 [.int .i64 k, .int .i64 a, .int .i64 0, .string ⟨nm.toArray⟩, .slice none 0 0, .int .i64 (F : Int), .int .i64 0, .string ⟨#[41]⟩, .bool true] (by rfl) (by rfl) (World.news_of_block (heap_alloc_new w1 _)) h1c.out (by decide) (by unfold maxLen; omega) (by omega) (by simp; have := HBz.out; omega) (w1.heap.size + 1) (by simp) ?_; intro g cap w3 hown hgrow hat hlt; obtain ⟨p1, p2, p3, p4, p5⟩ := HST.out _ w3 _ (((Below.refl w1.heap.size w1).alloc (Nat.le_refl _) _).drew) hown hgrow (fun k hk => by have e : g = k := (by simpa [Value.ownBlock] using hk); subst e; exact hat.imp id fun h => by rw [h]; simp); have HP1 := Lib.hid p1; clear p1 hown hgrow hat))
  all_goals
    obtain ⟨X3, hX3⟩ : ∃ X3, X3 = w3.setCell ⟨rb, 5, none⟩ (.slice (some ⟨g, 0, none⟩) (M + 1) cap) := ⟨_, rfl⟩
    have hp1 := HP1.out
    rw [← hX3] at hp1 ⊢
    clear hX3 HP1 p2 p3 p4 p5 c4 c5 f5 y0 y1 y2 y3 y4
    obtain ⟨vr2, vo2, vs2, ⟨_, _, _, _, c4, _⟩, hf2, hbx2, hr2⟩ := hp1.1.cells
    obtain ⟨Ar2, cr2, rfl⟩ := own_form hr2.own
    rw [← HN.out, HNF.out] at c4
    have f4 := hf2 4
    have f2 := hf2 2
    have HRX := Lib.hid (And.intro hp1.1 (And.intro hbx2 hr2))
    have HOX : Hid (X3.ownsRow w0.heap.size NodeT 5 (.slice Ar2 F cr2) F vs2) := Lib.hid (by have := hr2.own; rw [← HN.out, HNF.out] at this; exact this)
    have HKX : Hid (nt.Kids (fun b => A b) X3 [n] (.slice (some ⟨K, 0, none⟩) 1 1)) := Lib.hid (HKN1.out.carry fun b o u q hc => ⟨q, (World.cell?_of_block (w := w1) (w' := X3) (a := ⟨b, o, none⟩) (hp1.2 b (Or.inl (Or.inl q)))).trans hc⟩)
    obtain ⟨A9, c9, e9, _, hk9⟩ := HKX.out
    obtain ⟨b9, o9, eA, hG9, hrow9⟩ := hk9 (by simp)
    subst eA
    injection e9 with e91 e97 e92
    clear e97
    subst e92
    injection e91 with e93
    injection e93 with e94 e95 _
    subst e94 e95
    obtain ⟨news, hnn, hnc⟩ := row_nods hrow9
    have HNN := Lib.hid hnn
    have HN5 : Hid (news.length = 1 * 5) := Lib.hid hnn.len
    have HN1 := Lib.hid hnn.one
    have HNC : Hid (∀ j u, news[j]? = some u → X3.cell? ((⟨K, 0, none⟩ : Addr).add j) = some u) := Lib.hid fun j u hu => by rw [vt.cells_add]; exact hnc j u hu
    clear hnn hnc hrow9 hk9 hG9
    have HBX0 : Hid (w0.heap.size ≤ X3.heap.size) := Lib.hid hp1.1.low.size
    clear hbx2 hr2 hp1 hf2
    go_wp2_with (at_builtin; refine wpList_append_mine rfl (.tmp 30) (.tmp 31) 27 rfl w0.heap.size NodeT j0 (.agg #[.int .i64 0, .int .i64 0, .int .i64 0, .string ⟨#[]⟩, .slice none 0 0]) 5 64 Tryd.underlying27 ji jz0 jz1 jz2 rfl (by decide) (.slice Ar2 F cr2) F vs2 rfl HOX.out ⟨K, 0, none⟩ 1 1 news rfl HN5.out HNC.out HN1.out (by have := HFL.out; unfold maxLen; omega) (by have := HFL.out; omega) HBX0.out ?_; intro v' w4 hown hgrow hat; obtain ⟨A4, c4', rfl⟩ := own_form hown; obtain ⟨hr5, hk5⟩ := push_kids (ks := [n]) HRX.out.1 (by have := HRX.out.2.1; rw [← HN.out, HNF.out] at this; exact this) (by have := HRX.out.2.2; rw [← HN.out, HNF.out] at this; exact this) (HNN.out.mono fun b q => Or.inl (Or.inl q)) (by rw [← HN.out, HNF.out]; exact hown) hgrow hat; have hb4 : Box w4 rb RdT _ := (by have := HRX.out.2.1; rw [← HN.out, HNF.out] at this; exact this.grown hgrow (fun e => (Typ.own HOX.out e.symm).ne (⟨_, _, HRX.out.2.1⟩ : Typ X3 RdT rb) (by decide) rfl)); have c4 := hb4.cell 4; have f4 := hb4.frozen 4; have c2 := hb4.cell 2; have f2 := hb4.frozen 2; have HR5 := Lib.hid (And.intro hr5 hk5); clear hown hgrow hat hb4 hr5 hk5)
    obtain ⟨hr5, hk5⟩ := HR5.out
    obtain ⟨X5, hX5⟩ : ∃ X5, X5 = (w4.setCell ⟨rb, 4, none⟩ (.slice A4 (F + 1) c4')).setCell ⟨rb, 2, none⟩ (.bool true) := ⟨_, rfl⟩
    rw [← hX5]
    have hR6 := (hr5.setw true).mono (A' := fun _ => False) fun b q => q.elim
    rw [← hX5] at hR6
    have HR6 := Lib.hid hR6
    clear hX5 hr5 hk5 hR6
    have HT2 := Lib.hid (took_yes [41] HR6.out HPc.out)
    refine HT2.out.mono ?_
    rintro e w7 ⟨rfl, hr7, _⟩
    have HR7 := Lib.hid (hr7.mono (A' := fun _ => False) fun b q => q.elim)
    clear hr7
    have HEN := Lib.hid (end_node (.arg k a nm [n]) [n] (fun e => by cases e) HK0.out HR7.out (by have := HN.out; have := HNF.out; have := HFL.out; simp only [List.length_append, List.length_cons, List.length_nil]; omega) (by have := HM.out; omega))
    go_wp2_with (fail)
    refine HEN.out.mono ?_
    rintro e w8 ⟨rfl, hr8, _⟩
    have HR8 := Lib.hid hr8
    clear hr8
    go_wp2_with (fail)
    go_ret
    unfold argsM
    rw [if_pos HPp.out, if_pos HPc.out]
    have e2 : i + 2 = i + 1 + 1 := by omega
    rw [e2]
    exact ⟨rfl, HR8.out⟩
set_option maxRecDepth 100000 in
set_option maxHeartbeats 4000000 in
theorem args_one_go (k a : Int) (nm : List UInt8) (n : NT) (K : Nat) (hks : nt.Kids (fun b => A b) w [n] (.slice (some ⟨K, 0, none⟩) 1 1)) (hp : isM l i [40] = true) (hc : isM l (i + 1) [41] = false) (h : Rd l v w0 rb A i wants false (rdL G) G w) (hl : (rdL G).length ≤ 1048580) (hG : G.length ≤ 1048580) (hd : Hd (.mk k a 0 nm [])) (hk0 : k ≠ 0) :
    Calls Tryd.prog 29 #[.pointer (some ⟨rb, 0, none⟩), .agg #[.int .i64 k, .int .i64 a, .int .i64 0, .string ⟨nm.toArray⟩, .slice none 0 0], .slice (some ⟨K, 0, none⟩) 1 1] w (OutP l v w0 rb (argsM l i k a nm [n] G)) := by
  obtain ⟨H, hH⟩ : ∃ H, H = w.heap.size := ⟨_, rfl⟩
  obtain ⟨W, hW⟩ : ∃ W, W = w.alloc (.cells #[.int .i64 k, .int .i64 a, .int .i64 0, .string ⟨nm.toArray⟩, .slice none 0 0] NodeT) := ⟨_, rfl⟩
  have bH : Box W H NodeT #[.int .i64 k, .int .i64 a, .int .i64 0, .string ⟨nm.toArray⟩, .slice none 0 0] := by rw [hW]; exact Box.new _ _ _ _ hH
  have hbW : Below w.heap.size w W := by rw [hW]; exact (Below.refl _ _).alloc (Nat.le_refl _) _
  have HW := Lib.hid hW
  have HHH := Lib.hid hH
  have HT := Lib.hid (took_yes [40] (h.on hbW) hp)
  have HHA : Hid (Up A w W H) := Lib.hid (Or.inr ⟨by omega, bH.lt⟩)
  have HBH := Lib.hid bH
  have hHrb : ¬ H = rb := by have := h.lt; omega
  have HD := Lib.hid hd
  have HK0 := Lib.hid hk0
  have HKN : Hid (nt.Kids (fun b => A b) W [n] (.slice (some ⟨K, 0, none⟩) 1 1)) := Lib.hid (hks.below hbW)
  have HHW := Lib.hid (h.on hbW)
  clear hks
  obtain ⟨N, hN⟩ : ∃ N, N = (rdL G).length := ⟨_, rfl⟩
  obtain ⟨M, hM⟩ : ∃ M, M = G.length := ⟨_, rfl⟩
  rw [← hN] at hl
  rw [← hM] at hG
  have HN := Lib.hid hN
  have HM := Lib.hid hM
  obtain ⟨i0, hi, hz0, hz1, hz2⟩ := info_parts infoB
  obtain ⟨j0, ji, jz0, jz1, jz2⟩ := info_parts infoN
  have HPp := Lib.hid hp
  have HPc := Lib.hid hc
  have HHS := Lib.hid bH.lt
  clear hW hH h bH hbW hp hd hk0 hN hM hc
  go_enter Tryd.func29, Tryd.ntmps29
  go_wp2_with (first | (rw [← HW.out, ← HHH.out]))
  refine HT.out.mono ?_
  rintro e w1 ⟨rfl, hr1, ho1⟩
  have bH1 : Box w1 H NodeT _ := ho1.box HBH.out hHrb
  obtain ⟨vr, vo, vs, ⟨_, _, _, _, c4, c5⟩, hf, hbx, hr⟩ := hr1.cells
  obtain ⟨Ar, cr, rfl⟩ := own_form hr.own
  obtain ⟨Ao, co, rfl⟩ := own_form hr.opn
  have f5 := hf 5
  have y0 := bH1.cell 0
  have y1 := bH1.cell 1
  have y2 := bH1.cell 2
  have y3 := bH1.cell 3
  have y4 := bH1.cell 4
  simp only [List.getElem?_toArray, List.getElem?_cons_zero, List.getElem?_cons_succ] at y0 y1 y2 y3 y4
  have hrz : rb < w1.heap.size := hbx.lt
  have hHz : H < w1.heap.size := bH1.lt
  obtain ⟨F, hF⟩ : ∃ F, F = cnt G := ⟨_, rfl⟩
  have hNF : N = F := by rw [HN.out, hF, rdL_len]
  rw [← HN.out] at c4
  rw [← HM.out] at c5
  rw [hNF] at c4
  have hcs : [.int .i64 k, .int .i64 a, .int .i64 0, .string ⟨nm.toArray⟩, .slice none 0 0, .int .i64 (F : Int), .int .i64 0, .string ⟨#[41]⟩, .bool true] = opnC G (.arg k a nm [n]) := by show _ = opnC G _; rw [hF]; rfl
  have HST : Hid (∀ V w3 vo', Below w1.heap.size w1 V → w3.ownsRow w0.heap.size BgT 9 vo' (M + 1) (opnV G ++ [.int .i64 k, .int .i64 a, .int .i64 0, .string ⟨nm.toArray⟩, .slice none 0 0, .int .i64 (F : Int), .int .i64 0, .string ⟨#[41]⟩, .bool true]) → V.grownBy w3 (Value.slice Ao M co).ownBlock → (∀ k, vo'.ownBlock = some k → (Value.slice Ao M co).ownBlock = some k ∨ V.heap.size ≤ k) → _) := Lib.hid (fun V w3 vo' hV h1 h2 h3 => have p := push_frm (wants := wants) (M := M) (.arg k a nm [n]) _ (hr1.on_ hV) (by rw [HM.out]; exact hbx.on hV) (by rw [HM.out]; exact ⟨own_below hr.own hV, hr.nods.below hV, own_below hr.opn hV, hr.apr⟩) HM.out HD.out hcs h1 h2 h3; And.intro (And.intro p.1.1 ((hr1.keep hV).trans p.1.2)) p.2)
  have HO : Hid (w1.ownsRow w0.heap.size BgT 9 (.slice Ao M co) M (opnV G)) := Lib.hid (by rw [HM.out]; exact hr.opn)
  have HBz : Hid (w0.heap.size ≤ w1.heap.size) := Lib.hid hr1.low.size
  have h1c : Hid (∀ u ∈ [Value.int .i64 k, .int .i64 a, .int .i64 0, .string ⟨nm.toArray⟩, .slice none 0 0, .int .i64 (F : Int), .int .i64 0, .string ⟨#[41]⟩, .bool true], u.oneCell' = true) := Lib.hid (by intro u hu; simp at hu; rcases hu with rfl | rfl | rfl | rfl | rfl | rfl | rfl | rfl | rfl <;> rfl)
  have HKN1 : Hid (nt.Kids (fun b => A b) w1 [n] (.slice (some ⟨K, 0, none⟩) 1 1)) := Lib.hid (HKN.out.carry fun b o u q hc => ⟨q, (World.cell?_of_block (w := W) (w' := w1) (a := ⟨b, o, none⟩) (ho1 b (HHW.out.ap b (Or.inl q)).2.1 (HHW.out.ap b (Or.inl q)).2.2)).trans hc⟩)
  have HFL : Hid (F ≤ 1048580) := Lib.hid (by omega)
  have HNF := Lib.hid hNF
  clear hbx hr hf hcs ho1 hr1 bH1 hF hNF hl
  go_wp2_with (fail)
  go_region_law (first
    | (refine step_append_lies _ (by rfl) (.tmp 14) (.tmp 22) 47 (by rfl) w0.heap.size BgT i0 _ 9 104 Tryd.underlying47 hi hz0 hz1 hz2 (by rfl) (by decide) (.slice Ao M co) M (opnV G) (by rfl) (HO.out.alloc _) ⟨w1.heap.size, 0, none⟩ 1 1 [.int .i64 k, .int .i64 a, .int .i64 0, .string ⟨nm.toArray⟩, .slice none 0 0, .int .i64 (F : Int), .int .i64 0, .string ⟨#[41]⟩, .bool true] (by rfl) (by rfl) (World.news_of_block (heap_alloc_new w1 _)) h1c.out (by decide) (by unfold maxLen; omega) (by omega) (by simp; have := HBz.out; omega) (w1.heap.size + 1) (by simp) ?_; intro g cap w3 hown hgrow hat hlt; obtain ⟨p1, p2, p3, p4, p5⟩ := HST.out _ w3 _ (((Below.refl w1.heap.size w1).alloc (Nat.le_refl _) _).drew) hown hgrow (fun k hk => by have e : g = k := (by simpa [Value.ownBlock] using hk); subst e; exact hat.imp id fun h => by rw [h]; simp); have HP1 := Lib.hid p1; clear p1 hown hgrow hat))
  all_goals
    obtain ⟨X3, hX3⟩ : ∃ X3, X3 = w3.setCell ⟨rb, 5, none⟩ (.slice (some ⟨g, 0, none⟩) (M + 1) cap) := ⟨_, rfl⟩
    have hp1 := HP1.out
    rw [← hX3] at hp1 ⊢
    clear hX3 HP1 p2 p3 p4 p5 c4 c5 f5 y0 y1 y2 y3 y4
    obtain ⟨vr2, vo2, vs2, ⟨_, _, _, _, c4, _⟩, hf2, hbx2, hr2⟩ := hp1.1.cells
    obtain ⟨Ar2, cr2, rfl⟩ := own_form hr2.own
    rw [← HN.out, HNF.out] at c4
    have f4 := hf2 4
    have f2 := hf2 2
    have HRX := Lib.hid (And.intro hp1.1 (And.intro hbx2 hr2))
    have HOX : Hid (X3.ownsRow w0.heap.size NodeT 5 (.slice Ar2 F cr2) F vs2) := Lib.hid (by have := hr2.own; rw [← HN.out, HNF.out] at this; exact this)
    have HKX : Hid (nt.Kids (fun b => A b) X3 [n] (.slice (some ⟨K, 0, none⟩) 1 1)) := Lib.hid (HKN1.out.carry fun b o u q hc => ⟨q, (World.cell?_of_block (w := w1) (w' := X3) (a := ⟨b, o, none⟩) (hp1.2 b (Or.inl (Or.inl q)))).trans hc⟩)
    obtain ⟨A9, c9, e9, _, hk9⟩ := HKX.out
    obtain ⟨b9, o9, eA, hG9, hrow9⟩ := hk9 (by simp)
    subst eA
    injection e9 with e91 e97 e92
    clear e97
    subst e92
    injection e91 with e93
    injection e93 with e94 e95 _
    subst e94 e95
    obtain ⟨news, hnn, hnc⟩ := row_nods hrow9
    have HNN := Lib.hid hnn
    have HN5 : Hid (news.length = 1 * 5) := Lib.hid hnn.len
    have HN1 := Lib.hid hnn.one
    have HNC : Hid (∀ j u, news[j]? = some u → X3.cell? ((⟨K, 0, none⟩ : Addr).add j) = some u) := Lib.hid fun j u hu => by rw [vt.cells_add]; exact hnc j u hu
    clear hnn hnc hrow9 hk9 hG9
    have HBX0 : Hid (w0.heap.size ≤ X3.heap.size) := Lib.hid hp1.1.low.size
    clear hbx2 hr2 hp1 hf2
    go_wp2_with (at_builtin; refine wpList_append_mine rfl (.tmp 30) (.tmp 31) 27 rfl w0.heap.size NodeT j0 (.agg #[.int .i64 0, .int .i64 0, .int .i64 0, .string ⟨#[]⟩, .slice none 0 0]) 5 64 Tryd.underlying27 ji jz0 jz1 jz2 rfl (by decide) (.slice Ar2 F cr2) F vs2 rfl HOX.out ⟨K, 0, none⟩ 1 1 news rfl HN5.out HNC.out HN1.out (by have := HFL.out; unfold maxLen; omega) (by have := HFL.out; omega) HBX0.out ?_; intro v' w4 hown hgrow hat; obtain ⟨A4, c4', rfl⟩ := own_form hown; obtain ⟨hr5, hk5⟩ := push_kids (ks := [n]) HRX.out.1 (by have := HRX.out.2.1; rw [← HN.out, HNF.out] at this; exact this) (by have := HRX.out.2.2; rw [← HN.out, HNF.out] at this; exact this) (HNN.out.mono fun b q => Or.inl (Or.inl q)) (by rw [← HN.out, HNF.out]; exact hown) hgrow hat; have hb4 : Box w4 rb RdT _ := (by have := HRX.out.2.1; rw [← HN.out, HNF.out] at this; exact this.grown hgrow (fun e => (Typ.own HOX.out e.symm).ne (⟨_, _, HRX.out.2.1⟩ : Typ X3 RdT rb) (by decide) rfl)); have c4 := hb4.cell 4; have f4 := hb4.frozen 4; have c2 := hb4.cell 2; have f2 := hb4.frozen 2; have HR5 := Lib.hid (And.intro hr5 hk5); clear hown hgrow hat hb4 hr5 hk5)
    obtain ⟨hr5, hk5⟩ := HR5.out
    obtain ⟨X5, hX5⟩ : ∃ X5, X5 = (w4.setCell ⟨rb, 4, none⟩ (.slice A4 (F + 1) c4')).setCell ⟨rb, 2, none⟩ (.bool true) := ⟨_, rfl⟩
    rw [← hX5]
    have hR6 := (hr5.setw true).mono (A' := fun _ => False) fun b q => q.elim
    rw [← hX5] at hR6
    have HR6 := Lib.hid hR6
    clear hX5 hr5 hk5 hR6
    have HT2 := Lib.hid (took_no [41] HR6.out HPc.out)
    refine HT2.out.mono ?_
    rintro e w7 ⟨rfl, hb7⟩
    have HR7 := Lib.hid (HR6.out.on_ hb7)
    clear hb7
    go_wp2_with (fail)
    go_ret
    unfold argsM
    rw [if_pos HPp.out, if_neg (by rw [HPc.out]; decide)]
    exact ⟨rfl, HR7.out⟩
theorem args_one (k a : Int) (nm : List UInt8) (n : NT) (K : Nat) (hks : nt.Kids (fun b => A b) w [n] (.slice (some ⟨K, 0, none⟩) 1 1)) (h : Rd l v w0 rb A i wants false (rdL G) G w) (hl : (rdL G).length ≤ 1048580) (hG : G.length ≤ 1048580) (hd : Hd (.mk k a 0 nm [])) (hk0 : k ≠ 0) :
    Calls Tryd.prog 29 #[.pointer (some ⟨rb, 0, none⟩), .agg #[.int .i64 k, .int .i64 a, .int .i64 0, .string ⟨nm.toArray⟩, .slice none 0 0], .slice (some ⟨K, 0, none⟩) 1 1] w (OutP l v w0 rb (argsM l i k a nm [n] G)) := by
  cases hp : isM l i [40]
  · exact args_one_no k a nm n K hks hp h hl hG hd hk0
  · cases hc : isM l (i + 1) [41]
    · exact args_one_go k a nm n K hks hp hc h hl hG hd hk0
    · exact args_one_end k a nm n K hks hp hc h hl hG hd hk0
end Go.Proofs.YtgohkmdepjmpaaaDoor.pm.em

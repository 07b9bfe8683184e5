import Derived.Test.YtgohkmdepjmpaaaDoorCExpArgs
import Derived.Test.YtgohkmdepjmpaaaDoorCGExpTy
/- The package's reader reads an expression of one token, or a call. -/
--KEEP
namespace Go.Proofs.YtgohkmdepjmpaaaDoor.pm.em
open Go.RowKit wd lx nt ne pm mem
open vt (I64)
variable {l : List Tk} {v : Value} {w0 : World} {rb : Nat} {A A' : Nat → Prop} {i j : Int} {wants over : Bool} {rs : List NT} {G : List Frm} {w w' : World}

def firstM (l : List Tk) (i : Int) (G : List Frm) : Out :=
  if (tokAt l i).kind = 2 then .go (.have_ (i + 1) G (.mk 10 (tokAt l i).at_ (tokAt l i).n [] []))
  else if pm.isW l i sTrue = true then .go (.have_ (i + 1) G (.mk 11 (tokAt l i).at_ 1 [] []))
  else if pm.isW l i sFalse = true then .go (.have_ (i + 1) G (.mk 11 (tokAt l i).at_ 0 [] []))
  else if (tokAt l i).kind = 1 then (if isM l (i + 1) [40] = true then callM l i 17 (tokAt l i).at_ G else .go (.have_ (i + 1) G (.mk 12 (tokAt l i).at_ 0 (tokAt l i).text [])))
  else .no i
theorem first_of (l : List Tk) (i : Int) (G : List Frm) : firstM l i G = match aloneF (tokAt l i) with
    | none => .no i
    | some n => if n.kind = 12 ∧ isM l (i + 1) [40] = true then argsM l (i + 1) 17 n.at_ n.name [] G else .go (.have_ (i + 1) G n) := by
  unfold firstM aloneF
  by_cases h1 : (tokAt l i).kind = 2
  · rw [if_pos h1, if_pos h1]; simp [NT.kind]
  rw [if_neg h1, if_neg h1]
  by_cases h2 : isWd (tokAt l i) sTrue = true
  · rw [if_pos (show pm.isW l i sTrue = true from h2), if_pos h2]; simp [NT.kind]
  rw [if_neg (show ¬ pm.isW l i sTrue = true from h2), if_neg h2]
  by_cases h3 : isWd (tokAt l i) sFalse = true
  · rw [if_pos (show pm.isW l i sFalse = true from h3), if_pos h3]; simp [NT.kind]
  rw [if_neg (show ¬ pm.isW l i sFalse = true from h3), if_neg h3]
  by_cases h4 : (tokAt l i).kind = 1
  · rw [if_pos h4, if_pos h4]
    by_cases h5 : isM l (i + 1) [40] = true
    · rw [if_pos h5]
      simp only [NT.kind, h5, and_self, if_true]
      unfold callM
      rw [if_pos h4]
      rfl
    · rw [if_neg h5]
      simp only [NT.kind, h5, and_false, if_false]
      rfl
  · rw [if_neg h4, if_neg h4]
theorem alone_form {t : Tk} {n : NT} (h : aloneF t = some n) (ha : I64 t.at_) (hn : I64 t.n) (hs : t.text.length ≤ 281474976710656) : n.kids = [] ∧ Hd n ∧ t.kind ≠ 0 ∧ (n.kind = 12 → n.num = 0) := by
  have h0 : I64 (0 : Int) := by unfold I64; omega
  have h1 : I64 (1 : Int) := by unfold I64; omega
  have h10 : I64 (10 : Int) := by unfold I64; omega
  have h11 : I64 (11 : Int) := by unfold I64; omega
  have h12 : I64 (12 : Int) := by unfold I64; omega
  have hk : t.kind = 1 ∨ t.kind = 2 ∨ t.kind = 3 := by
    unfold aloneF isWd at h
    by_cases q1 : t.kind = 2
    · exact Or.inr (Or.inl q1)
    by_cases q3 : t.kind = 3
    · exact Or.inr (Or.inr q3)
    simp [q1, q3] at h
    exact Or.inl h.1
  have hz : (0 : Nat) ≤ 281474976710656 := by omega
  unfold aloneF at h
  repeat' split at h
  · injection h with h; rw [← h]; exact ⟨rfl, ⟨h10, ha, hn, hz⟩, by omega, fun e => absurd e (by show ¬ (10 : Int) = 12; decide)⟩
  · injection h with h; rw [← h]; exact ⟨rfl, ⟨h11, ha, h1, hz⟩, by omega, fun e => absurd e (by show ¬ (11 : Int) = 12; decide)⟩
  · injection h with h; rw [← h]; exact ⟨rfl, ⟨h11, ha, h0, hz⟩, by omega, fun e => absurd e (by show ¬ (11 : Int) = 12; decide)⟩
  · injection h with h; rw [← h]; exact ⟨rfl, ⟨h12, ha, h0, hs⟩, by omega, fun _ => rfl⟩
  · cases h
theorem Rd.one (h : Rd l v w0 rb A i wants over rs G w) (hb : Below w.heap.size w w') : Rd l v w0 rb (fun b => w.heap.size ≤ b ∧ b < w'.heap.size) i wants over rs G w' := (h.on hb).mono fun _ q => Or.inr q
theorem Rd.non (h : Rd l v w0 rb A i wants over rs G w) : Rd l v w0 rb (fun _ => False) i wants over rs G w := h.mono fun _ q => q.elim
set_option maxHeartbeats 2000000 in
theorem first_none (h : Rd l v w0 rb A i wants false (rdL G) G w) (ha : aloneF (tokAt l i) = none) :
    Calls Tryd.prog 48 #[.pointer (some ⟨rb, 0, none⟩)] w (OutP l v w0 rb (.no i)) := by
  have HR := Lib.hid h
  have HC := Lib.hid (token_any h)
  have HAF := Lib.hid ha
  clear h ha
  go_enter Tryd.func48, Tryd.ntmps48
  go_wp2_with (fail)
  refine HC.out.mono ?_
  rintro e w1 ⟨rfl, hb1⟩
  have HA := Lib.hid (alone_tok (tokAt l i) w1 ((HR.out.on hb1).ldw) (fun hk => (HR.out.env.good i).1 hk) (fun hk => (HR.out.env.good i).2 hk))
  rw [HAF.out] at HA
  have HB1 := Lib.hid hb1
  clear hb1
  unfold tkA at HA ⊢
  go_wp2_with (fail)
  refine HA.out.mono ?_
  intro e w2 hp
  obtain ⟨rfl, hb2⟩ := hp
  have hb12 := HB1.out.trans (hb2.mono HB1.out.size)
  have HR2 : Hid (Rd l v w0 rb (fun _ => False) i wants false (rdL G) G (w2.alloc (.cells #[.int .i64 0, .int .i64 0, .int .i64 0, .string ⟨#[]⟩, .slice none 0 0] NodeT))) := Lib.hid (HR.out.on (hb12.alloc hb12.size _)).non
  clear hb2 hb12
  go_wp2_with (fail)
  go_ret
  exact ⟨rfl, _, _, _, _, HR2.out⟩
/-- what stands behind the token that was read -/
theorem first_state {n : NT} {w2 X : World} (h : Rd l v w0 rb A i wants over rs G w) (hb : Below w.heap.size w w2) (hj : I64 (i + 1)) (hX : X = (w2.setCell ⟨rb, 1, none⟩ (.int .i64 (i + 1))).alloc (.cells #[.int .i64 n.kind, .int .i64 n.at_, .int .i64 n.num, .string ⟨n.name.toArray⟩, .slice none 0 0] NodeT)) :
    Rd l v w0 rb (fun b => b = w2.heap.size) (i + 1) wants over rs G X ∧ Box X w2.heap.size NodeT #[.int .i64 n.kind, .int .i64 n.at_, .int .i64 n.num, .string ⟨n.name.toArray⟩, .slice none 0 0] := by
  have h2 := ((h.on hb).seti hj).non
  subst hX
  have hz : (w2.setCell ⟨rb, 1, none⟩ (.int .i64 (i + 1))).heap.size = w2.heap.size := by simp [World.setCell]
  refine ⟨(h2.one ((Below.refl _ _).alloc (Nat.le_refl _) _)).mono fun b q => by subst q; rw [hz]; simp [World.setCell], Box.new _ _ _ _ hz.symm⟩
set_option maxRecDepth 100000 in
set_option maxHeartbeats 2000000 in
theorem first_some (n : NT) (b12 bp : Bool) (o : Out) (ho : o = if b12 = true ∧ bp = true then argsM l (i + 1) 17 n.at_ n.name [] G else .go (.have_ (i + 1) G n)) (h : Rd l v w0 rb A i wants false (rdL G) G w) (ha : aloneF (tokAt l i) = some n) (h12 : decide (n.kind = 12) = b12) (hp : isM l (i + 1) [40] = bp) (hl : (rdL G).length ≤ 1048580) (hG : G.length ≤ 1048580) :
    Calls Tryd.prog 48 #[.pointer (some ⟨rb, 0, none⟩)] w (OutP l v w0 rb o) := by
  have HO := Lib.hid ho
  clear ho
  have hfr := h.env.src.fair i
  obtain ⟨hk0, hd0, hin, hnum⟩ := alone_form ha hfr.1 hfr.2.1 hfr.2.2
  have hin := tok_in hin
  have hlen := h.env.src.len
  have hx : IntKind.i64.wrap (i + 1) = i + 1 := IntWalk.i64_in _ (by omega)
  have HJ : Hid (I64 (i + 1)) := Lib.hid (by unfold I64; omega)
  have HR := Lib.hid h
  have HC := Lib.hid (token_any h)
  have HAF := Lib.hid ha
  have HL := Lib.hid hl
  have HG := Lib.hid hG
  have HP := Lib.hid hp
  obtain ⟨nk, na, nn, nm, nks⟩ := n
  have hk0' : nks = [] := hk0
  subst hk0'
  have HD0 := Lib.hid hd0
  change decide (nk = 12) = b12 at h12
  change nk = 12 → nn = 0 at hnum
  have HNUM := Lib.hid hnum
  clear h ha hfr hk0 hd0 hin hlen hl hG hp hnum
  go_enter Tryd.func48, Tryd.ntmps48
  go_wp2_with (fail)
  refine HC.out.mono ?_
  rintro e w1 ⟨rfl, hb1⟩
  have HA := Lib.hid (alone_tok (tokAt l i) w1 ((HR.out.on hb1).ldw) (fun hk => (HR.out.env.good i).1 hk) (fun hk => (HR.out.env.good i).2 hk))
  rw [HAF.out] at HA
  have HB1 := Lib.hid hb1
  clear hb1
  unfold tkA at HA ⊢
  go_wp2_with (fail)
  refine HA.out.mono ?_
  intro e w2 hp
  obtain ⟨rfl, hb2⟩ := hp
  have hb12 := HB1.out.trans (hb2.mono HB1.out.size)
  obtain ⟨vr, vo, vs, ⟨_, c1, _⟩, hf, hbx, _⟩ := (HR.out.on hb12).cells
  have f1 := hf 1
  have hrz : rb < w2.heap.size := hbx.lt
  have hrn : ¬ rb = w2.heap.size := by omega
  have HR2s := Lib.hid ((HR.out.on hb12).seti HJ.out).non
  have HST := Lib.hid (fun X hX => first_state (n := .mk nk na nn nm []) (X := X) HR.out hb12 HJ.out hX)
  clear hb2 hb12 hf hbx
  dsimp only [NT.kind, NT.at_, NT.num, NT.name]
  cases b12 with
  | false =>
    have hk12 : (nk == 12) = false := beq_eq_false_iff_ne.2 (of_decide_eq_false h12)
    clear h12
    go_wp2_with (fail)
    obtain ⟨hr3, bN⟩ := HST.out _ rfl
    have HPUT := Lib.hid (put_any (.mk nk na nn nm []) (.slice none 0 0) hr3 (by have := HL.out; omega) HD0.out (nt.Kids.nil_ _ _))
    refine HPUT.out.mono ?_
    rintro e w4 ⟨rfl, hr4, _⟩
    have HR4 := Lib.hid hr4.non
    clear hr4 hr3 bN
    go_wp2_with (fail)
    go_ret
    rw [HO.out, if_neg (by simp)]
    exact ⟨rfl, HR4.out⟩
  | true =>
    have hk12 : nk = 12 := of_decide_eq_true h12
    subst hk12
    have hn0 : nn = 0 := HNUM.out rfl
    subst hn0
    clear h12
    go_wp2_with (fail)
    obtain ⟨X, hX⟩ : ∃ X, X = (w2.setCell ⟨rb, 1, none⟩ (.int .i64 (i + 1))).alloc (.cells #[.int .i64 12, .int .i64 na, .int .i64 0, .string ⟨nm.toArray⟩, .slice none 0 0] NodeT) := ⟨_, rfl⟩
    obtain ⟨N, hN⟩ : ∃ N, N = w2.heap.size := ⟨_, rfl⟩
    obtain ⟨hr3, bN⟩ := HST.out X hX
    rw [← hN] at hr3 bN ⊢
    rw [show (w2.setCell ⟨rb, 1, none⟩ (.int .i64 (i + 1))).alloc (.cells #[.int .i64 12, .int .i64 na, .int .i64 0, .string ⟨nm.toArray⟩, .slice none 0 0] 29) = X from hX.symm]
    have HR3 := Lib.hid hr3
    have HBN := Lib.hid bN
    have HT3 := Lib.hid (token_any hr3)
    have HBX : Hid (Below N (w2.setCell ⟨rb, 1, none⟩ (.int .i64 (i + 1))) X ∧ N = (w2.setCell ⟨rb, 1, none⟩ (.int .i64 (i + 1))).heap.size) := Lib.hid (by
      have hz : (w2.setCell ⟨rb, 1, none⟩ (.int .i64 (i + 1))).heap.size = w2.heap.size := by simp [World.setCell]
      rw [hX, hN, hz]
      exact ⟨(Below.refl _ _).alloc (by rw [hz]; exact Nat.le_refl _) _, rfl⟩)
    have HNX := Lib.hid bN.lt
    clear hX hN hr3 bN c1 f1 hrz hrn HST
    refine HT3.out.mono ?_
    rintro e w4 ⟨rfl, hb4⟩
    have HM4 := Lib.hid (mark_tok (tokAt l (i + 1)) [40] w4)
    rw [← isM_tok, HP.out] at HM4
    have HB4 := Lib.hid hb4
    clear hb4
    unfold tkA at HM4 ⊢
    go_wp2_with (fail)
    refine HM4.out.mono ?_
    rintro e w5 ⟨rfl, hb5⟩
    have hb45 := HB4.out.trans (hb5.mono HB4.out.size)
    have hr5 := (HR3.out.on hb45).mono (A' := fun b => b = N) fun b q => Or.inl q
    have bN5 := HBN.out.on hb45
    have n0 := bN5.cell 0
    have n1 := bN5.cell 1
    have n2 := bN5.cell 2
    have n3 := bN5.cell 3
    have n4 := bN5.cell 4
    have g0 := bN5.frozen 0
    simp only [List.getElem?_toArray, List.getElem?_cons_zero, List.getElem?_cons_succ] at n0 n1 n2 n3 n4
    cases bp with
    | false =>
      have HPUT := Lib.hid (put_any (.mk 12 na 0 nm []) (.slice none 0 0) hr5 (by have := HL.out; omega) HD0.out (nt.Kids.nil_ _ _))
      clear hb5 hb45 hr5 bN5
      go_wp2_with (fail)
      refine HPUT.out.mono ?_
      rintro e w6 ⟨rfl, hr6, _⟩
      have HR6 := Lib.hid hr6.non
      clear hr6
      go_wp2_with (fail)
      go_ret
      rw [HO.out, if_neg (by simp)]
      exact ⟨rfl, HR6.out⟩
    | true =>
      have hd17 : Hd (.mk 17 na 0 nm []) := ⟨by show I64 17; unfold I64; omega, HD0.out.2.1, HD0.out.2.2.1, HD0.out.2.2.2⟩
      have HS : Hid (Rd l v w0 rb (fun _ => False) (i + 1) wants false (rdL G) G (w5.setCell ⟨N, 0, none⟩ (.int .i64 17))) := Lib.hid (by
        obtain ⟨q1, q2⟩ := HBX.out
        refine HR2s.out.on_ ?_
        rw [← q2]
        exact (q1.trans (hb45.mono (by have := HNX.out; omega))).setCell (p := ⟨N, 0, none⟩) (Nat.le_refl _) _)
      have HARG := Lib.hid (args_nil 17 na nm HS.out HL.out HG.out hd17 (by decide))
      clear hb5 hb45 hr5 bN5
      go_wp2_with (fail)
      refine HARG.out.mono ?_
      intro e w7 hp7
      obtain ⟨b7, hb7⟩ : ∃ b7, e = .returned (.bool b7) := by
        unfold OutP at hp7
        split at hp7
        · exact ⟨_, hp7.1⟩
        · exact ⟨_, hp7.1⟩
        · exact ⟨_, hp7.1⟩
      subst hb7
      have HP7 := Lib.hid hp7
      clear hp7
      go_wp2_with (fail)
      go_ret
      rw [HO.out, if_pos (by simp)]
      exact HP7.out
theorem first_any (h : Rd l v w0 rb A i wants false (rdL G) G w) (hl : (rdL G).length ≤ 1048580) (hG : G.length ≤ 1048580) :
    Calls Tryd.prog 48 #[.pointer (some ⟨rb, 0, none⟩)] w (OutP l v w0 rb (firstM l i G)) := by
  have e := first_of l i G
  cases ha : aloneF (tokAt l i) with
  | none =>
    rw [ha] at e
    rw [e]
    exact first_none h ha
  | some n =>
    rw [ha] at e
    refine first_some n (decide (n.kind = 12)) (isM l (i + 1) [40]) _ (e.trans ?_) h ha rfl rfl hl hG
    simp
end Go.Proofs.YtgohkmdepjmpaaaDoor.pm.em

/- The package's reader reads a fork, what is made anew, and what an expression begins with. -/
--KEEP
namespace Go.Proofs.YtgohkmdepjmpaaaDoor.pm.em
open Go.RowKit wd lx nt ne pm mem
open vt (I64 own_base own_form own_below own_step set_same Typ)
variable {l : List Tk} {v : Value} {w0 : World} {rb : Nat} {A A' : Nat → Prop} {i j : Int} {wants over : Bool} {rs : List NT} {G : List Frm} {w w' : World}

theorem out_bool {o : Out} {e : Ending} {w : World} (h : OutP l v w0 rb o e w) : ∃ b, e = .returned (.bool b) := by
  unfold OutP at h
  split at h
  · exact ⟨_, h.1⟩
  · exact ⟨_, h.1⟩
  · exact ⟨_, h.1⟩
theorem bool_word (b : Bool) : b = true ∨ b = false := by cases b <;> simp
set_option maxRecDepth 100000 in
set_option maxHeartbeats 2000000 in
theorem fork_any (bn : Bool) (h : Rd l v w0 rb A i wants false (rdL G) G w) (hin : (tokAt l i).kind ≠ 0) (hbn : decide ((tokAt l (i + 1)).kind = 1) = bn) (hl : (rdL G).length ≤ 1048580) (hG : G.length ≤ 1048580) :
    Calls Tryd.prog 46 #[.pointer (some ⟨rb, 0, none⟩)] w (OutP l v w0 rb (callM l (i + 1) 18 (tokAt l i).at_ G)) := by
  have hi := tok_in hin
  have hlen := h.env.src.len
  have hx : IntKind.i64.wrap (i + 1) = i + 1 := IntWalk.i64_in _ (by omega)
  have hx2 : IntKind.i64.wrap (i + 1 + 1) = i + 1 + 1 := IntWalk.i64_in _ (by omega)
  have HJ : Hid (I64 (i + 1)) := Lib.hid (by unfold I64; omega)
  have HJ2 : Hid (I64 (i + 1 + 1)) := Lib.hid (by unfold I64; omega)
  have HR := Lib.hid h
  have HC := Lib.hid (token_any h)
  have HL := Lib.hid hl
  have HG := Lib.hid hG
  have hfi := fun w' => tfield (tokAt l i) w'
  have HFA := Lib.hid (h.env.src.fair i)
  have HFB := Lib.hid (h.env.src.fair (i + 1))
  have HBN := Lib.hid hbn
  obtain ⟨o, ho⟩ : ∃ o, o = callM l (i + 1) 18 (tokAt l i).at_ G := ⟨_, rfl⟩
  rw [← ho]
  have HO := Lib.hid ho
  clear h hin hi hlen hl hG ho hbn
  go_enter Tryd.func46, Tryd.ntmps46
  go_wp2_with (fail)
  refine HC.out.mono ?_
  rintro e w1 ⟨rfl, hb1⟩
  unfold tkA
  obtain ⟨vr, vo, vs, ⟨_, c1, _⟩, hf, hbx, _⟩ := (HR.out.on hb1).cells
  have f1 := hf 1
  have hrz : rb < w1.heap.size := hbx.lt
  have hrn : ¬ rb = w1.heap.size := by omega
  have HR1 := Lib.hid ((HR.out.on hb1).seti HJ.out).non
  have hz1 : (w1.setCell ⟨rb, 1, none⟩ (.int .i64 (i + 1))).heap.size = w1.heap.size := by simp [World.setCell]
  have HZ1 := Lib.hid hz1
  clear hb1 hf hbx hz1
  go_wp2_with (fail)
  clear hfi c1 f1 hrn
  obtain ⟨N, hN⟩ : ∃ N, N = w1.heap.size := ⟨_, rfl⟩
  obtain ⟨X, hX⟩ : ∃ X, X = (w1.setCell ⟨rb, 1, none⟩ (.int .i64 (i + 1))).alloc (.cells #[.int .i64 18, .int .i64 (tokAt l i).at_, .int .i64 0, .string ⟨#[]⟩, .slice none 0 0] NodeT) := ⟨_, rfl⟩
  rw [← hN]
  rw [show (w1.setCell ⟨rb, 1, none⟩ (.int .i64 (i + 1))).alloc (.cells #[.int .i64 18, .int .i64 (tokAt l i).at_, .int .i64 0, .string ⟨#[]⟩, .slice none 0 0] 29) = X from hX.symm]
  have hz : N = (w1.setCell ⟨rb, 1, none⟩ (.int .i64 (i + 1))).heap.size := by rw [HZ1.out]; exact hN
  have bN : Box X N NodeT #[.int .i64 18, .int .i64 (tokAt l i).at_, .int .i64 0, .string ⟨#[]⟩, .slice none 0 0] := by rw [hX]; exact Box.new _ _ _ _ hz
  have hbX : Below N (w1.setCell ⟨rb, 1, none⟩ (.int .i64 (i + 1))) X := by rw [hX]; exact (Below.refl _ _).alloc (by rw [← hz]; exact Nat.le_refl _) _
  have HBX := Lib.hid hbX
  have HZ := Lib.hid hz
  have HBNX := Lib.hid bN
  have hNX := bN.lt
  have hrX : rb < N := by rw [hN]; exact hrz
  have HC2 := Lib.hid (token_any (HR1.out.on_ (by rw [← hz]; exact hbX)))
  have HR1X := Lib.hid (HR1.out.on_ (by rw [← hz]; exact hbX))
  have HXL := Lib.hid (And.intro hNX hrX)
  clear hN hX hz bN hbX hrz hNX hrX
  refine HC2.out.mono ?_
  rintro e w2 ⟨rfl, hb2⟩
  have HB2 := Lib.hid hb2
  clear hb2
  unfold tkA
  go_wp2_with (fail)
  obtain ⟨T, hT⟩ : ∃ T, T = w2.heap.size := ⟨_, rfl⟩
  obtain ⟨Y, hY⟩ : ∃ Y, Y = w2.alloc (.cells #[.int .i64 (tokAt l (i + 1)).kind, .int .i64 (tokAt l (i + 1)).at_, .int .i64 (tokAt l (i + 1)).n, .string ⟨(tokAt l (i + 1)).text.toArray⟩] TkT) := ⟨_, rfl⟩
  rw [← hT]
  rw [show w2.alloc (.cells #[.int .i64 (tokAt l (i + 1)).kind, .int .i64 (tokAt l (i + 1)).at_, .int .i64 (tokAt l (i + 1)).n, .string ⟨(tokAt l (i + 1)).text.toArray⟩] 44) = Y from hY.symm]
  have bT : Box Y T TkT #[.int .i64 (tokAt l (i + 1)).kind, .int .i64 (tokAt l (i + 1)).at_, .int .i64 (tokAt l (i + 1)).n, .string ⟨(tokAt l (i + 1)).text.toArray⟩] := by rw [hY]; exact Box.new _ _ _ _ hT
  have hbY : Below X.heap.size X Y := by rw [hY]; exact HB2.out.alloc HB2.out.size _
  have HN2 := Lib.hid (name_tok (tokAt l (i + 1)) Y ((HR1X.out.on hbY).ldw) (fun hk => (HR.out.env.good (i + 1)).1 hk))
  rw [HBN.out] at HN2
  have HBT := Lib.hid bT
  have HBY := Lib.hid hbY
  have HTX : Hid (X.heap.size ≤ T) := Lib.hid (by rw [hT]; exact HB2.out.size)
  unfold tkA at HN2
  clear hT hY bT hbY
  refine HN2.out.mono ?_
  rintro e w3 ⟨rfl, hb3⟩
  have hb3X : Below X.heap.size X w3 := HBY.out.trans (hb3.mono HBY.out.size)
  have HB3X := Lib.hid hb3X
  have bN3 := HBNX.out.on hb3X
  have bT3 := HBT.out.on hb3
  have HR3 := Lib.hid (HR1X.out.on_ hb3X)
  have t3 := bT3.cell 3
  have f3 := bN3.frozen 3
  have n0 := bN3.cell 0
  have n1 := bN3.cell 1
  have n2 := bN3.cell 2
  have n3 := bN3.cell 3
  have n4 := bN3.cell 4
  simp only [List.getElem?_toArray, List.getElem?_cons_zero, List.getElem?_cons_succ] at n0 n1 n2 n3 n4
  simp only [List.getElem?_toArray, List.getElem?_cons_zero, List.getElem?_cons_succ] at t3
  obtain ⟨vr, vo, vs, ⟨_, c1, _⟩, hf, _, _⟩ := HR3.out.cells
  have f1 := hf 1
  have q1 : ¬ rb = N := by have := HXL.out.2; omega
  have q2 : ¬ N = rb := fun e => q1 e.symm
  have HRS : Hid (Rd l v w0 rb (fun _ => False) (i + 1) wants false (rdL G) G (w3.setCell ⟨N, 3, none⟩ (.string ⟨(tokAt l (i + 1)).text.toArray⟩))) := Lib.hid (HR1.out.on_ (by
    have h1 := HBX.out.trans (hb3X.mono (by have := HXL.out.1; omega))
    rw [← HZ.out]
    exact h1.setCell (p := ⟨N, 3, none⟩) (Nat.le_refl _) _))
  clear hb3 hb3X bN3 bT3 hf
  cases bn with
  | false =>
    go_wp2_with (fail)
    go_ret
    rw [HO.out]
    unfold callM
    rw [if_neg (of_decide_eq_false HBN.out)]
    exact ⟨rfl, _, _, _, _, HR3.out⟩
  | true =>
    have HRA := Lib.hid (args_nil 18 (tokAt l i).at_ (tokAt l (i + 1)).text (HRS.out.seti HJ2.out) HL.out HG.out ⟨by show I64 18; unfold I64; omega, HFA.out.1, by show I64 0; unfold I64; omega, HFB.out.2.2⟩ (by decide))
    have HO2 : Hid (o = argsM l (i + 1 + 1) 18 (tokAt l i).at_ (tokAt l (i + 1)).text [] G) := Lib.hid (by rw [HO.out]; unfold callM; rw [if_pos (of_decide_eq_true HBN.out)])
    rw [← HO2.out] at HRA
    go_wp2_with (fail)
    refine HRA.out.mono ?_
    intro e w9 hp9
    obtain ⟨b9, hb9⟩ := out_bool hp9
    subst hb9
    have HP9 := Lib.hid hp9
    clear hp9
    go_wp2_with (fail)
    go_ret
    exact HP9.out
theorem made_args {a j : Int} {n : NT} {s : Value} {N : Nat} {X w2 : World} (hz : X.heap.size ≤ w2.heap.size) (hl : (rdL G).length ≤ 1048580) (hG : G.length ≤ 1048580) (hd0 : Hd (.mk 19 a 0 [] [])) (hk : nt.Kids (fun b => X.heap.size ≤ b ∧ b < w2.heap.size) w2 n.kids s) (hd : Hd n) (hr : Rd l v w0 rb (Up (fun b => b = N) X w2) j wants false (rdL G) G w2) :
    Calls Tryd.prog 29 #[.pointer (some ⟨rb, 0, none⟩), .agg #[.int .i64 19, .int .i64 a, .int .i64 0, .string ⟨#[]⟩, .slice none 0 0], .slice (some ⟨w2.heap.size + 1, 0, none⟩) 1 1] ((w2.alloc (.cells #[.int .i64 n.kind, .int .i64 n.at_, .int .i64 n.num, .string ⟨n.name.toArray⟩, s] NodeT)).alloc (.cells #[.int .i64 n.kind, .int .i64 n.at_, .int .i64 n.num, .string ⟨n.name.toArray⟩, s] NodeT)) (OutP l v w0 rb (argsM l j 19 a [] [n] G)) := by
  have hb : Below w2.heap.size w2 ((w2.alloc (.cells #[.int .i64 n.kind, .int .i64 n.at_, .int .i64 n.num, .string ⟨n.name.toArray⟩, s] NodeT)).alloc (.cells #[.int .i64 n.kind, .int .i64 n.at_, .int .i64 n.num, .string ⟨n.name.toArray⟩, s] NodeT)) := ((Below.refl _ _).alloc (Nat.le_refl _) _).alloc (by simp) _
  have hrow := row_one (w := w2.alloc (.cells #[.int .i64 n.kind, .int .i64 n.at_, .int .i64 n.num, .string ⟨n.name.toArray⟩, s] NodeT)) (G := fun b => X.heap.size ≤ b ∧ b < w2.heap.size + 2) (N := w2.heap.size + 1) (by simp) hd ((hk.below ((Below.refl _ _).alloc (Nat.le_refl _) _)).mono fun b q => ⟨q.1, by omega⟩) ⟨by omega, by omega⟩
  exact args_one 19 a [] n (w2.heap.size + 1) (hrow.mono fun b q => by
    by_cases hlt : b < w2.heap.size
    · exact Or.inl (Or.inr ⟨q.1, hlt⟩)
    · exact Or.inr ⟨by omega, by simp; omega⟩) (hr.on hb) hl hG hd0 (by decide)
set_option maxRecDepth 100000 in
set_option maxHeartbeats 2000000 in
theorem made_any (h : Rd l v w0 rb A i wants false (rdL G) G w) (hin : (tokAt l i).kind ≠ 0) (hl : (rdL G).length ≤ 1048580) (hG : G.length ≤ 1048580) :
    Calls Tryd.prog 47 #[.pointer (some ⟨rb, 0, none⟩)] w (OutP l v w0 rb (newM l (tokAt l i).at_ G (typR l (i + 1)))) := by
  have hi := tok_in hin
  have hlen := h.env.src.len
  have hx : IntKind.i64.wrap (i + 1) = i + 1 := IntWalk.i64_in _ (by omega)
  have HJ : Hid (I64 (i + 1)) := Lib.hid (by unfold I64; omega)
  have HR := Lib.hid h
  have HC := Lib.hid (token_any h)
  have HL := Lib.hid hl
  have HG := Lib.hid hG
  have hfi := fun w' => tfield (tokAt l i) w'
  have HFA := Lib.hid (h.env.src.fair i)
  obtain ⟨o, ho⟩ : ∃ o, o = newM l (tokAt l i).at_ G (typR l (i + 1)) := ⟨_, rfl⟩
  rw [← ho]
  have HO := Lib.hid ho
  clear h hin hi hlen hl hG ho
  go_enter Tryd.func47, Tryd.ntmps47
  go_wp2_with (fail)
  refine HC.out.mono ?_
  rintro e w1 ⟨rfl, hb1⟩
  unfold tkA
  obtain ⟨vr, vo, vs, ⟨_, c1, _⟩, hf, hbx, _⟩ := (HR.out.on hb1).cells
  have f1 := hf 1
  have hrz : rb < w1.heap.size := hbx.lt
  have hrn : ¬ rb = w1.heap.size := by omega
  have HR1 := Lib.hid ((HR.out.on hb1).seti HJ.out).non
  have hz1 : (w1.setCell ⟨rb, 1, none⟩ (.int .i64 (i + 1))).heap.size = w1.heap.size := by simp [World.setCell]
  have HZ1 := Lib.hid hz1
  clear hb1 hf hbx hz1
  go_wp2_with (fail)
  clear hfi c1 f1 hrn
  obtain ⟨N, hN⟩ : ∃ N, N = w1.heap.size := ⟨_, rfl⟩
  obtain ⟨X, hX⟩ : ∃ X, X = (w1.setCell ⟨rb, 1, none⟩ (.int .i64 (i + 1))).alloc (.cells #[.int .i64 19, .int .i64 (tokAt l i).at_, .int .i64 0, .string ⟨#[]⟩, .slice none 0 0] NodeT) := ⟨_, rfl⟩
  rw [← hN]
  rw [show (w1.setCell ⟨rb, 1, none⟩ (.int .i64 (i + 1))).alloc (.cells #[.int .i64 19, .int .i64 (tokAt l i).at_, .int .i64 0, .string ⟨#[]⟩, .slice none 0 0] 29) = X from hX.symm]
  have hz : N = (w1.setCell ⟨rb, 1, none⟩ (.int .i64 (i + 1))).heap.size := by rw [HZ1.out]; exact hN
  have bN : Box X N NodeT #[.int .i64 19, .int .i64 (tokAt l i).at_, .int .i64 0, .string ⟨#[]⟩, .slice none 0 0] := by rw [hX]; exact Box.new _ _ _ _ hz
  have hbX : Below N (w1.setCell ⟨rb, 1, none⟩ (.int .i64 (i + 1))) X := by rw [hX]; exact (Below.refl _ _).alloc (by rw [← hz]; exact Nat.le_refl _) _
  have hRX := (HR1.out.on (by rw [← hz]; exact hbX)).mono (A' := fun b => b = N) fun b q => Or.inr (by subst q; rw [← hz]; exact ⟨Nat.le_refl _, bN.lt⟩)
  have HT := Lib.hid (typed_any hRX)
  have HBNX := Lib.hid bN
  have HNX := Lib.hid bN.lt
  clear hN hX hz bN hbX hrz
  cases htr : typR l (i + 1) with
  | no j =>
    rw [htr] at HT
    have HO2 : Hid (o = .no j) := Lib.hid (by rw [HO.out, htr]; rfl)
    clear htr hRX
    refine HT.out.mono ?_
    intro e w2 hp2
    obtain ⟨rfl, hr2, _⟩ := hp2
    have HR2 := Lib.hid hr2
    clear hr2
    go_wp2_with (fail)
    go_ret
    rw [HO2.out]
    exact ⟨rfl, _, _, _, _, (HR2.out.on ((Below.refl _ _).alloc (Nat.le_refl _) _)).non⟩
  | list ns j =>
    rw [htr] at HT
    refine HT.out.mono ?_
    intro e w2 hp2
    exact hp2.elim
  | node n j =>
    rw [htr] at HT
    have HO2 : Hid (o = argsM l j 19 (tokAt l i).at_ [] [n] G) := Lib.hid (by rw [HO.out, htr]; rfl)
    clear htr
    refine HT.out.mono ?_
    intro e w2 hp2
    obtain ⟨s, rfl, hk2, hd2, hr2, hkeep, hsz⟩ := hp2
    have bN2 : Box w2 N NodeT _ := (hkeep N rfl).trans HBNX.out
    obtain ⟨As, cs, rfl, _⟩ := hk2.form
    obtain ⟨K, hK⟩ : ∃ K, K = w2.heap.size + 1 := ⟨_, rfl⟩
    have HARG := Lib.hid (made_args (X := X) (N := N) hsz HL.out HG.out (⟨by show I64 19; unfold I64; omega, HFA.out.1, by show I64 0; unfold I64; omega, by show 0 ≤ 281474976710656; omega⟩ : Hd (.mk 19 (tokAt l i).at_ 0 [] [])) hk2 hd2 hr2)
    rw [← HO2.out] at HARG
    obtain ⟨M9, hM9⟩ : ∃ M9, M9 = n.kids.length := ⟨_, rfl⟩
    rw [← hM9] at HARG ⊢
    have n0 := bN2.cell 0
    have n1 := bN2.cell 1
    have n2 := bN2.cell 2
    have n3 := bN2.cell 3
    have n4 := bN2.cell 4
    simp only [List.getElem?_toArray, List.getElem?_cons_zero, List.getElem?_cons_succ] at n0 n1 n2 n3 n4
    have hN2 := bN2.lt
    clear hk2 hd2 hr2 hkeep bN2 hM9 hK
    go_wp2_with (fail)
    refine HARG.out.mono ?_
    intro e w9 hp9
    obtain ⟨b9, hb9⟩ := out_bool hp9
    subst hb9
    have HP9 := Lib.hid hp9
    clear hp9
    go_wp2_with (fail)
    go_ret
    exact HP9.out
end Go.Proofs.YtgohkmdepjmpaaaDoor.pm.em

/- What an expression begins with. -/
--KEEP
namespace Go.Proofs.YtgohkmdepjmpaaaDoor.pm.em
open Go.RowKit wd lx nt ne pm mem
open vt (I64 own_base own_form own_below own_step set_same Typ wpList_append_mine)
variable {l : List Tk} {v : Value} {w0 : World} {rb : Nat} {A A' : Nat → Prop} {i j : Int} {wants over : Bool} {rs : List NT} {G : List Frm} {w w' : World}

theorem isW_kind {m : List UInt8} (h : pm.isW l i m = true) : (tokAt l i).kind ≠ 0 := by
  rw [isW_tok] at h
  unfold isWd at h
  simp at h
  omega
set_option maxRecDepth 100000 in
set_option maxHeartbeats 4000000 in
theorem begin_par (h1 : isM l i [40] = true) (h : Rd l v w0 rb A i true false (rdL G) G w) (hl : (rdL G).length ≤ 1048580) (hG : G.length ≤ 1048580) :
    Calls Tryd.prog 33 #[.pointer (some ⟨rb, 0, none⟩)] w (OutP l v w0 rb (Out.go (.want (i + 1) (.brk :: G)))) := by
  obtain ⟨o, ho⟩ : ∃ o, o = Out.go (.want (i + 1) (.brk :: G)) := ⟨_, rfl⟩
  rw [← ho]
  have HO := Lib.hid ho
  have HR := Lib.hid h
  have HC := Lib.hid (token_any h)
  have HL := Lib.hid hl
  have HG := Lib.hid hG
  have HFA := Lib.hid (h.env.src.fair i)
  have HSRC := Lib.hid h.env
  have Hh1 := Lib.hid h1
  obtain ⟨M, hM⟩ : ∃ M, M = G.length := ⟨_, rfl⟩
  have HM := Lib.hid hM
  have hMl : M ≤ 1048580 := by rw [hM]; exact hG
  obtain ⟨i0, hi, hz0, hz1, hz2⟩ := info_parts infoB
  clear ho h hl hG h1 hM
  go_enter Tryd.func33, Tryd.ntmps33
  go_wp2_with (fail)
  refine HC.out.mono ?_
  rintro e w1 ⟨rfl, hb1⟩
  have HB1 := Lib.hid hb1
  clear hb1
  unfold tkA
  go_wp2_with (fail)
  obtain ⟨T, hT⟩ : ∃ T, T = w1.heap.size := ⟨_, rfl⟩
  obtain ⟨W, hW⟩ : ∃ W, W = w1.alloc (.cells #[.int .i64 (tokAt l i).kind, .int .i64 (tokAt l i).at_, .int .i64 (tokAt l i).n, .string ⟨(tokAt l i).text.toArray⟩] TkT) := ⟨_, rfl⟩
  rw [← hT]
  rw [show w1.alloc (.cells #[.int .i64 (tokAt l i).kind, .int .i64 (tokAt l i).at_, .int .i64 (tokAt l i).n, .string ⟨(tokAt l i).text.toArray⟩] 44) = W from hW.symm]
  have hbW : Below w.heap.size w W := by rw [hW]; exact HB1.out.alloc HB1.out.size _
  have bT : Box W T TkT #[.int .i64 (tokAt l i).kind, .int .i64 (tokAt l i).at_, .int .i64 (tokAt l i).n, .string ⟨(tokAt l i).text.toArray⟩] := by rw [hW]; exact Box.new _ _ _ _ hT
  have HT := Lib.hid bT
  have HRW := Lib.hid ((HR.out.on hbW).mono (A' := fun b => b = T) fun b q => Or.inr (by subst q; rw [hT]; exact ⟨HB1.out.size, by rw [← hT]; exact bT.lt⟩))
  have HTr : Hid (¬ T = rb) := Lib.hid (fun e => by have := HR.out.lt; have := HB1.out.size; omega)
  clear hT hW hbW bT
  have HQ2 := Lib.hid (took_yes [40] HRW.out Hh1.out)
  refine HQ2.out.mono ?_
  rintro e w2 ⟨rfl, hr1, _⟩
  obtain ⟨vr, vo, vs, ⟨_, _, _, _, _, c5⟩, hf, hbx, hr⟩ := hr1.cells
  obtain ⟨Ao, co, rfl⟩ := own_form hr.opn
  have f5 := hf 5
  have hrz : rb < w2.heap.size := hbx.lt
  rw [← HM.out] at c5
  have HST : Hid (∀ V w3 vo', Below w2.heap.size w2 V → w3.ownsRow w0.heap.size BgT 9 vo' (M + 1) (opnV G ++ [.int .i64 0, .int .i64 0, .int .i64 0, .string ⟨#[]⟩, .slice none 0 0, .int .i64 0, .int .i64 0, .string ⟨#[41]⟩, .bool false]) → V.grownBy w3 (Value.slice Ao M co).ownBlock → (∀ k, vo'.ownBlock = some k → (Value.slice Ao M co).ownBlock = some k ∨ V.heap.size ≤ k) → _) := Lib.hid (fun V w3 vo' hV h1 h2 h3 => push_frm (wants := true) (M := M) .brk _ (hr1.on_ hV) (by rw [HM.out]; exact hbx.on hV) (by rw [HM.out]; exact ⟨own_below hr.own hV, hr.nods.below hV, own_below hr.opn hV, hr.apr⟩) HM.out ⟨by show I64 0; unfold I64; omega, by show I64 0; unfold I64; omega, by show I64 0; unfold I64; omega, by show 0 ≤ 281474976710656; omega⟩ rfl h1 h2 h3)
  have HOw : Hid (w2.ownsRow w0.heap.size BgT 9 (.slice Ao M co) M (opnV G)) := Lib.hid (by rw [HM.out]; exact hr.opn)
  have HBz : Hid (w0.heap.size ≤ w2.heap.size) := Lib.hid hr1.low.size
  have h1c : Hid (∀ u ∈ [Value.int .i64 0, .int .i64 0, .int .i64 0, .string ⟨#[]⟩, .slice none 0 0, .int .i64 0, .int .i64 0, .string ⟨#[41]⟩, .bool false], u.oneCell' = true) := Lib.hid (by intro u hu; simp at hu; rcases hu with rfl | rfl | rfl | rfl | rfl | rfl <;> rfl)
  have HNC : Hid (∀ j u, [Value.int .i64 0, .int .i64 0, .int .i64 0, .string ⟨#[]⟩, .slice none 0 0, .int .i64 0, .int .i64 0, .string ⟨#[41]⟩, .bool false][j]? = some u → (w2.alloc (.cells #[.int .i64 0, .int .i64 0, .int .i64 0, .string ⟨#[]⟩, .slice none 0 0, .int .i64 0, .int .i64 0, .string ⟨#[41]⟩, .bool false] BgT)).cell? ((⟨w2.heap.size, 0, none⟩ : Addr).add j) = some u) := Lib.hid fun j u hu => by
    rw [vt.cells_add, Nat.zero_add]
    exact ((Box.new w2 BgT _ w2.heap.size rfl).cell j).trans (by simpa using hu)
  clear hbx hr hf hr1
  go_wp2_with (at_builtin; refine wpList_append_mine rfl (.tmp 15) (.tmp 17) 47 rfl w0.heap.size BgT i0 _ 9 104 Tryd.underlying47 hi hz0 hz1 hz2 rfl (by decide) (.slice Ao M co) M (opnV G) rfl (HOw.out.alloc _) ⟨w2.heap.size, 0, none⟩ 1 1 [.int .i64 0, .int .i64 0, .int .i64 0, .string ⟨#[]⟩, .slice none 0 0, .int .i64 0, .int .i64 0, .string ⟨#[41]⟩, .bool false] rfl rfl HNC.out h1c.out (by unfold maxLen; omega) (by omega) (by simp; have := HBz.out; omega) ?_; intro v' w3 hown hgrow hat; obtain ⟨A3, cap, rfl⟩ := own_form hown; obtain ⟨p1, p2, p3, p4, p5⟩ := HST.out _ w3 _ ((Below.refl w2.heap.size w2).alloc (Nat.le_refl _) _) hown hgrow hat; have HP1 := Lib.hid p1; clear p1 hown hgrow hat)
  all_goals
    go_wp2_with (fail)
    go_ret
    rw [HO.out]
    have e : rdL (.brk :: G) = rdL G := by rw [rdL]; exact List.append_nil _
    exact ⟨rfl, by show Rd l v w0 rb (fun _ => False) (i + 1) true false (rdL (.brk :: G)) (.brk :: G) _; rw [e]; exact HP1.out.1.non⟩
set_option maxRecDepth 100000 in
set_option maxHeartbeats 4000000 in
theorem begin_neg (h1 : isM l i [40] = false) (h2 : isM l i [45] = true) (h : Rd l v w0 rb A i true false (rdL G) G w) (hl : (rdL G).length ≤ 1048580) (hG : G.length ≤ 1048580) :
    Calls Tryd.prog 33 #[.pointer (some ⟨rb, 0, none⟩)] w (OutP l v w0 rb (Out.go (.want (i + 1) (.un (tokAt l i).at_ 2 :: G)))) := by
  obtain ⟨o, ho⟩ : ∃ o, o = Out.go (.want (i + 1) (.un (tokAt l i).at_ 2 :: G)) := ⟨_, rfl⟩
  rw [← ho]
  have HO := Lib.hid ho
  have HR := Lib.hid h
  have HC := Lib.hid (token_any h)
  have HL := Lib.hid hl
  have HG := Lib.hid hG
  have HFA := Lib.hid (h.env.src.fair i)
  have HSRC := Lib.hid h.env
  have Hh1 := Lib.hid h1
  have Hh2 := Lib.hid h2
  clear ho h hl hG h1 h2
  go_enter Tryd.func33, Tryd.ntmps33
  go_wp2_with (fail)
  refine HC.out.mono ?_
  rintro e w1 ⟨rfl, hb1⟩
  have HB1 := Lib.hid hb1
  clear hb1
  unfold tkA
  go_wp2_with (fail)
  obtain ⟨T, hT⟩ : ∃ T, T = w1.heap.size := ⟨_, rfl⟩
  obtain ⟨W, hW⟩ : ∃ W, W = w1.alloc (.cells #[.int .i64 (tokAt l i).kind, .int .i64 (tokAt l i).at_, .int .i64 (tokAt l i).n, .string ⟨(tokAt l i).text.toArray⟩] TkT) := ⟨_, rfl⟩
  rw [← hT]
  rw [show w1.alloc (.cells #[.int .i64 (tokAt l i).kind, .int .i64 (tokAt l i).at_, .int .i64 (tokAt l i).n, .string ⟨(tokAt l i).text.toArray⟩] 44) = W from hW.symm]
  have hbW : Below w.heap.size w W := by rw [hW]; exact HB1.out.alloc HB1.out.size _
  have bT : Box W T TkT #[.int .i64 (tokAt l i).kind, .int .i64 (tokAt l i).at_, .int .i64 (tokAt l i).n, .string ⟨(tokAt l i).text.toArray⟩] := by rw [hW]; exact Box.new _ _ _ _ hT
  have HT := Lib.hid bT
  have HRW := Lib.hid ((HR.out.on hbW).mono (A' := fun b => b = T) fun b q => Or.inr (by subst q; rw [hT]; exact ⟨HB1.out.size, by rw [← hT]; exact bT.lt⟩))
  have HTr : Hid (¬ T = rb) := Lib.hid (fun e => by have := HR.out.lt; have := HB1.out.size; omega)
  clear hT hW hbW bT
  have HQ2 := Lib.hid (took_no [40] HRW.out Hh1.out)
  refine HQ2.out.mono ?_
  rintro e w2 ⟨rfl, hb2⟩
  have HT2 := Lib.hid (HT.out.on hb2)
  have HRW2 := Lib.hid (HRW.out.on_ hb2)
  clear hb2
  have HQ7 := Lib.hid (took_yes [45] HRW2.out Hh2.out)
  go_wp2_with (fail)
  refine HQ7.out.mono ?_
  rintro e w7 ⟨rfl, hr7, ho7⟩
  have bT7 := ho7.box HT2.out HTr.out
  have t0 := bT7.cell 0
  have t1 := bT7.cell 1
  have t2 := bT7.cell 2
  have t3 := bT7.cell 3
  simp only [List.getElem?_toArray, List.getElem?_cons_zero, List.getElem?_cons_succ] at t0 t1 t2 t3
  have HSG := Lib.hid (sign_any (.un (tokAt l i).at_ 2) 0 hr7 (by have := HL.out; omega) (by have := HG.out; omega) ⟨by show I64 15; unfold I64; omega, HFA.out.1, by show I64 2; unfold I64; omega, by show 0 ≤ 281474976710656; omega⟩ rfl rfl (by show ((rdL G).length : Int) - 0 = (cnt G : Int); rw [rdL_len]; omega))
  clear hr7 ho7 bT7
  go_wp2_with (fail)
  refine HSG.out.mono ?_
  rintro e w8 ⟨rfl, hr8, _⟩
  have HR8 := Lib.hid hr8.non
  clear hr8
  go_wp2_with (fail)
  go_ret
  rw [HO.out]
  have e : rdL (.un (tokAt l i).at_ 2 :: G) = rdL G := by rw [rdL]; exact List.append_nil _
  exact ⟨rfl, by show Rd l v w0 rb (fun _ => False) (i + 1) true false (rdL (.un (tokAt l i).at_ 2 :: G)) _ _; rw [e]; exact HR8.out⟩
set_option maxRecDepth 100000 in
set_option maxHeartbeats 4000000 in
theorem begin_not (h1 : isM l i [40] = false) (h2 : isM l i [45] = false) (h3 : isM l i [33] = true) (h : Rd l v w0 rb A i true false (rdL G) G w) (hl : (rdL G).length ≤ 1048580) (hG : G.length ≤ 1048580) :
    Calls Tryd.prog 33 #[.pointer (some ⟨rb, 0, none⟩)] w (OutP l v w0 rb (Out.go (.want (i + 1) (.un (tokAt l i).at_ 14 :: G)))) := by
  obtain ⟨o, ho⟩ : ∃ o, o = Out.go (.want (i + 1) (.un (tokAt l i).at_ 14 :: G)) := ⟨_, rfl⟩
  rw [← ho]
  have HO := Lib.hid ho
  have HR := Lib.hid h
  have HC := Lib.hid (token_any h)
  have HL := Lib.hid hl
  have HG := Lib.hid hG
  have HFA := Lib.hid (h.env.src.fair i)
  have HSRC := Lib.hid h.env
  have Hh1 := Lib.hid h1
  have Hh2 := Lib.hid h2
  have Hh3 := Lib.hid h3
  clear ho h hl hG h1 h2 h3
  go_enter Tryd.func33, Tryd.ntmps33
  go_wp2_with (fail)
  refine HC.out.mono ?_
  rintro e w1 ⟨rfl, hb1⟩
  have HB1 := Lib.hid hb1
  clear hb1
  unfold tkA
  go_wp2_with (fail)
  obtain ⟨T, hT⟩ : ∃ T, T = w1.heap.size := ⟨_, rfl⟩
  obtain ⟨W, hW⟩ : ∃ W, W = w1.alloc (.cells #[.int .i64 (tokAt l i).kind, .int .i64 (tokAt l i).at_, .int .i64 (tokAt l i).n, .string ⟨(tokAt l i).text.toArray⟩] TkT) := ⟨_, rfl⟩
  rw [← hT]
  rw [show w1.alloc (.cells #[.int .i64 (tokAt l i).kind, .int .i64 (tokAt l i).at_, .int .i64 (tokAt l i).n, .string ⟨(tokAt l i).text.toArray⟩] 44) = W from hW.symm]
  have hbW : Below w.heap.size w W := by rw [hW]; exact HB1.out.alloc HB1.out.size _
  have bT : Box W T TkT #[.int .i64 (tokAt l i).kind, .int .i64 (tokAt l i).at_, .int .i64 (tokAt l i).n, .string ⟨(tokAt l i).text.toArray⟩] := by rw [hW]; exact Box.new _ _ _ _ hT
  have HT := Lib.hid bT
  have HRW := Lib.hid ((HR.out.on hbW).mono (A' := fun b => b = T) fun b q => Or.inr (by subst q; rw [hT]; exact ⟨HB1.out.size, by rw [← hT]; exact bT.lt⟩))
  have HTr : Hid (¬ T = rb) := Lib.hid (fun e => by have := HR.out.lt; have := HB1.out.size; omega)
  clear hT hW hbW bT
  have HQ2 := Lib.hid (took_no [40] HRW.out Hh1.out)
  refine HQ2.out.mono ?_
  rintro e w2 ⟨rfl, hb2⟩
  have HT2 := Lib.hid (HT.out.on hb2)
  have HRW2 := Lib.hid (HRW.out.on_ hb2)
  clear hb2
  have HQ3 := Lib.hid (took_no [45] HRW2.out Hh2.out)
  go_wp2_with (fail)
  refine HQ3.out.mono ?_
  rintro e w3 ⟨rfl, hb3⟩
  have HT3 := Lib.hid (HT2.out.on hb3)
  have HRW3 := Lib.hid (HRW2.out.on_ hb3)
  clear hb3
  have HQ7 := Lib.hid (took_yes [33] HRW3.out Hh3.out)
  go_wp2_with (fail)
  refine HQ7.out.mono ?_
  rintro e w7 ⟨rfl, hr7, ho7⟩
  have bT7 := ho7.box HT3.out HTr.out
  have t0 := bT7.cell 0
  have t1 := bT7.cell 1
  have t2 := bT7.cell 2
  have t3 := bT7.cell 3
  simp only [List.getElem?_toArray, List.getElem?_cons_zero, List.getElem?_cons_succ] at t0 t1 t2 t3
  have HSG := Lib.hid (sign_any (.un (tokAt l i).at_ 14) 0 hr7 (by have := HL.out; omega) (by have := HG.out; omega) ⟨by show I64 15; unfold I64; omega, HFA.out.1, by show I64 14; unfold I64; omega, by show 0 ≤ 281474976710656; omega⟩ rfl rfl (by show ((rdL G).length : Int) - 0 = (cnt G : Int); rw [rdL_len]; omega))
  clear hr7 ho7 bT7
  go_wp2_with (fail)
  refine HSG.out.mono ?_
  rintro e w8 ⟨rfl, hr8, _⟩
  have HR8 := Lib.hid hr8.non
  clear hr8
  go_wp2_with (fail)
  go_ret
  rw [HO.out]
  have e : rdL (.un (tokAt l i).at_ 14 :: G) = rdL G := by rw [rdL]; exact List.append_nil _
  exact ⟨rfl, by show Rd l v w0 rb (fun _ => False) (i + 1) true false (rdL (.un (tokAt l i).at_ 14 :: G)) _ _; rw [e]; exact HR8.out⟩
set_option maxRecDepth 100000 in
set_option maxHeartbeats 4000000 in
theorem begin_fork (h1 : isM l i [40] = false) (h2 : isM l i [45] = false) (h3 : isM l i [33] = false) (h4 : pm.isW l i [102, 111, 114, 107] = true) (h : Rd l v w0 rb A i true false (rdL G) G w) (hl : (rdL G).length ≤ 1048580) (hG : G.length ≤ 1048580) :
    Calls Tryd.prog 33 #[.pointer (some ⟨rb, 0, none⟩)] w (OutP l v w0 rb (callM l (i + 1) 18 (tokAt l i).at_ G)) := by
  obtain ⟨o, ho⟩ : ∃ o, o = callM l (i + 1) 18 (tokAt l i).at_ G := ⟨_, rfl⟩
  rw [← ho]
  have HO := Lib.hid ho
  have HR := Lib.hid h
  have HC := Lib.hid (token_any h)
  have HL := Lib.hid hl
  have HG := Lib.hid hG
  have HFA := Lib.hid (h.env.src.fair i)
  have HSRC := Lib.hid h.env
  have Hh1 := Lib.hid h1
  have Hh2 := Lib.hid h2
  have Hh3 := Lib.hid h3
  have Hh4 := Lib.hid h4
  clear ho h hl hG h1 h2 h3 h4
  go_enter Tryd.func33, Tryd.ntmps33
  go_wp2_with (fail)
  refine HC.out.mono ?_
  rintro e w1 ⟨rfl, hb1⟩
  have HB1 := Lib.hid hb1
  clear hb1
  unfold tkA
  go_wp2_with (fail)
  obtain ⟨T, hT⟩ : ∃ T, T = w1.heap.size := ⟨_, rfl⟩
  obtain ⟨W, hW⟩ : ∃ W, W = w1.alloc (.cells #[.int .i64 (tokAt l i).kind, .int .i64 (tokAt l i).at_, .int .i64 (tokAt l i).n, .string ⟨(tokAt l i).text.toArray⟩] TkT) := ⟨_, rfl⟩
  rw [← hT]
  rw [show w1.alloc (.cells #[.int .i64 (tokAt l i).kind, .int .i64 (tokAt l i).at_, .int .i64 (tokAt l i).n, .string ⟨(tokAt l i).text.toArray⟩] 44) = W from hW.symm]
  have hbW : Below w.heap.size w W := by rw [hW]; exact HB1.out.alloc HB1.out.size _
  have bT : Box W T TkT #[.int .i64 (tokAt l i).kind, .int .i64 (tokAt l i).at_, .int .i64 (tokAt l i).n, .string ⟨(tokAt l i).text.toArray⟩] := by rw [hW]; exact Box.new _ _ _ _ hT
  have HT := Lib.hid bT
  have HRW := Lib.hid ((HR.out.on hbW).mono (A' := fun b => b = T) fun b q => Or.inr (by subst q; rw [hT]; exact ⟨HB1.out.size, by rw [← hT]; exact bT.lt⟩))
  have HTr : Hid (¬ T = rb) := Lib.hid (fun e => by have := HR.out.lt; have := HB1.out.size; omega)
  clear hT hW hbW bT
  have HQ2 := Lib.hid (took_no [40] HRW.out Hh1.out)
  refine HQ2.out.mono ?_
  rintro e w2 ⟨rfl, hb2⟩
  have HT2 := Lib.hid (HT.out.on hb2)
  have HRW2 := Lib.hid (HRW.out.on_ hb2)
  clear hb2
  have HQ3 := Lib.hid (took_no [45] HRW2.out Hh2.out)
  go_wp2_with (fail)
  refine HQ3.out.mono ?_
  rintro e w3 ⟨rfl, hb3⟩
  have HT3 := Lib.hid (HT2.out.on hb3)
  have HRW3 := Lib.hid (HRW2.out.on_ hb3)
  clear hb3
  have HQ4 := Lib.hid (took_no [33] HRW3.out Hh3.out)
  go_wp2_with (fail)
  refine HQ4.out.mono ?_
  rintro e w4 ⟨rfl, hb4⟩
  have HT4 := Lib.hid (HT3.out.on hb4)
  have HRW4 := Lib.hid (HRW3.out.on_ hb4)
  clear hb4
  have hw5 := HT4.out
  have t0 := hw5.cell 0
  have t1 := hw5.cell 1
  have t2 := hw5.cell 2
  have t3 := hw5.cell 3
  simp only [List.getElem?_toArray, List.getElem?_cons_zero, List.getElem?_cons_succ] at t0 t1 t2 t3
  clear hw5
  have HQ5 := Lib.hid (word_tok (tokAt l i) [102, 111, 114, 107] w4)
  rw [← isW_tok, Hh4.out] at HQ5
  unfold tkA at HQ5
  go_wp2_with (fail)
  clear t0 t1 t2 t3
  refine HQ5.out.mono ?_
  rintro e w5 ⟨rfl, hb5⟩
  have HT5 := Lib.hid (HT4.out.on hb5)
  have HRW5 := Lib.hid (HRW4.out.on_ hb5)
  clear hb5
  have HF := Lib.hid (fork_any _ HRW5.out (isW_kind Hh4.out) rfl HL.out HG.out)
  have HO2 := HO
  go_wp2_with (fail)
  refine HF.out.mono ?_
  intro e w9 hp9
  obtain ⟨b9, hb9⟩ := out_bool hp9
  subst hb9
  have HP9 := Lib.hid hp9
  clear hp9
  go_wp2_with (fail)
  go_ret
  rw [HO2.out]
  exact HP9.out
set_option maxRecDepth 100000 in
set_option maxHeartbeats 4000000 in
theorem begin_new (h1 : isM l i [40] = false) (h2 : isM l i [45] = false) (h3 : isM l i [33] = false) (h4 : pm.isW l i [102, 111, 114, 107] = false) (h5 : pm.isW l i [110, 101, 119] = true) (h : Rd l v w0 rb A i true false (rdL G) G w) (hl : (rdL G).length ≤ 1048580) (hG : G.length ≤ 1048580) :
    Calls Tryd.prog 33 #[.pointer (some ⟨rb, 0, none⟩)] w (OutP l v w0 rb (newM l (tokAt l i).at_ G (typR l (i + 1)))) := by
  obtain ⟨o, ho⟩ : ∃ o, o = newM l (tokAt l i).at_ G (typR l (i + 1)) := ⟨_, rfl⟩
  rw [← ho]
  have HO := Lib.hid ho
  have HR := Lib.hid h
  have HC := Lib.hid (token_any h)
  have HL := Lib.hid hl
  have HG := Lib.hid hG
  have HFA := Lib.hid (h.env.src.fair i)
  have HSRC := Lib.hid h.env
  have Hh1 := Lib.hid h1
  have Hh2 := Lib.hid h2
  have Hh3 := Lib.hid h3
  have Hh4 := Lib.hid h4
  have Hh5 := Lib.hid h5
  clear ho h hl hG h1 h2 h3 h4 h5
  go_enter Tryd.func33, Tryd.ntmps33
  go_wp2_with (fail)
  refine HC.out.mono ?_
  rintro e w1 ⟨rfl, hb1⟩
  have HB1 := Lib.hid hb1
  clear hb1
  unfold tkA
  go_wp2_with (fail)
  obtain ⟨T, hT⟩ : ∃ T, T = w1.heap.size := ⟨_, rfl⟩
  obtain ⟨W, hW⟩ : ∃ W, W = w1.alloc (.cells #[.int .i64 (tokAt l i).kind, .int .i64 (tokAt l i).at_, .int .i64 (tokAt l i).n, .string ⟨(tokAt l i).text.toArray⟩] TkT) := ⟨_, rfl⟩
  rw [← hT]
  rw [show w1.alloc (.cells #[.int .i64 (tokAt l i).kind, .int .i64 (tokAt l i).at_, .int .i64 (tokAt l i).n, .string ⟨(tokAt l i).text.toArray⟩] 44) = W from hW.symm]
  have hbW : Below w.heap.size w W := by rw [hW]; exact HB1.out.alloc HB1.out.size _
  have bT : Box W T TkT #[.int .i64 (tokAt l i).kind, .int .i64 (tokAt l i).at_, .int .i64 (tokAt l i).n, .string ⟨(tokAt l i).text.toArray⟩] := by rw [hW]; exact Box.new _ _ _ _ hT
  have HT := Lib.hid bT
  have HRW := Lib.hid ((HR.out.on hbW).mono (A' := fun b => b = T) fun b q => Or.inr (by subst q; rw [hT]; exact ⟨HB1.out.size, by rw [← hT]; exact bT.lt⟩))
  have HTr : Hid (¬ T = rb) := Lib.hid (fun e => by have := HR.out.lt; have := HB1.out.size; omega)
  clear hT hW hbW bT
  have HQ2 := Lib.hid (took_no [40] HRW.out Hh1.out)
  refine HQ2.out.mono ?_
  rintro e w2 ⟨rfl, hb2⟩
  have HT2 := Lib.hid (HT.out.on hb2)
  have HRW2 := Lib.hid (HRW.out.on_ hb2)
  clear hb2
  have HQ3 := Lib.hid (took_no [45] HRW2.out Hh2.out)
  go_wp2_with (fail)
  refine HQ3.out.mono ?_
  rintro e w3 ⟨rfl, hb3⟩
  have HT3 := Lib.hid (HT2.out.on hb3)
  have HRW3 := Lib.hid (HRW2.out.on_ hb3)
  clear hb3
  have HQ4 := Lib.hid (took_no [33] HRW3.out Hh3.out)
  go_wp2_with (fail)
  refine HQ4.out.mono ?_
  rintro e w4 ⟨rfl, hb4⟩
  have HT4 := Lib.hid (HT3.out.on hb4)
  have HRW4 := Lib.hid (HRW3.out.on_ hb4)
  clear hb4
  have hw5 := HT4.out
  have t0 := hw5.cell 0
  have t1 := hw5.cell 1
  have t2 := hw5.cell 2
  have t3 := hw5.cell 3
  simp only [List.getElem?_toArray, List.getElem?_cons_zero, List.getElem?_cons_succ] at t0 t1 t2 t3
  clear hw5
  have HQ5 := Lib.hid (word_tok (tokAt l i) [102, 111, 114, 107] w4)
  rw [← isW_tok, Hh4.out] at HQ5
  unfold tkA at HQ5
  go_wp2_with (fail)
  clear t0 t1 t2 t3
  refine HQ5.out.mono ?_
  rintro e w5 ⟨rfl, hb5⟩
  have HT5 := Lib.hid (HT4.out.on hb5)
  have HRW5 := Lib.hid (HRW4.out.on_ hb5)
  clear hb5
  have hw6 := HT5.out
  have t0 := hw6.cell 0
  have t1 := hw6.cell 1
  have t2 := hw6.cell 2
  have t3 := hw6.cell 3
  simp only [List.getElem?_toArray, List.getElem?_cons_zero, List.getElem?_cons_succ] at t0 t1 t2 t3
  clear hw6
  have HQ6 := Lib.hid (word_tok (tokAt l i) [110, 101, 119] w5)
  rw [← isW_tok, Hh5.out] at HQ6
  unfold tkA at HQ6
  go_wp2_with (fail)
  clear t0 t1 t2 t3
  refine HQ6.out.mono ?_
  rintro e w6 ⟨rfl, hb6⟩
  have HT6 := Lib.hid (HT5.out.on hb6)
  have HRW6 := Lib.hid (HRW5.out.on_ hb6)
  clear hb6
  have HF := Lib.hid (made_any HRW6.out (isW_kind Hh5.out) HL.out HG.out)
  have HO2 := HO
  go_wp2_with (fail)
  refine HF.out.mono ?_
  intro e w9 hp9
  obtain ⟨b9, hb9⟩ := out_bool hp9
  subst hb9
  have HP9 := Lib.hid hp9
  clear hp9
  go_wp2_with (fail)
  go_ret
  rw [HO2.out]
  exact HP9.out
set_option maxRecDepth 100000 in
set_option maxHeartbeats 4000000 in
theorem begin_first (h1 : isM l i [40] = false) (h2 : isM l i [45] = false) (h3 : isM l i [33] = false) (h4 : pm.isW l i [102, 111, 114, 107] = false) (h5 : pm.isW l i [110, 101, 119] = false) (h : Rd l v w0 rb A i true false (rdL G) G w) (hl : (rdL G).length ≤ 1048580) (hG : G.length ≤ 1048580) :
    Calls Tryd.prog 33 #[.pointer (some ⟨rb, 0, none⟩)] w (OutP l v w0 rb (firstM l i G)) := by
  obtain ⟨o, ho⟩ : ∃ o, o = firstM l i G := ⟨_, rfl⟩
  rw [← ho]
  have HO := Lib.hid ho
  have HR := Lib.hid h
  have HC := Lib.hid (token_any h)
  have HL := Lib.hid hl
  have HG := Lib.hid hG
  have HFA := Lib.hid (h.env.src.fair i)
  have HSRC := Lib.hid h.env
  have Hh1 := Lib.hid h1
  have Hh2 := Lib.hid h2
  have Hh3 := Lib.hid h3
  have Hh4 := Lib.hid h4
  have Hh5 := Lib.hid h5
  clear ho h hl hG h1 h2 h3 h4 h5
  go_enter Tryd.func33, Tryd.ntmps33
  go_wp2_with (fail)
  refine HC.out.mono ?_
  rintro e w1 ⟨rfl, hb1⟩
  have HB1 := Lib.hid hb1
  clear hb1
  unfold tkA
  go_wp2_with (fail)
  obtain ⟨T, hT⟩ : ∃ T, T = w1.heap.size := ⟨_, rfl⟩
  obtain ⟨W, hW⟩ : ∃ W, W = w1.alloc (.cells #[.int .i64 (tokAt l i).kind, .int .i64 (tokAt l i).at_, .int .i64 (tokAt l i).n, .string ⟨(tokAt l i).text.toArray⟩] TkT) := ⟨_, rfl⟩
  rw [← hT]
  rw [show w1.alloc (.cells #[.int .i64 (tokAt l i).kind, .int .i64 (tokAt l i).at_, .int .i64 (tokAt l i).n, .string ⟨(tokAt l i).text.toArray⟩] 44) = W from hW.symm]
  have hbW : Below w.heap.size w W := by rw [hW]; exact HB1.out.alloc HB1.out.size _
  have bT : Box W T TkT #[.int .i64 (tokAt l i).kind, .int .i64 (tokAt l i).at_, .int .i64 (tokAt l i).n, .string ⟨(tokAt l i).text.toArray⟩] := by rw [hW]; exact Box.new _ _ _ _ hT
  have HT := Lib.hid bT
  have HRW := Lib.hid ((HR.out.on hbW).mono (A' := fun b => b = T) fun b q => Or.inr (by subst q; rw [hT]; exact ⟨HB1.out.size, by rw [← hT]; exact bT.lt⟩))
  have HTr : Hid (¬ T = rb) := Lib.hid (fun e => by have := HR.out.lt; have := HB1.out.size; omega)
  clear hT hW hbW bT
  have HQ2 := Lib.hid (took_no [40] HRW.out Hh1.out)
  refine HQ2.out.mono ?_
  rintro e w2 ⟨rfl, hb2⟩
  have HT2 := Lib.hid (HT.out.on hb2)
  have HRW2 := Lib.hid (HRW.out.on_ hb2)
  clear hb2
  have HQ3 := Lib.hid (took_no [45] HRW2.out Hh2.out)
  go_wp2_with (fail)
  refine HQ3.out.mono ?_
  rintro e w3 ⟨rfl, hb3⟩
  have HT3 := Lib.hid (HT2.out.on hb3)
  have HRW3 := Lib.hid (HRW2.out.on_ hb3)
  clear hb3
  have HQ4 := Lib.hid (took_no [33] HRW3.out Hh3.out)
  go_wp2_with (fail)
  refine HQ4.out.mono ?_
  rintro e w4 ⟨rfl, hb4⟩
  have HT4 := Lib.hid (HT3.out.on hb4)
  have HRW4 := Lib.hid (HRW3.out.on_ hb4)
  clear hb4
  have hw5 := HT4.out
  have t0 := hw5.cell 0
  have t1 := hw5.cell 1
  have t2 := hw5.cell 2
  have t3 := hw5.cell 3
  simp only [List.getElem?_toArray, List.getElem?_cons_zero, List.getElem?_cons_succ] at t0 t1 t2 t3
  clear hw5
  have HQ5 := Lib.hid (word_tok (tokAt l i) [102, 111, 114, 107] w4)
  rw [← isW_tok, Hh4.out] at HQ5
  unfold tkA at HQ5
  go_wp2_with (fail)
  clear t0 t1 t2 t3
  refine HQ5.out.mono ?_
  rintro e w5 ⟨rfl, hb5⟩
  have HT5 := Lib.hid (HT4.out.on hb5)
  have HRW5 := Lib.hid (HRW4.out.on_ hb5)
  clear hb5
  have hw6 := HT5.out
  have t0 := hw6.cell 0
  have t1 := hw6.cell 1
  have t2 := hw6.cell 2
  have t3 := hw6.cell 3
  simp only [List.getElem?_toArray, List.getElem?_cons_zero, List.getElem?_cons_succ] at t0 t1 t2 t3
  clear hw6
  have HQ6 := Lib.hid (word_tok (tokAt l i) [110, 101, 119] w5)
  rw [← isW_tok, Hh5.out] at HQ6
  unfold tkA at HQ6
  go_wp2_with (fail)
  clear t0 t1 t2 t3
  refine HQ6.out.mono ?_
  rintro e w6 ⟨rfl, hb6⟩
  have HT6 := Lib.hid (HT5.out.on hb6)
  have HRW6 := Lib.hid (HRW5.out.on_ hb6)
  clear hb6
  have HF := Lib.hid (first_any HRW6.out HL.out HG.out)
  have HO2 := HO
  go_wp2_with (fail)
  refine HF.out.mono ?_
  intro e w9 hp9
  obtain ⟨b9, hb9⟩ := out_bool hp9
  subst hb9
  have HP9 := Lib.hid hp9
  clear hp9
  go_wp2_with (fail)
  go_ret
  rw [HO2.out]
  exact HP9.out
theorem begin_any (h : Rd l v w0 rb A i true false (rdL G) G w) (hl : (rdL G).length ≤ 1048580) (hG : G.length ≤ 1048580) :
    Calls Tryd.prog 33 #[.pointer (some ⟨rb, 0, none⟩)] w (OutP l v w0 rb (beginM l i G)) := by
  unfold beginM
  by_cases h1 : isM l i [40] = true
  · rw [if_pos h1]; exact begin_par h1 h hl hG
  rw [if_neg h1]
  by_cases h2 : isM l i [45] = true
  · rw [if_pos h2]; exact begin_neg (bool_not h1) h2 h hl hG
  rw [if_neg h2]
  by_cases h3 : isM l i [33] = true
  · rw [if_pos h3]; exact begin_not (bool_not h1) (bool_not h2) h3 h hl hG
  rw [if_neg h3]
  by_cases h4 : pm.isW l i sFork = true
  · rw [if_pos h4]; exact begin_fork (bool_not h1) (bool_not h2) (bool_not h3) h4 h hl hG
  rw [if_neg h4]
  by_cases h5 : pm.isW l i sNew = true
  · rw [if_pos h5]; exact begin_new (bool_not h1) (bool_not h2) (bool_not h3) (bool_not h4) h5 h hl hG
  rw [if_neg h5]
  exact begin_first (bool_not h1) (bool_not h2) (bool_not h3) (bool_not h4) (bool_not h5) h hl hG
end Go.Proofs.YtgohkmdepjmpaaaDoor.pm.em

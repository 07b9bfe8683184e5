import Derived.Test.YtgohkmdepjmpaaaDoorCParPre
import Derived.Test.YtgohkmdepjmpaaaDoorCParTold
import Derived.Test.YtgohkmdepjmpaaaDoorCTreeName
import Derived.Test.YtgohkmdepjmpaaaDoorCGWord
import Derived.Test.YtgohkmdepjmpaaaDoorShelf
import Derived.Test.YtgohkmdepjmpaaaDoorCRows9
import Derived.RegionTactic
import Derived.StillTailTactics
import Derived.Test.YtgohkmdepjmpaaaDoorCParOwn
/- The package's reader as a machine over plain lists: what is begun stands in a row of its own. -/
--KEEP
namespace Go.Proofs.YtgohkmdepjmpaaaDoor.pm.em
open Go.RowKit wd lx nt ne pm

/-- what is begun: brackets, a sign ahead, a sign between, an index, arguments -/
inductive Frm where
  | brk
  | un (a s : Int)
  | bin (a s b : Int) (left : NT)
  | idx (a : Int) (left : NT)
  | arg (k a : Int) (nm : List UInt8) (ks : List NT)
def Frm.bind : Frm → Int
  | .un _ _ => 6
  | .bin _ _ b _ => b
  | _ => 0
def Frm.kids : Frm → List NT
  | .bin _ _ _ x => [x]
  | .idx _ x => [x]
  | .arg _ _ _ ks => ks
  | _ => []
def Frm.many : Frm → Bool
  | .arg _ _ _ _ => true
  | _ => false
def Frm.shut : Frm → List UInt8
  | .brk => [41]
  | .idx _ _ => [93]
  | .arg _ _ _ _ => [41]
  | _ => []
/-- what it is to be, without kids -/
def Frm.node : Frm → NT
  | .brk => .mk 0 0 0 [] []
  | .un a s => .mk 15 a s [] []
  | .bin a s _ _ => .mk 16 a s [] []
  | .idx a _ => .mk 13 a 0 [] []
  | .arg k a nm _ => .mk k a 0 nm []
def Frm.close (n : NT) : Frm → NT
  | .brk => n
  | .un a s => .mk 15 a s [] [n]
  | .bin a s _ x => .mk 16 a s [] [x, n]
  | .idx a x => .mk 13 a 0 [] [x, n]
  | .arg k a nm ks => .mk k a 0 nm (ks ++ [n])
/-- one more argument -/
def Frm.more (n : NT) : Frm → Frm
  | .arg k a nm ks => .arg k a nm (ks ++ [n])
  | f => f
def bindTop : List Frm → Int
  | [] => 0
  | f :: _ => f.bind
/-- the signs that bind at least so tightly end -/
def settle (t : Int) : List Frm → NT → List Frm × NT
  | [], n => ([], n)
  | f :: G, n => if t ≤ f.bind then settle t G (f.close n) else (f :: G, n)
/-- the sign of a token: 0 for none -/
def sgn (t : Tk) : Int := if t.kind = 4 then signF t.text else 0
def bindT (l : List Tk) (i : Int) : Int := bindF (sgn (tokAt l i))
inductive MS where
  | want (i : Int) (G : List Frm)
  | have_ (i : Int) (G : List Frm) (n : NT)
def MS.stk : MS → List Frm
  | .want _ G => G
  | .have_ _ G _ => G
inductive Out where
  | go (s : MS)
  | no (j : Int)
  | over (n : NT) (j : Int)
def argsM (l : List Tk) (i k a : Int) (nm : List UInt8) (ks : List NT) (G : List Frm) : Out :=
  if isM l i [40] = true then (if isM l (i + 1) [41] = true then .go (.have_ (i + 2) G (.mk k a 0 nm ks)) else .go (.want (i + 1) (.arg k a nm ks :: G))) else .no i
def typR (l : List Tk) (i : Int) : Res := (run l (fuelP l .typ i) .typ i).getD (.no i)
def newM (l : List Tk) (a : Int) (G : List Frm) : Res → Out
  | .node n j => argsM l j 19 a [] [n] G
  | r => .no r.pos
/-- a call, or a fork, of the name at a token -/
def callM (l : List Tk) (i k a : Int) (G : List Frm) : Out := if (tokAt l i).kind = 1 then argsM l (i + 1) k a (tokAt l i).text [] G else .no i
def beginM (l : List Tk) (i : Int) (G : List Frm) : Out :=
  if isM l i [40] = true then .go (.want (i + 1) (.brk :: G))
  else if isM l i [45] = true then .go (.want (i + 1) (.un (tokAt l i).at_ 2 :: G))
  else if isM l i [33] = true then .go (.want (i + 1) (.un (tokAt l i).at_ 14 :: G))
  else if isW l i sFork = true then callM l (i + 1) 18 (tokAt l i).at_ G
  else if isW l i sNew = true then newM l (tokAt l i).at_ G (typR l (i + 1))
  else if (tokAt l i).kind = 2 then .go (.have_ (i + 1) G (.mk 10 (tokAt l i).at_ (tokAt l i).n [] []))
  else if isW l i sTrue = true then .go (.have_ (i + 1) G (.mk 11 (tokAt l i).at_ 1 [] []))
  else if isW l i sFalse = true then .go (.have_ (i + 1) G (.mk 11 (tokAt l i).at_ 0 [] []))
  else if (tokAt l i).kind = 1 then (if isM l (i + 1) [40] = true then callM l i 17 (tokAt l i).at_ G else .go (.have_ (i + 1) G (.mk 12 (tokAt l i).at_ 0 (tokAt l i).text [])))
  else .no i
def leaveM (l : List Tk) (i : Int) : List Frm × NT → Out
  | ([], n) => .over n i
  | (f :: G, n) => if f.many = true ∧ isM l i [44] = true then .go (.want (i + 1) (f.more n :: G)) else if isM l i f.shut = true then .go (.have_ (i + 1) G (f.close n)) else .no i
def stepM (l : List Tk) : MS → Out
  | .want i G => beginM l i G
  | .have_ i G n =>
    if isM l i [91] = true then .go (.want (i + 1) (.idx (tokAt l i).at_ n :: G))
    else if isM l i [46] = true then (if (tokAt l (i + 1)).kind = 1 then .go (.have_ (i + 2) G (.mk 14 (tokAt l i).at_ 0 (tokAt l (i + 1)).text [n])) else .no (i + 1))
    else if bindT l i = 0 then leaveM l i (settle 1 G n)
    else if bindT l i = 3 ∧ bindTop (settle (bindT l i + 1) G n).1 = 3 then leaveM l i (settle 1 (settle (bindT l i + 1) G n).1 (settle (bindT l i + 1) G n).2)
    else .go (.want (i + 1) (.bin (tokAt l i).at_ (sgn (tokAt l i)) (bindT l i) (settle (bindT l i) (settle (bindT l i + 1) G n).1 (settle (bindT l i + 1) G n).2).2 :: (settle (bindT l i) (settle (bindT l i + 1) G n).1 (settle (bindT l i + 1) G n).2).1))
theorem leave_cons (l : List Tk) (i : Int) (f : Frm) (G : List Frm) (n : NT) : leaveM l i (f :: G, n) = if f.many = true ∧ isM l i [44] = true then .go (.want (i + 1) (f.more n :: G)) else if isM l i f.shut = true then .go (.have_ (i + 1) G (f.close n)) else .no i := rfl
/-! ### what is settled -/
theorem settle_two {t t' : Int} (h : t ≤ t') : ∀ (G : List Frm) (n : NT), settle t (settle t' G n).1 (settle t' G n).2 = settle t G n
  | [], n => rfl
  | f :: G, n => by
    by_cases h1 : t' ≤ f.bind
    · rw [show settle t' (f :: G) n = settle t' G (f.close n) from if_pos h1, settle_two h G, show settle t (f :: G) n = settle t G (f.close n) from if_pos (by omega)]
    · rw [show settle t' (f :: G) n = (f :: G, n) from if_neg h1]
theorem settle_stop {t : Int} {G : List Frm} {n : NT} (h : bindTop G < t) : settle t G n = (G, n) := by
  cases G with
  | nil => rfl
  | cons f G => exact if_neg (by have h : f.bind < t := h; omega)
theorem settle_top {t : Int} (ht : 1 ≤ t) : ∀ (G : List Frm) (n : NT), bindTop (settle t G n).1 < t
  | [], n => by show (0 : Int) < t; omega
  | f :: G, n => by
    by_cases h1 : t ≤ f.bind
    · rw [show settle t (f :: G) n = settle t G (f.close n) from if_pos h1]; exact settle_top ht G _
    · rw [show settle t (f :: G) n = (f :: G, n) from if_neg h1]; show f.bind < t; omega
theorem settle_len {t : Int} : ∀ (G : List Frm) (n : NT), (settle t G n).1.length ≤ G.length
  | [], n => Nat.le_refl _
  | f :: G, n => by
    by_cases h1 : t ≤ f.bind
    · rw [show settle t (f :: G) n = settle t G (f.close n) from if_pos h1]; exact Nat.le_trans (settle_len G _) (by simp)
    · rw [show settle t (f :: G) n = (f :: G, n) from if_neg h1]; exact Nat.le_refl _
theorem bindF_in (k : Int) : 0 ≤ bindF k ∧ bindF k ≤ 5 := by
  unfold bindF
  repeat' split
  all_goals omega
theorem bindT_in (l : List Tk) (i : Int) : 0 ≤ bindT l i ∧ bindT l i ≤ 5 := bindF_in _
/-! ### the sign of a token, as the grammar asks it -/
theorem sign_all {t : Tk} {lv : Int} : ∀ s : Nat, s ≤ 14 → signOf t lv s = 0 → ∀ k : Int, 14 - (s : Int) < k ∧ k ≤ 14 → ¬ (t.kind = 4 ∧ spellF k = t.text ∧ bindF k = lv)
  | 0, _, _, k, hk => by omega
  | s + 1, hs, h, k, hk => by
    unfold signOf at h
    by_cases hc : t.kind = 4 ∧ spellF ((14 - s : Nat) : Int) = t.text ∧ bindF ((14 - s : Nat) : Int) = lv
    · rw [if_pos hc] at h
      omega
    · rw [if_neg hc] at h
      by_cases e : k = ((14 - s : Nat) : Int)
      · rw [e]; exact hc
      · exact sign_all s (by omega) h k ⟨by omega, hk.2⟩
theorem signP_of (l : List Tk) (i : Int) {lv : Int} (hlv : 1 ≤ lv) : signP l i lv = if bindT l i = lv then sgn (tokAt l i) else 0 := by
  unfold signP bindT
  obtain ⟨t, ht⟩ : ∃ t, t = tokAt l i := ⟨_, rfl⟩
  rw [← ht]
  by_cases h0 : signOf t lv 14 = 0
  · rw [h0]
    by_cases hb : bindF (sgn t) = lv
    · rw [if_pos hb]
      exfalso
      have hk : t.kind = 4 := by
        by_cases hk : t.kind = 4
        · exact hk
        · rw [show sgn t = 0 from if_neg hk, show bindF 0 = 0 from rfl] at hb; omega
      have e : sgn t = signF t.text := if_pos hk
      have hm : t.text ∈ signs14 := by
        by_cases hm : t.text ∈ signs14
        · exact hm
        · rw [e, (sign_out hm).1, show bindF 0 = 0 from rfl] at hb; omega
      obtain ⟨h1, h2, h3, _⟩ := sign_in hm
      exact sign_all 14 (Nat.le_refl _) h0 (sgn t) (by rw [e]; omega) ⟨hk, by rw [e]; exact h3, hb⟩
    · rw [if_neg hb]
  · have hk := sign_kind 14 h0
    obtain ⟨h1, h2, h3, h4⟩ := sign_of_in 14 h0 ⟨hk, Nat.le_refl _⟩
    have e : sgn t = signOf t lv 14 := by
      rw [show sgn t = signF t.text from if_pos hk, ← h4]
      exact (spell_in h1 h2).2.1
    rw [e, if_pos h3]
/-! ### ways of the machine -/
inductive Reach (l : List Tk) (d : Nat) : MS → MS → Prop
  | refl (s : MS) : Reach l d s s
  | step {s s1 s2 : MS} : d ≤ s.stk.length → stepM l s = .go s1 → Reach l d s1 s2 → Reach l d s s2
theorem Reach.trans {l : List Tk} {d : Nat} {s s1 s2 : MS} (h : Reach l d s s1) (h2 : Reach l d s1 s2) : Reach l d s s2 := by
  induction h with
  | refl _ => exact h2
  | step hd hs _ ih => exact .step hd hs (ih h2)
theorem Reach.one {l : List Tk} {d : Nat} {s s1 : MS} (hd : d ≤ s.stk.length) (h : stepM l s = .go s1) : Reach l d s s1 := .step hd h (.refl _)
def Fails (l : List Tk) (d : Nat) (s : MS) (j : Int) : Prop := ∃ s', Reach l d s s' ∧ d ≤ s'.stk.length ∧ stepM l s' = .no j
theorem Fails.at_ {l : List Tk} {d : Nat} {s : MS} {j : Int} (hd : d ≤ s.stk.length) (h : stepM l s = .no j) : Fails l d s j := ⟨s, .refl _, hd, h⟩
theorem Fails.behind {l : List Tk} {d : Nat} {s s1 : MS} {j : Int} (h : Reach l d s s1) (h2 : Fails l d s1 j) : Fails l d s j := by
  obtain ⟨s', h3, h4⟩ := h2
  exact ⟨s', h.trans h3, h4⟩
def OReach (l : List Tk) (d : Nat) (o : Out) (s : MS) : Prop := ∃ s1, o = .go s1 ∧ Reach l d s1 s
def OFails (l : List Tk) (d : Nat) (o : Out) (j : Int) : Prop := o = .no j ∨ ∃ s1, o = .go s1 ∧ Fails l d s1 j
theorem OReach.on {l : List Tk} {d : Nat} {s s2 : MS} {o : Out} (hd : d ≤ s.stk.length) (e : stepM l s = o) (h : OReach l d o s2) : Reach l d s s2 := by
  obtain ⟨s1, rfl, h⟩ := h
  exact .step hd e h
theorem OFails.on {l : List Tk} {d : Nat} {s : MS} {o : Out} {j : Int} (hd : d ≤ s.stk.length) (e : stepM l s = o) (h : OFails l d o j) : Fails l d s j := by
  rcases h with rfl | ⟨s1, rfl, h⟩
  · exact .at_ hd e
  · exact .behind (.one hd e) h
def NoTail (l : List Tk) (j : Int) : Prop := isM l j [91] = false ∧ isM l j [46] = false
def Post (l : List Tk) (t : Int) (j : Int) (G : List Frm) (n : NT) : Prop := NoTail l j ∧ (bindT l j < t ∨ (t ≤ 3 ∧ bindT l j = 3 ∧ bindTop (settle 4 G n).1 = 3))
theorem step_leave {l : List Tk} {j : Int} {G : List Frm} {n : NT} (h : Post l 1 j G n) : stepM l (.have_ j G n) = leaveM l j (settle 1 G n) := by
  obtain ⟨⟨h1, h2⟩, h3⟩ := h
  have hb := bindT_in l j
  rw [stepM]
  rw [if_neg (by rw [h1]; decide), if_neg (by rw [h2]; decide)]
  rcases h3 with h3 | ⟨_, h3, h4⟩
  · rw [if_pos (by omega)]
  · rw [if_neg (by omega), h3, if_pos ⟨rfl, h4⟩, settle_two (by omega)]
def OnNode (r : Res) (N : NT → Int → Prop) (F : Int → Prop) : Prop :=
  match r with
  | .node n j => N n j
  | .no j => F j
  | .list _ _ => False
def OnList (r : Res) (N : List NT → Int → Prop) (F : Int → Prop) : Prop :=
  match r with
  | .list n j => N n j
  | .no j => F j
  | .node _ _ => False
/-- what the machine does where the grammar reads so -/
def Sim (l : List Tk) : Mode → Int → Res → Prop
  | .typ, _, _ => True
  | .lev t, i, r => 1 ≤ t → t ≤ 6 → ∀ (G : List Frm) (d : Nat), bindTop G < t → d ≤ G.length → OnNode r (fun n j => ∃ G' n', Reach l d (.want i G) (.have_ j G' n') ∧ settle t G' n' = (G, n) ∧ Post l t j G' n') (fun j => Fails l d (.want i G) j)
  | .loop t left, i, r => 1 ≤ t → t ≤ 5 → ∀ (G G' : List Frm) (n' : NT) (d : Nat), bindTop G < t → d ≤ G.length → settle t G' n' = (G, left) → Post l (t + 1) i G' n' → (t = 3 → settle 4 G' n' = (G, left)) → OnNode r (fun n j => ∃ G2 n2, Reach l d (.have_ i G' n') (.have_ j G2 n2) ∧ settle t G2 n2 = (G, n) ∧ Post l t j G2 n2) (fun j => Fails l d (.have_ i G' n') j)
  | .fac, i, r => ∀ (G : List Frm) (d : Nat), d ≤ G.length → OnNode r (fun n j => ∃ G' n', Reach l d (.want i G) (.have_ j G' n') ∧ settle 6 G' n' = settle 6 G n ∧ Post l 6 j G' n') (fun j => Fails l d (.want i G) j)
  | .part, i, r => (isM l i [45] = false ∧ isM l i [33] = false) → ∀ (G : List Frm) (d : Nat), d ≤ G.length → OnNode r (fun n j => Reach l d (.want i G) (.have_ j G n) ∧ NoTail l j) (fun j => Fails l d (.want i G) j)
  | .steps n0, i, r => ∀ (G : List Frm) (d : Nat), d ≤ G.length → OnNode r (fun n j => Reach l d (.have_ i G n0) (.have_ j G n) ∧ NoTail l j) (fun j => Fails l d (.have_ i G n0) j)
  | .first, i, r => (isM l i [45] = false ∧ isM l i [33] = false) → ∀ (G : List Frm) (d : Nat), d ≤ G.length → OnNode r (fun n j => Reach l d (.want i G) (.have_ j G n)) (fun j => Fails l d (.want i G) j)
  | .call k a, i, r => ∀ (G : List Frm) (d : Nat), d ≤ G.length + 1 → OnNode r (fun n j => OReach l d (callM l i k a G) (.have_ j G n)) (fun j => OFails l d (callM l i k a G) j)
  | .args, i, r => ∀ (k a : Int) (nm : List UInt8) (ks : List NT) (G : List Frm) (d : Nat), d ≤ G.length + 1 → OnList r (fun ns j => OReach l d (argsM l i k a nm ks G) (.have_ j G (.mk k a 0 nm (ks ++ ns)))) (fun j => OFails l d (argsM l i k a nm ks G) j)
  | .more ns0, i, r => ∀ (k a : Int) (nm : List UInt8) (ks : List NT) (G : List Frm) (d : Nat), d ≤ G.length + 1 → OnList r (fun ns j => Reach l d (.want i (.arg k a nm (ks ++ ns0) :: G)) (.have_ j G (.mk k a 0 nm (ks ++ ns)))) (fun j => Fails l d (.want i (.arg k a nm (ks ++ ns0) :: G)) j)
theorem bool_not {b : Bool} (h : ¬ b = true) : b = false := by cases b <;> simp_all
theorem kind_apartM {l : List Tk} {i : Int} {m : List UInt8} (h : (tokAt l i).kind ≠ 4) : isM l i m = false := by unfold isM; simp [h]
theorem kind_apartW {l : List Tk} {i : Int} {m : List UInt8} (h : (tokAt l i).kind ≠ 3) : isW l i m = false := by unfold isW; simp [h]
theorem isM_kind4 {l : List Tk} {i : Int} {m : List UInt8} (h : isM l i m = true) : (tokAt l i).kind = 4 := by unfold isM at h; simp at h; exact h.1
theorem isW_kind3 {l : List Tk} {i : Int} {m : List UInt8} (h : isW l i m = true) : (tokAt l i).kind = 3 := by unfold isW at h; simp at h; exact h.1
theorem isW_other {l : List Tk} {i : Int} {m m' : List UInt8} (h : isW l i m = true) (hm : m ≠ m') : isW l i m' = false := by
  unfold isW at h ⊢
  simp at h ⊢
  intro _
  rw [h.2]; exact hm
theorem isM_other {l : List Tk} {i : Int} {m m' : List UInt8} (h : isM l i m = true) (hm : m ≠ m') : isM l i m' = false := by
  unfold isM at h ⊢
  simp at h ⊢
  intro _
  rw [h.2]; exact hm
theorem sim_lev {l : List Tk} {R : Mode → Int → Option Res} (hR : ∀ m i r, R m i = some r → Sim l m i r) (t : Nat) (i : Int) (r : Res) (h : stepR l R (.lev t) i = some r) : Sim l (.lev t) i r := by
  intro h1 h6 G d hG hd
  simp only [stepR] at h
  by_cases ht : 5 < t
  · rw [if_pos ht] at h
    obtain rfl : t = 6 := by omega
    have q := hR _ _ _ h G d hd
    cases r with
    | node n j =>
      obtain ⟨G', n', q1, q2, q3⟩ := q
      exact ⟨G', n', q1, q2.trans (settle_stop hG), q3⟩
    | no j => exact q
    | list ns j => exact q
  · rw [if_neg ht] at h
    rcases andN_some h with ⟨n, j, h2, h3⟩ | ⟨j, h2, rfl⟩
    · obtain ⟨G', n', q1, q2, q3⟩ := hR _ _ _ h2 (by omega) (by omega) G d (by omega) hd
      have q4 := hR _ _ _ h3 h1 (by omega) G G' n' d hG hd (by rw [← settle_two (t := t) (t' := (t + 1 : Nat)) (by omega), q2]; exact settle_stop hG) (by simpa using q3) (fun e => by subst e; exact q2)
      cases r with
      | node n2 k =>
        obtain ⟨G2, n2', q5, q6, q7⟩ := q4
        exact ⟨G2, n2', q1.trans q5, q6, q7⟩
      | no k => exact .behind q1 q4
      | list ns k => exact q4
    · exact hR _ _ _ h2 (by omega) (by omega) G d (by omega) hd
theorem sim_loop {l : List Tk} {R : Mode → Int → Option Res} (hR : ∀ m i r, R m i = some r → Sim l m i r) (t : Nat) (left : NT) (i : Int) (r : Res) (h : stepR l R (.loop t left) i = some r) : Sim l (.loop t left) i r := by
  intro h1 h5 G G' n' d hG hd hs hp h4
  simp only [stepR] at h
  have hb := bindT_in l i
  have hlen : G.length ≤ G'.length := by have := settle_len (t := t) G' n'; rw [hs] at this; exact this
  rw [signP_of l i (by omega)] at h
  obtain ⟨⟨p1, p2⟩, p3⟩ := hp
  by_cases hc : bindT l i = t
  · have hsg : sgn (tokAt l i) ≠ 0 := fun e => by unfold bindT at hc; rw [e, show bindF 0 = 0 from rfl] at hc; omega
    rw [if_pos hc, if_neg hsg] at h
    have st : stepM l (.have_ i G' n') = .go (.want (i + 1) (.bin (tokAt l i).at_ (sgn (tokAt l i)) t left :: G)) := by
      rw [stepM]
      rw [if_neg (by rw [p1]; decide), if_neg (by rw [p2]; decide), if_neg (by omega), hc, settle_two (t := (t : Int)) (t' := (t : Int) + 1) (by omega), hs, if_neg]
      rintro ⟨e1, e2⟩
      have e3 : t = 3 := by omega
      subst e3
      rw [show ((3 : Nat) : Int) + 1 = 4 from rfl, h4 rfl] at e2
      have e4 : bindTop G = 3 := e2
      omega
    have r1 : Reach l d (.have_ i G' n') _ := .one (Nat.le_trans hd hlen) st
    rcases andN_some h with ⟨n, k, h2, h3⟩ | ⟨k, h2, rfl⟩
    · obtain ⟨G2, n2, q1, q2, q3⟩ := hR _ _ _ h2 (by omega) (by omega) (.bin (tokAt l i).at_ (sgn (tokAt l i)) t left :: G) d (by show (t : Int) < _; omega) (by simp; omega)
      have q4 : settle t G2 n2 = (G, .mk 16 (tokAt l i).at_ (sgn (tokAt l i)) [] [left, n]) := by
        rw [← settle_two (t := t) (t' := (t + 1 : Nat)) (by omega), q2]
        show settle t (.bin _ _ _ _ :: G) n = _
        rw [show settle t (.bin (tokAt l i).at_ (sgn (tokAt l i)) t left :: G) n = settle t G _ from if_pos (Int.le_refl _), settle_stop hG]
        rfl
      by_cases e3 : t = 3
      · subst e3
        rw [if_pos rfl] at h3
        injection h3 with h3
        subst h3
        refine ⟨G2, n2, r1.trans q1, q4, q3.1, ?_⟩
        rcases q3.2 with q5 | q5
        · by_cases e5 : bindT l k < 3
          · exact Or.inl e5
          · refine Or.inr ⟨by omega, by omega, ?_⟩
            have : settle 4 G2 n2 = _ := q2
            rw [this]
            rfl
        · omega
      · rw [if_neg e3] at h3
        have q5 := hR _ _ _ h3 h1 h5 G G2 n2 d hG hd q4 (by simpa using q3) (fun e => absurd e e3)
        cases r with
        | node n3 k3 =>
          obtain ⟨G3, n3', q6, q7, q8⟩ := q5
          exact ⟨G3, n3', r1.trans (q1.trans q6), q7, q8⟩
        | no k3 => exact .behind (r1.trans q1) q5
        | list ns k3 => exact q5
    · exact .behind r1 (hR _ _ _ h2 (by omega) (by omega) (.bin (tokAt l i).at_ (sgn (tokAt l i)) t left :: G) d (by show (t : Int) < _; omega) (by simp; omega))
  · rw [if_neg hc, if_pos rfl] at h
    injection h with h
    subst h
    refine ⟨G', n', .refl _, hs, ⟨p1, p2⟩, ?_⟩
    rcases p3 with p3 | p3
    · exact Or.inl (by omega)
    · exact Or.inr ⟨by omega, p3.2⟩
theorem sim_fac {l : List Tk} {R : Mode → Int → Option Res} (hR : ∀ m i r, R m i = some r → Sim l m i r) (i : Int) (r : Res) (h : stepR l R .fac i = some r) : Sim l .fac i r := by
  intro G d hd
  simp only [stepR] at h
  by_cases hc : isM l i [45] = false ∧ isM l i [33] = false
  · rw [if_pos hc] at h
    have q := hR _ _ _ h hc G d hd
    cases r with
    | node n j => exact ⟨G, n, q.1, rfl, q.2, Or.inl (by have := bindT_in l j; omega)⟩
    | no j => exact q
    | list ns j => exact q
  · rw [if_neg hc] at h
    obtain ⟨s, hs, st⟩ : ∃ s : Int, (if isM l i [33] = true then (14 : Int) else 2) = s ∧ stepM l (.want i G) = .go (.want (i + 1) (.un (tokAt l i).at_ s :: G)) := by
      by_cases h33 : isM l i [33] = true
      · refine ⟨14, if_pos h33, ?_⟩
        show beginM l i G = _
        unfold beginM
        rw [if_neg (by rw [isM_other h33 (by decide)]; decide), if_neg (by rw [isM_other h33 (by decide)]; decide), if_pos h33]
      · have h45 : isM l i [45] = true := by
          cases hx : isM l i [45] with
          | true => rfl
          | false => exact absurd ⟨hx, bool_not h33⟩ hc
        refine ⟨2, if_neg h33, ?_⟩
        show beginM l i G = _
        unfold beginM
        rw [if_neg (by rw [isM_other h45 (by decide)]; decide), if_pos h45]
    rw [hs] at h
    rcases andN_some h with ⟨n, j, h2, h3⟩ | ⟨j, h2, rfl⟩
    · obtain ⟨G', n', q1, q2, q3⟩ := hR _ _ _ h2 (.un (tokAt l i).at_ s :: G) d (by simp; omega)
      injection h3 with h3
      subst h3
      refine ⟨G', n', .step hd st q1, ?_, q3⟩
      rw [q2, show settle 6 (.un (tokAt l i).at_ s :: G) n = settle 6 G _ from if_pos (Int.le_refl _)]
      rfl
    · exact .behind (.one hd st) (hR _ _ _ h2 (.un (tokAt l i).at_ s :: G) d (by simp; omega))
theorem sim_part {l : List Tk} {R : Mode → Int → Option Res} (hR : ∀ m i r, R m i = some r → Sim l m i r) (i : Int) (r : Res) (h : stepR l R .part i = some r) : Sim l .part i r := by
  intro hc G d hd
  simp only [stepR] at h
  rcases andN_some h with ⟨n, j, h2, h3⟩ | ⟨j, h2, rfl⟩
  · have q1 := hR _ _ _ h2 hc G d hd
    have q2 := hR _ _ _ h3 G d hd
    cases r with
    | node n2 k => exact ⟨Reach.trans q1 q2.1, q2.2⟩
    | no k => exact .behind q1 q2
    | list ns k => exact q2
  · exact hR _ _ _ h2 hc G d hd
theorem sim_steps {l : List Tk} {R : Mode → Int → Option Res} (hR : ∀ m i r, R m i = some r → Sim l m i r) (n0 : NT) (i : Int) (r : Res) (h : stepR l R (.steps n0) i = some r) : Sim l (.steps n0) i r := by
  intro G d hd
  simp only [stepR] at h
  by_cases hdot : isM l i [46] = true
  · rw [if_pos hdot] at h
    have hn := isM_other hdot (m' := [91]) (by decide)
    by_cases hk : (tokAt l (i + 1)).kind = 1
    · rw [if_pos hk] at h
      have st : stepM l (.have_ i G n0) = .go (.have_ (i + 2) G (.mk 14 (tokAt l i).at_ 0 (tokAt l (i + 1)).text [n0])) := by
        rw [stepM]
        rw [if_neg (by rw [hn]; decide), if_pos hdot, if_pos hk]
      have q := hR _ _ _ h G d hd
      cases r with
      | node n2 k => exact ⟨.step hd st q.1, q.2⟩
      | no k => exact .behind (.one hd st) q
      | list ns k => exact q
    · rw [if_neg hk] at h
      injection h with h
      subst h
      refine .at_ hd ?_
      rw [stepM]
      rw [if_neg (by rw [hn]; decide), if_pos hdot, if_neg hk]
  · rw [if_neg hdot] at h
    by_cases hbr : isM l i [91] = false
    · rw [if_pos hbr] at h
      injection h with h
      subst h
      exact ⟨.refl _, hbr, bool_not hdot⟩
    · rw [if_neg hbr] at h
      have hbr' : isM l i [91] = true := by cases hx : isM l i [91] <;> simp_all
      have st : stepM l (.have_ i G n0) = .go (.want (i + 1) (.idx (tokAt l i).at_ n0 :: G)) := by
        rw [stepM]
        rw [if_pos hbr']
      have hG1 : bindTop (.idx (tokAt l i).at_ n0 :: G) < ((1 : Nat) : Int) := by show (0 : Int) < 1; omega
      have hd1 : d ≤ (Frm.idx (tokAt l i).at_ n0 :: G).length := by simp; omega
      rcases andN_some h with ⟨x, k, h2, h3⟩ | ⟨k, h2, rfl⟩
      · obtain ⟨G', n', q1, q2, q3⟩ := hR _ _ _ h2 (by omega) (by omega) (.idx (tokAt l i).at_ n0 :: G) d hG1 hd1
        have hlen : d ≤ G'.length := by have := settle_len (t := ((1 : Nat) : Int)) G' n'; rw [q2] at this; exact Nat.le_trans hd1 this
        have st2 := step_leave q3
        rw [show settle 1 G' n' = _ from q2] at st2
        rw [leave_cons] at st2
        rw [if_neg (by simp [Frm.many])] at st2
        by_cases hsh : isM l k [93] = true
        · rw [if_pos hsh] at h3
          rw [if_pos (by exact hsh)] at st2
          have q := hR _ _ _ h3 G d hd
          cases r with
          | node n2 k2 => exact ⟨.step hd st (q1.trans (.step hlen st2 q.1)), q.2⟩
          | no k2 => exact .behind (.step hd st (q1.trans (.one hlen st2))) q
          | list ns k2 => exact q
        · rw [if_neg hsh] at h3
          rw [if_neg (by exact hsh)] at st2
          injection h3 with h3
          subst h3
          exact .behind (.step hd st q1) (.at_ hlen st2)
      · exact .behind (.one hd st) (hR _ _ _ h2 (by omega) (by omega) (.idx (tokAt l i).at_ n0 :: G) d hG1 hd1)
theorem sim_first {l : List Tk} {R : Mode → Int → Option Res} (hR : ∀ m i r, R m i = some r → Sim l m i r) (hT : ∀ i r, R .typ i = some r → typR l i = r ∧ OnNode r (fun _ _ => True) (fun _ => True)) (i : Int) (r : Res) (h : stepR l R .first i = some r) : Sim l .first i r := by
  intro hc G d hd
  simp only [stepR] at h
  have key : ∀ o, stepM l (.want i G) = o → (∀ n j, o = .go (.have_ j G n) → Reach l d (.want i G) (.have_ j G n)) := fun o e n j e2 => .one hd (e.trans e2)
  have b0 : stepM l (.want i G) = beginM l i G := rfl
  unfold beginM at b0
  rw [if_neg (c := isM l i [45] = true) (by rw [hc.1]; decide), if_neg (c := isM l i [33] = true) (by rw [hc.2]; decide)] at b0
  by_cases h2 : (tokAt l i).kind = 2
  · rw [if_pos h2] at h
    injection h with h
    subst h
    rw [if_neg (by rw [kind_apartM (by omega)]; decide), if_neg (by rw [kind_apartW (by omega)]; decide), if_neg (by rw [kind_apartW (by omega)]; decide), if_pos h2] at b0
    exact .one hd b0
  rw [if_neg h2] at h b0
  by_cases ht : isW l i sTrue = true
  · rw [if_pos ht] at h
    injection h with h
    subst h
    have hk := isW_kind3 ht
    rw [if_neg (by rw [kind_apartM (by omega)]; decide), if_neg (by rw [isW_other ht (by decide)]; decide), if_neg (by rw [isW_other ht (by decide)]; decide), if_pos ht] at b0
    exact .one hd b0
  rw [if_neg ht] at h b0
  by_cases hf : isW l i sFalse = true
  · rw [if_pos hf] at h
    injection h with h
    subst h
    have hk := isW_kind3 hf
    rw [if_neg (by rw [kind_apartM (by omega)]; decide), if_neg (by rw [isW_other hf (by decide)]; decide), if_neg (by rw [isW_other hf (by decide)]; decide), if_pos hf] at b0
    exact .one hd b0
  rw [if_neg hf] at h b0
  by_cases h1 : (tokAt l i).kind = 1
  · rw [if_pos h1] at h
    rw [if_neg (c := isM l i [40] = true) (by rw [kind_apartM (by omega)]; decide), if_neg (by rw [kind_apartW (by omega)]; decide), if_neg (by rw [kind_apartW (by omega)]; decide), if_pos h1] at b0
    by_cases hp : isM l (i + 1) [40] = true
    · rw [if_pos hp] at h b0
      have q := hR _ _ _ h G d (by omega)
      cases r with
      | node n j => exact OReach.on (s := .want i G) hd b0 q
      | no j => exact OFails.on (s := .want i G) hd b0 q
      | list ns j => exact q
    · rw [if_neg hp] at h b0
      injection h with h
      subst h
      exact .one hd b0
  rw [if_neg h1] at h b0
  by_cases hfk : isW l i sFork = true
  · rw [if_pos hfk] at h
    have hk := isW_kind3 hfk
    rw [if_neg (by rw [kind_apartM (by omega)]; decide), if_pos hfk] at b0
    have q := hR _ _ _ h G d (by omega)
    cases r with
    | node n j => exact OReach.on (s := .want i G) hd b0 q
    | no j => exact OFails.on (s := .want i G) hd b0 q
    | list ns j => exact q
  rw [if_neg hfk] at h b0
  by_cases hnw : isW l i sNew = true
  · rw [if_pos hnw] at h
    have hk := isW_kind3 hnw
    rw [if_neg (by rw [kind_apartM (by omega)]; decide), if_pos hnw] at b0
    rcases andN_some h with ⟨n, j, h3, h4⟩ | ⟨j, h3, rfl⟩
    · rw [(hT _ _ h3).1] at b0
      rcases andL_some h4 with ⟨ns, k, h5, h6⟩ | ⟨k, h5, rfl⟩
      · injection h6 with h6
        subst h6
        have q := hR _ _ _ h5 19 (tokAt l i).at_ [] [n] G d (by omega)
        exact OReach.on (s := .want i G) hd b0 q
      · have q := hR _ _ _ h5 19 (tokAt l i).at_ [] [n] G d (by omega)
        exact OFails.on (s := .want i G) hd b0 q
    · rw [(hT _ _ h3).1] at b0
      exact .at_ hd b0
  rw [if_neg hnw] at h b0
  by_cases hp : isM l i [40] = false
  · rw [if_pos hp] at h
    rw [if_neg (by rw [hp]; decide)] at b0
    injection h with h
    subst h
    exact .at_ hd b0
  · rw [if_neg hp] at h
    have hp' : isM l i [40] = true := by cases hx : isM l i [40] <;> simp_all
    rw [if_pos hp'] at b0
    have hG1 : bindTop (.brk :: G) < ((1 : Nat) : Int) := by show (0 : Int) < 1; omega
    have hd1 : d ≤ (Frm.brk :: G).length := by simp; omega
    rcases andN_some h with ⟨x, k, h3, h4⟩ | ⟨k, h3, rfl⟩
    · obtain ⟨G', n', q1, q2, q3⟩ := hR _ _ _ h3 (by omega) (by omega) (.brk :: G) d hG1 hd1
      have hlen : d ≤ G'.length := by have := settle_len (t := ((1 : Nat) : Int)) G' n'; rw [q2] at this; exact Nat.le_trans hd1 this
      have st2 := step_leave q3
      rw [show settle 1 G' n' = _ from q2] at st2
      rw [leave_cons] at st2
      rw [if_neg (by simp [Frm.many])] at st2
      by_cases hsh : isM l k [41] = true
      · rw [if_pos hsh] at h4
        rw [if_pos (by exact hsh)] at st2
        injection h4 with h4
        subst h4
        exact .step hd b0 (q1.trans (.one hlen st2))
      · rw [if_neg hsh] at h4
        rw [if_neg (by exact hsh)] at st2
        injection h4 with h4
        subst h4
        exact .behind (.step hd b0 q1) (.at_ hlen st2)
    · exact .behind (.one hd b0) (hR _ _ _ h3 (by omega) (by omega) (.brk :: G) d hG1 hd1)
theorem sim_call {l : List Tk} {R : Mode → Int → Option Res} (hR : ∀ m i r, R m i = some r → Sim l m i r) (k a : Int) (i : Int) (r : Res) (h : stepR l R (.call k a) i = some r) : Sim l (.call k a) i r := by
  intro G d hd
  simp only [stepR] at h
  unfold callM
  by_cases h1 : (tokAt l i).kind = 1
  · rw [if_pos h1] at h
    rw [if_pos h1]
    rcases andL_some h with ⟨ns, j, h2, h3⟩ | ⟨j, h2, rfl⟩
    · injection h3 with h3
      subst h3
      exact hR _ _ _ h2 k a (tokAt l i).text [] G d hd
    · exact hR _ _ _ h2 k a (tokAt l i).text [] G d hd
  · rw [if_neg h1] at h
    rw [if_neg h1]
    injection h with h
    subst h
    exact Or.inl rfl
theorem sim_args {l : List Tk} {R : Mode → Int → Option Res} (hR : ∀ m i r, R m i = some r → Sim l m i r) (i : Int) (r : Res) (h : stepR l R .args i = some r) : Sim l .args i r := by
  intro k a nm ks G d hd
  simp only [stepR] at h
  unfold argsM
  by_cases hp : isM l i [40] = false
  · rw [if_pos hp] at h
    injection h with h
    subst h
    rw [if_neg (by rw [hp]; decide)]
    exact Or.inl rfl
  · rw [if_neg hp] at h
    have hp' : isM l i [40] = true := by cases hx : isM l i [40] <;> simp_all
    rw [if_pos hp']
    by_cases hc : isM l (i + 1) [41] = true
    · rw [if_pos hc] at h
      rw [if_pos hc]
      injection h with h
      subst h
      refine ⟨_, rfl, ?_⟩
      rw [List.append_nil]
      exact .refl _
    · rw [if_neg hc] at h
      rw [if_neg hc]
      have q := hR _ _ _ h k a nm ks G d hd
      rw [List.append_nil] at q
      cases r with
      | list ns j => exact ⟨_, rfl, q⟩
      | no j => exact Or.inr ⟨_, rfl, q⟩
      | node n j => exact q
theorem sim_more {l : List Tk} {R : Mode → Int → Option Res} (hR : ∀ m i r, R m i = some r → Sim l m i r) (ns0 : List NT) (i : Int) (r : Res) (h : stepR l R (.more ns0) i = some r) : Sim l (.more ns0) i r := by
  intro k a nm ks G d hd
  simp only [stepR] at h
  have hG1 : bindTop (.arg k a nm (ks ++ ns0) :: G) < ((1 : Nat) : Int) := by show (0 : Int) < 1; omega
  have hd1 : d ≤ (Frm.arg k a nm (ks ++ ns0) :: G).length := by simp; omega
  rcases andN_some h with ⟨x, j, h3, h4⟩ | ⟨j, h3, rfl⟩
  · obtain ⟨G', n', q1, q2, q3⟩ := hR _ _ _ h3 (by omega) (by omega) (.arg k a nm (ks ++ ns0) :: G) d hG1 hd1
    have hlen : d ≤ G'.length := by have := settle_len (t := ((1 : Nat) : Int)) G' n'; rw [q2] at this; exact Nat.le_trans hd1 this
    have st2 := step_leave q3
    rw [show settle 1 G' n' = _ from q2] at st2
    rw [leave_cons] at st2
    by_cases hsh : isM l j [41] = true
    · rw [if_pos hsh] at h4
      rw [if_neg (by rw [isM_other hsh (by decide)]; simp), if_pos (by exact hsh)] at st2
      injection h4 with h4
      subst h4
      refine Reach.trans q1 (.one hlen ?_)
      rw [st2]
      simp [Frm.close]
    · rw [if_neg hsh] at h4
      by_cases hcm : isM l j [44] = false
      · rw [if_pos hcm] at h4
        rw [if_neg (by rw [hcm]; simp), if_neg (by exact hsh)] at st2
        injection h4 with h4
        subst h4
        exact .behind q1 (.at_ hlen st2)
      · rw [if_neg hcm] at h4
        have hcm' : isM l j [44] = true := by cases hx : isM l j [44] <;> simp_all
        rw [if_pos ⟨rfl, hcm'⟩] at st2
        have e : Frm.more x (.arg k a nm (ks ++ ns0)) = .arg k a nm (ks ++ (ns0 ++ [x])) := by show Frm.arg _ _ _ _ = _; rw [List.append_assoc]
        rw [e] at st2
        have q := hR _ _ _ h4 k a nm ks G d hd
        cases r with
        | list ns k2 => exact Reach.trans q1 (.step hlen st2 q)
        | no k2 => exact .behind (q1.trans (.one hlen st2)) q
        | node n k2 => exact q
  · exact hR _ _ _ h3 (by omega) (by omega) (.arg k a nm (ks ++ ns0) :: G) d hG1 hd1
theorem run_sim (l : List Tk) : ∀ (f : Nat) (m : Mode) (i : Int) (r : Res), run l f m i = some r → Sim l m i r
  | 0, m, i, r, h => by rw [run] at h; cases h
  | f + 1, m, i, r, h => by
    rw [run_succ] at h
    have hR := run_sim l f
    cases m with
    | typ => trivial
    | lev t => exact sim_lev hR t i r h
    | loop t n => exact sim_loop hR t n i r h
    | fac => exact sim_fac hR i r h
    | part => exact sim_part hR i r h
    | steps n => exact sim_steps hR n i r h
    | first =>
      refine sim_first hR (fun i r h => ?_) i r h
      obtain ⟨r', h'⟩ := run_all l .typ i
      obtain rfl := run_one l h h'
      refine ⟨by unfold typR; rw [h']; rfl, ?_⟩
      have he := run_ends l _ _ _ _ h
      cases r with
      | node n j => trivial
      | no j => trivial
      | list ns j => simp [Ends, Mode.lists] at he
    | call k a => exact sim_call hR k a i r h
    | args => exact sim_args hR i r h
    | more ns => exact sim_more hR ns i r h
/-- what an expression comes to -/
theorem expr_sim (l : List Tk) (i : Int) : ∃ f r, run l f (.lev 1) i = some r ∧ OnNode r (fun n j => ∃ G n', Reach l 0 (.want i []) (.have_ j G n') ∧ stepM l (.have_ j G n') = .over n j) (fun j => Fails l 0 (.want i []) j) := by
  obtain ⟨r, h⟩ := run_all l (.lev 1) i
  refine ⟨_, r, h, ?_⟩
  have q := run_sim l _ _ _ _ h (by omega) (by omega) [] 0 (by show (0 : Int) < 1; omega) (Nat.le_refl _)
  cases r with
  | node n j =>
    obtain ⟨G', n', q1, q2, q3⟩ := q
    exact ⟨G', n', q1, by rw [step_leave q3, show settle 1 G' n' = _ from q2]; rfl⟩
  | no j => exact q
  | list ns j => exact q
/-- what arguments come to -/
theorem args_sim (l : List Tk) (i : Int) : ∃ f r, run l f .args i = some r ∧ OnList r (fun ns j => OReach l 1 (argsM l i 17 0 [] [] []) (.have_ j [] (.mk 17 0 0 [] ns))) (fun j => OFails l 1 (argsM l i 17 0 [] [] []) j) := by
  obtain ⟨r, h⟩ := run_all l .args i
  exact ⟨_, r, h, run_sim l _ _ _ _ h 17 0 [] [] [] 1 (Nat.le_refl _)⟩
end Go.Proofs.YtgohkmdepjmpaaaDoor.pm.em

/- The package's looks at a token. -/
--KEEP
namespace Go.Proofs.YtgohkmdepjmpaaaDoor.pm.em
open Go.RowKit wd lx nt ne pm mem
open vt (I64)

/-- what is known behind the box of a token -/
theorem tboxed {w W : World} {H : Nat} {k a n : Int} {s : List UInt8} (hH : H = w.heap.size) (hW : W = w.alloc (.cells #[.int .i64 k, .int .i64 a, .int .i64 n, .string ⟨s.toArray⟩] TkT)) :
    (W.cell? ⟨H, 0, none⟩ = some (.int .i64 k) ∧ W.cell? ⟨H, 1, none⟩ = some (.int .i64 a) ∧ W.cell? ⟨H, 2, none⟩ = some (.int .i64 n) ∧ W.cell? ⟨H, 3, none⟩ = some (.string ⟨s.toArray⟩)) ∧ Hid (Below w.heap.size w W) ∧ Hid (H < W.heap.size) := by
  have hb : Box W H TkT #[.int .i64 k, .int .i64 a, .int .i64 n, .string ⟨s.toArray⟩] := by rw [hW]; exact Box.new _ _ _ _ hH
  refine ⟨⟨hb.cell 0, hb.cell 1, hb.cell 2, hb.cell 3⟩, Lib.hid ?_, Lib.hid hb.lt⟩
  rw [hW]; exact (Below.refl _ _).alloc (Nat.le_refl _) _
def isMk (t : Tk) (m : List UInt8) : Bool := decide (t.kind = 4) && decide (t.text = m)
def isWd (t : Tk) (m : List UInt8) : Bool := decide (t.kind = 3) && decide (t.text = m)
theorem isM_tok (l : List Tk) (i : Int) (m : List UInt8) : isM l i m = isMk (tokAt l i) m := rfl
theorem isW_tok (l : List Tk) (i : Int) (m : List UInt8) : pm.isW l i m = isWd (tokAt l i) m := rfl
set_option maxHeartbeats 1000000 in
theorem mark_tok (t : Tk) (m : List UInt8) (w : World) :
    Calls Tryd.prog 53 #[tkA t, .string ⟨m.toArray⟩] w fun e w' => e = .returned (.bool (isMk t m)) ∧ Below w.heap.size w w' := by
  obtain ⟨k, a, n, s⟩ := t
  show Calls Tryd.prog 53 #[.agg #[.int .i64 k, .int .i64 a, .int .i64 n, .string ⟨s.toArray⟩], .string ⟨m.toArray⟩] w fun e w' => e = .returned (.bool (decide (k = 4) && decide (s = m))) ∧ Below w.heap.size w w'
  obtain ⟨r, hr⟩ : ∃ r, r = (decide (k = 4) && decide (s = m)) := ⟨_, rfl⟩
  rw [← hr]
  obtain ⟨H, hH⟩ : ∃ H, H = w.heap.size := ⟨_, rfl⟩
  obtain ⟨W, hW⟩ : ∃ W, W = w.alloc (.cells #[.int .i64 k, .int .i64 a, .int .i64 n, .string ⟨s.toArray⟩] TkT) := ⟨_, rfl⟩
  obtain ⟨⟨x0, x1, x2, x3⟩, HB, HHW⟩ := tboxed hH hW
  have HW := Lib.hid hW
  have HHH := Lib.hid hH
  clear hH hW
  by_cases hk : k = 4
  · by_cases hm : s = m
    · have HR : Hid (r = true) := Lib.hid (by rw [hr]; simp [hk, hm])
      clear hr
      subst hk hm
      go_enter Tryd.func53, Tryd.ntmps53
      go_wp2_with (first | (rw [← HW.out, ← HHH.out]))
      go_ret
      exact ⟨by rw [HR.out]; rfl, HB.out⟩
    · have HR : Hid (r = false) := Lib.hid (by rw [hr]; simp [hm])
      clear hr
      subst hk
      have e4 : (s == m) = false := beq_eq_false_iff_ne.2 hm
      clear hm
      go_enter Tryd.func53, Tryd.ntmps53
      go_wp2_with (first | (rw [← HW.out, ← HHH.out]))
      go_ret
      exact ⟨by rw [HR.out]; rfl, HB.out⟩
  · have e4 : (k == 4) = false := beq_eq_false_iff_ne.2 hk
    have HR : Hid (r = false) := Lib.hid (by rw [hr]; simp [hk])
    clear hk hr
    go_enter Tryd.func53, Tryd.ntmps53
    go_wp2_with (first | (rw [← HW.out, ← HHH.out]))
    go_ret
    exact ⟨by rw [HR.out]; rfl, HB.out⟩
set_option maxHeartbeats 1000000 in
theorem word_tok (t : Tk) (m : List UInt8) (w : World) :
    Calls Tryd.prog 45 #[tkA t, .string ⟨m.toArray⟩] w fun e w' => e = .returned (.bool (isWd t m)) ∧ Below w.heap.size w w' := by
  obtain ⟨k, a, n, s⟩ := t
  show Calls Tryd.prog 45 #[.agg #[.int .i64 k, .int .i64 a, .int .i64 n, .string ⟨s.toArray⟩], .string ⟨m.toArray⟩] w fun e w' => e = .returned (.bool (decide (k = 3) && decide (s = m))) ∧ Below w.heap.size w w'
  obtain ⟨r, hr⟩ : ∃ r, r = (decide (k = 3) && decide (s = m)) := ⟨_, rfl⟩
  rw [← hr]
  obtain ⟨H, hH⟩ : ∃ H, H = w.heap.size := ⟨_, rfl⟩
  obtain ⟨W, hW⟩ : ∃ W, W = w.alloc (.cells #[.int .i64 k, .int .i64 a, .int .i64 n, .string ⟨s.toArray⟩] TkT) := ⟨_, rfl⟩
  obtain ⟨⟨x0, x1, x2, x3⟩, HB, HHW⟩ := tboxed hH hW
  have HW := Lib.hid hW
  have HHH := Lib.hid hH
  clear hH hW
  by_cases hk : k = 3
  · by_cases hm : s = m
    · have HR : Hid (r = true) := Lib.hid (by rw [hr]; simp [hk, hm])
      clear hr
      subst hk hm
      go_enter Tryd.func45, Tryd.ntmps45
      go_wp2_with (first | (rw [← HW.out, ← HHH.out]))
      go_ret
      exact ⟨by rw [HR.out]; rfl, HB.out⟩
    · have HR : Hid (r = false) := Lib.hid (by rw [hr]; simp [hm])
      clear hr
      subst hk
      have e4 : (s == m) = false := beq_eq_false_iff_ne.2 hm
      clear hm
      go_enter Tryd.func45, Tryd.ntmps45
      go_wp2_with (first | (rw [← HW.out, ← HHH.out]))
      go_ret
      exact ⟨by rw [HR.out]; rfl, HB.out⟩
  · have e4 : (k == 3) = false := beq_eq_false_iff_ne.2 hk
    have HR : Hid (r = false) := Lib.hid (by rw [hr]; simp [hk])
    clear hk hr
    go_enter Tryd.func45, Tryd.ntmps45
    go_wp2_with (first | (rw [← HW.out, ← HHH.out]))
    go_ret
    exact ⟨by rw [HR.out]; rfl, HB.out⟩
set_option maxHeartbeats 1000000 in
theorem num_tok (t : Tk) (w : World) (hg : t.kind = 2 → 0 ≤ t.n) :
    Calls Tryd.prog 66 #[tkA t] w fun e w' => e = .returned (.bool (decide (t.kind = 2))) ∧ Below w.heap.size w w' := by
  obtain ⟨k, a, n, s⟩ := t
  change k = 2 → 0 ≤ n at hg
  show Calls Tryd.prog 66 #[.agg #[.int .i64 k, .int .i64 a, .int .i64 n, .string ⟨s.toArray⟩]] w fun e w' => e = .returned (.bool (decide (k = 2))) ∧ Below w.heap.size w w'
  obtain ⟨q, hq⟩ : ∃ q, q = decide (k = 2) := ⟨_, rfl⟩
  rw [← hq]
  obtain ⟨H, hH⟩ : ∃ H, H = w.heap.size := ⟨_, rfl⟩
  obtain ⟨W, hW⟩ : ∃ W, W = w.alloc (.cells #[.int .i64 k, .int .i64 a, .int .i64 n, .string ⟨s.toArray⟩] TkT) := ⟨_, rfl⟩
  obtain ⟨⟨x0, x1, x2, x3⟩, HB, HHW⟩ := tboxed hH hW
  have HW := Lib.hid hW
  have HHH := Lib.hid hH
  clear hH hW
  by_cases hk : k = 2
  · have hn := hg hk
    have HR : Hid (q = true) := Lib.hid (by rw [hq]; simp [hk])
    clear hq
    subst hk
    clear hg
    go_enter Tryd.func66, Tryd.ntmps66
    go_wp2_with (first | (rw [← HW.out, ← HHH.out]))
    go_ret
    exact ⟨by rw [HR.out]; rfl, HB.out⟩
  · have e4 : (k == 2) = false := beq_eq_false_iff_ne.2 hk
    have HR : Hid (q = false) := Lib.hid (by rw [hq]; simp [hk])
    clear hq hk hg
    go_enter Tryd.func66, Tryd.ntmps66
    go_wp2_with (first | (rw [← HW.out, ← HHH.out]))
    go_ret
    exact ⟨by rw [HR.out]; rfl, HB.out⟩
/-! ### names -/
def digs : List UInt8 := [48, 49, 50, 51, 52, 53, 54, 55, 56, 57]
def lets : List UInt8 := [97, 98, 99, 100, 101, 102, 103, 104, 105, 106, 107, 108, 109, 110, 111, 112, 113, 114, 115, 116, 117, 118, 119, 120, 121, 122, 65, 66, 67, 68, 69, 70, 71, 72, 73, 74, 75, 76, 77, 78, 79, 80, 81, 82, 83, 84, 85, 86, 87, 88, 89, 90, 95, 48, 49, 50, 51, 52, 53, 54, 55, 56, 57]
theorem digs_fin : ∀ n : Fin 256, decide (0 ≤ Lib.indexByte digs (UInt8.ofNat n.val)) = isDg (UInt8.ofNat n.val) := by decide +kernel
theorem digs_all (c : UInt8) : decide (0 ≤ Lib.indexByte digs c) = isDg c := by
  have h := digs_fin ⟨c.toNat, c.toNat_lt⟩
  simpa using h
theorem lets_fin : ∀ n : Fin 256, isLD (UInt8.ofNat n.val) = true → lets.contains (UInt8.ofNat n.val) = true := by decide +kernel
theorem lets_all (c : UInt8) (hc : isLD c = true) : lets.contains c = true := by
  have h := lets_fin ⟨c.toNat, c.toNat_lt⟩
  rw [show UInt8.ofNat (⟨c.toNat, c.toNat_lt⟩ : Fin 256).val = c by simp] at h
  exact h hc
theorem lets_ascii : ∀ b ∈ lets, b.toNat < 128 := by decide +kernel
theorem trim_all {s : List UInt8} (h : s.all isLD = true) : Lib.trimS s lets = [] := by
  have h2 : ∀ c ∈ s, lets.contains c = true := fun c hc => lets_all c (List.all_eq_true.1 h c hc)
  have h3 : ∀ r : List UInt8, (∀ c ∈ r, lets.contains c = true) → r.dropWhile (lets.contains ·) = [] := by
    intro r
    induction r with
    | nil => intro _; rfl
    | cons c r ih => intro hr; rw [List.dropWhile_cons, if_pos (hr c (by simp))]; exact ih fun x hx => hr x (by simp [hx])
  unfold Lib.trimS Lib.trimRightS Lib.trimLeftS
  rw [h3 s.reverse (fun c hc => h2 c (List.mem_reverse.1 hc))]
  rfl
set_option maxRecDepth 100000 in
set_option maxHeartbeats 2000000 in
theorem name_tok (t : Tk) (w : World) (hL : wd.LD w) (hg : t.kind = 1 → named t.text = true) :
    Calls Tryd.prog 54 #[tkA t] w fun e w' => e = .returned (.bool (decide (t.kind = 1))) ∧ Below w.heap.size w w' := by
  obtain ⟨k, a, n, s⟩ := t
  change k = 1 → named s = true at hg
  show Calls Tryd.prog 54 #[.agg #[.int .i64 k, .int .i64 a, .int .i64 n, .string ⟨s.toArray⟩]] w fun e w' => e = .returned (.bool (decide (k = 1))) ∧ Below w.heap.size w w'
  obtain ⟨q, hq⟩ : ∃ q, q = decide (k = 1) := ⟨_, rfl⟩
  rw [← hq]
  obtain ⟨H, hH⟩ : ∃ H, H = w.heap.size := ⟨_, rfl⟩
  obtain ⟨W, hW⟩ : ∃ W, W = w.alloc (.cells #[.int .i64 k, .int .i64 a, .int .i64 n, .string ⟨s.toArray⟩] TkT) := ⟨_, rfl⟩
  obtain ⟨⟨x0, x1, x2, x3⟩, HB, HHW⟩ := tboxed hH hW
  have HX := Lib.hid x3
  have HW := Lib.hid hW
  have HHH := Lib.hid hH
  clear hH hW
  by_cases hk : k = 1
  · have hn := hg hk
    have HR : Hid (q = true) := Lib.hid (by rw [hq]; simp [hk])
    clear hq
    subst hk
    rw [named_eq] at hn
    clear hg
    cases s with
    | nil => simp [nameC] at hn
    | cons c r =>
      simp only [nameC, Bool.and_eq_true, decide_eq_true_eq, Bool.not_eq_true'] at hn
      obtain ⟨⟨⟨h1, h2⟩, h3⟩, h4⟩ := hn
      have hl : (c :: r).length = r.length + 1 := rfl
      have d1 : (c :: r : List UInt8).isEmpty = false := rfl
      have d2 : decide ((32 : Int) < ((c :: r).length : Int)) = false := by rw [decide_eq_false_iff_not]; omega
      have HC := Lib.hid (fun w' => Tryd.strings_Contains_one ⟨digs.toArray⟩ c w')
      have ed : decide (0 ≤ Lib.indexByte (⟨digs.toArray⟩ : ByteArray).data.toList c) = false := by
        show decide (0 ≤ Lib.indexByte digs c) = false
        rw [digs_all c, h2]
      rw [ed] at HC
      have et : Lib.trimS (⟨(c :: r).toArray⟩ : ByteArray).data.toList (⟨lets.toArray⟩ : ByteArray).data.toList = [] := trim_all h3
      have HT := Lib.hid (fun w' => Tryd.strings_Trim_laid ⟨(c :: r).toArray⟩ ⟨lets.toArray⟩ w' (by show (c :: r).length ≤ _; omega) (by show lets.length < _; decide) (fun j b hb => lets_ascii b (List.mem_of_getElem? hb)))
      rw [et] at HT
      have HI := Lib.hid (fun w' (hb : Below w.heap.size w w') => wd.is_any (c :: r) w' (by omega) (hL.on hb))
      rw [h4] at HI
      obtain ⟨S, hS⟩ : ∃ S, S = c :: r := ⟨_, rfl⟩
      have ee : (⟨(c :: r).toArray⟩ : ByteArray).extract 0 1 = ⟨#[c]⟩ := by
        apply ByteArray.ext
        simp [ByteArray.extract, ByteArray.copySlice]
      rw [← ee] at HC
      rw [← hS] at HC HT HI d1 d2 x3 HX HW h1 ⊢
      have hS1 : (1 : Int) ≤ (S.length : Int) := by rw [hS, hl]; omega
      have HSB := HB
      clear h2 h3 h4 ed et ee hL hS hl
      unfold digs at HC
      unfold lets at HT
      go_enter Tryd.func54, Tryd.ntmps54
      go_wp2_with (first | (rw [← HW.out, ← HHH.out]) | (go_at_call 63; refine (HC.out _).mono ?_; rintro e w1 ⟨rfl, rfl⟩) | (go_at_call 64; refine (HT.out _).mono ?_; rintro e w1 ⟨rfl, hb1⟩; have x3' := (hb1.cell (p := ⟨H, 3, none⟩) HHW.out).trans HX.out; have HB1 := Lib.hid (HB.out.trans (hb1.mono HB.out.size)); clear hb1) | (go_at_call 65; refine (HI.out _ HB1.out).mono ?_; rintro e w2 ⟨rfl, hb2⟩))
      go_ret
      exact ⟨by rw [HR.out]; rfl, HB1.out.trans (hb2.mono HB1.out.size)⟩
  · have e4 : (k == 1) = false := beq_eq_false_iff_ne.2 hk
    have HR : Hid (q = false) := Lib.hid (by rw [hq]; simp [hk])
    clear hq hg hL
    go_enter Tryd.func54, Tryd.ntmps54
    go_wp2_with (first | (rw [← HW.out, ← HHH.out]))
    go_ret
    exact ⟨by rw [HR.out]; rfl, HB.out⟩
/-! ### signs -/
theorem sign_free (s : List UInt8) (w : World) (hL : wd.LD w) (hs : s.length ≤ 1048576) : Calls Tryd.prog 67 #[.string ⟨s.toArray⟩] w fun e w' => e = .returned (.tuple #[.int .i64 (signF s), .bool (isS s)]) ∧ Below w.heap.size w w' := wd.sign_any s w hs hL
theorem sgn_in (t : Tk) : 0 ≤ sgn t ∧ sgn t ≤ 14 := by
  unfold sgn
  split
  · by_cases hm : t.text ∈ signs14
    · have := sign_in hm; omega
    · rw [(sign_out hm).1]; decide
  · decide
set_option maxHeartbeats 1000000 in
theorem sign_tok (t : Tk) (w : World) (hL : wd.LD w) (hs : t.text.length ≤ 1048576) :
    Calls Tryd.prog 58 #[tkA t] w fun e w' => e = .returned (.tuple #[.int .i64 (sgn t), .int .i64 (bindF (sgn t))]) ∧ Below w.heap.size w w' := by
  have hin := sgn_in t
  obtain ⟨k, a, n, s⟩ := t
  change s.length ≤ _ at hs
  show Calls Tryd.prog 58 #[.agg #[.int .i64 k, .int .i64 a, .int .i64 n, .string ⟨s.toArray⟩]] w _
  obtain ⟨H, hH⟩ : ∃ H, H = w.heap.size := ⟨_, rfl⟩
  obtain ⟨W, hW⟩ : ∃ W, W = w.alloc (.cells #[.int .i64 k, .int .i64 a, .int .i64 n, .string ⟨s.toArray⟩] TkT) := ⟨_, rfl⟩
  obtain ⟨⟨x0, x1, x2, x3⟩, HB, HHW⟩ := tboxed hH hW
  have HW := Lib.hid hW
  have HHH := Lib.hid hH
  by_cases hk : k = 4
  · subst hk
    have e : sgn ⟨4, a, n, s⟩ = signF s := if_pos rfl
    rw [e] at hin ⊢
    have HC := Lib.hid (sign_free s W (hL.on HB.out) hs)
    have HD := Lib.hid (fun w' (hb : Below w.heap.size w w') => wd.bind_any (signF s) w' (by unfold I64; omega) (hL.on hb))
    obtain ⟨q, hq⟩ : ∃ q, q = signF s := ⟨_, rfl⟩
    rw [← hq] at HC HD ⊢
    clear hH hW hL hq hin e hs
    go_enter Tryd.func58, Tryd.ntmps58
    go_wp2_with (first | (rw [← HW.out, ← HHH.out]) | (go_at_call 67; refine HC.out.mono ?_; rintro e w1 ⟨rfl, hb1⟩; have HB1 := Lib.hid (HB.out.trans (hb1.mono HB.out.size)); clear hb1) | (go_at_call 60; refine (HD.out _ HB1.out).mono ?_; rintro e w2 ⟨rfl, hb2⟩))
    go_ret2
    exact ⟨rfl, HB1.out.trans (hb2.mono HB1.out.size)⟩
  · have e4 : (k == 4) = false := beq_eq_false_iff_ne.2 hk
    rw [show sgn ⟨k, a, n, s⟩ = 0 from if_neg hk, show bindF 0 = 0 from rfl]
    clear hk hH hW hL hin hs
    go_enter Tryd.func58, Tryd.ntmps58
    go_wp2_with (first | (rw [← HW.out, ← HHH.out]))
    go_ret2
    exact ⟨rfl, HB.out⟩
end Go.Proofs.YtgohkmdepjmpaaaDoor.pm.em

/- The package's types and expressions of one token. -/
--KEEP
namespace Go.Proofs.YtgohkmdepjmpaaaDoor.pm.em
open Go.RowKit wd lx nt ne pm mem
open vt (I64)

def plainF (t : Tk) : Option NT :=
  if isWd t sInt = true then some (.mk 1 t.at_ 0 [] []) else if isWd t sBool = true then some (.mk 2 t.at_ 0 [] []) else if isWd t sRev = true then some (.mk 3 t.at_ 0 [] []) else if t.kind = 1 then some (.mk 4 t.at_ 0 t.text []) else none
def aloneF (t : Tk) : Option NT :=
  if t.kind = 2 then some (.mk 10 t.at_ t.n [] []) else if isWd t sTrue = true then some (.mk 11 t.at_ 1 [] []) else if isWd t sFalse = true then some (.mk 11 t.at_ 0 [] []) else if t.kind = 1 then some (.mk 12 t.at_ 0 t.text []) else none
/-- what is told of a node without kids, or of none -/
def ToldO (o : Option NT) (w : World) (e : Ending) (w' : World) : Prop :=
  match o with
  | some n => e = .returned (.tuple #[.agg #[.int .i64 n.kind, .int .i64 n.at_, .int .i64 n.num, .string ⟨n.name.toArray⟩, .slice none 0 0], .bool true]) ∧ Below w.heap.size w w'
  | none => e = .returned (.tuple #[.agg ZZ, .bool false]) ∧ Below w.heap.size w w'
theorem node_ret2b {fn : Func} {p q : Nat} (hr : fn.results = #[ResultVar.cell p NodeT, ResultVar.tmp q]) {tm : Array Value} {w2 : World} {R : Nat} {a b c d e x : Value} (h4 : tm.getD p undef = .pointer (some ⟨R, 0, none⟩)) (h5 : tm.getD q undef = x) (hb : Box w2 R NodeT #[a, b, c, d, e]) :
    (results fn tm).run Tryd.prog w2 = .ok (.tuple #[.agg #[a, b, c, d, e], x]) w2 := by
  have x0 := hb.cell 0
  have x1 := hb.cell 1
  have x2 := hb.cell 2
  have x3 := hb.cell 3
  have x4 := hb.cell 4
  simp only [List.getElem?_toArray, List.getElem?_cons_zero, List.getElem?_cons_succ] at x0 x1 x2 x3 x4
  have h4' : tm[p]?.getD undef = .pointer (some ⟨R, 0, none⟩) := by simpa using h4
  have h5' : tm[q]?.getD undef = x := by simpa using h5
  simp [results, hr, go_sem, h4', h5', x0, x1, x2, x3, x4]
theorem box_far5 {w : World} {g R : Nat} {t : TypeId} {cs : Array Value} (h : Box w g t cs) (hne : g ≠ R) (a b c d e : Value) : Box (five w R a b c d e) g t cs := ((((h.far hne a).far hne b).far hne c).far hne d).far hne e
set_option maxHeartbeats 2000000 in
theorem plain_int (k a n : Int) (s : List UInt8) (w : World) (hL : wd.LD w) (w_int : isWd ⟨k, a, n, s⟩ [105, 110, 116] = true) :
    Calls Tryd.prog 39 #[.agg #[.int .i64 k, .int .i64 a, .int .i64 n, .string ⟨s.toArray⟩]] w (ToldO (some (.mk 1 a 0 [] [])) w) := by
  obtain ⟨P, hP⟩ : ∃ P, P = ToldO (some (.mk 1 a 0 [] [])) w := ⟨_, rfl⟩
  rw [← hP]
  have HP := Lib.hid hP
  clear hP
  obtain ⟨H, hH⟩ : ∃ H, H = w.heap.size := ⟨_, rfl⟩
  obtain ⟨W, hW⟩ : ∃ W, W = w.alloc (.cells #[.int .i64 k, .int .i64 a, .int .i64 n, .string ⟨s.toArray⟩] TkT) := ⟨_, rfl⟩
  obtain ⟨R, hR⟩ : ∃ R, R = W.heap.size := ⟨_, rfl⟩
  obtain ⟨W1, hW1⟩ : ∃ W1, W1 = W.alloc (.cells #[.int .i64 0, .int .i64 0, .int .i64 0, .string ⟨#[]⟩, .slice none 0 0] NodeT) := ⟨_, rfl⟩
  obtain ⟨N, hN⟩ : ∃ N, N = W1.heap.size := ⟨_, rfl⟩
  obtain ⟨W2, hW2⟩ : ∃ W2, W2 = W1.alloc (.cells #[.int .i64 0, .int .i64 0, .int .i64 0, .string ⟨#[]⟩, .slice none 0 0] NodeT) := ⟨_, rfl⟩
  have bH : Box W2 H TkT #[.int .i64 k, .int .i64 a, .int .i64 n, .string ⟨s.toArray⟩] := by rw [hW2, hW1, hW]; exact ((Box.new _ _ _ _ hH).alloc _).alloc _
  have bR : Box W2 R NodeT #[.int .i64 0, .int .i64 0, .int .i64 0, .string ⟨#[]⟩, .slice none 0 0] := by rw [hW2, hW1]; exact (Box.new _ _ _ _ hR).alloc _
  have bN : Box W2 N NodeT #[.int .i64 0, .int .i64 0, .int .i64 0, .string ⟨#[]⟩, .slice none 0 0] := by rw [hW2]; exact Box.new _ _ _ _ hN
  have hRH : R = H + 1 := by rw [hR, hW, hH]; simp
  have hNH : N = H + 2 := by rw [hN, hW1, hW, hH]; simp
  have hb2 : Below w.heap.size w W2 := by rw [hW2, hW1, hW]; exact (((Below.refl _ _).alloc (Nat.le_refl _) _).alloc (by simp) _).alloc (by simp; omega) _
  have HW := Lib.hid hW
  have HW1 := Lib.hid hW1
  have HW2 := Lib.hid hW2
  have HHH := Lib.hid hH
  have HRR := Lib.hid hR
  have HNN := Lib.hid hN
  have n1 : ¬ H = N := by omega
  have n2 : ¬ R = N := by omega
  have n3 : ¬ H = R := by omega
  have n4 : ¬ N = R := by omega
  have n5 : ¬ N = H := by omega
  have n6 : ¬ R = H := by omega
  have h0 := bH.cell 0
  have h1 := bH.cell 1
  have h2 := bH.cell 2
  have h3 := bH.cell 3
  simp only [List.getElem?_toArray, List.getElem?_cons_zero, List.getElem?_cons_succ] at h0 h1 h2 h3
  have hW1a : (W.cell? ⟨H, 1, none⟩ = some (.int .i64 a)) := by
    have q : Box W H TkT #[.int .i64 k, .int .i64 a, .int .i64 n, .string ⟨s.toArray⟩] := by rw [hW]; exact Box.new _ _ _ _ hH
    exact q.cell 1
  have hW1b : (W1.cell? ⟨H, 1, none⟩ = some (.int .i64 a)) := by
    have q : Box W1 H TkT #[.int .i64 k, .int .i64 a, .int .i64 n, .string ⟨s.toArray⟩] := by rw [hW1, hW]; exact (Box.new _ _ _ _ hH).alloc _
    exact q.cell 1
  have g0 := bN.frozen 0
  have g1 := bN.frozen 1
  have g2 := bN.frozen 2
  have g3 := bN.frozen 3
  have g4 := bN.frozen 4
  have y0 := bN.cell 0
  have y1 := bN.cell 1
  have y2 := bN.cell 2
  have y3 := bN.cell 3
  have y4 := bN.cell 4
  simp only [List.getElem?_toArray, List.getElem?_cons_zero, List.getElem?_cons_succ] at y0 y1 y2 y3 y4
  obtain ⟨V, hV⟩ : ∃ V, V = five W2 N (.int .i64 0) (.int .i64 a) (.int .i64 0) (.string ⟨#[]⟩) (.slice none 0 0) := ⟨_, rfl⟩
  have HV := Lib.hid hV
  have HbH : Hid (Box V H TkT #[.int .i64 k, .int .i64 a, .int .i64 n, .string ⟨s.toArray⟩]) := Lib.hid (by rw [hV]; exact box_far5 bH n1 _ _ _ _ _)
  have HbR : Hid (Box V R NodeT #[.int .i64 0, .int .i64 0, .int .i64 0, .string ⟨#[]⟩, .slice none 0 0]) := Lib.hid (by rw [hV]; exact box_far5 bR n2 _ _ _ _ _)
  have HbN : Hid (Box V N NodeT #[.int .i64 0, .int .i64 a, .int .i64 0, .string ⟨#[]⟩, .slice none 0 0]) := Lib.hid (by rw [hV]; exact box_five bN _ _ _ _ _)
  have HBV : Hid (Below w.heap.size w V) := Lib.hid (by rw [hV]; exact below_five hb2 (by omega) _ _ _ _ _)
  have HLD := Lib.hid hL
  have HwR : Hid (w.heap.size ≤ R) := Lib.hid (by omega)
  have HwN : Hid (w.heap.size ≤ N) := Lib.hid (by omega)
  have hVV : five W2 N (.int .i64 0) (.int .i64 a) (.int .i64 0) (.string ⟨#[]⟩) (.slice none 0 0) = V := hV.symm
  have HVV := Lib.hid hVV
  clear hW hW1 hW2 hH hR hN hV hVV hb2 bH bR bN hRH hNH hL
  go_enter Tryd.func39, Tryd.ntmps39
  go_wp2_with (first | (rw [← HW.out, ← HHH.out]) | (rw [← HW1.out, ← HRR.out]) | (rw [← HW2.out, ← HNN.out]))
  rw [show ((((W2.setCell ⟨N, 0, none⟩ (.int .i64 0)).setCell ⟨N, 1, none⟩ (.int .i64 a)).setCell ⟨N, 2, none⟩ (.int .i64 0)).setCell ⟨N, 3, none⟩ (.string ⟨#[]⟩)).setCell ⟨N, 4, none⟩ (.slice none 0 0) = V from HVV.out]
  clear g0 g1 g2 g3 g4 y0 y1 y2 y3 y4 h0 h1 h2 h3 hW1a hW1b
  refine (word_tok ⟨k, a, n, s⟩ [105, 110, 116] V).mono ?_
  rintro e V1 ⟨rfl, hb1⟩
  have HbH1 := Lib.hid (HbH.out.on hb1)
  have HbR1 := Lib.hid (HbR.out.on hb1)
  have HbN1 := Lib.hid (HbN.out.on hb1)
  have HBV1 := Lib.hid (HBV.out.trans (hb1.mono HBV.out.size))
  clear hb1
  rw [w_int]
  have HzN : Hid (Box (V1.setCell ⟨N, 0, none⟩ (.int .i64 1)) N NodeT #[.int .i64 1, .int .i64 a, .int .i64 0, .string ⟨#[]⟩, .slice none 0 0]) := Lib.hid (HbN1.out.set 0 (.int .i64 1))
  have HzR : Hid (Box (V1.setCell ⟨N, 0, none⟩ (.int .i64 1)) R NodeT #[.int .i64 0, .int .i64 0, .int .i64 0, .string ⟨#[]⟩, .slice none 0 0]) := Lib.hid (HbR1.out.far n2 (.int .i64 1))
  have HzB : Hid (Below w.heap.size w (V1.setCell ⟨N, 0, none⟩ (.int .i64 1))) := Lib.hid (HBV1.out.setCell (p := ⟨N, 0, none⟩) HwN.out (.int .i64 1))
  have y0 := HbN1.out.cell 0
  have y1 := HbN1.out.cell 1
  have y2 := HbN1.out.cell 2
  have y3 := HbN1.out.cell 3
  have y4 := HbN1.out.cell 4
  simp only [List.getElem?_toArray, List.getElem?_cons_zero, List.getElem?_cons_succ] at y0 y1 y2 y3 y4
  have g0 := HbN1.out.frozen 0
  have g1 := HbN1.out.frozen 1
  have g2 := HbN1.out.frozen 2
  have g3 := HbN1.out.frozen 3
  have g4 := HbN1.out.frozen 4
  have r0 := HbR1.out.cell 0
  have r1 := HbR1.out.cell 1
  have r2 := HbR1.out.cell 2
  have r3 := HbR1.out.cell 3
  have r4 := HbR1.out.cell 4
  simp only [List.getElem?_toArray, List.getElem?_cons_zero, List.getElem?_cons_succ] at r0 r1 r2 r3 r4
  have f0 := HbR1.out.frozen 0
  have f1 := HbR1.out.frozen 1
  have f2 := HbR1.out.frozen 2
  have f3 := HbR1.out.frozen 3
  have f4 := HbR1.out.frozen 4
  have h0 := HbH1.out.cell 0
  have h1 := HbH1.out.cell 1
  have h2 := HbH1.out.cell 2
  have h3 := HbH1.out.cell 3
  simp only [List.getElem?_toArray, List.getElem?_cons_zero, List.getElem?_cons_succ] at h0 h1 h2 h3
  go_wp2_with (fail)
  refine bodyPost_ret (node_ret2b rfl rfl rfl (box_five HzR.out _ _ _ _ _)) rfl ?_
  rw [HP.out]
  exact ⟨rfl, (below_five HzB.out HwR.out _ _ _ _ _)⟩
set_option maxHeartbeats 2000000 in
theorem plain_bool (k a n : Int) (s : List UInt8) (w : World) (hL : wd.LD w) (w_int : isWd ⟨k, a, n, s⟩ [105, 110, 116] = false) (w_bool : isWd ⟨k, a, n, s⟩ [98, 111, 111, 108] = true) :
    Calls Tryd.prog 39 #[.agg #[.int .i64 k, .int .i64 a, .int .i64 n, .string ⟨s.toArray⟩]] w (ToldO (some (.mk 2 a 0 [] [])) w) := by
  obtain ⟨P, hP⟩ : ∃ P, P = ToldO (some (.mk 2 a 0 [] [])) w := ⟨_, rfl⟩
  rw [← hP]
  have HP := Lib.hid hP
  clear hP
  obtain ⟨H, hH⟩ : ∃ H, H = w.heap.size := ⟨_, rfl⟩
  obtain ⟨W, hW⟩ : ∃ W, W = w.alloc (.cells #[.int .i64 k, .int .i64 a, .int .i64 n, .string ⟨s.toArray⟩] TkT) := ⟨_, rfl⟩
  obtain ⟨R, hR⟩ : ∃ R, R = W.heap.size := ⟨_, rfl⟩
  obtain ⟨W1, hW1⟩ : ∃ W1, W1 = W.alloc (.cells #[.int .i64 0, .int .i64 0, .int .i64 0, .string ⟨#[]⟩, .slice none 0 0] NodeT) := ⟨_, rfl⟩
  obtain ⟨N, hN⟩ : ∃ N, N = W1.heap.size := ⟨_, rfl⟩
  obtain ⟨W2, hW2⟩ : ∃ W2, W2 = W1.alloc (.cells #[.int .i64 0, .int .i64 0, .int .i64 0, .string ⟨#[]⟩, .slice none 0 0] NodeT) := ⟨_, rfl⟩
  have bH : Box W2 H TkT #[.int .i64 k, .int .i64 a, .int .i64 n, .string ⟨s.toArray⟩] := by rw [hW2, hW1, hW]; exact ((Box.new _ _ _ _ hH).alloc _).alloc _
  have bR : Box W2 R NodeT #[.int .i64 0, .int .i64 0, .int .i64 0, .string ⟨#[]⟩, .slice none 0 0] := by rw [hW2, hW1]; exact (Box.new _ _ _ _ hR).alloc _
  have bN : Box W2 N NodeT #[.int .i64 0, .int .i64 0, .int .i64 0, .string ⟨#[]⟩, .slice none 0 0] := by rw [hW2]; exact Box.new _ _ _ _ hN
  have hRH : R = H + 1 := by rw [hR, hW, hH]; simp
  have hNH : N = H + 2 := by rw [hN, hW1, hW, hH]; simp
  have hb2 : Below w.heap.size w W2 := by rw [hW2, hW1, hW]; exact (((Below.refl _ _).alloc (Nat.le_refl _) _).alloc (by simp) _).alloc (by simp; omega) _
  have HW := Lib.hid hW
  have HW1 := Lib.hid hW1
  have HW2 := Lib.hid hW2
  have HHH := Lib.hid hH
  have HRR := Lib.hid hR
  have HNN := Lib.hid hN
  have n1 : ¬ H = N := by omega
  have n2 : ¬ R = N := by omega
  have n3 : ¬ H = R := by omega
  have n4 : ¬ N = R := by omega
  have n5 : ¬ N = H := by omega
  have n6 : ¬ R = H := by omega
  have h0 := bH.cell 0
  have h1 := bH.cell 1
  have h2 := bH.cell 2
  have h3 := bH.cell 3
  simp only [List.getElem?_toArray, List.getElem?_cons_zero, List.getElem?_cons_succ] at h0 h1 h2 h3
  have hW1a : (W.cell? ⟨H, 1, none⟩ = some (.int .i64 a)) := by
    have q : Box W H TkT #[.int .i64 k, .int .i64 a, .int .i64 n, .string ⟨s.toArray⟩] := by rw [hW]; exact Box.new _ _ _ _ hH
    exact q.cell 1
  have hW1b : (W1.cell? ⟨H, 1, none⟩ = some (.int .i64 a)) := by
    have q : Box W1 H TkT #[.int .i64 k, .int .i64 a, .int .i64 n, .string ⟨s.toArray⟩] := by rw [hW1, hW]; exact (Box.new _ _ _ _ hH).alloc _
    exact q.cell 1
  have g0 := bN.frozen 0
  have g1 := bN.frozen 1
  have g2 := bN.frozen 2
  have g3 := bN.frozen 3
  have g4 := bN.frozen 4
  have y0 := bN.cell 0
  have y1 := bN.cell 1
  have y2 := bN.cell 2
  have y3 := bN.cell 3
  have y4 := bN.cell 4
  simp only [List.getElem?_toArray, List.getElem?_cons_zero, List.getElem?_cons_succ] at y0 y1 y2 y3 y4
  obtain ⟨V, hV⟩ : ∃ V, V = five W2 N (.int .i64 0) (.int .i64 a) (.int .i64 0) (.string ⟨#[]⟩) (.slice none 0 0) := ⟨_, rfl⟩
  have HV := Lib.hid hV
  have HbH : Hid (Box V H TkT #[.int .i64 k, .int .i64 a, .int .i64 n, .string ⟨s.toArray⟩]) := Lib.hid (by rw [hV]; exact box_far5 bH n1 _ _ _ _ _)
  have HbR : Hid (Box V R NodeT #[.int .i64 0, .int .i64 0, .int .i64 0, .string ⟨#[]⟩, .slice none 0 0]) := Lib.hid (by rw [hV]; exact box_far5 bR n2 _ _ _ _ _)
  have HbN : Hid (Box V N NodeT #[.int .i64 0, .int .i64 a, .int .i64 0, .string ⟨#[]⟩, .slice none 0 0]) := Lib.hid (by rw [hV]; exact box_five bN _ _ _ _ _)
  have HBV : Hid (Below w.heap.size w V) := Lib.hid (by rw [hV]; exact below_five hb2 (by omega) _ _ _ _ _)
  have HLD := Lib.hid hL
  have HwR : Hid (w.heap.size ≤ R) := Lib.hid (by omega)
  have HwN : Hid (w.heap.size ≤ N) := Lib.hid (by omega)
  have hVV : five W2 N (.int .i64 0) (.int .i64 a) (.int .i64 0) (.string ⟨#[]⟩) (.slice none 0 0) = V := hV.symm
  have HVV := Lib.hid hVV
  clear hW hW1 hW2 hH hR hN hV hVV hb2 bH bR bN hRH hNH hL
  go_enter Tryd.func39, Tryd.ntmps39
  go_wp2_with (first | (rw [← HW.out, ← HHH.out]) | (rw [← HW1.out, ← HRR.out]) | (rw [← HW2.out, ← HNN.out]))
  rw [show ((((W2.setCell ⟨N, 0, none⟩ (.int .i64 0)).setCell ⟨N, 1, none⟩ (.int .i64 a)).setCell ⟨N, 2, none⟩ (.int .i64 0)).setCell ⟨N, 3, none⟩ (.string ⟨#[]⟩)).setCell ⟨N, 4, none⟩ (.slice none 0 0) = V from HVV.out]
  clear g0 g1 g2 g3 g4 y0 y1 y2 y3 y4 h0 h1 h2 h3 hW1a hW1b
  refine (word_tok ⟨k, a, n, s⟩ [105, 110, 116] V).mono ?_
  rintro e V1 ⟨rfl, hb1⟩
  have HbH1 := Lib.hid (HbH.out.on hb1)
  have HbR1 := Lib.hid (HbR.out.on hb1)
  have HbN1 := Lib.hid (HbN.out.on hb1)
  have HBV1 := Lib.hid (HBV.out.trans (hb1.mono HBV.out.size))
  clear hb1
  rw [w_int]
  have h0 := HbH1.out.cell 0
  have h1 := HbH1.out.cell 1
  have h2 := HbH1.out.cell 2
  have h3 := HbH1.out.cell 3
  simp only [List.getElem?_toArray, List.getElem?_cons_zero, List.getElem?_cons_succ] at h0 h1 h2 h3
  go_wp2_with (fail)
  clear h0 h1 h2 h3
  refine (word_tok ⟨k, a, n, s⟩ [98, 111, 111, 108] V1).mono ?_
  rintro e V2 ⟨rfl, hb2⟩
  have HbH2 := Lib.hid (HbH1.out.on hb2)
  have HbR2 := Lib.hid (HbR1.out.on hb2)
  have HbN2 := Lib.hid (HbN1.out.on hb2)
  have HBV2 := Lib.hid (HBV1.out.trans (hb2.mono HBV1.out.size))
  clear hb2
  rw [w_bool]
  have HzN : Hid (Box (V2.setCell ⟨N, 0, none⟩ (.int .i64 2)) N NodeT #[.int .i64 2, .int .i64 a, .int .i64 0, .string ⟨#[]⟩, .slice none 0 0]) := Lib.hid (HbN2.out.set 0 (.int .i64 2))
  have HzR : Hid (Box (V2.setCell ⟨N, 0, none⟩ (.int .i64 2)) R NodeT #[.int .i64 0, .int .i64 0, .int .i64 0, .string ⟨#[]⟩, .slice none 0 0]) := Lib.hid (HbR2.out.far n2 (.int .i64 2))
  have HzB : Hid (Below w.heap.size w (V2.setCell ⟨N, 0, none⟩ (.int .i64 2))) := Lib.hid (HBV2.out.setCell (p := ⟨N, 0, none⟩) HwN.out (.int .i64 2))
  have y0 := HbN2.out.cell 0
  have y1 := HbN2.out.cell 1
  have y2 := HbN2.out.cell 2
  have y3 := HbN2.out.cell 3
  have y4 := HbN2.out.cell 4
  simp only [List.getElem?_toArray, List.getElem?_cons_zero, List.getElem?_cons_succ] at y0 y1 y2 y3 y4
  have g0 := HbN2.out.frozen 0
  have g1 := HbN2.out.frozen 1
  have g2 := HbN2.out.frozen 2
  have g3 := HbN2.out.frozen 3
  have g4 := HbN2.out.frozen 4
  have r0 := HbR2.out.cell 0
  have r1 := HbR2.out.cell 1
  have r2 := HbR2.out.cell 2
  have r3 := HbR2.out.cell 3
  have r4 := HbR2.out.cell 4
  simp only [List.getElem?_toArray, List.getElem?_cons_zero, List.getElem?_cons_succ] at r0 r1 r2 r3 r4
  have f0 := HbR2.out.frozen 0
  have f1 := HbR2.out.frozen 1
  have f2 := HbR2.out.frozen 2
  have f3 := HbR2.out.frozen 3
  have f4 := HbR2.out.frozen 4
  have h0 := HbH2.out.cell 0
  have h1 := HbH2.out.cell 1
  have h2 := HbH2.out.cell 2
  have h3 := HbH2.out.cell 3
  simp only [List.getElem?_toArray, List.getElem?_cons_zero, List.getElem?_cons_succ] at h0 h1 h2 h3
  go_wp2_with (fail)
  refine bodyPost_ret (node_ret2b rfl rfl rfl (box_five HzR.out _ _ _ _ _)) rfl ?_
  rw [HP.out]
  exact ⟨rfl, (below_five HzB.out HwR.out _ _ _ _ _)⟩
set_option maxHeartbeats 2000000 in
theorem plain_rev (k a n : Int) (s : List UInt8) (w : World) (hL : wd.LD w) (w_int : isWd ⟨k, a, n, s⟩ [105, 110, 116] = false) (w_bool : isWd ⟨k, a, n, s⟩ [98, 111, 111, 108] = false) (w_rev : isWd ⟨k, a, n, s⟩ [114, 101, 118] = true) :
    Calls Tryd.prog 39 #[.agg #[.int .i64 k, .int .i64 a, .int .i64 n, .string ⟨s.toArray⟩]] w (ToldO (some (.mk 3 a 0 [] [])) w) := by
  obtain ⟨P, hP⟩ : ∃ P, P = ToldO (some (.mk 3 a 0 [] [])) w := ⟨_, rfl⟩
  rw [← hP]
  have HP := Lib.hid hP
  clear hP
  obtain ⟨H, hH⟩ : ∃ H, H = w.heap.size := ⟨_, rfl⟩
  obtain ⟨W, hW⟩ : ∃ W, W = w.alloc (.cells #[.int .i64 k, .int .i64 a, .int .i64 n, .string ⟨s.toArray⟩] TkT) := ⟨_, rfl⟩
  obtain ⟨R, hR⟩ : ∃ R, R = W.heap.size := ⟨_, rfl⟩
  obtain ⟨W1, hW1⟩ : ∃ W1, W1 = W.alloc (.cells #[.int .i64 0, .int .i64 0, .int .i64 0, .string ⟨#[]⟩, .slice none 0 0] NodeT) := ⟨_, rfl⟩
  obtain ⟨N, hN⟩ : ∃ N, N = W1.heap.size := ⟨_, rfl⟩
  obtain ⟨W2, hW2⟩ : ∃ W2, W2 = W1.alloc (.cells #[.int .i64 0, .int .i64 0, .int .i64 0, .string ⟨#[]⟩, .slice none 0 0] NodeT) := ⟨_, rfl⟩
  have bH : Box W2 H TkT #[.int .i64 k, .int .i64 a, .int .i64 n, .string ⟨s.toArray⟩] := by rw [hW2, hW1, hW]; exact ((Box.new _ _ _ _ hH).alloc _).alloc _
  have bR : Box W2 R NodeT #[.int .i64 0, .int .i64 0, .int .i64 0, .string ⟨#[]⟩, .slice none 0 0] := by rw [hW2, hW1]; exact (Box.new _ _ _ _ hR).alloc _
  have bN : Box W2 N NodeT #[.int .i64 0, .int .i64 0, .int .i64 0, .string ⟨#[]⟩, .slice none 0 0] := by rw [hW2]; exact Box.new _ _ _ _ hN
  have hRH : R = H + 1 := by rw [hR, hW, hH]; simp
  have hNH : N = H + 2 := by rw [hN, hW1, hW, hH]; simp
  have hb2 : Below w.heap.size w W2 := by rw [hW2, hW1, hW]; exact (((Below.refl _ _).alloc (Nat.le_refl _) _).alloc (by simp) _).alloc (by simp; omega) _
  have HW := Lib.hid hW
  have HW1 := Lib.hid hW1
  have HW2 := Lib.hid hW2
  have HHH := Lib.hid hH
  have HRR := Lib.hid hR
  have HNN := Lib.hid hN
  have n1 : ¬ H = N := by omega
  have n2 : ¬ R = N := by omega
  have n3 : ¬ H = R := by omega
  have n4 : ¬ N = R := by omega
  have n5 : ¬ N = H := by omega
  have n6 : ¬ R = H := by omega
  have h0 := bH.cell 0
  have h1 := bH.cell 1
  have h2 := bH.cell 2
  have h3 := bH.cell 3
  simp only [List.getElem?_toArray, List.getElem?_cons_zero, List.getElem?_cons_succ] at h0 h1 h2 h3
  have hW1a : (W.cell? ⟨H, 1, none⟩ = some (.int .i64 a)) := by
    have q : Box W H TkT #[.int .i64 k, .int .i64 a, .int .i64 n, .string ⟨s.toArray⟩] := by rw [hW]; exact Box.new _ _ _ _ hH
    exact q.cell 1
  have hW1b : (W1.cell? ⟨H, 1, none⟩ = some (.int .i64 a)) := by
    have q : Box W1 H TkT #[.int .i64 k, .int .i64 a, .int .i64 n, .string ⟨s.toArray⟩] := by rw [hW1, hW]; exact (Box.new _ _ _ _ hH).alloc _
    exact q.cell 1
  have g0 := bN.frozen 0
  have g1 := bN.frozen 1
  have g2 := bN.frozen 2
  have g3 := bN.frozen 3
  have g4 := bN.frozen 4
  have y0 := bN.cell 0
  have y1 := bN.cell 1
  have y2 := bN.cell 2
  have y3 := bN.cell 3
  have y4 := bN.cell 4
  simp only [List.getElem?_toArray, List.getElem?_cons_zero, List.getElem?_cons_succ] at y0 y1 y2 y3 y4
  obtain ⟨V, hV⟩ : ∃ V, V = five W2 N (.int .i64 0) (.int .i64 a) (.int .i64 0) (.string ⟨#[]⟩) (.slice none 0 0) := ⟨_, rfl⟩
  have HV := Lib.hid hV
  have HbH : Hid (Box V H TkT #[.int .i64 k, .int .i64 a, .int .i64 n, .string ⟨s.toArray⟩]) := Lib.hid (by rw [hV]; exact box_far5 bH n1 _ _ _ _ _)
  have HbR : Hid (Box V R NodeT #[.int .i64 0, .int .i64 0, .int .i64 0, .string ⟨#[]⟩, .slice none 0 0]) := Lib.hid (by rw [hV]; exact box_far5 bR n2 _ _ _ _ _)
  have HbN : Hid (Box V N NodeT #[.int .i64 0, .int .i64 a, .int .i64 0, .string ⟨#[]⟩, .slice none 0 0]) := Lib.hid (by rw [hV]; exact box_five bN _ _ _ _ _)
  have HBV : Hid (Below w.heap.size w V) := Lib.hid (by rw [hV]; exact below_five hb2 (by omega) _ _ _ _ _)
  have HLD := Lib.hid hL
  have HwR : Hid (w.heap.size ≤ R) := Lib.hid (by omega)
  have HwN : Hid (w.heap.size ≤ N) := Lib.hid (by omega)
  have hVV : five W2 N (.int .i64 0) (.int .i64 a) (.int .i64 0) (.string ⟨#[]⟩) (.slice none 0 0) = V := hV.symm
  have HVV := Lib.hid hVV
  clear hW hW1 hW2 hH hR hN hV hVV hb2 bH bR bN hRH hNH hL
  go_enter Tryd.func39, Tryd.ntmps39
  go_wp2_with (first | (rw [← HW.out, ← HHH.out]) | (rw [← HW1.out, ← HRR.out]) | (rw [← HW2.out, ← HNN.out]))
  rw [show ((((W2.setCell ⟨N, 0, none⟩ (.int .i64 0)).setCell ⟨N, 1, none⟩ (.int .i64 a)).setCell ⟨N, 2, none⟩ (.int .i64 0)).setCell ⟨N, 3, none⟩ (.string ⟨#[]⟩)).setCell ⟨N, 4, none⟩ (.slice none 0 0) = V from HVV.out]
  clear g0 g1 g2 g3 g4 y0 y1 y2 y3 y4 h0 h1 h2 h3 hW1a hW1b
  refine (word_tok ⟨k, a, n, s⟩ [105, 110, 116] V).mono ?_
  rintro e V1 ⟨rfl, hb1⟩
  have HbH1 := Lib.hid (HbH.out.on hb1)
  have HbR1 := Lib.hid (HbR.out.on hb1)
  have HbN1 := Lib.hid (HbN.out.on hb1)
  have HBV1 := Lib.hid (HBV.out.trans (hb1.mono HBV.out.size))
  clear hb1
  rw [w_int]
  have h0 := HbH1.out.cell 0
  have h1 := HbH1.out.cell 1
  have h2 := HbH1.out.cell 2
  have h3 := HbH1.out.cell 3
  simp only [List.getElem?_toArray, List.getElem?_cons_zero, List.getElem?_cons_succ] at h0 h1 h2 h3
  go_wp2_with (fail)
  clear h0 h1 h2 h3
  refine (word_tok ⟨k, a, n, s⟩ [98, 111, 111, 108] V1).mono ?_
  rintro e V2 ⟨rfl, hb2⟩
  have HbH2 := Lib.hid (HbH1.out.on hb2)
  have HbR2 := Lib.hid (HbR1.out.on hb2)
  have HbN2 := Lib.hid (HbN1.out.on hb2)
  have HBV2 := Lib.hid (HBV1.out.trans (hb2.mono HBV1.out.size))
  clear hb2
  rw [w_bool]
  have h0 := HbH2.out.cell 0
  have h1 := HbH2.out.cell 1
  have h2 := HbH2.out.cell 2
  have h3 := HbH2.out.cell 3
  simp only [List.getElem?_toArray, List.getElem?_cons_zero, List.getElem?_cons_succ] at h0 h1 h2 h3
  go_wp2_with (fail)
  clear h0 h1 h2 h3
  refine (word_tok ⟨k, a, n, s⟩ [114, 101, 118] V2).mono ?_
  rintro e V3 ⟨rfl, hb3⟩
  have HbH3 := Lib.hid (HbH2.out.on hb3)
  have HbR3 := Lib.hid (HbR2.out.on hb3)
  have HbN3 := Lib.hid (HbN2.out.on hb3)
  have HBV3 := Lib.hid (HBV2.out.trans (hb3.mono HBV2.out.size))
  clear hb3
  rw [w_rev]
  have HzN : Hid (Box (V3.setCell ⟨N, 0, none⟩ (.int .i64 3)) N NodeT #[.int .i64 3, .int .i64 a, .int .i64 0, .string ⟨#[]⟩, .slice none 0 0]) := Lib.hid (HbN3.out.set 0 (.int .i64 3))
  have HzR : Hid (Box (V3.setCell ⟨N, 0, none⟩ (.int .i64 3)) R NodeT #[.int .i64 0, .int .i64 0, .int .i64 0, .string ⟨#[]⟩, .slice none 0 0]) := Lib.hid (HbR3.out.far n2 (.int .i64 3))
  have HzB : Hid (Below w.heap.size w (V3.setCell ⟨N, 0, none⟩ (.int .i64 3))) := Lib.hid (HBV3.out.setCell (p := ⟨N, 0, none⟩) HwN.out (.int .i64 3))
  have y0 := HbN3.out.cell 0
  have y1 := HbN3.out.cell 1
  have y2 := HbN3.out.cell 2
  have y3 := HbN3.out.cell 3
  have y4 := HbN3.out.cell 4
  simp only [List.getElem?_toArray, List.getElem?_cons_zero, List.getElem?_cons_succ] at y0 y1 y2 y3 y4
  have g0 := HbN3.out.frozen 0
  have g1 := HbN3.out.frozen 1
  have g2 := HbN3.out.frozen 2
  have g3 := HbN3.out.frozen 3
  have g4 := HbN3.out.frozen 4
  have r0 := HbR3.out.cell 0
  have r1 := HbR3.out.cell 1
  have r2 := HbR3.out.cell 2
  have r3 := HbR3.out.cell 3
  have r4 := HbR3.out.cell 4
  simp only [List.getElem?_toArray, List.getElem?_cons_zero, List.getElem?_cons_succ] at r0 r1 r2 r3 r4
  have f0 := HbR3.out.frozen 0
  have f1 := HbR3.out.frozen 1
  have f2 := HbR3.out.frozen 2
  have f3 := HbR3.out.frozen 3
  have f4 := HbR3.out.frozen 4
  have h0 := HbH3.out.cell 0
  have h1 := HbH3.out.cell 1
  have h2 := HbH3.out.cell 2
  have h3 := HbH3.out.cell 3
  simp only [List.getElem?_toArray, List.getElem?_cons_zero, List.getElem?_cons_succ] at h0 h1 h2 h3
  go_wp2_with (fail)
  refine bodyPost_ret (node_ret2b rfl rfl rfl (box_five HzR.out _ _ _ _ _)) rfl ?_
  rw [HP.out]
  exact ⟨rfl, (below_five HzB.out HwR.out _ _ _ _ _)⟩
set_option maxHeartbeats 2000000 in
theorem plain_name (k a n : Int) (s : List UInt8) (w : World) (hL : wd.LD w) (w_int : isWd ⟨k, a, n, s⟩ [105, 110, 116] = false) (w_bool : isWd ⟨k, a, n, s⟩ [98, 111, 111, 108] = false) (w_rev : isWd ⟨k, a, n, s⟩ [114, 101, 118] = false) (hg : k = 1 → named s = true) (hk1 : decide (k = 1) = true) :
    Calls Tryd.prog 39 #[.agg #[.int .i64 k, .int .i64 a, .int .i64 n, .string ⟨s.toArray⟩]] w (ToldO (some (.mk 4 a 0 s [])) w) := by
  obtain ⟨P, hP⟩ : ∃ P, P = ToldO (some (.mk 4 a 0 s [])) w := ⟨_, rfl⟩
  rw [← hP]
  have HP := Lib.hid hP
  clear hP
  obtain ⟨H, hH⟩ : ∃ H, H = w.heap.size := ⟨_, rfl⟩
  obtain ⟨W, hW⟩ : ∃ W, W = w.alloc (.cells #[.int .i64 k, .int .i64 a, .int .i64 n, .string ⟨s.toArray⟩] TkT) := ⟨_, rfl⟩
  obtain ⟨R, hR⟩ : ∃ R, R = W.heap.size := ⟨_, rfl⟩
  obtain ⟨W1, hW1⟩ : ∃ W1, W1 = W.alloc (.cells #[.int .i64 0, .int .i64 0, .int .i64 0, .string ⟨#[]⟩, .slice none 0 0] NodeT) := ⟨_, rfl⟩
  obtain ⟨N, hN⟩ : ∃ N, N = W1.heap.size := ⟨_, rfl⟩
  obtain ⟨W2, hW2⟩ : ∃ W2, W2 = W1.alloc (.cells #[.int .i64 0, .int .i64 0, .int .i64 0, .string ⟨#[]⟩, .slice none 0 0] NodeT) := ⟨_, rfl⟩
  have bH : Box W2 H TkT #[.int .i64 k, .int .i64 a, .int .i64 n, .string ⟨s.toArray⟩] := by rw [hW2, hW1, hW]; exact ((Box.new _ _ _ _ hH).alloc _).alloc _
  have bR : Box W2 R NodeT #[.int .i64 0, .int .i64 0, .int .i64 0, .string ⟨#[]⟩, .slice none 0 0] := by rw [hW2, hW1]; exact (Box.new _ _ _ _ hR).alloc _
  have bN : Box W2 N NodeT #[.int .i64 0, .int .i64 0, .int .i64 0, .string ⟨#[]⟩, .slice none 0 0] := by rw [hW2]; exact Box.new _ _ _ _ hN
  have hRH : R = H + 1 := by rw [hR, hW, hH]; simp
  have hNH : N = H + 2 := by rw [hN, hW1, hW, hH]; simp
  have hb2 : Below w.heap.size w W2 := by rw [hW2, hW1, hW]; exact (((Below.refl _ _).alloc (Nat.le_refl _) _).alloc (by simp) _).alloc (by simp; omega) _
  have HW := Lib.hid hW
  have HW1 := Lib.hid hW1
  have HW2 := Lib.hid hW2
  have HHH := Lib.hid hH
  have HRR := Lib.hid hR
  have HNN := Lib.hid hN
  have n1 : ¬ H = N := by omega
  have n2 : ¬ R = N := by omega
  have n3 : ¬ H = R := by omega
  have n4 : ¬ N = R := by omega
  have n5 : ¬ N = H := by omega
  have n6 : ¬ R = H := by omega
  have h0 := bH.cell 0
  have h1 := bH.cell 1
  have h2 := bH.cell 2
  have h3 := bH.cell 3
  simp only [List.getElem?_toArray, List.getElem?_cons_zero, List.getElem?_cons_succ] at h0 h1 h2 h3
  have hW1a : (W.cell? ⟨H, 1, none⟩ = some (.int .i64 a)) := by
    have q : Box W H TkT #[.int .i64 k, .int .i64 a, .int .i64 n, .string ⟨s.toArray⟩] := by rw [hW]; exact Box.new _ _ _ _ hH
    exact q.cell 1
  have hW1b : (W1.cell? ⟨H, 1, none⟩ = some (.int .i64 a)) := by
    have q : Box W1 H TkT #[.int .i64 k, .int .i64 a, .int .i64 n, .string ⟨s.toArray⟩] := by rw [hW1, hW]; exact (Box.new _ _ _ _ hH).alloc _
    exact q.cell 1
  have g0 := bN.frozen 0
  have g1 := bN.frozen 1
  have g2 := bN.frozen 2
  have g3 := bN.frozen 3
  have g4 := bN.frozen 4
  have y0 := bN.cell 0
  have y1 := bN.cell 1
  have y2 := bN.cell 2
  have y3 := bN.cell 3
  have y4 := bN.cell 4
  simp only [List.getElem?_toArray, List.getElem?_cons_zero, List.getElem?_cons_succ] at y0 y1 y2 y3 y4
  obtain ⟨V, hV⟩ : ∃ V, V = five W2 N (.int .i64 0) (.int .i64 a) (.int .i64 0) (.string ⟨#[]⟩) (.slice none 0 0) := ⟨_, rfl⟩
  have HV := Lib.hid hV
  have HbH : Hid (Box V H TkT #[.int .i64 k, .int .i64 a, .int .i64 n, .string ⟨s.toArray⟩]) := Lib.hid (by rw [hV]; exact box_far5 bH n1 _ _ _ _ _)
  have HbR : Hid (Box V R NodeT #[.int .i64 0, .int .i64 0, .int .i64 0, .string ⟨#[]⟩, .slice none 0 0]) := Lib.hid (by rw [hV]; exact box_far5 bR n2 _ _ _ _ _)
  have HbN : Hid (Box V N NodeT #[.int .i64 0, .int .i64 a, .int .i64 0, .string ⟨#[]⟩, .slice none 0 0]) := Lib.hid (by rw [hV]; exact box_five bN _ _ _ _ _)
  have HBV : Hid (Below w.heap.size w V) := Lib.hid (by rw [hV]; exact below_five hb2 (by omega) _ _ _ _ _)
  have HLD := Lib.hid hL
  have HwR : Hid (w.heap.size ≤ R) := Lib.hid (by omega)
  have HwN : Hid (w.heap.size ≤ N) := Lib.hid (by omega)
  have hVV : five W2 N (.int .i64 0) (.int .i64 a) (.int .i64 0) (.string ⟨#[]⟩) (.slice none 0 0) = V := hV.symm
  have HVV := Lib.hid hVV
  clear hW hW1 hW2 hH hR hN hV hVV hb2 bH bR bN hRH hNH hL
  go_enter Tryd.func39, Tryd.ntmps39
  go_wp2_with (first | (rw [← HW.out, ← HHH.out]) | (rw [← HW1.out, ← HRR.out]) | (rw [← HW2.out, ← HNN.out]))
  rw [show ((((W2.setCell ⟨N, 0, none⟩ (.int .i64 0)).setCell ⟨N, 1, none⟩ (.int .i64 a)).setCell ⟨N, 2, none⟩ (.int .i64 0)).setCell ⟨N, 3, none⟩ (.string ⟨#[]⟩)).setCell ⟨N, 4, none⟩ (.slice none 0 0) = V from HVV.out]
  clear g0 g1 g2 g3 g4 y0 y1 y2 y3 y4 h0 h1 h2 h3 hW1a hW1b
  refine (word_tok ⟨k, a, n, s⟩ [105, 110, 116] V).mono ?_
  rintro e V1 ⟨rfl, hb1⟩
  have HbH1 := Lib.hid (HbH.out.on hb1)
  have HbR1 := Lib.hid (HbR.out.on hb1)
  have HbN1 := Lib.hid (HbN.out.on hb1)
  have HBV1 := Lib.hid (HBV.out.trans (hb1.mono HBV.out.size))
  clear hb1
  rw [w_int]
  have h0 := HbH1.out.cell 0
  have h1 := HbH1.out.cell 1
  have h2 := HbH1.out.cell 2
  have h3 := HbH1.out.cell 3
  simp only [List.getElem?_toArray, List.getElem?_cons_zero, List.getElem?_cons_succ] at h0 h1 h2 h3
  go_wp2_with (fail)
  clear h0 h1 h2 h3
  refine (word_tok ⟨k, a, n, s⟩ [98, 111, 111, 108] V1).mono ?_
  rintro e V2 ⟨rfl, hb2⟩
  have HbH2 := Lib.hid (HbH1.out.on hb2)
  have HbR2 := Lib.hid (HbR1.out.on hb2)
  have HbN2 := Lib.hid (HbN1.out.on hb2)
  have HBV2 := Lib.hid (HBV1.out.trans (hb2.mono HBV1.out.size))
  clear hb2
  rw [w_bool]
  have h0 := HbH2.out.cell 0
  have h1 := HbH2.out.cell 1
  have h2 := HbH2.out.cell 2
  have h3 := HbH2.out.cell 3
  simp only [List.getElem?_toArray, List.getElem?_cons_zero, List.getElem?_cons_succ] at h0 h1 h2 h3
  go_wp2_with (fail)
  clear h0 h1 h2 h3
  refine (word_tok ⟨k, a, n, s⟩ [114, 101, 118] V2).mono ?_
  rintro e V3 ⟨rfl, hb3⟩
  have HbH3 := Lib.hid (HbH2.out.on hb3)
  have HbR3 := Lib.hid (HbR2.out.on hb3)
  have HbN3 := Lib.hid (HbN2.out.on hb3)
  have HBV3 := Lib.hid (HBV2.out.trans (hb3.mono HBV2.out.size))
  clear hb3
  rw [w_rev]
  have h0 := HbH3.out.cell 0
  have h1 := HbH3.out.cell 1
  have h2 := HbH3.out.cell 2
  have h3 := HbH3.out.cell 3
  simp only [List.getElem?_toArray, List.getElem?_cons_zero, List.getElem?_cons_succ] at h0 h1 h2 h3
  go_wp2_with (fail)
  clear h0 h1 h2 h3
  refine (name_tok ⟨k, a, n, s⟩ V3 (HLD.out.on HBV3.out) hg).mono ?_
  rintro e V4 ⟨rfl, hb4⟩
  have HbH4 := Lib.hid (HbH3.out.on hb4)
  have HbR4 := Lib.hid (HbR3.out.on hb4)
  have HbN4 := Lib.hid (HbN3.out.on hb4)
  have HBV4 := Lib.hid (HBV3.out.trans (hb4.mono HBV3.out.size))
  clear hb4
  rw [show decide ((⟨k, a, n, s⟩ : Tk).kind = 1) = true from hk1]
  have HzN : Hid (Box ((V4.setCell ⟨N, 0, none⟩ (.int .i64 4)).setCell ⟨N, 3, none⟩ (.string ⟨s.toArray⟩)) N NodeT #[.int .i64 4, .int .i64 a, .int .i64 0, .string ⟨s.toArray⟩, .slice none 0 0]) := Lib.hid ((HbN4.out.set 0 (.int .i64 4)).set 3 (.string ⟨s.toArray⟩))
  have HzR : Hid (Box ((V4.setCell ⟨N, 0, none⟩ (.int .i64 4)).setCell ⟨N, 3, none⟩ (.string ⟨s.toArray⟩)) R NodeT #[.int .i64 0, .int .i64 0, .int .i64 0, .string ⟨#[]⟩, .slice none 0 0]) := Lib.hid ((HbR4.out.far n2 (.int .i64 4)).far n2 (.string ⟨s.toArray⟩))
  have HzB : Hid (Below w.heap.size w ((V4.setCell ⟨N, 0, none⟩ (.int .i64 4)).setCell ⟨N, 3, none⟩ (.string ⟨s.toArray⟩))) := Lib.hid ((HBV4.out.setCell (p := ⟨N, 0, none⟩) HwN.out (.int .i64 4)).setCell (p := ⟨N, 3, none⟩) HwN.out (.string ⟨s.toArray⟩))
  have y0 := HbN4.out.cell 0
  have y1 := HbN4.out.cell 1
  have y2 := HbN4.out.cell 2
  have y3 := HbN4.out.cell 3
  have y4 := HbN4.out.cell 4
  simp only [List.getElem?_toArray, List.getElem?_cons_zero, List.getElem?_cons_succ] at y0 y1 y2 y3 y4
  have g0 := HbN4.out.frozen 0
  have g1 := HbN4.out.frozen 1
  have g2 := HbN4.out.frozen 2
  have g3 := HbN4.out.frozen 3
  have g4 := HbN4.out.frozen 4
  have r0 := HbR4.out.cell 0
  have r1 := HbR4.out.cell 1
  have r2 := HbR4.out.cell 2
  have r3 := HbR4.out.cell 3
  have r4 := HbR4.out.cell 4
  simp only [List.getElem?_toArray, List.getElem?_cons_zero, List.getElem?_cons_succ] at r0 r1 r2 r3 r4
  have f0 := HbR4.out.frozen 0
  have f1 := HbR4.out.frozen 1
  have f2 := HbR4.out.frozen 2
  have f3 := HbR4.out.frozen 3
  have f4 := HbR4.out.frozen 4
  have h0 := HbH4.out.cell 0
  have h1 := HbH4.out.cell 1
  have h2 := HbH4.out.cell 2
  have h3 := HbH4.out.cell 3
  simp only [List.getElem?_toArray, List.getElem?_cons_zero, List.getElem?_cons_succ] at h0 h1 h2 h3
  go_wp2_with (fail)
  go_region
  all_goals go_wp2_with (fail)
  refine bodyPost_ret (node_ret2b rfl rfl rfl (box_five HzR.out _ _ _ _ _).drew) rfl ?_
  rw [HP.out]
  exact ⟨rfl, (below_five HzB.out HwR.out _ _ _ _ _).drew⟩
set_option maxHeartbeats 2000000 in
theorem plain_none (k a n : Int) (s : List UInt8) (w : World) (hL : wd.LD w) (w_int : isWd ⟨k, a, n, s⟩ [105, 110, 116] = false) (w_bool : isWd ⟨k, a, n, s⟩ [98, 111, 111, 108] = false) (w_rev : isWd ⟨k, a, n, s⟩ [114, 101, 118] = false) (hg : k = 1 → named s = true) (hk1 : decide (k = 1) = false) :
    Calls Tryd.prog 39 #[.agg #[.int .i64 k, .int .i64 a, .int .i64 n, .string ⟨s.toArray⟩]] w (ToldO (none) w) := by
  obtain ⟨P, hP⟩ : ∃ P, P = ToldO (none) w := ⟨_, rfl⟩
  rw [← hP]
  have HP := Lib.hid hP
  clear hP
  obtain ⟨H, hH⟩ : ∃ H, H = w.heap.size := ⟨_, rfl⟩
  obtain ⟨W, hW⟩ : ∃ W, W = w.alloc (.cells #[.int .i64 k, .int .i64 a, .int .i64 n, .string ⟨s.toArray⟩] TkT) := ⟨_, rfl⟩
  obtain ⟨R, hR⟩ : ∃ R, R = W.heap.size := ⟨_, rfl⟩
  obtain ⟨W1, hW1⟩ : ∃ W1, W1 = W.alloc (.cells #[.int .i64 0, .int .i64 0, .int .i64 0, .string ⟨#[]⟩, .slice none 0 0] NodeT) := ⟨_, rfl⟩
  obtain ⟨N, hN⟩ : ∃ N, N = W1.heap.size := ⟨_, rfl⟩
  obtain ⟨W2, hW2⟩ : ∃ W2, W2 = W1.alloc (.cells #[.int .i64 0, .int .i64 0, .int .i64 0, .string ⟨#[]⟩, .slice none 0 0] NodeT) := ⟨_, rfl⟩
  have bH : Box W2 H TkT #[.int .i64 k, .int .i64 a, .int .i64 n, .string ⟨s.toArray⟩] := by rw [hW2, hW1, hW]; exact ((Box.new _ _ _ _ hH).alloc _).alloc _
  have bR : Box W2 R NodeT #[.int .i64 0, .int .i64 0, .int .i64 0, .string ⟨#[]⟩, .slice none 0 0] := by rw [hW2, hW1]; exact (Box.new _ _ _ _ hR).alloc _
  have bN : Box W2 N NodeT #[.int .i64 0, .int .i64 0, .int .i64 0, .string ⟨#[]⟩, .slice none 0 0] := by rw [hW2]; exact Box.new _ _ _ _ hN
  have hRH : R = H + 1 := by rw [hR, hW, hH]; simp
  have hNH : N = H + 2 := by rw [hN, hW1, hW, hH]; simp
  have hb2 : Below w.heap.size w W2 := by rw [hW2, hW1, hW]; exact (((Below.refl _ _).alloc (Nat.le_refl _) _).alloc (by simp) _).alloc (by simp; omega) _
  have HW := Lib.hid hW
  have HW1 := Lib.hid hW1
  have HW2 := Lib.hid hW2
  have HHH := Lib.hid hH
  have HRR := Lib.hid hR
  have HNN := Lib.hid hN
  have n1 : ¬ H = N := by omega
  have n2 : ¬ R = N := by omega
  have n3 : ¬ H = R := by omega
  have n4 : ¬ N = R := by omega
  have n5 : ¬ N = H := by omega
  have n6 : ¬ R = H := by omega
  have h0 := bH.cell 0
  have h1 := bH.cell 1
  have h2 := bH.cell 2
  have h3 := bH.cell 3
  simp only [List.getElem?_toArray, List.getElem?_cons_zero, List.getElem?_cons_succ] at h0 h1 h2 h3
  have hW1a : (W.cell? ⟨H, 1, none⟩ = some (.int .i64 a)) := by
    have q : Box W H TkT #[.int .i64 k, .int .i64 a, .int .i64 n, .string ⟨s.toArray⟩] := by rw [hW]; exact Box.new _ _ _ _ hH
    exact q.cell 1
  have hW1b : (W1.cell? ⟨H, 1, none⟩ = some (.int .i64 a)) := by
    have q : Box W1 H TkT #[.int .i64 k, .int .i64 a, .int .i64 n, .string ⟨s.toArray⟩] := by rw [hW1, hW]; exact (Box.new _ _ _ _ hH).alloc _
    exact q.cell 1
  have g0 := bN.frozen 0
  have g1 := bN.frozen 1
  have g2 := bN.frozen 2
  have g3 := bN.frozen 3
  have g4 := bN.frozen 4
  have y0 := bN.cell 0
  have y1 := bN.cell 1
  have y2 := bN.cell 2
  have y3 := bN.cell 3
  have y4 := bN.cell 4
  simp only [List.getElem?_toArray, List.getElem?_cons_zero, List.getElem?_cons_succ] at y0 y1 y2 y3 y4
  obtain ⟨V, hV⟩ : ∃ V, V = five W2 N (.int .i64 0) (.int .i64 a) (.int .i64 0) (.string ⟨#[]⟩) (.slice none 0 0) := ⟨_, rfl⟩
  have HV := Lib.hid hV
  have HbH : Hid (Box V H TkT #[.int .i64 k, .int .i64 a, .int .i64 n, .string ⟨s.toArray⟩]) := Lib.hid (by rw [hV]; exact box_far5 bH n1 _ _ _ _ _)
  have HbR : Hid (Box V R NodeT #[.int .i64 0, .int .i64 0, .int .i64 0, .string ⟨#[]⟩, .slice none 0 0]) := Lib.hid (by rw [hV]; exact box_far5 bR n2 _ _ _ _ _)
  have HbN : Hid (Box V N NodeT #[.int .i64 0, .int .i64 a, .int .i64 0, .string ⟨#[]⟩, .slice none 0 0]) := Lib.hid (by rw [hV]; exact box_five bN _ _ _ _ _)
  have HBV : Hid (Below w.heap.size w V) := Lib.hid (by rw [hV]; exact below_five hb2 (by omega) _ _ _ _ _)
  have HLD := Lib.hid hL
  have HwR : Hid (w.heap.size ≤ R) := Lib.hid (by omega)
  have HwN : Hid (w.heap.size ≤ N) := Lib.hid (by omega)
  have hVV : five W2 N (.int .i64 0) (.int .i64 a) (.int .i64 0) (.string ⟨#[]⟩) (.slice none 0 0) = V := hV.symm
  have HVV := Lib.hid hVV
  clear hW hW1 hW2 hH hR hN hV hVV hb2 bH bR bN hRH hNH hL
  go_enter Tryd.func39, Tryd.ntmps39
  go_wp2_with (first | (rw [← HW.out, ← HHH.out]) | (rw [← HW1.out, ← HRR.out]) | (rw [← HW2.out, ← HNN.out]))
  rw [show ((((W2.setCell ⟨N, 0, none⟩ (.int .i64 0)).setCell ⟨N, 1, none⟩ (.int .i64 a)).setCell ⟨N, 2, none⟩ (.int .i64 0)).setCell ⟨N, 3, none⟩ (.string ⟨#[]⟩)).setCell ⟨N, 4, none⟩ (.slice none 0 0) = V from HVV.out]
  clear g0 g1 g2 g3 g4 y0 y1 y2 y3 y4 h0 h1 h2 h3 hW1a hW1b
  refine (word_tok ⟨k, a, n, s⟩ [105, 110, 116] V).mono ?_
  rintro e V1 ⟨rfl, hb1⟩
  have HbH1 := Lib.hid (HbH.out.on hb1)
  have HbR1 := Lib.hid (HbR.out.on hb1)
  have HbN1 := Lib.hid (HbN.out.on hb1)
  have HBV1 := Lib.hid (HBV.out.trans (hb1.mono HBV.out.size))
  clear hb1
  rw [w_int]
  have h0 := HbH1.out.cell 0
  have h1 := HbH1.out.cell 1
  have h2 := HbH1.out.cell 2
  have h3 := HbH1.out.cell 3
  simp only [List.getElem?_toArray, List.getElem?_cons_zero, List.getElem?_cons_succ] at h0 h1 h2 h3
  go_wp2_with (fail)
  clear h0 h1 h2 h3
  refine (word_tok ⟨k, a, n, s⟩ [98, 111, 111, 108] V1).mono ?_
  rintro e V2 ⟨rfl, hb2⟩
  have HbH2 := Lib.hid (HbH1.out.on hb2)
  have HbR2 := Lib.hid (HbR1.out.on hb2)
  have HbN2 := Lib.hid (HbN1.out.on hb2)
  have HBV2 := Lib.hid (HBV1.out.trans (hb2.mono HBV1.out.size))
  clear hb2
  rw [w_bool]
  have h0 := HbH2.out.cell 0
  have h1 := HbH2.out.cell 1
  have h2 := HbH2.out.cell 2
  have h3 := HbH2.out.cell 3
  simp only [List.getElem?_toArray, List.getElem?_cons_zero, List.getElem?_cons_succ] at h0 h1 h2 h3
  go_wp2_with (fail)
  clear h0 h1 h2 h3
  refine (word_tok ⟨k, a, n, s⟩ [114, 101, 118] V2).mono ?_
  rintro e V3 ⟨rfl, hb3⟩
  have HbH3 := Lib.hid (HbH2.out.on hb3)
  have HbR3 := Lib.hid (HbR2.out.on hb3)
  have HbN3 := Lib.hid (HbN2.out.on hb3)
  have HBV3 := Lib.hid (HBV2.out.trans (hb3.mono HBV2.out.size))
  clear hb3
  rw [w_rev]
  have h0 := HbH3.out.cell 0
  have h1 := HbH3.out.cell 1
  have h2 := HbH3.out.cell 2
  have h3 := HbH3.out.cell 3
  simp only [List.getElem?_toArray, List.getElem?_cons_zero, List.getElem?_cons_succ] at h0 h1 h2 h3
  go_wp2_with (fail)
  clear h0 h1 h2 h3
  refine (name_tok ⟨k, a, n, s⟩ V3 (HLD.out.on HBV3.out) hg).mono ?_
  rintro e V4 ⟨rfl, hb4⟩
  have HbH4 := Lib.hid (HbH3.out.on hb4)
  have HbR4 := Lib.hid (HbR3.out.on hb4)
  have HbN4 := Lib.hid (HbN3.out.on hb4)
  have HBV4 := Lib.hid (HBV3.out.trans (hb4.mono HBV3.out.size))
  clear hb4
  rw [show decide ((⟨k, a, n, s⟩ : Tk).kind = 1) = false from hk1]
  have HzR := HbR4
  have r0 := HbR4.out.cell 0
  have r1 := HbR4.out.cell 1
  have r2 := HbR4.out.cell 2
  have r3 := HbR4.out.cell 3
  have r4 := HbR4.out.cell 4
  simp only [List.getElem?_toArray, List.getElem?_cons_zero, List.getElem?_cons_succ] at r0 r1 r2 r3 r4
  have f0 := HbR4.out.frozen 0
  have f1 := HbR4.out.frozen 1
  have f2 := HbR4.out.frozen 2
  have f3 := HbR4.out.frozen 3
  have f4 := HbR4.out.frozen 4
  go_wp2_with (fail)
  refine bodyPost_ret (node_ret2b rfl rfl rfl (box_five HzR.out _ _ _ _ _)) rfl ?_
  rw [HP.out]
  exact ⟨rfl, below_five HBV4.out HwR.out _ _ _ _ _⟩
set_option maxHeartbeats 2000000 in
theorem alone_num (k a n : Int) (s : List UInt8) (w : World) (hL : wd.LD w) (hg2 : k = 2 → 0 ≤ n) (hk2 : decide (k = 2) = true) :
    Calls Tryd.prog 57 #[.agg #[.int .i64 k, .int .i64 a, .int .i64 n, .string ⟨s.toArray⟩]] w (ToldO (some (.mk 10 a n [] [])) w) := by
  obtain ⟨P, hP⟩ : ∃ P, P = ToldO (some (.mk 10 a n [] [])) w := ⟨_, rfl⟩
  rw [← hP]
  have HP := Lib.hid hP
  clear hP
  obtain ⟨H, hH⟩ : ∃ H, H = w.heap.size := ⟨_, rfl⟩
  obtain ⟨W, hW⟩ : ∃ W, W = w.alloc (.cells #[.int .i64 k, .int .i64 a, .int .i64 n, .string ⟨s.toArray⟩] TkT) := ⟨_, rfl⟩
  obtain ⟨R, hR⟩ : ∃ R, R = W.heap.size := ⟨_, rfl⟩
  obtain ⟨W1, hW1⟩ : ∃ W1, W1 = W.alloc (.cells #[.int .i64 0, .int .i64 0, .int .i64 0, .string ⟨#[]⟩, .slice none 0 0] NodeT) := ⟨_, rfl⟩
  obtain ⟨N, hN⟩ : ∃ N, N = W1.heap.size := ⟨_, rfl⟩
  obtain ⟨W2, hW2⟩ : ∃ W2, W2 = W1.alloc (.cells #[.int .i64 0, .int .i64 0, .int .i64 0, .string ⟨#[]⟩, .slice none 0 0] NodeT) := ⟨_, rfl⟩
  have bH : Box W2 H TkT #[.int .i64 k, .int .i64 a, .int .i64 n, .string ⟨s.toArray⟩] := by rw [hW2, hW1, hW]; exact ((Box.new _ _ _ _ hH).alloc _).alloc _
  have bR : Box W2 R NodeT #[.int .i64 0, .int .i64 0, .int .i64 0, .string ⟨#[]⟩, .slice none 0 0] := by rw [hW2, hW1]; exact (Box.new _ _ _ _ hR).alloc _
  have bN : Box W2 N NodeT #[.int .i64 0, .int .i64 0, .int .i64 0, .string ⟨#[]⟩, .slice none 0 0] := by rw [hW2]; exact Box.new _ _ _ _ hN
  have hRH : R = H + 1 := by rw [hR, hW, hH]; simp
  have hNH : N = H + 2 := by rw [hN, hW1, hW, hH]; simp
  have hb2 : Below w.heap.size w W2 := by rw [hW2, hW1, hW]; exact (((Below.refl _ _).alloc (Nat.le_refl _) _).alloc (by simp) _).alloc (by simp; omega) _
  have HW := Lib.hid hW
  have HW1 := Lib.hid hW1
  have HW2 := Lib.hid hW2
  have HHH := Lib.hid hH
  have HRR := Lib.hid hR
  have HNN := Lib.hid hN
  have n1 : ¬ H = N := by omega
  have n2 : ¬ R = N := by omega
  have n3 : ¬ H = R := by omega
  have n4 : ¬ N = R := by omega
  have n5 : ¬ N = H := by omega
  have n6 : ¬ R = H := by omega
  have h0 := bH.cell 0
  have h1 := bH.cell 1
  have h2 := bH.cell 2
  have h3 := bH.cell 3
  simp only [List.getElem?_toArray, List.getElem?_cons_zero, List.getElem?_cons_succ] at h0 h1 h2 h3
  have hW1a : (W.cell? ⟨H, 1, none⟩ = some (.int .i64 a)) := by
    have q : Box W H TkT #[.int .i64 k, .int .i64 a, .int .i64 n, .string ⟨s.toArray⟩] := by rw [hW]; exact Box.new _ _ _ _ hH
    exact q.cell 1
  have hW1b : (W1.cell? ⟨H, 1, none⟩ = some (.int .i64 a)) := by
    have q : Box W1 H TkT #[.int .i64 k, .int .i64 a, .int .i64 n, .string ⟨s.toArray⟩] := by rw [hW1, hW]; exact (Box.new _ _ _ _ hH).alloc _
    exact q.cell 1
  have g0 := bN.frozen 0
  have g1 := bN.frozen 1
  have g2 := bN.frozen 2
  have g3 := bN.frozen 3
  have g4 := bN.frozen 4
  have y0 := bN.cell 0
  have y1 := bN.cell 1
  have y2 := bN.cell 2
  have y3 := bN.cell 3
  have y4 := bN.cell 4
  simp only [List.getElem?_toArray, List.getElem?_cons_zero, List.getElem?_cons_succ] at y0 y1 y2 y3 y4
  obtain ⟨V, hV⟩ : ∃ V, V = five W2 N (.int .i64 0) (.int .i64 a) (.int .i64 0) (.string ⟨#[]⟩) (.slice none 0 0) := ⟨_, rfl⟩
  have HV := Lib.hid hV
  have HbH : Hid (Box V H TkT #[.int .i64 k, .int .i64 a, .int .i64 n, .string ⟨s.toArray⟩]) := Lib.hid (by rw [hV]; exact box_far5 bH n1 _ _ _ _ _)
  have HbR : Hid (Box V R NodeT #[.int .i64 0, .int .i64 0, .int .i64 0, .string ⟨#[]⟩, .slice none 0 0]) := Lib.hid (by rw [hV]; exact box_far5 bR n2 _ _ _ _ _)
  have HbN : Hid (Box V N NodeT #[.int .i64 0, .int .i64 a, .int .i64 0, .string ⟨#[]⟩, .slice none 0 0]) := Lib.hid (by rw [hV]; exact box_five bN _ _ _ _ _)
  have HBV : Hid (Below w.heap.size w V) := Lib.hid (by rw [hV]; exact below_five hb2 (by omega) _ _ _ _ _)
  have HLD := Lib.hid hL
  have HwR : Hid (w.heap.size ≤ R) := Lib.hid (by omega)
  have HwN : Hid (w.heap.size ≤ N) := Lib.hid (by omega)
  have hVV : five W2 N (.int .i64 0) (.int .i64 a) (.int .i64 0) (.string ⟨#[]⟩) (.slice none 0 0) = V := hV.symm
  have HVV := Lib.hid hVV
  clear hW hW1 hW2 hH hR hN hV hVV hb2 bH bR bN hRH hNH hL
  go_enter Tryd.func57, Tryd.ntmps57
  go_wp2_with (first | (rw [← HW.out, ← HHH.out]) | (rw [← HW1.out, ← HRR.out]) | (rw [← HW2.out, ← HNN.out]))
  rw [show ((((W2.setCell ⟨N, 0, none⟩ (.int .i64 0)).setCell ⟨N, 1, none⟩ (.int .i64 a)).setCell ⟨N, 2, none⟩ (.int .i64 0)).setCell ⟨N, 3, none⟩ (.string ⟨#[]⟩)).setCell ⟨N, 4, none⟩ (.slice none 0 0) = V from HVV.out]
  clear g0 g1 g2 g3 g4 y0 y1 y2 y3 y4 h0 h1 h2 h3 hW1a hW1b
  refine (num_tok ⟨k, a, n, s⟩ V hg2).mono ?_
  rintro e V1 ⟨rfl, hb1⟩
  have HbH1 := Lib.hid (HbH.out.on hb1)
  have HbR1 := Lib.hid (HbR.out.on hb1)
  have HbN1 := Lib.hid (HbN.out.on hb1)
  have HBV1 := Lib.hid (HBV.out.trans (hb1.mono HBV.out.size))
  clear hb1
  rw [show decide ((⟨k, a, n, s⟩ : Tk).kind = 2) = true from hk2]
  have HzN : Hid (Box ((V1.setCell ⟨N, 0, none⟩ (.int .i64 10)).setCell ⟨N, 2, none⟩ (.int .i64 n)) N NodeT #[.int .i64 10, .int .i64 a, .int .i64 n, .string ⟨#[]⟩, .slice none 0 0]) := Lib.hid ((HbN1.out.set 0 (.int .i64 10)).set 2 (.int .i64 n))
  have HzR : Hid (Box ((V1.setCell ⟨N, 0, none⟩ (.int .i64 10)).setCell ⟨N, 2, none⟩ (.int .i64 n)) R NodeT #[.int .i64 0, .int .i64 0, .int .i64 0, .string ⟨#[]⟩, .slice none 0 0]) := Lib.hid ((HbR1.out.far n2 (.int .i64 10)).far n2 (.int .i64 n))
  have HzB : Hid (Below w.heap.size w ((V1.setCell ⟨N, 0, none⟩ (.int .i64 10)).setCell ⟨N, 2, none⟩ (.int .i64 n))) := Lib.hid ((HBV1.out.setCell (p := ⟨N, 0, none⟩) HwN.out (.int .i64 10)).setCell (p := ⟨N, 2, none⟩) HwN.out (.int .i64 n))
  have y0 := HbN1.out.cell 0
  have y1 := HbN1.out.cell 1
  have y2 := HbN1.out.cell 2
  have y3 := HbN1.out.cell 3
  have y4 := HbN1.out.cell 4
  simp only [List.getElem?_toArray, List.getElem?_cons_zero, List.getElem?_cons_succ] at y0 y1 y2 y3 y4
  have g0 := HbN1.out.frozen 0
  have g1 := HbN1.out.frozen 1
  have g2 := HbN1.out.frozen 2
  have g3 := HbN1.out.frozen 3
  have g4 := HbN1.out.frozen 4
  have r0 := HbR1.out.cell 0
  have r1 := HbR1.out.cell 1
  have r2 := HbR1.out.cell 2
  have r3 := HbR1.out.cell 3
  have r4 := HbR1.out.cell 4
  simp only [List.getElem?_toArray, List.getElem?_cons_zero, List.getElem?_cons_succ] at r0 r1 r2 r3 r4
  have f0 := HbR1.out.frozen 0
  have f1 := HbR1.out.frozen 1
  have f2 := HbR1.out.frozen 2
  have f3 := HbR1.out.frozen 3
  have f4 := HbR1.out.frozen 4
  have h0 := HbH1.out.cell 0
  have h1 := HbH1.out.cell 1
  have h2 := HbH1.out.cell 2
  have h3 := HbH1.out.cell 3
  simp only [List.getElem?_toArray, List.getElem?_cons_zero, List.getElem?_cons_succ] at h0 h1 h2 h3
  go_wp2_with (fail)
  go_region
  all_goals go_wp2_with (fail)
  refine bodyPost_ret (node_ret2b rfl rfl rfl (box_five HzR.out _ _ _ _ _).drew) rfl ?_
  rw [HP.out]
  exact ⟨rfl, (below_five HzB.out HwR.out _ _ _ _ _).drew⟩
set_option maxHeartbeats 2000000 in
theorem alone_true (k a n : Int) (s : List UInt8) (w : World) (hL : wd.LD w) (hg2 : k = 2 → 0 ≤ n) (hk2 : decide (k = 2) = false) (w_true : isWd ⟨k, a, n, s⟩ [116, 114, 117, 101] = true) :
    Calls Tryd.prog 57 #[.agg #[.int .i64 k, .int .i64 a, .int .i64 n, .string ⟨s.toArray⟩]] w (ToldO (some (.mk 11 a 1 [] [])) w) := by
  obtain ⟨P, hP⟩ : ∃ P, P = ToldO (some (.mk 11 a 1 [] [])) w := ⟨_, rfl⟩
  rw [← hP]
  have HP := Lib.hid hP
  clear hP
  obtain ⟨H, hH⟩ : ∃ H, H = w.heap.size := ⟨_, rfl⟩
  obtain ⟨W, hW⟩ : ∃ W, W = w.alloc (.cells #[.int .i64 k, .int .i64 a, .int .i64 n, .string ⟨s.toArray⟩] TkT) := ⟨_, rfl⟩
  obtain ⟨R, hR⟩ : ∃ R, R = W.heap.size := ⟨_, rfl⟩
  obtain ⟨W1, hW1⟩ : ∃ W1, W1 = W.alloc (.cells #[.int .i64 0, .int .i64 0, .int .i64 0, .string ⟨#[]⟩, .slice none 0 0] NodeT) := ⟨_, rfl⟩
  obtain ⟨N, hN⟩ : ∃ N, N = W1.heap.size := ⟨_, rfl⟩
  obtain ⟨W2, hW2⟩ : ∃ W2, W2 = W1.alloc (.cells #[.int .i64 0, .int .i64 0, .int .i64 0, .string ⟨#[]⟩, .slice none 0 0] NodeT) := ⟨_, rfl⟩
  have bH : Box W2 H TkT #[.int .i64 k, .int .i64 a, .int .i64 n, .string ⟨s.toArray⟩] := by rw [hW2, hW1, hW]; exact ((Box.new _ _ _ _ hH).alloc _).alloc _
  have bR : Box W2 R NodeT #[.int .i64 0, .int .i64 0, .int .i64 0, .string ⟨#[]⟩, .slice none 0 0] := by rw [hW2, hW1]; exact (Box.new _ _ _ _ hR).alloc _
  have bN : Box W2 N NodeT #[.int .i64 0, .int .i64 0, .int .i64 0, .string ⟨#[]⟩, .slice none 0 0] := by rw [hW2]; exact Box.new _ _ _ _ hN
  have hRH : R = H + 1 := by rw [hR, hW, hH]; simp
  have hNH : N = H + 2 := by rw [hN, hW1, hW, hH]; simp
  have hb2 : Below w.heap.size w W2 := by rw [hW2, hW1, hW]; exact (((Below.refl _ _).alloc (Nat.le_refl _) _).alloc (by simp) _).alloc (by simp; omega) _
  have HW := Lib.hid hW
  have HW1 := Lib.hid hW1
  have HW2 := Lib.hid hW2
  have HHH := Lib.hid hH
  have HRR := Lib.hid hR
  have HNN := Lib.hid hN
  have n1 : ¬ H = N := by omega
  have n2 : ¬ R = N := by omega
  have n3 : ¬ H = R := by omega
  have n4 : ¬ N = R := by omega
  have n5 : ¬ N = H := by omega
  have n6 : ¬ R = H := by omega
  have h0 := bH.cell 0
  have h1 := bH.cell 1
  have h2 := bH.cell 2
  have h3 := bH.cell 3
  simp only [List.getElem?_toArray, List.getElem?_cons_zero, List.getElem?_cons_succ] at h0 h1 h2 h3
  have hW1a : (W.cell? ⟨H, 1, none⟩ = some (.int .i64 a)) := by
    have q : Box W H TkT #[.int .i64 k, .int .i64 a, .int .i64 n, .string ⟨s.toArray⟩] := by rw [hW]; exact Box.new _ _ _ _ hH
    exact q.cell 1
  have hW1b : (W1.cell? ⟨H, 1, none⟩ = some (.int .i64 a)) := by
    have q : Box W1 H TkT #[.int .i64 k, .int .i64 a, .int .i64 n, .string ⟨s.toArray⟩] := by rw [hW1, hW]; exact (Box.new _ _ _ _ hH).alloc _
    exact q.cell 1
  have g0 := bN.frozen 0
  have g1 := bN.frozen 1
  have g2 := bN.frozen 2
  have g3 := bN.frozen 3
  have g4 := bN.frozen 4
  have y0 := bN.cell 0
  have y1 := bN.cell 1
  have y2 := bN.cell 2
  have y3 := bN.cell 3
  have y4 := bN.cell 4
  simp only [List.getElem?_toArray, List.getElem?_cons_zero, List.getElem?_cons_succ] at y0 y1 y2 y3 y4
  obtain ⟨V, hV⟩ : ∃ V, V = five W2 N (.int .i64 0) (.int .i64 a) (.int .i64 0) (.string ⟨#[]⟩) (.slice none 0 0) := ⟨_, rfl⟩
  have HV := Lib.hid hV
  have HbH : Hid (Box V H TkT #[.int .i64 k, .int .i64 a, .int .i64 n, .string ⟨s.toArray⟩]) := Lib.hid (by rw [hV]; exact box_far5 bH n1 _ _ _ _ _)
  have HbR : Hid (Box V R NodeT #[.int .i64 0, .int .i64 0, .int .i64 0, .string ⟨#[]⟩, .slice none 0 0]) := Lib.hid (by rw [hV]; exact box_far5 bR n2 _ _ _ _ _)
  have HbN : Hid (Box V N NodeT #[.int .i64 0, .int .i64 a, .int .i64 0, .string ⟨#[]⟩, .slice none 0 0]) := Lib.hid (by rw [hV]; exact box_five bN _ _ _ _ _)
  have HBV : Hid (Below w.heap.size w V) := Lib.hid (by rw [hV]; exact below_five hb2 (by omega) _ _ _ _ _)
  have HLD := Lib.hid hL
  have HwR : Hid (w.heap.size ≤ R) := Lib.hid (by omega)
  have HwN : Hid (w.heap.size ≤ N) := Lib.hid (by omega)
  have hVV : five W2 N (.int .i64 0) (.int .i64 a) (.int .i64 0) (.string ⟨#[]⟩) (.slice none 0 0) = V := hV.symm
  have HVV := Lib.hid hVV
  clear hW hW1 hW2 hH hR hN hV hVV hb2 bH bR bN hRH hNH hL
  go_enter Tryd.func57, Tryd.ntmps57
  go_wp2_with (first | (rw [← HW.out, ← HHH.out]) | (rw [← HW1.out, ← HRR.out]) | (rw [← HW2.out, ← HNN.out]))
  rw [show ((((W2.setCell ⟨N, 0, none⟩ (.int .i64 0)).setCell ⟨N, 1, none⟩ (.int .i64 a)).setCell ⟨N, 2, none⟩ (.int .i64 0)).setCell ⟨N, 3, none⟩ (.string ⟨#[]⟩)).setCell ⟨N, 4, none⟩ (.slice none 0 0) = V from HVV.out]
  clear g0 g1 g2 g3 g4 y0 y1 y2 y3 y4 h0 h1 h2 h3 hW1a hW1b
  refine (num_tok ⟨k, a, n, s⟩ V hg2).mono ?_
  rintro e V1 ⟨rfl, hb1⟩
  have HbH1 := Lib.hid (HbH.out.on hb1)
  have HbR1 := Lib.hid (HbR.out.on hb1)
  have HbN1 := Lib.hid (HbN.out.on hb1)
  have HBV1 := Lib.hid (HBV.out.trans (hb1.mono HBV.out.size))
  clear hb1
  rw [show decide ((⟨k, a, n, s⟩ : Tk).kind = 2) = false from hk2]
  have h0 := HbH1.out.cell 0
  have h1 := HbH1.out.cell 1
  have h2 := HbH1.out.cell 2
  have h3 := HbH1.out.cell 3
  simp only [List.getElem?_toArray, List.getElem?_cons_zero, List.getElem?_cons_succ] at h0 h1 h2 h3
  go_wp2_with (fail)
  clear h0 h1 h2 h3
  refine (word_tok ⟨k, a, n, s⟩ [116, 114, 117, 101] V1).mono ?_
  rintro e V2 ⟨rfl, hb2⟩
  have HbH2 := Lib.hid (HbH1.out.on hb2)
  have HbR2 := Lib.hid (HbR1.out.on hb2)
  have HbN2 := Lib.hid (HbN1.out.on hb2)
  have HBV2 := Lib.hid (HBV1.out.trans (hb2.mono HBV1.out.size))
  clear hb2
  rw [w_true]
  have HzN : Hid (Box ((V2.setCell ⟨N, 0, none⟩ (.int .i64 11)).setCell ⟨N, 2, none⟩ (.int .i64 1)) N NodeT #[.int .i64 11, .int .i64 a, .int .i64 1, .string ⟨#[]⟩, .slice none 0 0]) := Lib.hid ((HbN2.out.set 0 (.int .i64 11)).set 2 (.int .i64 1))
  have HzR : Hid (Box ((V2.setCell ⟨N, 0, none⟩ (.int .i64 11)).setCell ⟨N, 2, none⟩ (.int .i64 1)) R NodeT #[.int .i64 0, .int .i64 0, .int .i64 0, .string ⟨#[]⟩, .slice none 0 0]) := Lib.hid ((HbR2.out.far n2 (.int .i64 11)).far n2 (.int .i64 1))
  have HzB : Hid (Below w.heap.size w ((V2.setCell ⟨N, 0, none⟩ (.int .i64 11)).setCell ⟨N, 2, none⟩ (.int .i64 1))) := Lib.hid ((HBV2.out.setCell (p := ⟨N, 0, none⟩) HwN.out (.int .i64 11)).setCell (p := ⟨N, 2, none⟩) HwN.out (.int .i64 1))
  have y0 := HbN2.out.cell 0
  have y1 := HbN2.out.cell 1
  have y2 := HbN2.out.cell 2
  have y3 := HbN2.out.cell 3
  have y4 := HbN2.out.cell 4
  simp only [List.getElem?_toArray, List.getElem?_cons_zero, List.getElem?_cons_succ] at y0 y1 y2 y3 y4
  have g0 := HbN2.out.frozen 0
  have g1 := HbN2.out.frozen 1
  have g2 := HbN2.out.frozen 2
  have g3 := HbN2.out.frozen 3
  have g4 := HbN2.out.frozen 4
  have r0 := HbR2.out.cell 0
  have r1 := HbR2.out.cell 1
  have r2 := HbR2.out.cell 2
  have r3 := HbR2.out.cell 3
  have r4 := HbR2.out.cell 4
  simp only [List.getElem?_toArray, List.getElem?_cons_zero, List.getElem?_cons_succ] at r0 r1 r2 r3 r4
  have f0 := HbR2.out.frozen 0
  have f1 := HbR2.out.frozen 1
  have f2 := HbR2.out.frozen 2
  have f3 := HbR2.out.frozen 3
  have f4 := HbR2.out.frozen 4
  have h0 := HbH2.out.cell 0
  have h1 := HbH2.out.cell 1
  have h2 := HbH2.out.cell 2
  have h3 := HbH2.out.cell 3
  simp only [List.getElem?_toArray, List.getElem?_cons_zero, List.getElem?_cons_succ] at h0 h1 h2 h3
  go_wp2_with (fail)
  refine bodyPost_ret (node_ret2b rfl rfl rfl (box_five HzR.out _ _ _ _ _)) rfl ?_
  rw [HP.out]
  exact ⟨rfl, (below_five HzB.out HwR.out _ _ _ _ _)⟩
set_option maxHeartbeats 2000000 in
theorem alone_false (k a n : Int) (s : List UInt8) (w : World) (hL : wd.LD w) (hg2 : k = 2 → 0 ≤ n) (hk2 : decide (k = 2) = false) (w_true : isWd ⟨k, a, n, s⟩ [116, 114, 117, 101] = false) (w_false : isWd ⟨k, a, n, s⟩ [102, 97, 108, 115, 101] = true) :
    Calls Tryd.prog 57 #[.agg #[.int .i64 k, .int .i64 a, .int .i64 n, .string ⟨s.toArray⟩]] w (ToldO (some (.mk 11 a 0 [] [])) w) := by
  obtain ⟨P, hP⟩ : ∃ P, P = ToldO (some (.mk 11 a 0 [] [])) w := ⟨_, rfl⟩
  rw [← hP]
  have HP := Lib.hid hP
  clear hP
  obtain ⟨H, hH⟩ : ∃ H, H = w.heap.size := ⟨_, rfl⟩
  obtain ⟨W, hW⟩ : ∃ W, W = w.alloc (.cells #[.int .i64 k, .int .i64 a, .int .i64 n, .string ⟨s.toArray⟩] TkT) := ⟨_, rfl⟩
  obtain ⟨R, hR⟩ : ∃ R, R = W.heap.size := ⟨_, rfl⟩
  obtain ⟨W1, hW1⟩ : ∃ W1, W1 = W.alloc (.cells #[.int .i64 0, .int .i64 0, .int .i64 0, .string ⟨#[]⟩, .slice none 0 0] NodeT) := ⟨_, rfl⟩
  obtain ⟨N, hN⟩ : ∃ N, N = W1.heap.size := ⟨_, rfl⟩
  obtain ⟨W2, hW2⟩ : ∃ W2, W2 = W1.alloc (.cells #[.int .i64 0, .int .i64 0, .int .i64 0, .string ⟨#[]⟩, .slice none 0 0] NodeT) := ⟨_, rfl⟩
  have bH : Box W2 H TkT #[.int .i64 k, .int .i64 a, .int .i64 n, .string ⟨s.toArray⟩] := by rw [hW2, hW1, hW]; exact ((Box.new _ _ _ _ hH).alloc _).alloc _
  have bR : Box W2 R NodeT #[.int .i64 0, .int .i64 0, .int .i64 0, .string ⟨#[]⟩, .slice none 0 0] := by rw [hW2, hW1]; exact (Box.new _ _ _ _ hR).alloc _
  have bN : Box W2 N NodeT #[.int .i64 0, .int .i64 0, .int .i64 0, .string ⟨#[]⟩, .slice none 0 0] := by rw [hW2]; exact Box.new _ _ _ _ hN
  have hRH : R = H + 1 := by rw [hR, hW, hH]; simp
  have hNH : N = H + 2 := by rw [hN, hW1, hW, hH]; simp
  have hb2 : Below w.heap.size w W2 := by rw [hW2, hW1, hW]; exact (((Below.refl _ _).alloc (Nat.le_refl _) _).alloc (by simp) _).alloc (by simp; omega) _
  have HW := Lib.hid hW
  have HW1 := Lib.hid hW1
  have HW2 := Lib.hid hW2
  have HHH := Lib.hid hH
  have HRR := Lib.hid hR
  have HNN := Lib.hid hN
  have n1 : ¬ H = N := by omega
  have n2 : ¬ R = N := by omega
  have n3 : ¬ H = R := by omega
  have n4 : ¬ N = R := by omega
  have n5 : ¬ N = H := by omega
  have n6 : ¬ R = H := by omega
  have h0 := bH.cell 0
  have h1 := bH.cell 1
  have h2 := bH.cell 2
  have h3 := bH.cell 3
  simp only [List.getElem?_toArray, List.getElem?_cons_zero, List.getElem?_cons_succ] at h0 h1 h2 h3
  have hW1a : (W.cell? ⟨H, 1, none⟩ = some (.int .i64 a)) := by
    have q : Box W H TkT #[.int .i64 k, .int .i64 a, .int .i64 n, .string ⟨s.toArray⟩] := by rw [hW]; exact Box.new _ _ _ _ hH
    exact q.cell 1
  have hW1b : (W1.cell? ⟨H, 1, none⟩ = some (.int .i64 a)) := by
    have q : Box W1 H TkT #[.int .i64 k, .int .i64 a, .int .i64 n, .string ⟨s.toArray⟩] := by rw [hW1, hW]; exact (Box.new _ _ _ _ hH).alloc _
    exact q.cell 1
  have g0 := bN.frozen 0
  have g1 := bN.frozen 1
  have g2 := bN.frozen 2
  have g3 := bN.frozen 3
  have g4 := bN.frozen 4
  have y0 := bN.cell 0
  have y1 := bN.cell 1
  have y2 := bN.cell 2
  have y3 := bN.cell 3
  have y4 := bN.cell 4
  simp only [List.getElem?_toArray, List.getElem?_cons_zero, List.getElem?_cons_succ] at y0 y1 y2 y3 y4
  obtain ⟨V, hV⟩ : ∃ V, V = five W2 N (.int .i64 0) (.int .i64 a) (.int .i64 0) (.string ⟨#[]⟩) (.slice none 0 0) := ⟨_, rfl⟩
  have HV := Lib.hid hV
  have HbH : Hid (Box V H TkT #[.int .i64 k, .int .i64 a, .int .i64 n, .string ⟨s.toArray⟩]) := Lib.hid (by rw [hV]; exact box_far5 bH n1 _ _ _ _ _)
  have HbR : Hid (Box V R NodeT #[.int .i64 0, .int .i64 0, .int .i64 0, .string ⟨#[]⟩, .slice none 0 0]) := Lib.hid (by rw [hV]; exact box_far5 bR n2 _ _ _ _ _)
  have HbN : Hid (Box V N NodeT #[.int .i64 0, .int .i64 a, .int .i64 0, .string ⟨#[]⟩, .slice none 0 0]) := Lib.hid (by rw [hV]; exact box_five bN _ _ _ _ _)
  have HBV : Hid (Below w.heap.size w V) := Lib.hid (by rw [hV]; exact below_five hb2 (by omega) _ _ _ _ _)
  have HLD := Lib.hid hL
  have HwR : Hid (w.heap.size ≤ R) := Lib.hid (by omega)
  have HwN : Hid (w.heap.size ≤ N) := Lib.hid (by omega)
  have hVV : five W2 N (.int .i64 0) (.int .i64 a) (.int .i64 0) (.string ⟨#[]⟩) (.slice none 0 0) = V := hV.symm
  have HVV := Lib.hid hVV
  clear hW hW1 hW2 hH hR hN hV hVV hb2 bH bR bN hRH hNH hL
  go_enter Tryd.func57, Tryd.ntmps57
  go_wp2_with (first | (rw [← HW.out, ← HHH.out]) | (rw [← HW1.out, ← HRR.out]) | (rw [← HW2.out, ← HNN.out]))
  rw [show ((((W2.setCell ⟨N, 0, none⟩ (.int .i64 0)).setCell ⟨N, 1, none⟩ (.int .i64 a)).setCell ⟨N, 2, none⟩ (.int .i64 0)).setCell ⟨N, 3, none⟩ (.string ⟨#[]⟩)).setCell ⟨N, 4, none⟩ (.slice none 0 0) = V from HVV.out]
  clear g0 g1 g2 g3 g4 y0 y1 y2 y3 y4 h0 h1 h2 h3 hW1a hW1b
  refine (num_tok ⟨k, a, n, s⟩ V hg2).mono ?_
  rintro e V1 ⟨rfl, hb1⟩
  have HbH1 := Lib.hid (HbH.out.on hb1)
  have HbR1 := Lib.hid (HbR.out.on hb1)
  have HbN1 := Lib.hid (HbN.out.on hb1)
  have HBV1 := Lib.hid (HBV.out.trans (hb1.mono HBV.out.size))
  clear hb1
  rw [show decide ((⟨k, a, n, s⟩ : Tk).kind = 2) = false from hk2]
  have h0 := HbH1.out.cell 0
  have h1 := HbH1.out.cell 1
  have h2 := HbH1.out.cell 2
  have h3 := HbH1.out.cell 3
  simp only [List.getElem?_toArray, List.getElem?_cons_zero, List.getElem?_cons_succ] at h0 h1 h2 h3
  go_wp2_with (fail)
  clear h0 h1 h2 h3
  refine (word_tok ⟨k, a, n, s⟩ [116, 114, 117, 101] V1).mono ?_
  rintro e V2 ⟨rfl, hb2⟩
  have HbH2 := Lib.hid (HbH1.out.on hb2)
  have HbR2 := Lib.hid (HbR1.out.on hb2)
  have HbN2 := Lib.hid (HbN1.out.on hb2)
  have HBV2 := Lib.hid (HBV1.out.trans (hb2.mono HBV1.out.size))
  clear hb2
  rw [w_true]
  have h0 := HbH2.out.cell 0
  have h1 := HbH2.out.cell 1
  have h2 := HbH2.out.cell 2
  have h3 := HbH2.out.cell 3
  simp only [List.getElem?_toArray, List.getElem?_cons_zero, List.getElem?_cons_succ] at h0 h1 h2 h3
  go_wp2_with (fail)
  clear h0 h1 h2 h3
  refine (word_tok ⟨k, a, n, s⟩ [102, 97, 108, 115, 101] V2).mono ?_
  rintro e V3 ⟨rfl, hb3⟩
  have HbH3 := Lib.hid (HbH2.out.on hb3)
  have HbR3 := Lib.hid (HbR2.out.on hb3)
  have HbN3 := Lib.hid (HbN2.out.on hb3)
  have HBV3 := Lib.hid (HBV2.out.trans (hb3.mono HBV2.out.size))
  clear hb3
  rw [w_false]
  have HzN : Hid (Box (V3.setCell ⟨N, 0, none⟩ (.int .i64 11)) N NodeT #[.int .i64 11, .int .i64 a, .int .i64 0, .string ⟨#[]⟩, .slice none 0 0]) := Lib.hid (HbN3.out.set 0 (.int .i64 11))
  have HzR : Hid (Box (V3.setCell ⟨N, 0, none⟩ (.int .i64 11)) R NodeT #[.int .i64 0, .int .i64 0, .int .i64 0, .string ⟨#[]⟩, .slice none 0 0]) := Lib.hid (HbR3.out.far n2 (.int .i64 11))
  have HzB : Hid (Below w.heap.size w (V3.setCell ⟨N, 0, none⟩ (.int .i64 11))) := Lib.hid (HBV3.out.setCell (p := ⟨N, 0, none⟩) HwN.out (.int .i64 11))
  have y0 := HbN3.out.cell 0
  have y1 := HbN3.out.cell 1
  have y2 := HbN3.out.cell 2
  have y3 := HbN3.out.cell 3
  have y4 := HbN3.out.cell 4
  simp only [List.getElem?_toArray, List.getElem?_cons_zero, List.getElem?_cons_succ] at y0 y1 y2 y3 y4
  have g0 := HbN3.out.frozen 0
  have g1 := HbN3.out.frozen 1
  have g2 := HbN3.out.frozen 2
  have g3 := HbN3.out.frozen 3
  have g4 := HbN3.out.frozen 4
  have r0 := HbR3.out.cell 0
  have r1 := HbR3.out.cell 1
  have r2 := HbR3.out.cell 2
  have r3 := HbR3.out.cell 3
  have r4 := HbR3.out.cell 4
  simp only [List.getElem?_toArray, List.getElem?_cons_zero, List.getElem?_cons_succ] at r0 r1 r2 r3 r4
  have f0 := HbR3.out.frozen 0
  have f1 := HbR3.out.frozen 1
  have f2 := HbR3.out.frozen 2
  have f3 := HbR3.out.frozen 3
  have f4 := HbR3.out.frozen 4
  have h0 := HbH3.out.cell 0
  have h1 := HbH3.out.cell 1
  have h2 := HbH3.out.cell 2
  have h3 := HbH3.out.cell 3
  simp only [List.getElem?_toArray, List.getElem?_cons_zero, List.getElem?_cons_succ] at h0 h1 h2 h3
  go_wp2_with (fail)
  refine bodyPost_ret (node_ret2b rfl rfl rfl (box_five HzR.out _ _ _ _ _)) rfl ?_
  rw [HP.out]
  exact ⟨rfl, (below_five HzB.out HwR.out _ _ _ _ _)⟩
set_option maxHeartbeats 2000000 in
theorem alone_name (k a n : Int) (s : List UInt8) (w : World) (hL : wd.LD w) (hg2 : k = 2 → 0 ≤ n) (hk2 : decide (k = 2) = false) (w_true : isWd ⟨k, a, n, s⟩ [116, 114, 117, 101] = false) (w_false : isWd ⟨k, a, n, s⟩ [102, 97, 108, 115, 101] = false) (hg : k = 1 → named s = true) (hk1 : decide (k = 1) = true) :
    Calls Tryd.prog 57 #[.agg #[.int .i64 k, .int .i64 a, .int .i64 n, .string ⟨s.toArray⟩]] w (ToldO (some (.mk 12 a 0 s [])) w) := by
  obtain ⟨P, hP⟩ : ∃ P, P = ToldO (some (.mk 12 a 0 s [])) w := ⟨_, rfl⟩
  rw [← hP]
  have HP := Lib.hid hP
  clear hP
  obtain ⟨H, hH⟩ : ∃ H, H = w.heap.size := ⟨_, rfl⟩
  obtain ⟨W, hW⟩ : ∃ W, W = w.alloc (.cells #[.int .i64 k, .int .i64 a, .int .i64 n, .string ⟨s.toArray⟩] TkT) := ⟨_, rfl⟩
  obtain ⟨R, hR⟩ : ∃ R, R = W.heap.size := ⟨_, rfl⟩
  obtain ⟨W1, hW1⟩ : ∃ W1, W1 = W.alloc (.cells #[.int .i64 0, .int .i64 0, .int .i64 0, .string ⟨#[]⟩, .slice none 0 0] NodeT) := ⟨_, rfl⟩
  obtain ⟨N, hN⟩ : ∃ N, N = W1.heap.size := ⟨_, rfl⟩
  obtain ⟨W2, hW2⟩ : ∃ W2, W2 = W1.alloc (.cells #[.int .i64 0, .int .i64 0, .int .i64 0, .string ⟨#[]⟩, .slice none 0 0] NodeT) := ⟨_, rfl⟩
  have bH : Box W2 H TkT #[.int .i64 k, .int .i64 a, .int .i64 n, .string ⟨s.toArray⟩] := by rw [hW2, hW1, hW]; exact ((Box.new _ _ _ _ hH).alloc _).alloc _
  have bR : Box W2 R NodeT #[.int .i64 0, .int .i64 0, .int .i64 0, .string ⟨#[]⟩, .slice none 0 0] := by rw [hW2, hW1]; exact (Box.new _ _ _ _ hR).alloc _
  have bN : Box W2 N NodeT #[.int .i64 0, .int .i64 0, .int .i64 0, .string ⟨#[]⟩, .slice none 0 0] := by rw [hW2]; exact Box.new _ _ _ _ hN
  have hRH : R = H + 1 := by rw [hR, hW, hH]; simp
  have hNH : N = H + 2 := by rw [hN, hW1, hW, hH]; simp
  have hb2 : Below w.heap.size w W2 := by rw [hW2, hW1, hW]; exact (((Below.refl _ _).alloc (Nat.le_refl _) _).alloc (by simp) _).alloc (by simp; omega) _
  have HW := Lib.hid hW
  have HW1 := Lib.hid hW1
  have HW2 := Lib.hid hW2
  have HHH := Lib.hid hH
  have HRR := Lib.hid hR
  have HNN := Lib.hid hN
  have n1 : ¬ H = N := by omega
  have n2 : ¬ R = N := by omega
  have n3 : ¬ H = R := by omega
  have n4 : ¬ N = R := by omega
  have n5 : ¬ N = H := by omega
  have n6 : ¬ R = H := by omega
  have h0 := bH.cell 0
  have h1 := bH.cell 1
  have h2 := bH.cell 2
  have h3 := bH.cell 3
  simp only [List.getElem?_toArray, List.getElem?_cons_zero, List.getElem?_cons_succ] at h0 h1 h2 h3
  have hW1a : (W.cell? ⟨H, 1, none⟩ = some (.int .i64 a)) := by
    have q : Box W H TkT #[.int .i64 k, .int .i64 a, .int .i64 n, .string ⟨s.toArray⟩] := by rw [hW]; exact Box.new _ _ _ _ hH
    exact q.cell 1
  have hW1b : (W1.cell? ⟨H, 1, none⟩ = some (.int .i64 a)) := by
    have q : Box W1 H TkT #[.int .i64 k, .int .i64 a, .int .i64 n, .string ⟨s.toArray⟩] := by rw [hW1, hW]; exact (Box.new _ _ _ _ hH).alloc _
    exact q.cell 1
  have g0 := bN.frozen 0
  have g1 := bN.frozen 1
  have g2 := bN.frozen 2
  have g3 := bN.frozen 3
  have g4 := bN.frozen 4
  have y0 := bN.cell 0
  have y1 := bN.cell 1
  have y2 := bN.cell 2
  have y3 := bN.cell 3
  have y4 := bN.cell 4
  simp only [List.getElem?_toArray, List.getElem?_cons_zero, List.getElem?_cons_succ] at y0 y1 y2 y3 y4
  obtain ⟨V, hV⟩ : ∃ V, V = five W2 N (.int .i64 0) (.int .i64 a) (.int .i64 0) (.string ⟨#[]⟩) (.slice none 0 0) := ⟨_, rfl⟩
  have HV := Lib.hid hV
  have HbH : Hid (Box V H TkT #[.int .i64 k, .int .i64 a, .int .i64 n, .string ⟨s.toArray⟩]) := Lib.hid (by rw [hV]; exact box_far5 bH n1 _ _ _ _ _)
  have HbR : Hid (Box V R NodeT #[.int .i64 0, .int .i64 0, .int .i64 0, .string ⟨#[]⟩, .slice none 0 0]) := Lib.hid (by rw [hV]; exact box_far5 bR n2 _ _ _ _ _)
  have HbN : Hid (Box V N NodeT #[.int .i64 0, .int .i64 a, .int .i64 0, .string ⟨#[]⟩, .slice none 0 0]) := Lib.hid (by rw [hV]; exact box_five bN _ _ _ _ _)
  have HBV : Hid (Below w.heap.size w V) := Lib.hid (by rw [hV]; exact below_five hb2 (by omega) _ _ _ _ _)
  have HLD := Lib.hid hL
  have HwR : Hid (w.heap.size ≤ R) := Lib.hid (by omega)
  have HwN : Hid (w.heap.size ≤ N) := Lib.hid (by omega)
  have hVV : five W2 N (.int .i64 0) (.int .i64 a) (.int .i64 0) (.string ⟨#[]⟩) (.slice none 0 0) = V := hV.symm
  have HVV := Lib.hid hVV
  clear hW hW1 hW2 hH hR hN hV hVV hb2 bH bR bN hRH hNH hL
  go_enter Tryd.func57, Tryd.ntmps57
  go_wp2_with (first | (rw [← HW.out, ← HHH.out]) | (rw [← HW1.out, ← HRR.out]) | (rw [← HW2.out, ← HNN.out]))
  rw [show ((((W2.setCell ⟨N, 0, none⟩ (.int .i64 0)).setCell ⟨N, 1, none⟩ (.int .i64 a)).setCell ⟨N, 2, none⟩ (.int .i64 0)).setCell ⟨N, 3, none⟩ (.string ⟨#[]⟩)).setCell ⟨N, 4, none⟩ (.slice none 0 0) = V from HVV.out]
  clear g0 g1 g2 g3 g4 y0 y1 y2 y3 y4 h0 h1 h2 h3 hW1a hW1b
  refine (num_tok ⟨k, a, n, s⟩ V hg2).mono ?_
  rintro e V1 ⟨rfl, hb1⟩
  have HbH1 := Lib.hid (HbH.out.on hb1)
  have HbR1 := Lib.hid (HbR.out.on hb1)
  have HbN1 := Lib.hid (HbN.out.on hb1)
  have HBV1 := Lib.hid (HBV.out.trans (hb1.mono HBV.out.size))
  clear hb1
  rw [show decide ((⟨k, a, n, s⟩ : Tk).kind = 2) = false from hk2]
  have h0 := HbH1.out.cell 0
  have h1 := HbH1.out.cell 1
  have h2 := HbH1.out.cell 2
  have h3 := HbH1.out.cell 3
  simp only [List.getElem?_toArray, List.getElem?_cons_zero, List.getElem?_cons_succ] at h0 h1 h2 h3
  go_wp2_with (fail)
  clear h0 h1 h2 h3
  refine (word_tok ⟨k, a, n, s⟩ [116, 114, 117, 101] V1).mono ?_
  rintro e V2 ⟨rfl, hb2⟩
  have HbH2 := Lib.hid (HbH1.out.on hb2)
  have HbR2 := Lib.hid (HbR1.out.on hb2)
  have HbN2 := Lib.hid (HbN1.out.on hb2)
  have HBV2 := Lib.hid (HBV1.out.trans (hb2.mono HBV1.out.size))
  clear hb2
  rw [w_true]
  have h0 := HbH2.out.cell 0
  have h1 := HbH2.out.cell 1
  have h2 := HbH2.out.cell 2
  have h3 := HbH2.out.cell 3
  simp only [List.getElem?_toArray, List.getElem?_cons_zero, List.getElem?_cons_succ] at h0 h1 h2 h3
  go_wp2_with (fail)
  clear h0 h1 h2 h3
  refine (word_tok ⟨k, a, n, s⟩ [102, 97, 108, 115, 101] V2).mono ?_
  rintro e V3 ⟨rfl, hb3⟩
  have HbH3 := Lib.hid (HbH2.out.on hb3)
  have HbR3 := Lib.hid (HbR2.out.on hb3)
  have HbN3 := Lib.hid (HbN2.out.on hb3)
  have HBV3 := Lib.hid (HBV2.out.trans (hb3.mono HBV2.out.size))
  clear hb3
  rw [w_false]
  have h0 := HbH3.out.cell 0
  have h1 := HbH3.out.cell 1
  have h2 := HbH3.out.cell 2
  have h3 := HbH3.out.cell 3
  simp only [List.getElem?_toArray, List.getElem?_cons_zero, List.getElem?_cons_succ] at h0 h1 h2 h3
  go_wp2_with (fail)
  clear h0 h1 h2 h3
  refine (name_tok ⟨k, a, n, s⟩ V3 (HLD.out.on HBV3.out) hg).mono ?_
  rintro e V4 ⟨rfl, hb4⟩
  have HbH4 := Lib.hid (HbH3.out.on hb4)
  have HbR4 := Lib.hid (HbR3.out.on hb4)
  have HbN4 := Lib.hid (HbN3.out.on hb4)
  have HBV4 := Lib.hid (HBV3.out.trans (hb4.mono HBV3.out.size))
  clear hb4
  rw [show decide ((⟨k, a, n, s⟩ : Tk).kind = 1) = true from hk1]
  have HzN : Hid (Box ((V4.setCell ⟨N, 0, none⟩ (.int .i64 12)).setCell ⟨N, 3, none⟩ (.string ⟨s.toArray⟩)) N NodeT #[.int .i64 12, .int .i64 a, .int .i64 0, .string ⟨s.toArray⟩, .slice none 0 0]) := Lib.hid ((HbN4.out.set 0 (.int .i64 12)).set 3 (.string ⟨s.toArray⟩))
  have HzR : Hid (Box ((V4.setCell ⟨N, 0, none⟩ (.int .i64 12)).setCell ⟨N, 3, none⟩ (.string ⟨s.toArray⟩)) R NodeT #[.int .i64 0, .int .i64 0, .int .i64 0, .string ⟨#[]⟩, .slice none 0 0]) := Lib.hid ((HbR4.out.far n2 (.int .i64 12)).far n2 (.string ⟨s.toArray⟩))
  have HzB : Hid (Below w.heap.size w ((V4.setCell ⟨N, 0, none⟩ (.int .i64 12)).setCell ⟨N, 3, none⟩ (.string ⟨s.toArray⟩))) := Lib.hid ((HBV4.out.setCell (p := ⟨N, 0, none⟩) HwN.out (.int .i64 12)).setCell (p := ⟨N, 3, none⟩) HwN.out (.string ⟨s.toArray⟩))
  have y0 := HbN4.out.cell 0
  have y1 := HbN4.out.cell 1
  have y2 := HbN4.out.cell 2
  have y3 := HbN4.out.cell 3
  have y4 := HbN4.out.cell 4
  simp only [List.getElem?_toArray, List.getElem?_cons_zero, List.getElem?_cons_succ] at y0 y1 y2 y3 y4
  have g0 := HbN4.out.frozen 0
  have g1 := HbN4.out.frozen 1
  have g2 := HbN4.out.frozen 2
  have g3 := HbN4.out.frozen 3
  have g4 := HbN4.out.frozen 4
  have r0 := HbR4.out.cell 0
  have r1 := HbR4.out.cell 1
  have r2 := HbR4.out.cell 2
  have r3 := HbR4.out.cell 3
  have r4 := HbR4.out.cell 4
  simp only [List.getElem?_toArray, List.getElem?_cons_zero, List.getElem?_cons_succ] at r0 r1 r2 r3 r4
  have f0 := HbR4.out.frozen 0
  have f1 := HbR4.out.frozen 1
  have f2 := HbR4.out.frozen 2
  have f3 := HbR4.out.frozen 3
  have f4 := HbR4.out.frozen 4
  have h0 := HbH4.out.cell 0
  have h1 := HbH4.out.cell 1
  have h2 := HbH4.out.cell 2
  have h3 := HbH4.out.cell 3
  simp only [List.getElem?_toArray, List.getElem?_cons_zero, List.getElem?_cons_succ] at h0 h1 h2 h3
  go_wp2_with (fail)
  go_region
  all_goals go_wp2_with (fail)
  refine bodyPost_ret (node_ret2b rfl rfl rfl (box_five HzR.out _ _ _ _ _).drew) rfl ?_
  rw [HP.out]
  exact ⟨rfl, (below_five HzB.out HwR.out _ _ _ _ _).drew⟩
set_option maxHeartbeats 2000000 in
theorem alone_none (k a n : Int) (s : List UInt8) (w : World) (hL : wd.LD w) (hg2 : k = 2 → 0 ≤ n) (hk2 : decide (k = 2) = false) (w_true : isWd ⟨k, a, n, s⟩ [116, 114, 117, 101] = false) (w_false : isWd ⟨k, a, n, s⟩ [102, 97, 108, 115, 101] = false) (hg : k = 1 → named s = true) (hk1 : decide (k = 1) = false) :
    Calls Tryd.prog 57 #[.agg #[.int .i64 k, .int .i64 a, .int .i64 n, .string ⟨s.toArray⟩]] w (ToldO (none) w) := by
  obtain ⟨P, hP⟩ : ∃ P, P = ToldO (none) w := ⟨_, rfl⟩
  rw [← hP]
  have HP := Lib.hid hP
  clear hP
  obtain ⟨H, hH⟩ : ∃ H, H = w.heap.size := ⟨_, rfl⟩
  obtain ⟨W, hW⟩ : ∃ W, W = w.alloc (.cells #[.int .i64 k, .int .i64 a, .int .i64 n, .string ⟨s.toArray⟩] TkT) := ⟨_, rfl⟩
  obtain ⟨R, hR⟩ : ∃ R, R = W.heap.size := ⟨_, rfl⟩
  obtain ⟨W1, hW1⟩ : ∃ W1, W1 = W.alloc (.cells #[.int .i64 0, .int .i64 0, .int .i64 0, .string ⟨#[]⟩, .slice none 0 0] NodeT) := ⟨_, rfl⟩
  obtain ⟨N, hN⟩ : ∃ N, N = W1.heap.size := ⟨_, rfl⟩
  obtain ⟨W2, hW2⟩ : ∃ W2, W2 = W1.alloc (.cells #[.int .i64 0, .int .i64 0, .int .i64 0, .string ⟨#[]⟩, .slice none 0 0] NodeT) := ⟨_, rfl⟩
  have bH : Box W2 H TkT #[.int .i64 k, .int .i64 a, .int .i64 n, .string ⟨s.toArray⟩] := by rw [hW2, hW1, hW]; exact ((Box.new _ _ _ _ hH).alloc _).alloc _
  have bR : Box W2 R NodeT #[.int .i64 0, .int .i64 0, .int .i64 0, .string ⟨#[]⟩, .slice none 0 0] := by rw [hW2, hW1]; exact (Box.new _ _ _ _ hR).alloc _
  have bN : Box W2 N NodeT #[.int .i64 0, .int .i64 0, .int .i64 0, .string ⟨#[]⟩, .slice none 0 0] := by rw [hW2]; exact Box.new _ _ _ _ hN
  have hRH : R = H + 1 := by rw [hR, hW, hH]; simp
  have hNH : N = H + 2 := by rw [hN, hW1, hW, hH]; simp
  have hb2 : Below w.heap.size w W2 := by rw [hW2, hW1, hW]; exact (((Below.refl _ _).alloc (Nat.le_refl _) _).alloc (by simp) _).alloc (by simp; omega) _
  have HW := Lib.hid hW
  have HW1 := Lib.hid hW1
  have HW2 := Lib.hid hW2
  have HHH := Lib.hid hH
  have HRR := Lib.hid hR
  have HNN := Lib.hid hN
  have n1 : ¬ H = N := by omega
  have n2 : ¬ R = N := by omega
  have n3 : ¬ H = R := by omega
  have n4 : ¬ N = R := by omega
  have n5 : ¬ N = H := by omega
  have n6 : ¬ R = H := by omega
  have h0 := bH.cell 0
  have h1 := bH.cell 1
  have h2 := bH.cell 2
  have h3 := bH.cell 3
  simp only [List.getElem?_toArray, List.getElem?_cons_zero, List.getElem?_cons_succ] at h0 h1 h2 h3
  have hW1a : (W.cell? ⟨H, 1, none⟩ = some (.int .i64 a)) := by
    have q : Box W H TkT #[.int .i64 k, .int .i64 a, .int .i64 n, .string ⟨s.toArray⟩] := by rw [hW]; exact Box.new _ _ _ _ hH
    exact q.cell 1
  have hW1b : (W1.cell? ⟨H, 1, none⟩ = some (.int .i64 a)) := by
    have q : Box W1 H TkT #[.int .i64 k, .int .i64 a, .int .i64 n, .string ⟨s.toArray⟩] := by rw [hW1, hW]; exact (Box.new _ _ _ _ hH).alloc _
    exact q.cell 1
  have g0 := bN.frozen 0
  have g1 := bN.frozen 1
  have g2 := bN.frozen 2
  have g3 := bN.frozen 3
  have g4 := bN.frozen 4
  have y0 := bN.cell 0
  have y1 := bN.cell 1
  have y2 := bN.cell 2
  have y3 := bN.cell 3
  have y4 := bN.cell 4
  simp only [List.getElem?_toArray, List.getElem?_cons_zero, List.getElem?_cons_succ] at y0 y1 y2 y3 y4
  obtain ⟨V, hV⟩ : ∃ V, V = five W2 N (.int .i64 0) (.int .i64 a) (.int .i64 0) (.string ⟨#[]⟩) (.slice none 0 0) := ⟨_, rfl⟩
  have HV := Lib.hid hV
  have HbH : Hid (Box V H TkT #[.int .i64 k, .int .i64 a, .int .i64 n, .string ⟨s.toArray⟩]) := Lib.hid (by rw [hV]; exact box_far5 bH n1 _ _ _ _ _)
  have HbR : Hid (Box V R NodeT #[.int .i64 0, .int .i64 0, .int .i64 0, .string ⟨#[]⟩, .slice none 0 0]) := Lib.hid (by rw [hV]; exact box_far5 bR n2 _ _ _ _ _)
  have HbN : Hid (Box V N NodeT #[.int .i64 0, .int .i64 a, .int .i64 0, .string ⟨#[]⟩, .slice none 0 0]) := Lib.hid (by rw [hV]; exact box_five bN _ _ _ _ _)
  have HBV : Hid (Below w.heap.size w V) := Lib.hid (by rw [hV]; exact below_five hb2 (by omega) _ _ _ _ _)
  have HLD := Lib.hid hL
  have HwR : Hid (w.heap.size ≤ R) := Lib.hid (by omega)
  have HwN : Hid (w.heap.size ≤ N) := Lib.hid (by omega)
  have hVV : five W2 N (.int .i64 0) (.int .i64 a) (.int .i64 0) (.string ⟨#[]⟩) (.slice none 0 0) = V := hV.symm
  have HVV := Lib.hid hVV
  clear hW hW1 hW2 hH hR hN hV hVV hb2 bH bR bN hRH hNH hL
  go_enter Tryd.func57, Tryd.ntmps57
  go_wp2_with (first | (rw [← HW.out, ← HHH.out]) | (rw [← HW1.out, ← HRR.out]) | (rw [← HW2.out, ← HNN.out]))
  rw [show ((((W2.setCell ⟨N, 0, none⟩ (.int .i64 0)).setCell ⟨N, 1, none⟩ (.int .i64 a)).setCell ⟨N, 2, none⟩ (.int .i64 0)).setCell ⟨N, 3, none⟩ (.string ⟨#[]⟩)).setCell ⟨N, 4, none⟩ (.slice none 0 0) = V from HVV.out]
  clear g0 g1 g2 g3 g4 y0 y1 y2 y3 y4 h0 h1 h2 h3 hW1a hW1b
  refine (num_tok ⟨k, a, n, s⟩ V hg2).mono ?_
  rintro e V1 ⟨rfl, hb1⟩
  have HbH1 := Lib.hid (HbH.out.on hb1)
  have HbR1 := Lib.hid (HbR.out.on hb1)
  have HbN1 := Lib.hid (HbN.out.on hb1)
  have HBV1 := Lib.hid (HBV.out.trans (hb1.mono HBV.out.size))
  clear hb1
  rw [show decide ((⟨k, a, n, s⟩ : Tk).kind = 2) = false from hk2]
  have h0 := HbH1.out.cell 0
  have h1 := HbH1.out.cell 1
  have h2 := HbH1.out.cell 2
  have h3 := HbH1.out.cell 3
  simp only [List.getElem?_toArray, List.getElem?_cons_zero, List.getElem?_cons_succ] at h0 h1 h2 h3
  go_wp2_with (fail)
  clear h0 h1 h2 h3
  refine (word_tok ⟨k, a, n, s⟩ [116, 114, 117, 101] V1).mono ?_
  rintro e V2 ⟨rfl, hb2⟩
  have HbH2 := Lib.hid (HbH1.out.on hb2)
  have HbR2 := Lib.hid (HbR1.out.on hb2)
  have HbN2 := Lib.hid (HbN1.out.on hb2)
  have HBV2 := Lib.hid (HBV1.out.trans (hb2.mono HBV1.out.size))
  clear hb2
  rw [w_true]
  have h0 := HbH2.out.cell 0
  have h1 := HbH2.out.cell 1
  have h2 := HbH2.out.cell 2
  have h3 := HbH2.out.cell 3
  simp only [List.getElem?_toArray, List.getElem?_cons_zero, List.getElem?_cons_succ] at h0 h1 h2 h3
  go_wp2_with (fail)
  clear h0 h1 h2 h3
  refine (word_tok ⟨k, a, n, s⟩ [102, 97, 108, 115, 101] V2).mono ?_
  rintro e V3 ⟨rfl, hb3⟩
  have HbH3 := Lib.hid (HbH2.out.on hb3)
  have HbR3 := Lib.hid (HbR2.out.on hb3)
  have HbN3 := Lib.hid (HbN2.out.on hb3)
  have HBV3 := Lib.hid (HBV2.out.trans (hb3.mono HBV2.out.size))
  clear hb3
  rw [w_false]
  have h0 := HbH3.out.cell 0
  have h1 := HbH3.out.cell 1
  have h2 := HbH3.out.cell 2
  have h3 := HbH3.out.cell 3
  simp only [List.getElem?_toArray, List.getElem?_cons_zero, List.getElem?_cons_succ] at h0 h1 h2 h3
  go_wp2_with (fail)
  clear h0 h1 h2 h3
  refine (name_tok ⟨k, a, n, s⟩ V3 (HLD.out.on HBV3.out) hg).mono ?_
  rintro e V4 ⟨rfl, hb4⟩
  have HbH4 := Lib.hid (HbH3.out.on hb4)
  have HbR4 := Lib.hid (HbR3.out.on hb4)
  have HbN4 := Lib.hid (HbN3.out.on hb4)
  have HBV4 := Lib.hid (HBV3.out.trans (hb4.mono HBV3.out.size))
  clear hb4
  rw [show decide ((⟨k, a, n, s⟩ : Tk).kind = 1) = false from hk1]
  have HzR := HbR4
  have r0 := HbR4.out.cell 0
  have r1 := HbR4.out.cell 1
  have r2 := HbR4.out.cell 2
  have r3 := HbR4.out.cell 3
  have r4 := HbR4.out.cell 4
  simp only [List.getElem?_toArray, List.getElem?_cons_zero, List.getElem?_cons_succ] at r0 r1 r2 r3 r4
  have f0 := HbR4.out.frozen 0
  have f1 := HbR4.out.frozen 1
  have f2 := HbR4.out.frozen 2
  have f3 := HbR4.out.frozen 3
  have f4 := HbR4.out.frozen 4
  go_wp2_with (fail)
  refine bodyPost_ret (node_ret2b rfl rfl rfl (box_five HzR.out _ _ _ _ _)) rfl ?_
  rw [HP.out]
  exact ⟨rfl, below_five HBV4.out HwR.out _ _ _ _ _⟩
theorem plain_tok (t : Tk) (w : World) (hL : wd.LD w) (hg : t.kind = 1 → named t.text = true) : Calls Tryd.prog 39 #[tkA t] w (ToldO (plainF t) w) := by
  obtain ⟨k, a, n, s⟩ := t
  unfold plainF
  by_cases w1 : isWd ⟨k, a, n, s⟩ sInt = true
  · rw [if_pos w1]; exact plain_int k a n s w hL w1
  rw [if_neg w1]
  by_cases w2 : isWd ⟨k, a, n, s⟩ sBool = true
  · rw [if_pos w2]; exact plain_bool k a n s w hL (bool_not w1) w2
  rw [if_neg w2]
  by_cases w3 : isWd ⟨k, a, n, s⟩ sRev = true
  · rw [if_pos w3]; exact plain_rev k a n s w hL (bool_not w1) (bool_not w2) w3
  rw [if_neg w3]
  by_cases w4 : k = 1
  · rw [if_pos w4]; exact plain_name k a n s w hL (bool_not w1) (bool_not w2) (bool_not w3) hg (decide_eq_true w4)
  · rw [if_neg w4]; exact plain_none k a n s w hL (bool_not w1) (bool_not w2) (bool_not w3) hg (decide_eq_false w4)
theorem alone_tok (t : Tk) (w : World) (hL : wd.LD w) (hg : t.kind = 1 → named t.text = true) (hg2 : t.kind = 2 → 0 ≤ t.n) : Calls Tryd.prog 57 #[tkA t] w (ToldO (aloneF t) w) := by
  obtain ⟨k, a, n, s⟩ := t
  unfold aloneF
  by_cases w0 : k = 2
  · rw [if_pos w0]; exact alone_num k a n s w hL hg2 (decide_eq_true w0)
  rw [if_neg w0]
  by_cases w1 : isWd ⟨k, a, n, s⟩ sTrue = true
  · rw [if_pos w1]; exact alone_true k a n s w hL hg2 (decide_eq_false w0) w1
  rw [if_neg w1]
  by_cases w2 : isWd ⟨k, a, n, s⟩ sFalse = true
  · rw [if_pos w2]; exact alone_false k a n s w hL hg2 (decide_eq_false w0) (bool_not w1) w2
  rw [if_neg w2]
  by_cases w4 : k = 1
  · rw [if_pos w4]; exact alone_name k a n s w hL hg2 (decide_eq_false w0) (bool_not w1) (bool_not w2) hg (decide_eq_true w4)
  · rw [if_neg w4]; exact alone_none k a n s w hL hg2 (decide_eq_false w0) (bool_not w1) (bool_not w2) hg (decide_eq_false w4)
end Go.Proofs.YtgohkmdepjmpaaaDoor.pm.em

/- The package's reader in memory: its tokens, what is read, what is begun. -/
--KEEP
namespace Go.Proofs.YtgohkmdepjmpaaaDoor.pm.em
open Go.RowKit wd lx nt ne pm mem
open vt (I64 own_base own_form own_below own_step set_same Typ)

abbrev RdT : TypeId := 49
abbrev BgT : TypeId := 71
/-- how many nodes lie below -/
def cnt : List Frm → Nat
  | [] => 0
  | f :: G => cnt G + f.kids.length
/-- what is read of all that is begun -/
def rdL : List Frm → List NT
  | [] => []
  | f :: G => rdL G ++ f.kids
theorem rdL_len : ∀ G : List Frm, (rdL G).length = cnt G
  | [] => rfl
  | f :: G => by rw [rdL, cnt, List.length_append, rdL_len G]
def Frm.first (G : List Frm) : Frm → Nat
  | .brk => 0
  | _ => cnt G
abbrev opnC (G : List Frm) (f : Frm) : List Value := [.int .i64 f.node.kind, .int .i64 f.node.at_, .int .i64 f.node.num, .string ⟨f.node.name.toArray⟩, .slice none 0 0, .int .i64 (f.first G : Int), .int .i64 f.bind, .string ⟨f.shut.toArray⟩, .bool f.many]
def opnV : List Frm → List Value
  | [] => []
  | f :: G => opnV G ++ opnC G f
theorem opnV_len : ∀ G : List Frm, (opnV G).length = G.length * 9
  | [] => rfl
  | f :: G => by rw [opnV, List.length_append, opnV_len G, List.length_cons]; simp; omega
/-- what the reader stands on -/
structure Env (l : List Tk) (v : Value) (w0 : World) : Prop where
  src : Src l v w0
  good : Good l
  txt : ∀ i, (tokAt l i).text.length ≤ 1048576
  ld : wd.LD w0
/-- where the kids of what is read lie -/
def KP (w0 : World) (rb : Nat) (vr vo : Value) (b : Nat) : Prop := w0.heap.size ≤ b ∧ b ≠ rb ∧ some b ≠ vr.ownBlock ∧ some b ≠ vo.ownBlock
structure Rows (w0 : World) (rb : Nat) (A : Nat → Prop) (rs : List NT) (G : List Frm) (vr vo : Value) (vs : List Value) (w : World) : Prop where
  own : w.ownsRow w0.heap.size NodeT 5 vr rs.length vs
  nods : Nods (KP w0 rb vr vo) w rs vs
  opn : w.ownsRow w0.heap.size BgT 9 vo G.length (opnV G)
  apr : ∀ b, A b → some b ≠ vr.ownBlock ∧ some b ≠ vo.ownBlock
/-- the reader lies in block rb; the blocks of A lie apart from it and its rows -/
structure Rd (l : List Tk) (v : Value) (w0 : World) (rb : Nat) (A : Nat → Prop) (i : Int) (wants over : Bool) (rs : List NT) (G : List Frm) (w : World) : Prop where
  env : Env l v w0
  low : Below w0.heap.size w0 w
  hB : w0.heap.size ≤ rb
  ap : ∀ b, A b → w0.heap.size ≤ b ∧ b < w.heap.size ∧ b ≠ rb
  fit : ∀ f ∈ G, Hd f.node
  num : I64 i
  ex : ∃ vr vo vs, Box w rb RdT #[v, .int .i64 i, .bool wants, .bool over, vr, vo] ∧ Rows w0 rb A rs G vr vo vs w
variable {l : List Tk} {v : Value} {w0 : World} {rb : Nat} {A A' : Nat → Prop} {i j : Int} {wants over : Bool} {rs : List NT} {G : List Frm} {w w' : World}
theorem Rd.lt (h : Rd l v w0 rb A i wants over rs G w) : rb < w.heap.size := by obtain ⟨vr, vo, vs, hb, _⟩ := h.ex; exact hb.lt
theorem Rd.mono (h : Rd l v w0 rb A i wants over rs G w) (hA : ∀ b, A' b → A b) : Rd l v w0 rb A' i wants over rs G w := by
  obtain ⟨vr, vo, vs, hb, hr⟩ := h.ex
  exact ⟨h.env, h.low, h.hB, fun b q => h.ap b (hA b q), h.fit, h.num, vr, vo, vs, hb, hr.own, hr.nods, hr.opn, fun b q => hr.apr b (hA b q)⟩
/-- the blocks of A, and those that are new since w -/
def Up (A : Nat → Prop) (w w' : World) (b : Nat) : Prop := A b ∨ (w.heap.size ≤ b ∧ b < w'.heap.size)
theorem Rd.on (h : Rd l v w0 rb A i wants over rs G w) (hb : Below w.heap.size w w') : Rd l v w0 rb (Up A w w') i wants over rs G w' := by
  obtain ⟨vr, vo, vs, hbx, hr⟩ := h.ex
  have hlt := h.low.size
  refine ⟨h.env, h.low.trans (hb.mono hlt), h.hB, fun b q => ?_, h.fit, h.num, vr, vo, vs, hbx.on hb, own_below hr.own hb, hr.nods.below hb, own_below hr.opn hb, fun b q => ?_⟩
  · rcases q with q | q
    · have := h.ap b q
      have := hb.size
      omega
    · have := hbx.lt
      omega
  · rcases q with q | q
    · exact hr.apr b q
    · exact ⟨fun e => by have := (hr.own.lt b e.symm).2; omega, fun e => by have := (hr.opn.lt b e.symm).2; omega⟩
theorem Rd.on_ (h : Rd l v w0 rb A i wants over rs G w) (hb : Below w.heap.size w w') : Rd l v w0 rb A i wants over rs G w' := (h.on hb).mono fun _ q => Or.inl q
theorem rows_set {vr vo x : Value} {vs : List Value} {cs : Array Value} {k : Nat} (hB : w0.heap.size ≤ rb) (hbx : Box w rb RdT cs) (hr : Rows w0 rb A rs G vr vo vs w) : Rows w0 rb A rs G vr vo vs (w.setCell ⟨rb, k, none⟩ x) := by
  have ht : Typ w RdT rb := ⟨_, _, hbx⟩
  refine ⟨?_, hr.nods.keep fun b o hb _ => ?_, ?_, hr.apr⟩
  · exact own_step hr.own fun k hk => set_same _ _ _ _ _ ((Typ.own hr.own hk).ne ht (by decide))
  · exact World.cell?_of_block (Below.heap_setCell w ⟨rb, k, none⟩ x b hb.2.1)
  · exact own_step hr.opn fun k hk => set_same _ _ _ _ _ ((Typ.own hr.opn hk).ne ht (by decide))
theorem Rd.seti (h : Rd l v w0 rb A i wants over rs G w) (hj : I64 j) : Rd l v w0 rb A j wants over rs G (w.setCell ⟨rb, 1, none⟩ (.int .i64 j)) := by
  obtain ⟨vr, vo, vs, hb, hr⟩ := h.ex
  exact ⟨h.env, h.low.setCell (p := ⟨rb, 1, none⟩) h.hB _, h.hB, fun b q => by simpa [World.setCell] using h.ap b q, h.fit, hj, vr, vo, vs, hb.set 1 _, rows_set h.hB hb hr⟩
theorem Rd.setw (h : Rd l v w0 rb A i wants over rs G w) (b : Bool) : Rd l v w0 rb A i b over rs G (w.setCell ⟨rb, 2, none⟩ (.bool b)) := by
  obtain ⟨vr, vo, vs, hb, hr⟩ := h.ex
  exact ⟨h.env, h.low.setCell (p := ⟨rb, 2, none⟩) h.hB _, h.hB, fun b q => by simpa [World.setCell] using h.ap b q, h.fit, h.num, vr, vo, vs, hb.set 2 _, rows_set h.hB hb hr⟩
theorem Rd.seto (h : Rd l v w0 rb A i wants over rs G w) (b : Bool) : Rd l v w0 rb A i wants b rs G (w.setCell ⟨rb, 3, none⟩ (.bool b)) := by
  obtain ⟨vr, vo, vs, hb, hr⟩ := h.ex
  exact ⟨h.env, h.low.setCell (p := ⟨rb, 3, none⟩) h.hB _, h.hB, fun b q => by simpa [World.setCell] using h.ap b q, h.fit, h.num, vr, vo, vs, hb.set 3 _, rows_set h.hB hb hr⟩
/-- the blocks of A stay -/
def Keep (A : Nat → Prop) (w w' : World) : Prop := ∀ b, A b → w'.heap[b]? = w.heap[b]?
theorem Keep.refl (A : Nat → Prop) (w : World) : Keep A w w := fun _ _ => rfl
theorem Keep.trans {w2 : World} (h : Keep A w w') (h2 : Keep A w' w2) : Keep A w w2 := fun b hb => (h2 b hb).trans (h b hb)
theorem Keep.set {k : Nat} {x : Value} (h : Keep A w w') (hA : ¬ A rb) : Keep A w (w'.setCell ⟨rb, k, none⟩ x) := fun b hb => (Below.heap_setCell w' ⟨rb, k, none⟩ x b (fun e => hA (by have e2 : b = rb := e; rw [← e2]; exact hb))).trans (h b hb)
theorem Rd.keep (h : Rd l v w0 rb A i wants over rs G w) (hb : Below w.heap.size w w') : Keep A w w' := fun b q => hb.block b (h.ap b q).2.1
theorem Rd.not (h : Rd l v w0 rb A i wants over rs G w) : ¬ A rb := fun q => (h.ap rb q).2.2 rfl
/-- what is read is another row -/
theorem Rd.setr {w1 : World} {vr vo vr' : Value} {vs vs' : List Value} {rs' : List NT} (h : Rd l v w0 rb A i wants over rs G w) (hb : Box w rb RdT #[v, .int .i64 i, .bool wants, .bool over, vr, vo]) (hr : Rows w0 rb A rs G vr vo vs w)
    (hg : w.grownBy w1 vr.ownBlock) (hat : ∀ k, vr'.ownBlock = some k → vr.ownBlock = some k ∨ w.heap.size ≤ k) (ho : w1.ownsRow w0.heap.size NodeT 5 vr' rs'.length vs') (hv : Nods (fun b => KP w0 rb vr vo b ∧ b < w.heap.size) w1 rs' vs') :
    Rd l v w0 rb A i wants over rs' G (w1.setCell ⟨rb, 4, none⟩ vr') ∧ Keep A w (w1.setCell ⟨rb, 4, none⟩ vr') := by
  have ht : Typ w RdT rb := ⟨_, _, hb⟩
  have hb1 : Box w1 rb RdT _ := hb.grown hg fun e => (Typ.own hr.own e.symm).ne ht (by decide) rfl
  have ht1 : Typ w1 RdT rb := ⟨_, _, hb1⟩
  have hkeep : Keep A w w1 := fun b q => hg.block b (h.ap b q).2.1 (hr.apr b q).1
  have hbw : Below w0.heap.size w0 w1 := h.low.grown hg h.low.size fun k hk => (hr.own.lt k hk).1
  have hopn : w1.ownsRow w0.heap.size BgT 9 vo G.length (opnV G) := own_step hr.opn fun k hk => hg.block k (Typ.own hr.opn hk).lt fun e => (Typ.own hr.opn hk).ne (Typ.own hr.own e.symm) (by decide) rfl
  have hv2 : Nods (KP w0 rb vr' vo) w1 rs' vs' := hv.mono fun b q => ⟨q.1.1, q.1.2.1, fun e => by
    rcases hat b e.symm with e2 | e2
    · exact q.1.2.2.1 e2.symm
    · omega, q.1.2.2.2⟩
  have hr1 : Rows w0 rb A rs' G vr' vo vs' w1 := ⟨ho, hv2, hopn, fun b q => ⟨fun e => ?_, (hr.apr b q).2⟩⟩
  · refine ⟨⟨h.env, hbw.setCell (p := ⟨rb, 4, none⟩) h.hB _, h.hB, fun b q => ?_, h.fit, h.num, vr', vo, vs', hb1.set 4 _, rows_set h.hB hb1 hr1⟩, hkeep.set h.not⟩
    have h1 := h.ap b q
    have h2 := hg.size
    have h3 : (w1.setCell ⟨rb, 4, none⟩ vr').heap.size = w1.heap.size := by simp [World.setCell]
    rw [h3]; omega
  · rcases hat b e.symm with e2 | e2
    · exact (hr.apr b q).1 e2.symm
    · have := (h.ap b q).2.1
      omega
/-- what is begun is another row -/
theorem Rd.setb {w1 : World} {vr vo vo' : Value} {vs : List Value} {G' : List Frm} (h : Rd l v w0 rb A i wants over rs G w) (hb : Box w rb RdT #[v, .int .i64 i, .bool wants, .bool over, vr, vo]) (hr : Rows w0 rb A rs G vr vo vs w)
    (hg : w.grownBy w1 vo.ownBlock) (hn : ∀ k, vo'.ownBlock = some k → vo.ownBlock = some k ∨ w.heap.size ≤ k) (ho : w1.ownsRow w0.heap.size BgT 9 vo' G'.length (opnV G')) (hfit : ∀ f ∈ G', Hd f.node) :
    Rd l v w0 rb A i wants over rs G' (w1.setCell ⟨rb, 5, none⟩ vo') ∧ Keep A w (w1.setCell ⟨rb, 5, none⟩ vo') := by
  have ht : Typ w RdT rb := ⟨_, _, hb⟩
  have hb1 : Box w1 rb RdT _ := hb.grown hg fun e => (Typ.own hr.opn e.symm).ne ht (by decide) rfl
  have hkeep : Keep A w w1 := fun b q => hg.block b (h.ap b q).2.1 (hr.apr b q).2
  have hbw : Below w0.heap.size w0 w1 := h.low.grown hg h.low.size fun k hk => (hr.opn.lt k hk).1
  have hown : w1.ownsRow w0.heap.size NodeT 5 vr rs.length vs := own_step hr.own fun k hk => hg.block k (Typ.own hr.own hk).lt fun e => (Typ.own hr.own hk).ne (Typ.own hr.opn e.symm) (by decide) rfl
  have hv2 : Nods (KP w0 rb vr vo') w1 rs vs := by
    refine hr.nods.carry fun b o u q hc => ?_
    have hlt : b < w.heap.size := World.block_lt_of_cell? _ _ hc
    refine ⟨⟨q.1, q.2.1, q.2.2.1, fun e => ?_⟩, (World.cell?_of_block (hg.block b hlt q.2.2.2)).trans hc⟩
    rcases hn b e.symm with e2 | e2
    · exact q.2.2.2 e2.symm
    · omega
  have hr1 : Rows w0 rb A rs G' vr vo' vs w1 := ⟨hown, hv2, ho, fun b q => ⟨(hr.apr b q).1, fun e => ?_⟩⟩
  · refine ⟨⟨h.env, hbw.setCell (p := ⟨rb, 5, none⟩) h.hB _, h.hB, fun b q => ?_, hfit, h.num, vr, vo', vs, hb1.set 5 _, rows_set h.hB hb1 hr1⟩, hkeep.set h.not⟩
    have h1 := h.ap b q
    have h2 := hg.size
    have h3 : (w1.setCell ⟨rb, 5, none⟩ vo').heap.size = w1.heap.size := by simp [World.setCell]
    rw [h3]; omega
  · rcases hn b e.symm with e2 | e2
    · exact (hr.apr b q).2 e2.symm
    · have := (h.ap b q).2.1
      omega
/-- the reader's cells -/
theorem Rd.cells (h : Rd l v w0 rb A i wants over rs G w) : ∃ vr vo vs, (w.cell? ⟨rb, 0, none⟩ = some v ∧ w.cell? ⟨rb, 1, none⟩ = some (.int .i64 i) ∧ w.cell? ⟨rb, 2, none⟩ = some (.bool wants) ∧ w.cell? ⟨rb, 3, none⟩ = some (.bool over) ∧ w.cell? ⟨rb, 4, none⟩ = some vr ∧ w.cell? ⟨rb, 5, none⟩ = some vo) ∧ (∀ k, w.frozen? ⟨rb, k, none⟩ = false) ∧ Box w rb RdT #[v, .int .i64 i, .bool wants, .bool over, vr, vo] ∧ Rows w0 rb A rs G vr vo vs w := by
  obtain ⟨vr, vo, vs, hb, hr⟩ := h.ex
  exact ⟨vr, vo, vs, ⟨hb.cell 0, hb.cell 1, hb.cell 2, hb.cell 3, hb.cell 4, hb.cell 5⟩, hb.frozen, hb, hr⟩
theorem Rd.srcw (h : Rd l v w0 rb A i wants over rs G w) : Src l v w := h.env.src.on h.low
theorem Rd.ldw (h : Rd l v w0 rb A i wants over rs G w) : wd.LD w := h.env.ld.on h.low
end Go.Proofs.YtgohkmdepjmpaaaDoor.pm.em

/- What the machine's states keep: no more is begun and read than tokens are taken. -/
--KEEP
namespace Go.Proofs.YtgohkmdepjmpaaaDoor.pm.em
open Go.RowKit wd lx nt ne pm mem
variable {l : List Tk} {i j i0 : Int} {G : List Frm}

/-- what is begun and is no bracket around an expression is to be a node -/
def KG (G : List Frm) : Prop := ∀ f ∈ G, f ≠ .brk → f.node.kind ≠ 0
/-- the size of what is read and begun -/
def MS.sz : MS → Nat
  | .want _ G => G.length + cnt G
  | .have_ _ G _ => G.length + cnt G + 1
def MS.pos : MS → Int
  | .want i _ => i
  | .have_ i _ _ => i
/-- what a state keeps -/
structure Inv (l : List Tk) (i0 : Int) (s : MS) : Prop where
  kg : KG s.stk
  low : 0 ≤ i0
  sz : (s.sz : Int) ≤ s.pos - i0
  pos : s.pos ≤ l.length
theorem Inv.small {s : MS} (h : Inv l i0 s) (hl : l.length ≤ 1048576) : s.sz ≤ 1048576 := by
  have h1 := h.low
  have h2 := h.sz
  have h3 := h.pos
  omega
theorem settle_sz {t : Int} : ∀ (G : List Frm) (n : NT), (settle t G n).1.length + cnt (settle t G n).1 ≤ G.length + cnt G
  | [], n => Nat.le_refl _
  | f :: G, n => by
    by_cases h1 : t ≤ f.bind
    · rw [show settle t (f :: G) n = settle t G (f.close n) from if_pos h1]
      refine Nat.le_trans (settle_sz G _) ?_
      rw [List.length_cons, show cnt (f :: G) = cnt G + f.kids.length from rfl]
      omega
    · rw [show settle t (f :: G) n = (f :: G, n) from if_neg h1]; exact Nat.le_refl _
theorem settle_mem {t : Int} : ∀ (G : List Frm) (n : NT) (f : Frm), f ∈ (settle t G n).1 → f ∈ G
  | [], n, f, h => h
  | g :: G, n, f, h => by
    by_cases h1 : t ≤ g.bind
    · rw [show settle t (g :: G) n = settle t G (g.close n) from if_pos h1] at h
      exact List.mem_cons_of_mem _ (settle_mem G _ f h)
    · rw [show settle t (g :: G) n = (g :: G, n) from if_neg h1] at h; exact h
theorem KG.settled {t : Int} {n : NT} (h : KG G) : KG (settle t G n).1 := fun f hf => h f (settle_mem G n f hf)
theorem KG.cons {f : Frm} (h : KG G) (hf : f ≠ .brk → f.node.kind ≠ 0) : KG (f :: G) := fun g hg => by
  rcases List.mem_cons.1 hg with rfl | hg
  · exact hf
  · exact h g hg
theorem KG.tail {f : Frm} (h : KG (f :: G)) : KG G := fun g hg => h g (List.mem_cons_of_mem _ hg)
/-- what an outcome keeps that began at a size z and a position p -/
def OutI (l : List Tk) (z : Nat) (p : Int) (o : Out) : Prop :=
  ∀ s, o = .go s → KG s.stk ∧ (s.sz : Int) ≤ (z : Int) + (s.pos - p) ∧ s.pos ≤ l.length ∧ 0 ≤ p
theorem OutI.no (z : Nat) (p j : Int) : OutI l z p (.no j) := fun s h => by cases h
theorem OutI.over (z : Nat) (p j : Int) (n : NT) : OutI l z p (.over n j) := fun s h => by cases h
theorem OutI.go {z : Nat} {p : Int} {s : MS} (h1 : KG s.stk) (h2 : (s.sz : Int) ≤ (z : Int) + (s.pos - p)) (h3 : s.pos ≤ l.length) (h4 : 0 ≤ p) : OutI l z p (.go s) := fun s' e => by
  injection e with e
  subst e
  exact ⟨h1, h2, h3, h4⟩
theorem args_inv {k a p : Int} {nm : List UInt8} {ks : List NT} (hk : k ≠ 0) (hks : ks.length ≤ 1) (hG : KG G) (hp : 0 ≤ p) (hpi : p + ks.length ≤ i) : OutI l (G.length + cnt G) p (argsM l i k a nm ks G) := by
  unfold argsM
  by_cases h1 : isM l i [40] = true
  · have hi := isM_in h1
    rw [if_pos h1]
    by_cases h2 : isM l (i + 1) [41] = true
    · have hi2 := isM_in h2
      rw [if_pos h2]
      exact OutI.go hG (by show ((G.length + cnt G + 1 : Nat) : Int) ≤ ((G.length + cnt G : Nat) : Int) + (i + 2 - p); omega) (by show i + 2 ≤ _; omega) hp
    · rw [if_neg h2]
      refine OutI.go (hG.cons fun _ => hk) ?_ (by show i + 1 ≤ _; omega) hp
      show (((Frm.arg k a nm ks :: G).length + cnt (Frm.arg k a nm ks :: G) : Nat) : Int) ≤ ((G.length + cnt G : Nat) : Int) + (i + 1 - p)
      rw [List.length_cons, show cnt (Frm.arg k a nm ks :: G) = cnt G + ks.length from rfl]
      omega
  · rw [if_neg h1]; exact OutI.no _ _ _
theorem call_inv {k a p : Int} (hk : k ≠ 0) (hG : KG G) (hp : 0 ≤ p) (hpi : p ≤ i) : OutI l (G.length + cnt G) p (callM l i k a G) := by
  unfold callM
  by_cases h : (tokAt l i).kind = 1
  · rw [if_pos h]; exact args_inv hk (Nat.zero_le _) hG hp (by simp; omega)
  · rw [if_neg h]; exact OutI.no _ _ _
theorem typ_pos {n : NT} (h : typR l i = .node n j) : i ≤ j := by
  obtain ⟨r, hr⟩ := run_all l .typ i
  have e : typR l i = r := by unfold typR; rw [hr]; rfl
  rw [e] at h
  subst h
  exact ends_pos (run_ends l _ .typ i _ hr)
theorem begin_inv (hG : KG G) : OutI l (G.length + cnt G) i (beginM l i G) := by
  have hw : ∀ m, pm.isW l i m = true → 0 ≤ i ∧ i < (l.length : Int) := fun m h => isW_in h
  unfold beginM
  by_cases h1 : isM l i [40] = true
  · have hi := isM_in h1
    rw [if_pos h1]
    exact OutI.go (hG.cons fun e => absurd rfl e) (by show (((Frm.brk :: G).length + cnt (Frm.brk :: G) : Nat) : Int) ≤ ((G.length + cnt G : Nat) : Int) + (i + 1 - i); rw [List.length_cons, show cnt (Frm.brk :: G) = cnt G from rfl]; omega) (by show i + 1 ≤ _; omega) hi.1
  rw [if_neg h1]
  by_cases h2 : isM l i [45] = true
  · have hi := isM_in h2
    rw [if_pos h2]
    exact OutI.go (hG.cons fun _ => by show (15 : Int) ≠ 0; decide) (by show (((Frm.un (tokAt l i).at_ 2 :: G).length + cnt (Frm.un (tokAt l i).at_ 2 :: G) : Nat) : Int) ≤ ((G.length + cnt G : Nat) : Int) + (i + 1 - i); rw [List.length_cons, show cnt (Frm.un (tokAt l i).at_ 2 :: G) = cnt G from rfl]; omega) (by show i + 1 ≤ _; omega) hi.1
  rw [if_neg h2]
  by_cases h3 : isM l i [33] = true
  · have hi := isM_in h3
    rw [if_pos h3]
    exact OutI.go (hG.cons fun _ => by show (15 : Int) ≠ 0; decide) (by show (((Frm.un (tokAt l i).at_ 14 :: G).length + cnt (Frm.un (tokAt l i).at_ 14 :: G) : Nat) : Int) ≤ ((G.length + cnt G : Nat) : Int) + (i + 1 - i); rw [List.length_cons, show cnt (Frm.un (tokAt l i).at_ 14 :: G) = cnt G from rfl]; omega) (by show i + 1 ≤ _; omega) hi.1
  rw [if_neg h3]
  by_cases h4 : pm.isW l i sFork = true
  · rw [if_pos h4]; exact call_inv (by decide) hG (hw _ h4).1 (by omega)
  rw [if_neg h4]
  by_cases h5 : pm.isW l i sNew = true
  · rw [if_pos h5]
    cases ht : typR l (i + 1) with
    | node n j =>
      have := typ_pos ht
      exact args_inv (by decide) (Nat.le_refl _) hG (hw _ h5).1 (by simp; omega)
    | no j => exact OutI.no _ _ _
    | list ns j => exact OutI.no _ _ _
  rw [if_neg h5]
  have one : ∀ n, 0 ≤ i ∧ i < (l.length : Int) → OutI l (G.length + cnt G) i (.go (.have_ (i + 1) G n)) := fun n hi => OutI.go hG (by show ((G.length + cnt G + 1 : Nat) : Int) ≤ ((G.length + cnt G : Nat) : Int) + (i + 1 - i); omega) (by show i + 1 ≤ _; omega) hi.1
  by_cases h6 : (tokAt l i).kind = 2
  · rw [if_pos h6]; exact one _ (tok_in (by omega))
  rw [if_neg h6]
  by_cases h7 : pm.isW l i sTrue = true
  · rw [if_pos h7]; exact one _ (hw _ h7)
  rw [if_neg h7]
  by_cases h8 : pm.isW l i sFalse = true
  · rw [if_pos h8]; exact one _ (hw _ h8)
  rw [if_neg h8]
  by_cases h9 : (tokAt l i).kind = 1
  · rw [if_pos h9]
    by_cases h10 : isM l (i + 1) [40] = true
    · rw [if_pos h10]; exact call_inv (by decide) hG (tok_in (l := l) (i := i) (by omega)).1 (by omega)
    · rw [if_neg h10]; exact one _ (tok_in (by omega))
  · rw [if_neg h9]; exact OutI.no _ _ _
theorem leave_inv : ∀ (p : List Frm × NT), KG p.1 → OutI l (p.1.length + cnt p.1 + 1) i (leaveM l i p)
  | ([], n), _ => OutI.over _ _ _ _
  | (f :: G, n), hG => by
    rw [leave_cons]
    by_cases h : f.many = true ∧ isM l i [44] = true
    · have hi := isM_in h.2
      rw [if_pos h]
      cases f with
      | arg k a nm ks =>
        refine OutI.go ((KG.tail hG).cons fun _ => hG (.arg k a nm ks) (List.mem_cons_self ..) (fun e => by cases e)) ?_ (by show i + 1 ≤ _; omega) hi.1
        show (((Frm.arg k a nm (ks ++ [n]) :: G).length + cnt (Frm.arg k a nm (ks ++ [n]) :: G) : Nat) : Int) ≤ (((Frm.arg k a nm ks :: G).length + cnt (Frm.arg k a nm ks :: G) + 1 : Nat) : Int) + (i + 1 - i)
        rw [List.length_cons, List.length_cons, show cnt (Frm.arg k a nm (ks ++ [n]) :: G) = cnt G + (ks ++ [n]).length from rfl, show cnt (Frm.arg k a nm ks :: G) = cnt G + ks.length from rfl, List.length_append, List.length_singleton]
        omega
      | brk => exact absurd h.1 (by simp [Frm.many])
      | un a s => exact absurd h.1 (by simp [Frm.many])
      | bin a s b x => exact absurd h.1 (by simp [Frm.many])
      | idx a x => exact absurd h.1 (by simp [Frm.many])
    · rw [if_neg h]
      by_cases h2 : isM l i f.shut = true
      · have hi := isM_in h2
        rw [if_pos h2]
        refine OutI.go (KG.tail hG) ?_ (by show i + 1 ≤ _; omega) hi.1
        show ((G.length + cnt G + 1 : Nat) : Int) ≤ (((f :: G).length + cnt (f :: G) + 1 : Nat) : Int) + (i + 1 - i)
        rw [List.length_cons, show cnt (f :: G) = cnt G + f.kids.length from rfl]
        omega
      · rw [if_neg h2]; exact OutI.no _ _ _
theorem OutI.mono {z z' : Nat} {p : Int} {o : Out} (h : OutI l z p o) (hz : z ≤ z') : OutI l z' p o := fun s e => by
  obtain ⟨h1, h2, h3, h4⟩ := h s e
  exact ⟨h1, by omega, h3, h4⟩
theorem bind_in (h : bindT l i ≠ 0) : 0 ≤ i ∧ i < (l.length : Int) := tok_in fun e0 => by
  refine h ?_
  unfold bindT
  rw [show sgn (tokAt l i) = 0 from by unfold sgn; rw [if_neg (by omega)]]
  rfl
theorem step_inv : ∀ (s : MS), KG s.stk → OutI l s.sz s.pos (stepM l s)
  | .want i G, hG => begin_inv hG
  | .have_ i G n, hG => by
    have hG : KG G := hG
    show OutI l (G.length + cnt G + 1) i (stepM l (.have_ i G n))
    rw [stepM]
    by_cases h1 : isM l i [91] = true
    · have hi := isM_in h1
      rw [if_pos h1]
      exact OutI.go (hG.cons fun _ => by show (13 : Int) ≠ 0; decide) (by show (((Frm.idx (tokAt l i).at_ n :: G).length + cnt (Frm.idx (tokAt l i).at_ n :: G) : Nat) : Int) ≤ ((G.length + cnt G + 1 : Nat) : Int) + (i + 1 - i); rw [List.length_cons, show cnt (Frm.idx (tokAt l i).at_ n :: G) = cnt G + 1 from rfl]; omega) (by show i + 1 ≤ _; omega) hi.1
    rw [if_neg h1]
    by_cases h2 : isM l i [46] = true
    · have hi := isM_in h2
      rw [if_pos h2]
      by_cases h3 : (tokAt l (i + 1)).kind = 1
      · have hi2 := tok_in (l := l) (i := i + 1) (by omega)
        rw [if_pos h3]
        exact OutI.go hG (by show ((G.length + cnt G + 1 : Nat) : Int) ≤ ((G.length + cnt G + 1 : Nat) : Int) + (i + 2 - i); omega) (by show i + 2 ≤ _; omega) hi.1
      · rw [if_neg h3]; exact OutI.no _ _ _
    rw [if_neg h2]
    by_cases hb : bindT l i = 0
    · rw [if_pos hb]
      exact (leave_inv _ hG.settled).mono (by have := settle_sz (t := 1) G n; omega)
    rw [if_neg hb]
    have hi := bind_in hb
    have e1 := settle_sz (t := bindT l i + 1) G n
    have k1 : KG (settle (bindT l i + 1) G n).1 := hG.settled
    obtain ⟨p, hp⟩ : ∃ p, p = settle (bindT l i + 1) G n := ⟨_, rfl⟩
    rw [← hp] at e1 k1 ⊢
    obtain ⟨G1, n1⟩ := p
    dsimp only at e1 k1 ⊢
    by_cases h3 : bindT l i = 3 ∧ bindTop G1 = 3
    · rw [if_pos h3]
      exact (leave_inv _ k1.settled).mono (by have := settle_sz (t := 1) G1 n1; omega)
    rw [if_neg h3]
    have e2 := settle_sz (t := bindT l i) G1 n1
    have k2 : KG (settle (bindT l i) G1 n1).1 := k1.settled
    obtain ⟨q, hq⟩ : ∃ q, q = settle (bindT l i) G1 n1 := ⟨_, rfl⟩
    rw [← hq] at e2 k2 ⊢
    obtain ⟨G2, n2⟩ := q
    dsimp only at e2 k2 ⊢
    refine OutI.go (k2.cons fun _ => by show (16 : Int) ≠ 0; decide) ?_ (by show i + 1 ≤ _; omega) hi.1
    show (((Frm.bin (tokAt l i).at_ (sgn (tokAt l i)) (bindT l i) n2 :: G2).length + cnt (Frm.bin (tokAt l i).at_ (sgn (tokAt l i)) (bindT l i) n2 :: G2) : Nat) : Int) ≤ ((G.length + cnt G + 1 : Nat) : Int) + (i + 1 - i)
    rw [List.length_cons, show cnt (Frm.bin (tokAt l i).at_ (sgn (tokAt l i)) (bindT l i) n2 :: G2) = cnt G2 + 1 from rfl]
    omega
/-- the state that a reader begins in, or one that keeps -/
def InvS (l : List Tk) (s : MS) : Prop := (s.sz = 0 ∧ KG s.stk) ∨ ∃ i0, Inv l i0 s
theorem InvS.small {s : MS} (h : InvS l s) (hl : l.length ≤ 1048576) : s.sz ≤ 1048579 := by
  rcases h with ⟨h, _⟩ | ⟨i0, h⟩
  · omega
  · have := h.small hl; omega
theorem InvS.kg {s : MS} (h : InvS l s) : KG s.stk := by
  rcases h with ⟨_, h⟩ | ⟨i0, h⟩
  · exact h
  · exact h.kg
theorem InvS.step {s s1 : MS} (h : InvS l s) (hs : stepM l s = .go s1) : InvS l s1 := by
  obtain ⟨k1, k2, k3, k4⟩ := step_inv s h.kg s1 hs
  rcases h with ⟨h, _⟩ | ⟨i0, h⟩
  · exact Or.inr ⟨s.pos, k1, k4, by omega, k3⟩
  · have h1 := h.sz
    exact Or.inr ⟨i0, k1, h.low, by omega, k3⟩
/-- so many steps lead to an outcome that ends -/
def Runs (l : List Tk) : Nat → MS → Out → Prop
  | 0, _, _ => False
  | k + 1, s, o => (∃ s1, stepM l s = .go s1 ∧ Runs l k s1 o) ∨ (stepM l s = o ∧ ∀ s1, o ≠ .go s1)
theorem Reach.runs {d : Nat} {s s' : MS} {o : Out} (h : Reach l d s s') (ho : stepM l s' = o) (hn : ∀ s1, o ≠ .go s1) : ∃ k, Runs l k s o := by
  induction h with
  | refl s => exact ⟨1, Or.inr ⟨ho, hn⟩⟩
  | step _ hs _ ih =>
    obtain ⟨k, hk⟩ := ih ho
    exact ⟨k + 1, Or.inl ⟨_, hs, hk⟩⟩
/-- so many steps, each from where something is begun, lead to a state -/
inductive Walk (l : List Tk) (d : Nat) : Nat → MS → MS → Prop where
  | refl (s : MS) : Walk l d 0 s s
  | step {s s1 s2 : MS} {k : Nat} : d ≤ s.stk.length → stepM l s = .go s1 → Walk l d k s1 s2 → Walk l d (k + 1) s s2
theorem Reach.walk {d : Nat} {s s' : MS} (h : Reach l d s s') : ∃ k, Walk l d k s s' := by
  induction h with
  | refl s => exact ⟨0, .refl _⟩
  | step hd hs _ ih =>
    obtain ⟨k, hk⟩ := ih
    exact ⟨k + 1, .step hd hs hk⟩
end Go.Proofs.YtgohkmdepjmpaaaDoor.pm.em

/- The reader reads up to the end of a value, and of all that end with it. -/
import Derived.Test.YtjbdfckanabepaaDoorValPlain
import Derived.Test.YtjbdfckanabepaaDoorValClose2
import Derived.Test.YtjbdfckanabepaaDoorValClose3
namespace Go.Proofs.YtjbdfckanabepaaDoor.vt
open Go.RowKit mem

def kindsF (f : Frames) : Prop := ∀ p ∈ f, p.1 = 2 ∨ p.1 = 3
theorem done_cons (k : Int) (l : List VT) (f : Frames) : doneOf ((k, l) :: f) = doneOf f ++ l := rfl
theorem opens_bd : ∀ (s : List UInt8) (f : Frames), kindsF f → kindsF (opensF s f).2 ∧ (opensF s f).2.length + (opensF s f).1.length = f.length + s.length ∧ doneOf (opensF s f).2 = doneOf f
  | [], f, h => ⟨h, rfl, rfl⟩
  | c :: r, f, h => by
    rw [opensF]
    split
    · have h2 : kindsF ((2, []) :: f) := fun p hp => by
        rcases List.mem_cons.1 hp with rfl | hp
        · exact Or.inl rfl
        · exact h p hp
      obtain ⟨a, b, c⟩ := opens_bd r ((2, []) :: f) h2
      refine ⟨a, by rw [b]; simp; omega, by rw [c, done_cons, List.append_nil]⟩
    · split
      · have h2 : kindsF ((3, []) :: f) := fun p hp => by
          rcases List.mem_cons.1 hp with rfl | hp
          · exact Or.inr rfl
          · exact h p hp
        obtain ⟨a, b, c⟩ := opens_bd r ((3, []) :: f) h2
        refine ⟨a, by rw [b]; simp; omega, by rw [c, done_cons, List.append_nil]⟩
      · exact ⟨h, rfl, rfl⟩
theorem close_bd : ∀ (r : List UInt8) (f : Frames) (v : VT), kindsF f → kindsF (closeF r f v).2.1 ∧ (closeF r f v).2.1.length + (closeF r f v).1.length ≤ f.length + r.length ∧ (doneOf (closeF r f v).2.1).length + (closeF r f v).1.length ≤ (doneOf f).length + r.length
  | [], f, v, h => by cases f <;> exact ⟨h, Nat.le_refl _, Nat.le_refl _⟩
  | c :: r, [], v, h => ⟨h, Nat.le_refl _, Nat.le_refl _⟩
  | c :: r, (k, l) :: f, v, h => by
    rw [closeF]
    split
    · obtain ⟨a, b, c⟩ := close_bd r f (.mk k 0 (l ++ [v])) (fun p hp => h p (by simp [hp]))
      refine ⟨a, by simp; omega, ?_⟩
      rw [done_cons, List.length_append, List.length_cons]
      omega
    · exact ⟨h, Nat.le_refl _, Nat.le_refl _⟩
theorem single_nil : singleF [] = none := rfl
theorem plain_bd {r r' : List UInt8} {v : VT} (h : plainF r = some (r', v)) : r'.length < r.length := by
  unfold plainF at h
  have ht := tw_len r (fun c => !isStop c)
  split at h
  · rename_i u hu
    injection h with h
    injection h with h1 h2
    subst h1
    cases hk : r.takeWhile (fun c => !isStop c) with
    | nil => rw [hk, single_nil] at hu; cases hu
    | cons a b => rw [hk, List.length_cons] at ht; omega
  · cases h
/-- what is opened is closed, or stays open -/
theorem closes_yes (B rb : Nat) (r : List UInt8) (f : Frames) (k : Int) (d1 : List VT) (w : World) (h : Rdr B rb (clB k :: r) (opnOf f ++ [(k, (doneOf f).length)]) (doneOf f ++ d1) w) (hk : k = 2 ∨ k = 3) (ho : f.length ≤ 1048576) (hd : (doneOf f ++ d1).length ≤ 1048576) :
    Calls Tryd.prog 40 #[.pointer (some ⟨rb, 0, none⟩)] w fun e w' => e = .returned (.bool true) ∧ Rdr B rb r (opnOf f) (doneOf f ++ [.mk k 0 d1]) w' ∧ Below B w w' := by
  rcases hk with rfl | rfl
  · exact closes_yes2 B rb r (opnOf f) (doneOf f) d1 w h (by rw [opn_len]; exact ho) hd
  · exact closes_yes3 B rb r (opnOf f) (doneOf f) d1 w h (by rw [opn_len]; exact ho) hd
theorem prefix_cl (s : List UInt8) (c : UInt8) (h : ¬ ∃ r, s = c :: r) : Lib.hasPrefix s [c] = false := by
  cases s with
  | nil => rfl
  | cons a r => rw [prefix_one]; exact beq_eq_false_iff_ne.2 (fun e => h ⟨r, by rw [e]⟩)
def ValuePost (B rb : Nat) (s : List UInt8) (f : Frames) (w : World) (e : Ending) (w' : World) : Prop :=
  match valueF s f with
  | none => e = .returned (.bool false) ∧ Below B w w'
  | some (r, f', v) => e = .returned (.bool true) ∧ Rdr B rb r (opnOf f') (doneOf f' ++ [v]) w' ∧ Below B w w'
theorem value_none {B rb : Nat} {s : List UInt8} {f : Frames} {w w' : World} (hp : valueF s f = none) (hb : Below B w w') : ValuePost B rb s f w (.returned (.bool false)) w' := by
  unfold ValuePost; rw [hp]; exact ⟨rfl, hb⟩
theorem value_some {B rb : Nat} {s r : List UInt8} {f f' : Frames} {v : VT} {w w' : World} (hp : valueF s f = some (r, f', v)) (h : Rdr B rb r (opnOf f') (doneOf f' ++ [v]) w') (hb : Below B w w') : ValuePost B rb s f w (.returned (.bool true)) w' := by
  unfold ValuePost; rw [hp]; exact ⟨rfl, h, hb⟩
def CloseRel (B rb : Nat) (s : List UInt8) (f : Frames) (W : World) (g : Nat) (wr : World) : Prop :=
  ∃ (s1 : List UInt8) (f1 : Frames) (v1 : VT), Hid (valueF s f = some (closeF s1 f1 v1)) ∧ kindsF f1 ∧ Rdr B rb s1 (opnOf f1) (doneOf f1 ++ [v1]) wr ∧ Below B W wr ∧ s1.length ≤ g ∧ f1.length ≤ 1048576 ∧ (doneOf f1).length + s1.length + 1 ≤ 1048576
theorem laid_keep {B : Nat} {w w1 : World} (h : whole.Laid B w) (hb : Below B w w1) : whole.Laid B w1 := h.on hb
theorem opens_top : ∀ (s : List UInt8) (f : Frames), (opensF s f).2 = f ∨ ∃ k f', (opensF s f).2 = (k, []) :: f'
  | [], f => Or.inl rfl
  | c :: r, f => by
    rw [opensF]
    split
    · rcases opens_top r ((2, []) :: f) with h | h
      · exact Or.inr ⟨2, f, h⟩
      · exact Or.inr h
    · split
      · rcases opens_top r ((3, []) :: f) with h | h
        · exact Or.inr ⟨3, f, h⟩
        · exact Or.inr h
      · exact Or.inl rfl
theorem close_nil (s : List UInt8) (v : VT) : closeF s [] v = (s, [], v) := by cases s <;> rfl
theorem close_stop (s : List UInt8) (k : Int) (l : List VT) (f : Frames) (v : VT) (h : ¬ ∃ r, s = clB k :: r) : closeF s ((k, l) :: f) v = (s, (k, l) :: f, v) := by
  cases s with
  | nil => rfl
  | cons c r => rw [closeF, if_neg (fun e => h ⟨r, by rw [e]⟩)]
theorem rest_none (o : Bool) (s : List UInt8) (f : Frames) (he : emptyF o s f = none) (hp : plainF s = none) : restF o s f = none := by
  unfold restF; rw [he, hp]
theorem rest_some (o : Bool) (s : List UInt8) (f : Frames) {r : List UInt8} {v : VT} (he : emptyF o s f = none) (hp : plainF s = some (r, v)) : restF o s f = some (closeF r f v) := by
  unfold restF; rw [he, hp]
theorem empty_not (s : List UInt8) (k : Int) (f : Frames) (h : ¬ ∃ r, s = clB k :: r) : emptyF true s ((k, []) :: f) = none := by
  cases s with
  | nil => rfl
  | cons c r => rw [emptyF, if_neg (fun e => h ⟨r, by rw [e]⟩)]
set_option maxHeartbeats 2000000 in
set_option maxRecDepth 100000 in
theorem value_any (B rb L : Nat) (s : List UInt8) (f : Frames) (w : World) (h : Rdr B rb s (opnOf f) (doneOf f) w) (hk : kindsF f) (h1 : f.length + s.length ≤ L) (h2 : (doneOf f).length + s.length ≤ L) (hL : L ≤ 1048576) (hB : B ≤ w.heap.size) (hLd : whole.Laid B w) :
    Calls Tryd.prog 31 #[.pointer (some ⟨rb, 0, none⟩)] w (ValuePost B rb s f w) := by
  obtain ⟨s1, f1, hof⟩ : ∃ s1 f1, opensF s f = (s1, f1) := ⟨_, _, rfl⟩
  obtain ⟨ok, ol, od⟩ := opens_bd s f hk
  have hmore : f.length < f1.length → ∃ k f', f1 = (k, []) :: f' := fun hlt => by
    rcases opens_top s f with h | h
    · rw [hof] at h
      dsimp only at h
      rw [h] at hlt; omega
    · rw [hof] at h; exact h
  have hle := opens_ok.opens_len s f
  rw [hof] at ok ol od hle
  dsimp only at ok ol od hle
  have HOP := Lib.hid (opens_any B rb s f w h (by omega) (by omega) hB)
  unfold Opened at HOP
  rw [hof] at HOP
  dsimp only at HOP
  have HVF : Hid (valueF s f = restF (decide (f.length < f1.length)) s1 f1) := Lib.hid (by unfold valueF; rw [hof])
  have HOK := Lib.hid ok
  have hdl : (doneOf f1).length + s1.length ≤ L := by
    rw [od]; omega
  have hfl : f1.length + s1.length ≤ L := by omega
  clear hof h ok od hle ol h1 h2 hk
  go_enter Tryd.func31, Tryd.ntmps31
  go_wp2_with (fail)
  refine HOP.out.mono ?_
  rintro e w1 ⟨rfl, hr1, hb1⟩
  have HB1 := Lib.hid hb1
  have HR1 := Lib.hid hr1
  have HL1 := Lib.hid (hLd.on hb1)
  have hz1 := hb1.size
  clear hb1 hr1 HOP hLd
  by_cases ho : f.length < f1.length
  · obtain ⟨k, f2, rfl⟩ := hmore ho
    rw [decide_eq_true ho] at HVF ⊢
    rw [done_cons, List.append_nil] at hdl
    rw [List.length_cons] at hfl
    clear ho hmore
    by_cases hc : ∃ r, s1 = clB k :: r
    · obtain ⟨r, rfl⟩ := hc
      rw [List.length_cons] at hdl hfl
      go_wp2_with (fail)
      refine (closes_yes B rb r f2 k [] w1 (by have := HR1.out; rw [done_cons] at this; exact this) (HOK.out _ List.mem_cons_self) (by omega) (by rw [List.append_nil]; omega)).mono ?_
      rintro e w5 ⟨rfl, hr5, hb5⟩
      have HR5 := Lib.hid hr5
      have HB5 := Lib.hid (HB1.out.trans hb5)
      have HE : Hid (valueF s f = some (closeF r f2 (.mk k 0 []))) := Lib.hid (HVF.out.trans (by unfold restF; rw [emptyF, if_pos rfl]))
      have HK : Hid (kindsF f2) := Lib.hid fun p hp => HOK.out p (List.mem_cons_of_mem _ hp)
      have hF0 : f2.length ≤ 1048576 := by omega
      have hD0 : (doneOf f2).length + r.length + 1 ≤ 1048576 := by omega
      clear hr5 hb5
      go_wp2_with (fail)
      go_loopg [] (r).length (fun g wr => CloseRel B rb s f w g wr)
      case atStart => unfold CloseRel; exact ⟨(r), (f2), (VT.mk k 0 []), HE, HK.out, HR5.out, HB5.out, Nat.le_refl _, hF0, hD0⟩
      case round =>
        obtain ⟨s3, f3, v3, HE3, hk3, hr3, hb3, hg3, hl3, hd3⟩ := hrel
        have HR3 := Lib.hid hr3
        have HB3 := Lib.hid hb3
        have HK3 := Lib.hid hk3
        have hz3 := hb3.size
        clear hr3 hb3 hk3
        cases f3 with
        | nil =>
          go_wp2_with (fail)
          refine (closes_none B rb s3 _ _ HR3.out).mono ?_
          rintro e w' ⟨rfl, rfl⟩
          go_wp2_with (fail)
          go_ret
          exact value_some (HE3.out.trans (by rw [close_nil])) HR3.out HB3.out
        | cons p f4 =>
          obtain ⟨k3, l3⟩ := p
          by_cases hc3 : ∃ r, s3 = clB k3 :: r
          · obtain ⟨r3, rfl⟩ := hc3
            rw [done_cons, List.length_append, List.length_cons] at hd3
            rw [List.length_cons] at hl3 hg3
            go_wp2_with (fail)
            refine (closes_yes B rb r3 f4 k3 (l3 ++ [v3]) _ (by have := HR3.out; rw [done_cons, List.append_assoc] at this; exact this) (HK3.out _ List.mem_cons_self) (by omega) (by rw [List.length_append, List.length_append, List.length_singleton]; omega)).mono ?_
            rintro e w6 ⟨rfl, hr6, hb6⟩
            have HR6 := Lib.hid hr6
            have HB6 := Lib.hid (HB3.out.trans hb6)
            clear hr6 hb6
            go_wp2_with (fail)
            go_roundg r3.length
            case measure => omega
            case rel => unfold CloseRel; exact ⟨r3, f4, .mk k3 0 (l3 ++ [v3]), Lib.hid (by rw [HE3.out, closeF, if_pos rfl]), fun p hp => HK3.out p (List.mem_cons_of_mem _ hp), HR6.out, HB6.out, Nat.le_refl _, by omega, by omega⟩
          · have hpre := prefix_cl _ _ hc3
            have HS3 := Lib.hid (close_stop s3 k3 l3 f4 v3 hc3)
            rw [List.length_cons] at hl3
            clear hc3
            go_wp2_with (fail)
            refine (closes_no B rb s3 (opnOf f4) k3 (doneOf f4).length _ _ HR3.out (HK3.out _ List.mem_cons_self) hpre (by rw [opn_len]; omega)).mono ?_
            rintro e w6 ⟨rfl, hr6, hb6⟩
            have HR6 := Lib.hid hr6
            have HB6 := Lib.hid (HB3.out.trans hb6)
            clear hr6 hb6 hpre
            go_wp2_with (fail)
            go_ret
            exact value_some (HE3.out.trans (by rw [HS3.out])) HR6.out HB6.out
    · have hpre := prefix_cl _ _ hc
      have HEM := Lib.hid (empty_not s1 k f2 hc)
      clear hc
      go_wp2_with (fail)
      refine (closes_no B rb s1 (opnOf f2) k (doneOf f2).length _ w1 HR1.out (HOK.out _ List.mem_cons_self) hpre (by rw [opn_len]; omega)).mono ?_
      rintro e w2 ⟨rfl, hr2, hb2⟩
      have HR2 : Hid (Rdr B rb s1 (opnOf ((k, []) :: f2)) (doneOf ((k, []) :: f2)) w2) := Lib.hid hr2
      have HB2 := Lib.hid (HB1.out.trans hb2)
      have HL2 := Lib.hid (HL1.out.on hb2)
      have hdl : (doneOf ((k, []) :: f2)).length + s1.length ≤ L := by rw [done_cons, List.append_nil]; exact hdl
      have hfl2 : List.length ((k, ([] : List VT)) :: f2) + s1.length ≤ L := by rw [List.length_cons]; exact hfl
      clear hr2 hb2 hpre HR1 HB1 HL1
      cases hp : plainF s1 with
      | none =>
        go_wp2_with (fail)
        refine (plain_any B rb s1 (opnOf ((k, []) :: f2)) (doneOf ((k, []) :: f2)) w2 HR2.out (by omega) (by omega) (HL2.out)).mono ?_
        intro e w3 hpp
        unfold PlainPost at hpp
        rw [hp] at hpp
        obtain ⟨rfl, _, hb3⟩ := hpp
        have HB5 := Lib.hid (HB2.out.trans hb3)
        have HE : Hid (valueF s f = none) := Lib.hid (HVF.out.trans (rest_none _ _ _ HEM.out hp))
        clear hb3 hp
        go_wp2_with (fail)
        go_ret
        exact value_none HE.out HB5.out
      | some rv =>
        obtain ⟨r, v⟩ := rv
        have hlt := plain_bd hp
        go_wp2_with (fail)
        refine (plain_any B rb s1 (opnOf ((k, []) :: f2)) (doneOf ((k, []) :: f2)) w2 HR2.out (by omega) (by omega) (HL2.out)).mono ?_
        intro e w5 hpp
        unfold PlainPost at hpp
        rw [hp] at hpp
        obtain ⟨rfl, hr5, hb5⟩ := hpp
        have HR5 := Lib.hid hr5
        have HB5 := Lib.hid (HB2.out.trans hb5)
        have HE : Hid (valueF s f = some (closeF r (((k, []) :: f2)) v)) := Lib.hid (HVF.out.trans (rest_some _ _ _ HEM.out hp))
        have HK := HOK
        have hF0 : (((k, []) :: f2)).length ≤ 1048576 := by omega
        have hD0 : (doneOf (((k, []) :: f2))).length + r.length + 1 ≤ 1048576 := by omega
        clear hr5 hb5 hp
        go_wp2_with (fail)
        go_loopg [] (r).length (fun g wr => CloseRel B rb s f w g wr)
        case atStart => unfold CloseRel; exact ⟨(r), ((k, []) :: f2), (v), HE, HK.out, HR5.out, HB5.out, Nat.le_refl _, hF0, hD0⟩
        case round =>
          obtain ⟨s3, f3, v3, HE3, hk3, hr3, hb3, hg3, hl3, hd3⟩ := hrel
          have HR3 := Lib.hid hr3
          have HB3 := Lib.hid hb3
          have HK3 := Lib.hid hk3
          have hz3 := hb3.size
          clear hr3 hb3 hk3
          cases f3 with
          | nil =>
            go_wp2_with (fail)
            refine (closes_none B rb s3 _ _ HR3.out).mono ?_
            rintro e w' ⟨rfl, rfl⟩
            go_wp2_with (fail)
            go_ret
            exact value_some (HE3.out.trans (by rw [close_nil])) HR3.out HB3.out
          | cons p f4 =>
            obtain ⟨k3, l3⟩ := p
            by_cases hc3 : ∃ r, s3 = clB k3 :: r
            · obtain ⟨r3, rfl⟩ := hc3
              rw [done_cons, List.length_append, List.length_cons] at hd3
              rw [List.length_cons] at hl3 hg3
              go_wp2_with (fail)
              refine (closes_yes B rb r3 f4 k3 (l3 ++ [v3]) _ (by have := HR3.out; rw [done_cons, List.append_assoc] at this; exact this) (HK3.out _ List.mem_cons_self) (by omega) (by rw [List.length_append, List.length_append, List.length_singleton]; omega)).mono ?_
              rintro e w6 ⟨rfl, hr6, hb6⟩
              have HR6 := Lib.hid hr6
              have HB6 := Lib.hid (HB3.out.trans hb6)
              clear hr6 hb6
              go_wp2_with (fail)
              go_roundg r3.length
              case measure => omega
              case rel => unfold CloseRel; exact ⟨r3, f4, .mk k3 0 (l3 ++ [v3]), Lib.hid (by rw [HE3.out, closeF, if_pos rfl]), fun p hp => HK3.out p (List.mem_cons_of_mem _ hp), HR6.out, HB6.out, Nat.le_refl _, by omega, by omega⟩
            · have hpre := prefix_cl _ _ hc3
              have HS3 := Lib.hid (close_stop s3 k3 l3 f4 v3 hc3)
              rw [List.length_cons] at hl3
              clear hc3
              go_wp2_with (fail)
              refine (closes_no B rb s3 (opnOf f4) k3 (doneOf f4).length _ _ HR3.out (HK3.out _ List.mem_cons_self) hpre (by rw [opn_len]; omega)).mono ?_
              rintro e w6 ⟨rfl, hr6, hb6⟩
              have HR6 := Lib.hid hr6
              have HB6 := Lib.hid (HB3.out.trans hb6)
              clear hr6 hb6 hpre
              go_wp2_with (fail)
              go_ret
              exact value_some (HE3.out.trans (by rw [HS3.out])) HR6.out HB6.out
  · rw [decide_eq_false ho] at HVF ⊢
    have HEM : Hid (emptyF false s1 f1 = none) := Lib.hid (by cases s1 <;> rfl)
    have HR2 := HR1
    have HB2 := HB1
    have HL2 := HL1
    obtain ⟨w2, hw2⟩ : ∃ w2, w2 = w1 := ⟨_, rfl⟩
    rw [← hw2] at HR2 HB2 HL2 hz1 ⊢
    clear ho hmore HR1 HB1 HL1 hw2
    cases hp : plainF s1 with
    | none =>
      go_wp2_with (fail)
      refine (plain_any B rb s1 (opnOf (f1)) (doneOf (f1)) w2 HR2.out (by omega) (by omega) (HL2.out)).mono ?_
      intro e w3 hpp
      unfold PlainPost at hpp
      rw [hp] at hpp
      obtain ⟨rfl, _, hb3⟩ := hpp
      have HB5 := Lib.hid (HB2.out.trans hb3)
      have HE : Hid (valueF s f = none) := Lib.hid (HVF.out.trans (rest_none _ _ _ HEM.out hp))
      clear hb3 hp
      go_wp2_with (fail)
      go_ret
      exact value_none HE.out HB5.out
    | some rv =>
      obtain ⟨r, v⟩ := rv
      have hlt := plain_bd hp
      go_wp2_with (fail)
      refine (plain_any B rb s1 (opnOf (f1)) (doneOf (f1)) w2 HR2.out (by omega) (by omega) (HL2.out)).mono ?_
      intro e w5 hpp
      unfold PlainPost at hpp
      rw [hp] at hpp
      obtain ⟨rfl, hr5, hb5⟩ := hpp
      have HR5 := Lib.hid hr5
      have HB5 := Lib.hid (HB2.out.trans hb5)
      have HE : Hid (valueF s f = some (closeF r ((f1)) v)) := Lib.hid (HVF.out.trans (rest_some _ _ _ HEM.out hp))
      have HK := HOK
      have hF0 : ((f1)).length ≤ 1048576 := by omega
      have hD0 : (doneOf ((f1))).length + r.length + 1 ≤ 1048576 := by omega
      clear hr5 hb5 hp
      go_wp2_with (fail)
      go_loopg [] (r).length (fun g wr => CloseRel B rb s f w g wr)
      case atStart => unfold CloseRel; exact ⟨(r), (f1), (v), HE, HK.out, HR5.out, HB5.out, Nat.le_refl _, hF0, hD0⟩
      case round =>
        obtain ⟨s3, f3, v3, HE3, hk3, hr3, hb3, hg3, hl3, hd3⟩ := hrel
        have HR3 := Lib.hid hr3
        have HB3 := Lib.hid hb3
        have HK3 := Lib.hid hk3
        have hz3 := hb3.size
        clear hr3 hb3 hk3
        cases f3 with
        | nil =>
          go_wp2_with (fail)
          refine (closes_none B rb s3 _ _ HR3.out).mono ?_
          rintro e w' ⟨rfl, rfl⟩
          go_wp2_with (fail)
          go_ret
          exact value_some (HE3.out.trans (by rw [close_nil])) HR3.out HB3.out
        | cons p f4 =>
          obtain ⟨k3, l3⟩ := p
          by_cases hc3 : ∃ r, s3 = clB k3 :: r
          · obtain ⟨r3, rfl⟩ := hc3
            rw [done_cons, List.length_append, List.length_cons] at hd3
            rw [List.length_cons] at hl3 hg3
            go_wp2_with (fail)
            refine (closes_yes B rb r3 f4 k3 (l3 ++ [v3]) _ (by have := HR3.out; rw [done_cons, List.append_assoc] at this; exact this) (HK3.out _ List.mem_cons_self) (by omega) (by rw [List.length_append, List.length_append, List.length_singleton]; omega)).mono ?_
            rintro e w6 ⟨rfl, hr6, hb6⟩
            have HR6 := Lib.hid hr6
            have HB6 := Lib.hid (HB3.out.trans hb6)
            clear hr6 hb6
            go_wp2_with (fail)
            go_roundg r3.length
            case measure => omega
            case rel => unfold CloseRel; exact ⟨r3, f4, .mk k3 0 (l3 ++ [v3]), Lib.hid (by rw [HE3.out, closeF, if_pos rfl]), fun p hp => HK3.out p (List.mem_cons_of_mem _ hp), HR6.out, HB6.out, Nat.le_refl _, by omega, by omega⟩
          · have hpre := prefix_cl _ _ hc3
            have HS3 := Lib.hid (close_stop s3 k3 l3 f4 v3 hc3)
            rw [List.length_cons] at hl3
            clear hc3
            go_wp2_with (fail)
            refine (closes_no B rb s3 (opnOf f4) k3 (doneOf f4).length _ _ HR3.out (HK3.out _ List.mem_cons_self) hpre (by rw [opn_len]; omega)).mono ?_
            rintro e w6 ⟨rfl, hr6, hb6⟩
            have HR6 := Lib.hid hr6
            have HB6 := Lib.hid (HB3.out.trans hb6)
            clear hr6 hb6 hpre
            go_wp2_with (fail)
            go_ret
            exact value_some (HE3.out.trans (by rw [HS3.out])) HR6.out HB6.out
end Go.Proofs.YtjbdfckanabepaaDoor.vt

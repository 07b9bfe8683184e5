/- Read: the value of a text. -/
import Derived.Test.YtjbdfckanabepaaDoorValValue
namespace Go.Proofs.YtjbdfckanabepaaDoor.vt
open Go.RowKit mem

theorem close_len : ∀ (r : List UInt8) (f : Frames) (v : VT), (closeF r f v).1.length ≤ r.length
  | [], f, v => by cases f <;> exact Nat.le_refl _
  | c :: r, [], v => Nat.le_refl _
  | c :: r, (k, l) :: f, v => by
    rw [closeF]
    split
    · have := close_len r f (.mk k 0 (l ++ [v]))
      rw [List.length_cons]; omega
    · exact Nat.le_refl _
theorem value_bd {s : List UInt8} {f : Frames} {r : List UInt8} {f' : Frames} {v : VT} (h : valueF s f = some (r, f', v)) (hk : kindsF f) :
    kindsF f' ∧ f'.length + r.length ≤ f.length + s.length ∧ (doneOf f').length + 1 + r.length ≤ (doneOf f).length + s.length ∧ r.length ≤ s.length := by
  obtain ⟨h1, h2, h3⟩ := opens_bd s f hk
  have hle := opens_ok.opens_len s f
  unfold valueF at h
  generalize opensF s f = p at h h1 h2 h3 hle
  obtain ⟨s1, f1⟩ := p
  dsimp only at h h1 h2 h3 hle
  unfold restF at h
  rw [← h3]
  split at h
  · rename_i r1 f2 v1 he
    injection h with h
    generalize decide (f.length < f1.length) = b at he
    cases b with
    | false => simp [emptyF] at he
    | true =>
      cases s1 with
      | nil => simp [emptyF] at he
      | cons c s1 =>
        cases f1 with
        | nil => simp [emptyF] at he
        | cons q f1 =>
          obtain ⟨k, l⟩ := q
          rw [emptyF] at he
          split at he
          · injection he with he
            injection he with e1 he
            injection he with e2 e3
            subst e1 e2 e3
            obtain ⟨a, b, c⟩ := close_bd s1 f1 (.mk k 0 l) (fun p hp => h1 p (by simp [hp]))
            have d := close_len s1 f1 (.mk k 0 l)
            rw [h] at a b c d
            dsimp only at a b c d
            rw [List.length_cons, List.length_cons] at h2
            rw [List.length_cons] at hle
            rw [done_cons, List.length_append]
            refine ⟨a, by omega, by omega, by omega⟩
          · cases he
  · split at h
    · rename_i r1 v1 hp
      injection h with h
      have hlt := plain_bd hp
      obtain ⟨a, b, c⟩ := close_bd r1 f1 v1 h1
      have d := close_len r1 f1 v1
      rw [h] at a b c d
      dsimp only at a b c d
      exact ⟨a, by omega, by omega, by omega⟩
    · cases h
theorem prefix_two (s : List UInt8) (h : ¬ ∃ r, s = 44 :: 32 :: r) : Lib.hasPrefix s [44, 32] = false := by
  rcases s with _ | ⟨a, _ | ⟨b, r⟩⟩
  · rfl
  · show (44 == a && false) = false
    rw [Bool.and_false]
  · show (44 == a && (32 == b && true)) = false
    by_cases ha : a = 44
    · subst ha
      by_cases hb : b = 32
      · subst hb; exact absurd ⟨r, rfl⟩ h
      · simp [Ne.symm hb]
    · simp [Ne.symm ha]
theorem cont_no (n : Nat) (s : List UInt8) (k : Int) (l : List VT) (f : Frames) (v : VT) (h : ¬ ∃ r, s = 44 :: 32 :: r) : contF n (s, (k, l) :: f, v) = none := by
  unfold contF
  split
  · rename_i r' k' l' f' v' he
    injection he with e1 e2
    exact absurd ⟨r', e1⟩ h
  · rename_i v' he
    injection he with e1 e2
    injection e2 with e2 _
    cases e2
  · rfl
theorem cont_end (n : Nat) (s : List UInt8) (v : VT) (h : s ≠ []) : contF n (s, [], v) = none := by
  cases s with
  | nil => exact absurd rfl h
  | cons a r =>
    unfold contF
    split
    · rename_i he
      injection he with _ e2
      injection e2 with e2 _
      cases e2
    · rename_i he
      injection he with e1 _
      cases e1
    · rfl
def ReadPost (l : List UInt8) (w : World) (e : Ending) (w' : World) : Prop :=
  match readS6 l with
  | some v => ∃ sk, e = .returned (.tuple #[.agg #[.int .i64 v.kind, .int .i64 v.num, sk], .int .i64 0]) ∧ Kids (fun b => w.heap.size ≤ b) w' v.kids sk ∧ Below w.heap.size w w' ∧ I64 v.kind ∧ I64 v.num
  | none => e = .returned (.tuple #[.agg #[.int .i64 0, .int .i64 0, .slice none 0 0], .int .i64 1]) ∧ Below w.heap.size w w'
theorem read_none {l : List UInt8} {w w' : World} (h : readS6 l = none) (hb : Below w.heap.size w w') : ReadPost l w (.returned (.tuple #[.agg #[.int .i64 0, .int .i64 0, .slice none 0 0], .int .i64 1])) w' := by
  unfold ReadPost; rw [h]; exact ⟨rfl, hb⟩
theorem read_some {l : List UInt8} {v : VT} {w w' : World} {sk : Value} (h : readS6 l = some v) (hk : Kids (fun b => w.heap.size ≤ b) w' v.kids sk) (hb : Below w.heap.size w w') (hi : I64 v.kind ∧ I64 v.num) : ReadPost l w (.returned (.tuple #[.agg #[.int .i64 v.kind, .int .i64 v.num, sk], .int .i64 0])) w' := by
  unfold ReadPost; rw [h]; exact ⟨sk, rfl, hk, hb, hi⟩
def ReadRel (B rb L : Nat) (R : Option VT) (W : World) (g : Nat) (wr : World) : Prop :=
  ∃ (s : List UInt8) (f : Frames), Hid (readF g s f = R) ∧ s.length < g ∧ kindsF f ∧ Rdr B rb s (opnOf f) (doneOf f) wr ∧ Below B W wr ∧ f.length + s.length ≤ L ∧ (doneOf f).length + s.length ≤ L
theorem rdr_new (w : World) (N : Nat) (hN : N = w.heap.size) (s : List UInt8) : Rdr N N s [] [] (w.alloc (.cells #[.string ⟨s.toArray⟩, .slice none 0 0, .slice none 0 0] 52)) := by
  refine ⟨Nat.le_refl _, .slice none 0 0, .slice none 0 0, [], heap_new w N hN _, World.ownsRow_nil _ _ _ _, World.ownsRow_nil _ _ _ _, by rw [Vals]⟩
/-- the one value that is done -/
theorem done_one {B rb : Nat} {s : List UInt8} {o : List (Int × Nat)} {v : VT} {w : World} (h : Rdr B rb s o [v] w) :
    ∃ g c A n q, w.cell? ⟨rb, 2, none⟩ = some (.slice (some ⟨g, 0, none⟩) 1 c) ∧ B ≤ g ∧ w.cell? ⟨g, 0, none⟩ = some (.int .i64 v.kind) ∧ w.cell? ⟨g, 1, none⟩ = some (.int .i64 v.num) ∧ w.cell? ⟨g, 2, none⟩ = some (.slice A n q) ∧ Hid (Kids (fun b => B ≤ b) w v.kids (.slice A n q)) ∧ I64 v.kind ∧ I64 v.num := by
  obtain ⟨hB, vo, vd, vs, hh, ho, hd, hv⟩ := h
  rw [Vals] at hv
  obtain ⟨sk, rest, rfl, i1, i2, hk, hr⟩ := hv
  rw [Vals] at hr
  subst hr
  obtain ⟨A, q, rfl, _⟩ := hk.form
  rcases hd.2 with ⟨_, hn⟩ | ⟨g, cap, cur, hs, hb, hg, hnc, hcm, hcs, htake⟩
  · simp at hn
  · subst hs
    have c0 := hd.cellAt 0 (by simp)
    have c1 := hd.cellAt 1 (by simp)
    have c2 := hd.cellAt 2 (by simp)
    exact ⟨g, cap, A, _, q, cell_of_row w rb 2 _ _ _ hh, hb, c0, c1, c2, Lib.hid (hk.mono fun b hb => hb.1), i1, i2⟩
theorem rdr_open {B rb : Nat} {s : List UInt8} {f : Frames} {d : List VT} {w : World} (h : Rdr B rb s (opnOf f) d w) : ∃ A c, w.cell? ⟨rb, 1, none⟩ = some (.slice A f.length c) := by
  obtain ⟨hB, vo, vd, vs, hh, ho, _⟩ := h
  obtain ⟨A, c, rfl⟩ := own_form ho
  rw [opn_len] at hh
  exact ⟨A, c, cell_of_row w rb 1 _ _ _ hh⟩
set_option maxHeartbeats 2000000 in
set_option maxRecDepth 100000 in
theorem read_any (L : Nat) (l : List UInt8) (w : World) (hs : l.length ≤ L) (hLL : L ≤ 1048576) (hL : whole.Laid w.heap.size w) :
    Calls Tryd.prog 19 #[.string ⟨l.toArray⟩] w (ReadPost l w) := by
  obtain ⟨N, hN⟩ : ∃ N, N = w.heap.size := ⟨_, rfl⟩
  go_enter Tryd.func19, Tryd.ntmps19
  go_wp2_with (fail)
  rw [← hN]
  obtain ⟨W0, hW0⟩ : ∃ W0, W0 = w.alloc (.cells #[.int .i64 0, .int .i64 0, .slice none 0 0] 24) := ⟨_, rfl⟩
  have hsz0 : W0.heap.size = N + 1 := by rw [hW0, hN]; simp
  have HB0 : Hid (Below N w W0) := Lib.hid (by rw [hW0, hN]; exact (Below.refl _ _).alloc (Nat.le_refl _) _)
  have HZ : Hid (∀ wr, Below (N + 1) W0 wr → ∀ i, wr.cell? ⟨N, i, none⟩ = #[.int .i64 0, .int .i64 0, .slice none 0 0][i]? ∧ wr.frozen? ⟨N, i, none⟩ = false) := Lib.hid (fun wr hb i => by
    rw [hW0] at hb; exact cell_since hN hb i)
  have HL0 : Hid (whole.Laid (N + 1) W0) := Lib.hid (laid_high (hL.on (by rw [← hN]; exact HB0.out)) (by omega))
  rw [← hW0]
  have HR0 := Lib.hid (rdr_new W0 (N + 1) hsz0.symm l)
  have HBW : Hid (∀ wr, Below (N + 1) W0 wr → Below w.heap.size w wr) := Lib.hid (fun wr hb => by rw [← hN]; exact HB0.out.trans (hb.mono (by omega)))
  have HRN : Hid (readF (l.length + 1) l [] = readS6 l) := Lib.hid rfl
  have HN := Lib.hid hN
  clear hW0 hL hN
  go_loopg [] (l.length + 1) (fun g wr => ReadRel (N + 1) (N + 1) L (readS6 l) W0 g wr)
  case atStart =>
    unfold ReadRel
    exact ⟨l, [], HRN, Nat.lt_succ_self _, (fun p hp => by cases hp), HR0.out, (Below.refl _ _).alloc (by omega) _, by rw [List.length_nil]; omega, by show (opnOf.doneOf []).length + _ ≤ _; rw [opnOf.doneOf, List.length_nil]; omega⟩
  case round =>
    obtain ⟨s, f, HF, hsg, hk, hr, hb, hl1, hl2⟩ := hrel
    have HK := Lib.hid hk
    have HR := Lib.hid hr
    have HB := Lib.hid hb
    have hz := hb.size
    have HLR := Lib.hid (HL0.out.on hb)
    obtain ⟨n, rfl⟩ : ∃ n, gk = n + 1 := ⟨gk - 1, by omega⟩
    clear hk hr hb
    cases hv : valueF s f with
    | none =>
      have HE : Hid (readS6 l = none) := Lib.hid (by rw [← HF.out, readF_succ, hv]; rfl)
      have HVA := Lib.hid (value_any (N + 1) (N + 1) L s f wr HR.out HK.out hl1 hl2 hLL (by omega) HLR.out)
      go_wp2_with (fail)
      refine HVA.out.mono ?_
      intro e w1 hp
      unfold ValuePost at hp
      rw [hv] at hp
      obtain ⟨rfl, hb1⟩ := hp
      have HB1 := Lib.hid (HB.out.trans hb1)
      have z := HZ.out _ HB1.out
      have z0 := (z 0).2
      have z1 := (z 1).2
      have z2 := (z 2).2
      have y0 := (z 0).1
      have y1 := (z 1).1
      have y2 := (z 2).1
      clear hb1 z hv
      go_wp2_with (fail)
      refine bodyPost_ret (v := .tuple #[.agg #[.int .i64 0, .int .i64 0, .slice none 0 0], .int .i64 1]) (by simp [results, Tryd.results19, go_sem, y0, y1, y2]) rfl (read_none HE.out (below_told (HBW.out _ HB1.out) (by rw [← HN.out]; exact Nat.le_refl _)))
    | some rv =>
      obtain ⟨r, f', v⟩ := rv
      obtain ⟨hk', hd1, hd2, hd3⟩ := value_bd hv HK.out
      have HV := Lib.hid hv
      have HVA := Lib.hid (value_any (N + 1) (N + 1) L s f wr HR.out HK.out hl1 hl2 hLL (by omega) HLR.out)
      go_wp2_with (fail)
      refine HVA.out.mono ?_
      intro e w1 hp
      unfold ValuePost at hp
      rw [hv] at hp
      obtain ⟨rfl, hr1, hb1⟩ := hp
      have HB1 := Lib.hid (HB.out.trans hb1)
      have HR1 := Lib.hid hr1
      have z := HZ.out _ HB1.out
      have z0 := (z 0).2
      have z1 := (z 1).2
      have z2 := (z 2).2
      have y0 := (z 0).1
      have y1 := (z 1).1
      have y2 := (z 2).1
      clear hb1 hr1 z hv
      have HK1 := Lib.hid hk'
      obtain ⟨c0, _⟩ := HR1.out.cell0
      clear hk'
      cases f' with
      | nil =>
        obtain ⟨A1, q1, c1⟩ := rdr_open HR1.out
        simp only [List.length_nil] at c1
        by_cases hr : r = []
        · subst hr
          obtain ⟨g, cc, A, m, q, c2, hBg, x0, x1, x2, hkid, hi64⟩ := done_one HR1.out
          have HE : Hid (readS6 l = some v) := Lib.hid (by rw [← HF.out, readF_succ, HV.out]; rfl)
          go_wp2_with (fail)
          refine bodyPost_ret (v := .tuple #[.agg #[.int .i64 v.kind, .int .i64 v.num, .slice A m q], .int .i64 0]) (by simp [results, Tryd.results19, go_sem, y0, y1, y2]) rfl (read_some HE.out ?_ (below_told (HBW.out _ HB1.out) (by rw [← HN.out]; exact Nat.le_refl _)) hi64)
          exact (((hkid.out.set fun c hc _ => by omega).set fun c hc _ => by omega).set fun c hc _ => by omega).mono fun b hb => by have := HN.out; omega
        · have HE : Hid (readS6 l = none) := Lib.hid (by rw [← HF.out, readF_succ, HV.out]; exact cont_end n r v hr)
          obtain ⟨a, r9, rfl⟩ : ∃ a r9, r = a :: r9 := by
            cases r with
            | nil => exact absurd rfl hr
            | cons a r9 => exact ⟨a, r9, rfl⟩
          go_wp2_with (fail)
          refine bodyPost_ret (v := .tuple #[.agg #[.int .i64 0, .int .i64 0, .slice none 0 0], .int .i64 1]) (by simp [results, Tryd.results19, go_sem, y0, y1, y2]) rfl (read_none HE.out (below_told (HBW.out _ HB1.out) (by rw [← HN.out]; exact Nat.le_refl _)))
      | cons p f2 =>
        obtain ⟨k, l2⟩ := p
        obtain ⟨A1, q1, c1⟩ := rdr_open HR1.out
        rw [List.length_cons] at c1
        have hpos : (0 : Int) < f2.length + 1 := by omega
        by_cases hp : ∃ r2, r = 44 :: 32 :: r2
        · obtain ⟨r2, rfl⟩ := hp
          have HT := Lib.hid (take_any (N + 1) (N + 1) (44 :: 32 :: r2) [44, 32] _ _ w1 HR1.out)
          have HF2 : Hid (readF n r2 ((k, l2 ++ [v]) :: f2) = readS6 l) := Lib.hid (by rw [← HF.out, readF_succ, HV.out]; rfl)
          rw [done_cons, List.length_append] at hd2
          rw [List.length_cons, List.length_cons] at hd2 hd1
          rw [List.length_cons] at hd1
          rw [List.length_cons, List.length_cons] at hd3
          go_wp2_with (fail)
          refine HT.out.mono ?_
          rintro e w2 ⟨rfl, hr2, hb2, _⟩
          rw [show Lib.hasPrefix (44 :: 32 :: r2) [44, 32] = true from rfl]
          rw [show Lib.trimPrefix (44 :: 32 :: r2) [44, 32] = r2 from rfl] at hr2
          have HR2 : Hid (Rdr (N + 1) (N + 1) r2 (opnOf ((k, l2 ++ [v]) :: f2)) (doneOf ((k, l2 ++ [v]) :: f2)) w2) := Lib.hid (by
            rw [done_cons, ← List.append_assoc]; exact hr2)
          have HB2 := Lib.hid (HB1.out.trans hb2)
          clear hr2 hb2
          go_wp2_with (fail)
          go_roundg n
          case measure => omega
          case rel =>
            unfold ReadRel
            refine ⟨r2, (k, l2 ++ [v]) :: f2, HF2, by omega, fun p hp => ?_, HR2.out, HB2.out, by rw [List.length_cons]; omega, by rw [done_cons, List.length_append, List.length_append, List.length_singleton]; omega⟩
            rcases List.mem_cons.1 hp with rfl | hp
            · exact HK1.out (k, l2) List.mem_cons_self
            · exact HK1.out p (List.mem_cons_of_mem _ hp)
        · have HT := Lib.hid (take_any (N + 1) (N + 1) r [44, 32] _ _ w1 HR1.out)
          have HE : Hid (readS6 l = none) := Lib.hid (by rw [← HF.out, readF_succ, HV.out]; exact cont_no n r k l2 f2 v hp)
          have HPR := Lib.hid (prefix_two r hp)
          clear hp z0 z1 z2 y0 y1 y2
          go_wp2_with (fail)
          refine HT.out.mono ?_
          rintro e w2 ⟨rfl, hr2, hb2, _⟩
          rw [HPR.out]
          obtain ⟨A2, q2, d1⟩ := rdr_open hr2
          rw [List.length_cons] at d1
          have HB1 := Lib.hid (HB1.out.trans hb2)
          have z := HZ.out _ HB1.out
          have z0 := (z 0).2
          have z1 := (z 1).2
          have z2 := (z 2).2
          have y0 := (z 0).1
          have y1 := (z 1).1
          have y2 := (z 2).1
          clear hr2 hb2 z c0 c1
          go_wp2_with (fail)
          refine bodyPost_ret (v := .tuple #[.agg #[.int .i64 0, .int .i64 0, .slice none 0 0], .int .i64 1]) (by simp [results, Tryd.results19, go_sem, y0, y1, y2]) rfl (read_none HE.out (below_told (HBW.out _ HB1.out) (by rw [← HN.out]; exact Nat.le_refl _)))
end Go.Proofs.YtjbdfckanabepaaDoor.vt

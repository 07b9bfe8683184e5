/- The bytes of values, one behind the other. -/
import Derived.Test.YtnjcapenkoemlaaCellLong
import Derived.Test.YtnjcapenkoemlaaValClone
namespace Go.Proofs.Ytnjcapenkoemlaa.vt.ce
open Go.RowKit mem vt

/-- the bytes of the right ones of a list -/
def packB (l : List VT) : List UInt8 := l.flatMap bytesT
theorem packB_append (a b : List VT) : packB (a ++ b) = packB a ++ packB b := by unfold packB; rw [List.flatMap_append]
theorem packB_one (t : VT) : packB [t] = bytesT t := by unfold packB; simp
theorem packB_take (l : List VT) (k : Nat) (h : k < l.length) : packB (l.take (k + 1)) = packB (l.take k) ++ bytesT l[k] := by
  rw [List.take_succ_eq_append_getElem h, packB_append, packB_one]
theorem packB_take_le (l : List VT) (k : Nat) : (packB (l.take k)).length ≤ (packB l).length := by
  conv => rhs; rw [← List.take_append_drop k l, packB_append, List.length_append]
  omega
/-- bytes that are told in new memory -/
def BtsPost (L : List UInt8) (w : World) (e : Ending) (w' : World) : Prop := ∃ s, e = .returned s ∧ Bts (fun b => w.heap.size ≤ b) w' L s ∧ Below w.heap.size w w'
def PackRel (N : Nat) (l : List VT) (w : World) (a i : Value) (wr : World) : Prop :=
  ∃ k : Nat, k ≤ N ∧ i = .int .i64 k ∧ Put w.heap.size (packB (l.take k)) (.slice none 0 0) w a wr
theorem Put.on {B : Nat} {acc : List UInt8} {v a : Value} {w wr w2 : World} (h : Put B acc v w a wr) (hb : Below wr.heap.size wr w2) : Put B acc v w a w2 :=
  ⟨own_below h.1 hb, grown_trans h.2.1 (grown_below (r := none) hb (Nat.le_refl _)) (fun k e => by cases e), h.2.2⟩
theorem put_bts {acc : List UInt8} {a : Value} {w wr : World} (h : Put w.heap.size acc (.slice none 0 0) w a wr) : BtsPost acc w (.returned a) wr :=
  ⟨a, rfl, (Bts.of_own h.1).mono fun b hb => (h.1.lt b hb).1, h.below (fun k e => by cases e) (Nat.le_refl _)⟩
set_option maxHeartbeats 1000000 in
set_option maxRecDepth 100000 in
theorem pack_any {G : Nat → Prop} (l : List VT) (s : Value) (w : World) (h : Kids G w l s) (hl : (packB l).length ≤ 1099511627776) :
    Calls Try.prog 14 #[s] w (BtsPost (packB l) w) := by
  have hk : Kids (· < w.heap.size) w l s := h.lt.mono fun b hb => hb.2
  have hfits := h.fits
  obtain ⟨A, cap, rfl, hll⟩ := h.form
  obtain ⟨N, hN⟩ : ∃ N, N = l.length := ⟨_, rfl⟩
  have hN64 : N ≤ 9223372036854775807 := by omega
  have HN := Lib.hid hN
  have HPS : Hid (∀ k (hkl : k < l.length) (a : Value) (wr : World), Put w.heap.size (packB (l.take k)) (.slice none 0 0) w a wr → ∃ b off cap' s', (Value.slice A N cap) = .slice (some ⟨b, off, none⟩) N cap' ∧ (wr.cell? ⟨b, off + k * 3, none⟩ = some (.int .i64 l[k].kind) ∧ wr.cell? ⟨b, off + k * 3 + 1, none⟩ = some (.int .i64 l[k].num) ∧ wr.cell? ⟨b, off + k * 3 + 2, none⟩ = some s') ∧ (∃ A' c', s' = .slice A' l[k].kids.length c') ∧
      ∀ o, Calls Try.prog 20 #[.agg #[.int .i64 l[k].kind, .int .i64 l[k].num, s']] (wr.alloc o) fun e w' => e = .returned (.bool l[k].right) ∧ Below (wr.alloc o).heap.size (wr.alloc o) w' ∧
        (l[k].right = false → Put w.heap.size (packB (l.take (k + 1))) (.slice none 0 0) w a w') ∧
        (l[k].right = true → Calls Try.prog 23 #[a, .agg #[.int .i64 l[k].kind, .int .i64 l[k].num, s']] w' fun e w'' => ∃ v', e = .returned v' ∧ Put w.heap.size (packB (l.take (k + 1))) (.slice none 0 0) w v' w'')) := Lib.hid fun k hkl a wr hp => by
    have hlow : Below w.heap.size w wr := hp.below (fun k e => by cases e) (Nat.le_refl _)
    have hkk := kids_low hk hlow
    obtain ⟨b, off, cap', hs, hbB, i1, i2, c0, c1, s', c2, h3⟩ := hkk.at_ k hkl
    refine ⟨b, off, cap', s', by rw [hN]; exact hs, ⟨c0, c1, c2⟩, ?_, fun o => ?_⟩
    · obtain ⟨A', c', e, _⟩ := h3.form; exact ⟨A', c', e⟩
    · have hz : w.heap.size ≤ (wr.alloc o).heap.size := by have := hp.2.1.size; rw [World.size_alloc]; omega
      have h4 := kids_low h3 ((Below.refl w.heap.size wr).alloc hp.2.1.size o)
      refine (right_any _ s' _ h4).mono fun e w' hh => ⟨hh.1, hh.2, fun hr => ?_, fun hr => ?_⟩
      · have h5 := (hp.alloc o).on hh.2
        rw [packB_take l k hkl, bytesT_no hr, List.append_nil]; exact h5
      · have h5 := (hp.alloc o).on hh.2
        have hbt := packB_take_le l (k + 1)
        rw [packB_take l k hkl, bytesT_yes hr, List.length_append] at hbt
        refine (put_any _ w.heap.size _ a s' w' hr (fitsL_mem hfits _ (List.getElem_mem hkl)) (kids_low h4 (hh.2.mono hz)) h5.1 (by have := hh.2.size; omega) (by omega)).mono ?_
        rintro e w'' ⟨v', rfl, hq⟩
        refine ⟨v', rfl, ?_⟩
        rw [packB_take l k hkl, bytesT_yes hr]
        exact h5.trans hq
  have HP0 : Hid (Put w.heap.size [] (.slice none 0 0) w (.slice none 0 0) w) := Lib.hid (Put.refl (World.ownsRow_nil _ _ _ _))
  rw [← hN]
  clear h hk hfits hll hl hN
  go_enter Try.func14, Try.ntmps14
  go_wp2_with (fail)
  go_loopw [3, 8] (fun a i wr => PackRel N l w a i wr) (fun _ i _ => N - (intOf i).toNat)
  case atStart => unfold PackRel; exact ⟨0, Nat.zero_le _, rfl, by rw [List.take_zero]; exact HP0.out⟩
  case round =>
    obtain ⟨k, hk, rfl, hp⟩ := hrel
    by_cases hlt : k < N
    · have hkl : k < l.length := by have := HN.out; omega
      obtain ⟨b, off, cap', s', hs, ⟨d0, d1, d2⟩, ⟨A', c', rfl⟩, HI⟩ := HPS.out k hkl _ wr hp
      injection hs with hA' hL hC
      subst hA'
      subst hC
      clear hL
      obtain ⟨Ar, cr, rfl⟩ := own_form hp.1
      clear hp
      obtain ⟨u, hu⟩ : ∃ u, u = l[k] := ⟨_, rfl⟩
      rw [← hu] at d0 d1 d2 HI
      obtain ⟨M, hM⟩ : ∃ M, M = u.kids.length := ⟨_, rfl⟩
      rw [← hM] at d2 HI
      generalize (packB (l.take k)).length = m4 at HI ⊢
      have HI := Lib.hid HI
      clear hM hu
      go_wp2_with (fail)
      refine (HI.out _).mono ?_
      rintro e w3 ⟨rfl, hb3, hno, hyes⟩
      rw [World.size_alloc] at hb3
      obtain ⟨e0, e1, e2⟩ := (show w3.cell? ⟨wr.heap.size, 0, none⟩ = some (.int .i64 u.kind) ∧ w3.cell? ⟨wr.heap.size, 1, none⟩ = some (.int .i64 u.num) ∧ w3.cell? ⟨wr.heap.size, 2, none⟩ = some (.slice A' M c') from ⟨(cell_since rfl hb3 0).1, (cell_since rfl hb3 1).1, (cell_since rfl hb3 2).1⟩)
      cases hr : u.right
      · have HQ := Lib.hid (hno hr)
        clear hno hyes hr hb3 HI
        go_wp2_with (fail)
        go_roundw
        case rel => unfold PackRel; exact ⟨k + 1, by omega, by go_num, HQ.out⟩
        case measure => simp [intOf]; omega
      · have HQ := Lib.hid (hyes hr)
        clear hno hyes hr hb3 HI
        go_wp2_with (go_at_call 23; refine HQ.out.mono ?_; rintro e w4 ⟨v', rfl, hq4⟩; have HQ4 := Lib.hid hq4; clear hq4)
        go_roundw
        case rel => unfold PackRel; exact ⟨k + 1, by omega, by go_num, HQ4.out⟩
        case measure => simp [intOf]; omega
    · have HE := Lib.hid (put_bts (show Put w.heap.size (packB l) (.slice none 0 0) w _ wr by
        rw [List.take_of_length_le (by have := HN.out; omega)] at hp
        exact hp))
      clear hp
      go_wp2
      go_ret
      exact HE.out
theorem kids_one {G : Nat → Prop} (w : World) {u : VT} {s : Value} (hu : I64 u.kind ∧ I64 u.num) (h1 : Kids G w u.kids s) :
    Kids (fun _ => True) (w.alloc (.cells #[.int .i64 u.kind, .int .i64 u.num, s] 24)) [u] (.slice (some ⟨w.heap.size, 0, none⟩) 1 1) := by
  have hb := (Below.refl w.heap.size w).alloc (Nat.le_refl _) (.cells #[.int .i64 u.kind, .int .i64 u.num, s] 24)
  refine ⟨_, 1, rfl, ⟨by simp, fun h => by cases h⟩, fun _ => ⟨w.heap.size, 0, rfl, trivial, ?_⟩⟩
  rw [row_cons]
  exact ⟨⟨hu.1, hu.2, cell_new w _ rfl _ _ 0, cell_new w _ rfl _ _ 1, s, cell_new w _ rfl _ _ 2, (h1.mono fun _ _ => trivial).below hb⟩, by rw [Row]; trivial⟩
theorem BtsPost.from {L : List UInt8} {w w0 : World} {e : Ending} {w' : World} (h : BtsPost L w0 e w') (hb : Below w.heap.size w w0) : BtsPost L w e w' := by
  obtain ⟨s, he, hs, hb'⟩ := h
  exact ⟨s, he, hs.mono fun b hlt => Nat.le_trans hb.size hlt, hb.trans (hb'.mono hb.size)⟩
theorem bytes_any {G : Nat → Prop} (t : VT) (s : Value) (w : World) (hi : I64 t.kind ∧ I64 t.num) (h : Kids G w t.kids s) (hl : (bytesT t).length ≤ 1099511627776) :
    Calls Try.prog 8 #[.agg #[.int .i64 t.kind, .int .i64 t.num, s]] w (BtsPost (bytesT t) w) := by
  have hb0 := (Below.refl w.heap.size w).alloc (Nat.le_refl _) (.cells #[.int .i64 t.kind, .int .i64 t.num, s] 24)
  have hb1 := hb0.alloc (by simp) (.cells #[.int .i64 t.kind, .int .i64 t.num, s] 24)
  have HP := Lib.hid (pack_any [t] _ _ (kids_one (w.alloc (.cells #[.int .i64 t.kind, .int .i64 t.num, s] 24)) hi (h.below hb0)) (by rw [packB_one]; exact hl))
  rw [packB_one, World.size_alloc] at HP
  have HB := Lib.hid hb1
  obtain ⟨A, cap, rfl, _⟩ := h.form
  generalize t.kids.length = N at HP HB ⊢
  clear h hl hb0 hb1 hi
  go_enter Try.func8, Try.ntmps8
  go_wp2_with (go_at_call 14; refine HP.out.mono ?_; intro e w1 hp; have hp2 := hp.from HB.out; obtain ⟨s1, rfl, _⟩ := hp; have HE := Lib.hid hp2; clear hp2)
  go_ret
  exact HE.out
end Go.Proofs.Ytnjcapenkoemlaa.vt.ce

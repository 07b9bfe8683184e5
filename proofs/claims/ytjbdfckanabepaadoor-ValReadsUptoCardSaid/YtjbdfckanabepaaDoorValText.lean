/- A value's text, as the package writes it. -/
import Derived.Test.YtjbdfckanabepaaDoorValRefText
import Derived.Test.YtjbdfckanabepaaDoorValBuilder
import Derived.Test.YtjbdfckanabepaaDoorValClone
namespace Go.Proofs.YtjbdfckanabepaaDoor.vt
open Go.RowKit mem whole

/-- what a call of write or writeAll leaves -/
abbrev WroteAll (B b : Nat) (l : List UInt8) (w : World) (e : Ending) (w' : World) : Prop := Wrote B b l (.tuple #[]) w e w'
def WriteOf (t : VT) : Prop := ∀ (B b : Nat) (bs : List UInt8) (s : Value) (w : World), Kids (fun c => c < B) w t.kids s → t.right = true → t.fits → t.size ≤ 1048576 → Bld B b bs w → B ≤ w.heap.size → Laid B w → bs.length + t.text.length ≤ 50331648 →
    Calls Tryd.prog 27 #[.pointer (some ⟨b, 0, none⟩), .agg #[.int .i64 t.kind, .int .i64 t.num, s]] w (WroteAll B b (bs ++ t.text) w)
theorem Bld.alloc {B b : Nat} {l : List UInt8} {w : World} (h : Bld B b l w) (o : Obj) : Bld B b l (w.alloc o) := by
  rcases h with ⟨hB, v, hb, hown, hne⟩ | ⟨hB, v, hb, hown, hne⟩
  · exact Or.inl ⟨hB, v, by rw [Below.heap_alloc _ _ _ (Array.getElem?_eq_some_iff.1 hb).1]; exact hb, hown.alloc _, hne⟩
  · exact Or.inr ⟨hB, v, by rw [Below.heap_alloc _ _ _ (Array.getElem?_eq_some_iff.1 hb).1]; exact hb, hown.alloc _, hne⟩
theorem Wrote.seq {B b : Nat} {l l' : List UInt8} {r r' : Value} {w w1 w2 : World} {e e' : Ending} (h : Wrote B b l r w e w1) (h' : Wrote B b l' r' w1 e' w2) : Bld B b l' w2 ∧ Below B w w2 ∧ TK w w2 :=
  ⟨h'.2.1, h.2.2.1.trans h'.2.2.1, h.2.2.2.trans h'.2.2.2⟩
theorem str_data (l : List UInt8) : (⟨l.toArray⟩ : ByteArray).data.toList = l := rfl
theorem textL_take_le (l : List VT) (k : Nat) : (textL (l.take k)).length ≤ (textL l).length := by
  conv => rhs; rw [← List.take_append_drop k l]
  cases l.take k with
  | nil => simp [textL]
  | cons v r => rw [List.cons_append, textL, textL, tailL_append]; simp only [List.length_append]; omega
/-- the texts of the first kids are written -/
def Upto (B b N : Nat) (l : List VT) (bs : List UInt8) (w : World) (i : Value) (wr : World) : Prop :=
  ∃ (k : Nat) (acc : List UInt8), k ≤ N ∧ i = .int .i64 k ∧ Hid (acc = textL (l.take k)) ∧ Bld B b (bs ++ acc) wr ∧ Below B w wr ∧ TK w wr
theorem write_step (l : List VT) (k : Nat) (hk : k < l.length) (n : Nat) (hs : n + (textL l).length ≤ 50331648) (acc : List UInt8) (h : acc = textL (l.take k)) :
    acc ++ (if k = 0 then [] else [44, 32]) ++ l[k].text = textL (l.take (k + 1)) ∧ n + (acc ++ (if k = 0 then [] else [44, 32]) ++ l[k].text).length ≤ 50331648 := by
  have e := textL_take l k hk
  rw [h, ← e]
  refine ⟨rfl, ?_⟩
  have h1 := textL_take_le l (k + 1)
  omega
theorem tk_cell {w w1 : World} {N : Nat} {cs : Array Value} {fr : Nat × Nat} (h : TK w w1) (hh : w.heap[N]? = some (.cells cs 24 fr)) (i : Nat) : w1.cell? ⟨N, i, none⟩ = cs[i]? :=
  Lib.cell_of_heap (h N cs _ fr hh (by decide) (by decide)) i
set_option maxHeartbeats 2000000 in
set_option maxRecDepth 100000 in
theorem writeAll_any (l : List VT) (ih : ∀ u ∈ l, u.right = true ∧ u.fits ∧ u.size ≤ 1048576 ∧ WriteOf u) (B b : Nat) (bs : List UInt8) (o c : UInt8) (s : Value) (w : World)
    (h : Kids (fun x => x < B) w l s) (hb : Bld B b bs w) (hB : B ≤ w.heap.size) (hL : Laid B w) (hlen : bs.length + (textL l).length + 2 ≤ 50331648) (hN : l.length ≤ 1048576) :
    Calls Tryd.prog 38 #[.pointer (some ⟨b, 0, none⟩), .string ⟨[o].toArray⟩, s, .string ⟨[c].toArray⟩] w (WroteAll B b (bs ++ ([o] ++ textL l ++ [c])) w) := by
  have HP := Lib.hid (put_any B b bs ⟨[o].toArray⟩ w hb (by show _ + 1 ≤ _; omega) hB)
  have HK := Lib.hid h
  have IH := Lib.hid ih
  have HST := Lib.hid (fun k hk => write_step l k hk (bs.length + 1) (by omega))
  have HL := Lib.hid hL
  have HTE := Lib.hid (show ∀ k, bs.length + 1 + (textL (l.take k)).length + 1 ≤ 50331648 from fun k => by have := textL_take_le l k; omega)
  obtain ⟨A, cap, hs, _⟩ := h.form
  subst hs
  obtain ⟨N, hNN⟩ : ∃ N, N = l.length := ⟨_, rfl⟩
  have HN := Lib.hid hNN
  rw [← hNN] at hN ⊢
  obtain ⟨BS, hBS⟩ : ∃ BS, BS = bs ++ [o] := ⟨_, rfl⟩
  have hbl : BS.length = bs.length + 1 := by rw [hBS]; simp
  have HE : Hid (∀ acc : List UInt8, acc = textL l → BS ++ acc ++ [c] = bs ++ ([o] ++ textL l ++ [c])) := Lib.hid fun acc h => by rw [hBS, h]; simp
  have HBS := Lib.hid hBS
  rw [← hbl] at HST HTE
  clear h hb ih hL hNN hBS hbl hlen
  go_enter Tryd.func38, Tryd.ntmps38
  go_wp2_with (go_at_call 35; refine HP.out.mono ?_; rintro e w1 ⟨rfl, hb1, hl1, hk1⟩)
  go_loopw [15] (fun i wr => Upto B b N l BS w i wr) (fun i _ => N - (intOf i).toNat)
  case atStart => unfold Upto; exact ⟨0, [], Nat.zero_le _, rfl, Lib.hid (by rw [List.take_zero, textL]), by rw [List.append_nil, HBS.out]; exact hb1, hl1, hk1⟩
  case round =>
    obtain ⟨k, acc, hk, rfl, HA, hbd, hl, hkk0⟩ := hrel
    have hB' : B ≤ wr.heap.size := by have := hl.size; omega
    by_cases hlt : k < N
    · have hkl : k < l.length := by have := HN.out; omega
      obtain ⟨vb, off, cap', s', hs, hvB, hcs⟩ : ∃ vb off cap' s', Value.slice A l.length cap = .slice (some ⟨vb, off, none⟩) l.length cap' ∧ vb < wr.heap.size ∧ wr.cell? ⟨vb, off + k * 3, none⟩ = some (.int .i64 l[k].kind) ∧ wr.cell? ⟨vb, off + k * 3 + 1, none⟩ = some (.int .i64 l[k].num) ∧ wr.cell? ⟨vb, off + k * 3 + 2, none⟩ = some s' ∧ Kids (fun x => x < B) wr l[k].kids s' := by
        obtain ⟨vb, off, cap', hs, hv, i1, i2, c0, c1, s', c2, hkk⟩ := (HK.out.keep (w' := wr) (fun x o hx _ => hl.cell (p := ⟨x, o, none⟩) hx)).at_ k hkl
        exact ⟨vb, off, cap', s', hs, World.block_lt_of_cell? _ _ c0, c0, c1, c2, hkk⟩
      obtain ⟨c0, c1, c2, hkk⟩ := hcs
      injection hs with hA hLL hC
      subst hA
      subst hC
      clear hLL
      obtain ⟨A', cc, rfl, _⟩ := hkk.form
      obtain ⟨u1, u2, u3, u4⟩ := IH.out l[k] (List.getElem_mem hkl)
      have HS := Lib.hid (HST.out k hkl acc HA.out)
      have HI := Lib.hid (fun (bs' : List UInt8) w' (hbl : Below B wr w') (hbd : Bld B b bs' w') hz hL hlen => u4 B b bs' (.slice A' l[k].kids.length cc) w' (hkk.keep (fun x o hx _ => hbl.cell (p := ⟨x, o, none⟩) hx)) u1 u2 u3 hbd hz hL hlen)
      obtain ⟨u, hu⟩ : ∃ u, u = l[k] := ⟨_, rfl⟩
      rw [← hu] at c0 c1 c2 HI HS
      obtain ⟨M, hM⟩ : ∃ M, M = u.kids.length := ⟨_, rfl⟩
      rw [← hM] at c2 HI
      have HD := Lib.hid hbd
      have HLW := Lib.hid hl
      have HKW := Lib.hid hkk0
      clear hkk hM hu u1 u2 u3 u4 hbd hl hkk0
      by_cases hk0 : k = 0
      · subst hk0
        rw [Nat.zero_mul, Nat.add_zero] at c0 c1 c2
        have hlen0 : (BS ++ acc).length + u.text.length ≤ 50331648 := by
          have := HS.out.2
          rw [if_pos rfl] at this
          simp only [List.length_append, List.length_nil] at this ⊢; omega
        have HS' : Hid (acc ++ u.text = textL (l.take (0 + 1))) := Lib.hid (by have := HS.out.1; simpa using this)
        clear HST
        go_wp2_with (fail)
        refine (HI.out (BS ++ acc) _ ((Below.refl _ _).alloc hB' _) (HD.out.alloc _) (by simp; omega) (HL.out.on (HLW.out.trans ((Below.refl _ _).alloc hB' _))) hlen0).mono ?_
        rintro e w2 ⟨rfl, hb2, hl2, hk2⟩
        have HB2 := Lib.hid hb2
        have HL2 := Lib.hid hl2
        have HK2 := Lib.hid hk2
        clear hb2 hl2 hk2
        go_wp2_with (fail)
        go_roundw
        case rel => unfold Upto; exact ⟨0 + 1, acc ++ u.text, by omega, by go_num, HS', by rw [← List.append_assoc]; exact HB2.out, (HLW.out.trans ((Below.refl _ _).alloc hB' _)).trans HL2.out, (HKW.out.trans (TK.alloc _ _)).trans HK2.out⟩
        case measure => simp [intOf]; omega
      · have hkp : 0 < k := by omega
        have hlen0 : (BS ++ acc ++ [44, 32]).length + u.text.length ≤ 50331648 := by
          have := HS.out.2
          rw [if_neg hk0] at this
          simp only [List.length_append] at this ⊢; omega
        have HS' : Hid (acc ++ [44, 32] ++ u.text = textL (l.take (k + 1))) := Lib.hid (by have := HS.out.1; rwa [if_neg hk0] at this)
        have HP2 := Lib.hid (fun w' (hbd : Bld B b (BS ++ acc) w') (hz : B ≤ w'.heap.size) => put_any B b (BS ++ acc) ⟨[44, 32].toArray⟩ w' hbd (by show _ + 2 ≤ _; simp only [List.length_append, List.length_cons, List.length_nil] at hlen0 ⊢; omega) hz)
        obtain ⟨box, hbox⟩ : ∃ box, box = Obj.cells #[.int .i64 u.kind, .int .i64 u.num, .slice A' M cc] 24 := ⟨_, rfl⟩
        have HX : Hid (∀ w2, TK (wr.alloc box) w2 → w2.cell? ⟨wr.heap.size, 0, none⟩ = some (.int .i64 u.kind) ∧ w2.cell? ⟨wr.heap.size, 1, none⟩ = some (.int .i64 u.num) ∧ w2.cell? ⟨wr.heap.size, 2, none⟩ = some (.slice A' M cc)) := Lib.hid fun w2 h => by
          have hh := heap_new wr wr.heap.size rfl box
          rw [hbox] at hh
          rw [hbox] at h
          exact ⟨tk_cell h hh 0, tk_cell h hh 1, tk_cell h hh 2⟩
        have HBOX := Lib.hid hbox
        clear HST hbox
        go_wp2_with (fail)
        rw [← HBOX.out]
        refine (HP2.out _ (HD.out.alloc _) (by simp; omega)).mono ?_
        rintro e w2 ⟨rfl, hb2, hl2, hk2⟩
        obtain ⟨d0, d1, d2⟩ := HX.out w2 hk2
        have hz2 : B ≤ w2.heap.size := by have := hl2.size; simp at this; omega
        have HB2 := Lib.hid hb2
        have HL2 := Lib.hid hl2
        have HK2 := Lib.hid hk2
        clear hb2 hl2 hk2
        go_wp2_with (fail)
        have HL3 : Below B w w2 := (HLW.out.trans ((Below.refl _ _).alloc hB' _)).trans HL2.out
        refine (HI.out (BS ++ acc ++ [44, 32]) w2 (((Below.refl _ _).alloc hB' _).trans HL2.out) HB2.out hz2 (HL.out.on HL3) hlen0).mono ?_
        rintro e w3 ⟨rfl, hb3, hl3, hk3⟩
        have HB3 := Lib.hid hb3
        have HL3' := Lib.hid (HL3.trans hl3)
        have HK3 := Lib.hid hk3
        clear hb3 hl3 hk3 HL3
        go_wp2_with (fail)
        go_roundw
        case rel => unfold Upto; exact ⟨k + 1, acc ++ [44, 32] ++ u.text, by omega, by go_num, HS', by have := HB3.out; simpa [List.append_assoc] using this, HL3'.out, ((HKW.out.trans (TK.alloc _ _)).trans HK2.out).trans HK3.out⟩
        case measure => simp [intOf]; omega
    · have HF : Hid (acc = textL l) := Lib.hid (by have := HA.out; rwa [List.take_of_length_le (by have := HN.out; omega)] at this)
      have hlenF : (BS ++ acc).length + 1 ≤ 50331648 := by
        have := HTE.out k
        rw [← HA.out] at this
        simp only [List.length_append]; omega
      have HP3 := Lib.hid (put_any B b (BS ++ acc) ⟨[c].toArray⟩ wr hbd (by show _ + 1 ≤ _; omega) hB')
      have HLW := Lib.hid hl
      have HKW := Lib.hid hkk0
      clear hbd hl hkk0 HST HTE
      go_wp2_with (fail)
      refine HP3.out.mono ?_
      rintro e w2 ⟨rfl, hb2, hl2, hk2⟩
      go_wp2_with (fail)
      go_end0
      exact ⟨rfl, by have := hb2; rw [HE.out acc HF.out] at this; simpa using this, HLW.out.trans hl2, HKW.out.trans hk2⟩
theorem laid_up {B B' : Nat} {w : World} (h : Laid B w) (hB : B ≤ B') : Laid B' w := by
  obtain ⟨h1, ⟨t2, p2, h2⟩, t3, p3, h3⟩ := h
  exact ⟨fun w' h => h1 w' (h.mono hB), ⟨t2, p2, fun w' h => h2 w' (h.mono hB)⟩, t3, p3, fun w' h => h3 w' (h.mono hB)⟩
theorem TK.of_below {w w' : World} (h : Below w.heap.size w w') : TK w w' := fun k _ _ _ hk _ _ => (h.block k (Array.getElem?_eq_some_iff.1 hk).1).trans hk
theorem Bld.below {B b : Nat} {l : List UInt8} {w w' : World} (h : Bld B b l w) (hb : Below w.heap.size w w') : Bld B b l w' := by
  rcases h with ⟨hB, v, hk, hown, hne⟩ | ⟨hB, v, hk, hown, hne⟩
  · exact Or.inl ⟨hB, v, (hb.block b (Array.getElem?_eq_some_iff.1 hk).1).trans hk, own_below hown hb, hne⟩
  · exact Or.inr ⟨hB, v, (hb.block b (Array.getElem?_eq_some_iff.1 hk).1).trans hk, own_below hown hb, hne⟩
set_option maxHeartbeats 2000000 in
set_option maxRecDepth 100000 in
theorem write_any (t : VT) : WriteOf t := by
  induction t using VT.ind with
  | h kd nm l ih =>
    intro B b bs s w h hr hf hsz hbd hB hL hlen
    change Kids _ w l s at h
    rw [fits_mk] at hf
    have hnm := hf.1.2
    have hfl := hf.2
    clear hf
    rw [size_mk] at hsz
    have hll := len_le_sizeL l
    obtain ⟨A, cap, hs, _⟩ := h.form
    subst hs
    show Calls Tryd.prog 27 #[.pointer (some ⟨b, 0, none⟩), .agg #[.int .i64 kd, .int .i64 nm, .slice A l.length cap]] w _
    have hW : ∀ o, Below B w (w.alloc o) := fun o => (Below.refl _ _).alloc hB _
    by_cases h0 : kd = 0
    · subst h0
      have hT : (VT.mk 0 nm l).text = Lib.itoa nm := by rw [text_mk, if_pos rfl]
      rw [hT] at hlen ⊢
      have HP := Lib.hid (fun w' hbd hz => put_any B b bs ⟨(Lib.itoa nm).toArray⟩ w' hbd (by show _ + (Lib.itoa nm).length ≤ _; omega) hz)
      have HT := Lib.hid (fun o => whole.text_any (w.heap.size + 1) nm (w.alloc o) hnm (by simp) (laid_up (hL.on (hW o)) (by omega)))
      have HD := Lib.hid hbd
      have HW := Lib.hid hW
      clear ih hr h hfl hbd hL hW hT hlen
      go_enter Tryd.func27, Tryd.ntmps27
      go_wp2_with (fail)
      refine (HT.out _).mono ?_
      rintro e w1 ⟨rfl, hb1⟩
      have HB1 := Lib.hid hb1
      have hz := hb1.size
      simp only [World.size_alloc] at hz
      clear hb1
      go_wp2_with (fail)
      refine (HP.out w1 ((HD.out.alloc _).below (by simpa using HB1.out)) (by omega)).mono ?_
      rintro e w2 ⟨rfl, hb2, hl2, hk2⟩
      go_wp2_with (fail)
      go_end0
      exact ⟨rfl, hb2, ((HW.out _).trans (HB1.out.mono (by omega))).trans hl2, ((TK.alloc _ _).trans (TK.of_below (by simpa using HB1.out))).trans hk2⟩
    · by_cases h1 : kd = 1
      · subst h1
        obtain ⟨hnn, hll⟩ := right_bool hr
        subst hll
        have hT : (VT.mk 1 nm []).text = if nm = 1 then txtTrue else txtFalse := by rw [text_mk, if_neg (by omega), if_pos rfl]
        rw [hT] at hlen ⊢
        have HD := Lib.hid hbd
        have HW := Lib.hid hW
        clear ih hr h hfl hL hW hT
        rcases hnn with hn | hn
        · subst hn
          have HP := Lib.hid (fun o => put_any B b bs ⟨txtFalse.toArray⟩ (w.alloc o) (hbd.alloc o) (by show _ + 5 ≤ _; rw [if_neg (by omega)] at hlen; have : txtFalse.length = 5 := rfl; omega) (by simp; omega))
          rw [if_neg (by omega)]
          have hfb : Lib.formatBool false = txtFalse := by decide
          have HFB := Lib.hid hfb
          clear hlen hbd hfb
          go_enter Tryd.func27, Tryd.ntmps27
          go_wp2_with (go_at_call 37; refine (Tryd.strconv_FormatBool false _).mono ?_; rintro e w1 ⟨rfl, rfl⟩; rw [HFB.out])
          refine (HP.out _).mono ?_
          rintro e w2 ⟨rfl, hb2, hl2, hk2⟩
          go_wp2_with (fail)
          go_end0
          exact ⟨rfl, hb2, (HW.out _).trans hl2, (TK.alloc _ _).trans hk2⟩
        · subst hn
          have HP := Lib.hid (fun o => put_any B b bs ⟨txtTrue.toArray⟩ (w.alloc o) (hbd.alloc o) (by show _ + 4 ≤ _; rw [if_pos rfl] at hlen; have : txtTrue.length = 4 := rfl; omega) (by simp; omega))
          rw [if_pos rfl]
          have hfb : Lib.formatBool true = txtTrue := by decide
          have HFB := Lib.hid hfb
          clear hlen hbd hfb
          go_enter Tryd.func27, Tryd.ntmps27
          go_wp2_with (go_at_call 37; refine (Tryd.strconv_FormatBool true _).mono ?_; rintro e w1 ⟨rfl, rfl⟩; rw [HFB.out])
          refine (HP.out _).mono ?_
          rintro e w2 ⟨rfl, hb2, hl2, hk2⟩
          go_wp2_with (fail)
          go_end0
          exact ⟨rfl, hb2, (HW.out _).trans hl2, (TK.alloc _ _).trans hk2⟩
      · obtain ⟨h23, hn0, hrl⟩ := right_arr hr h0 h1
        subst hn0
        have hT : (VT.mk kd 0 l).text = if kd = 3 then [123] ++ textL l ++ [125] else [91] ++ textL l ++ [93] := by rw [text_mk, if_neg h0, if_neg h1]
        have IH : ∀ u ∈ l, u.right = true ∧ u.fits ∧ u.size ≤ 1048576 ∧ WriteOf u := fun u hu => ⟨rightL_mem hrl hu, fitsL_mem hfl u hu, by have := mem_sizeL hu; omega, ih u hu⟩
        rw [hT] at hlen ⊢
        have hz : ∀ o, B ≤ (w.alloc o).heap.size := fun o => by simp; omega
        rcases h23 with rfl | rfl
        · rw [if_neg (by omega)] at hlen ⊢
          have HA := Lib.hid (fun o => writeAll_any l IH B b bs 91 93 _ (w.alloc o) (h.below ((Below.refl _ _).alloc (Nat.le_refl _) o)) (hbd.alloc o) (hz o) (hL.on (hW o)) (by simp only [List.length_append, List.length_cons, List.length_nil] at hlen; omega) (by omega))
          obtain ⟨T, hTT⟩ : ∃ T, T = bs ++ ([91] ++ textL l ++ [93]) := ⟨_, rfl⟩
          rw [← hTT] at HA ⊢
          have HW := Lib.hid hW
          clear ih hr h hfl hbd hL hW hT hlen IH hrl hz hTT h0 h1
          go_enter Tryd.func27, Tryd.ntmps27
          go_wp2_with (fail)
          refine (HA.out _).mono ?_
          rintro e w2 ⟨rfl, hb2, hl2, hk2⟩
          go_wp2_with (fail)
          go_end0
          exact ⟨rfl, hb2, (HW.out _).trans hl2, (TK.alloc _ _).trans hk2⟩
        · rw [if_pos rfl] at hlen ⊢
          have HA := Lib.hid (fun o => writeAll_any l IH B b bs 123 125 _ (w.alloc o) (h.below ((Below.refl _ _).alloc (Nat.le_refl _) o)) (hbd.alloc o) (hz o) (hL.on (hW o)) (by simp only [List.length_append, List.length_cons, List.length_nil] at hlen; omega) (by omega))
          obtain ⟨T, hTT⟩ : ∃ T, T = bs ++ ([123] ++ textL l ++ [125]) := ⟨_, rfl⟩
          rw [← hTT] at HA ⊢
          have HW := Lib.hid hW
          clear ih hr h hfl hbd hL hW hT hlen IH hrl hz hTT h0 h1
          go_enter Tryd.func27, Tryd.ntmps27
          go_wp2_with (fail)
          refine (HA.out _).mono ?_
          rintro e w2 ⟨rfl, hb2, hl2, hk2⟩
          go_wp2_with (fail)
          go_end0
          exact ⟨rfl, hb2, (HW.out _).trans hl2, (TK.alloc _ _).trans hk2⟩
/-- what Text tells -/
def textOf (t : VT) : List UInt8 := if t.right = true then t.text else []
set_option maxHeartbeats 1000000 in
set_option maxRecDepth 100000 in
theorem text_any {G : Nat → Prop} (t : VT) (s : Value) (w : World) (h : Kids G w t.kids s) (hf : t.fits) (hsz : t.size ≤ 1048576) (hL : Laid w.heap.size w) :
    Calls Tryd.prog 12 #[.agg #[.int .i64 t.kind, .int .i64 t.num, s]] w fun e w' => e = .returned (.string ⟨(textOf t).toArray⟩) ∧ Below w.heap.size w w' := by
  have HR := Lib.hid (fun o => right_any t s (w.alloc o) (h.below ((Below.refl _ _).alloc (Nat.le_refl _) o)))
  have hlen := text_len t hf
  obtain ⟨A, cap, hs, _⟩ := h.form
  subst hs
  obtain ⟨N, hN⟩ : ∃ N, N = t.kids.length := ⟨_, rfl⟩
  cases hr : t.right with
  | false =>
    have HT : Hid (textOf t = []) := Lib.hid (by unfold textOf; rw [hr]; rfl)
    rw [hr] at HR
    rw [← hN] at HR ⊢
    clear h hf hL hr hlen hN hsz
    go_enter Tryd.func12, Tryd.ntmps12
    go_wp2_with (go_at_call 13; refine (HR.out _).mono ?_; rintro e w1 ⟨rfl, hb1⟩)
    go_ret
    exact ⟨by rw [HT.out]; rfl, ((Below.refl _ _).alloc (Nat.le_refl _) _).trans (hb1.mono (by simp))⟩
  | true =>
    have HT : Hid (textOf t = t.text) := Lib.hid (by unfold textOf; rw [if_pos hr])
    have HWR := Lib.hid (fun (B b : Nat) w' (hbw : Below w.heap.size w w') hbd hBw (hBz : w.heap.size ≤ B) (hz : B ≤ w'.heap.size) => write_any t B b [] _ w' ((h.lt.below hbw).mono fun c hc => by omega) hr hf hsz hbd hz (laid_up (hL.on hbw) hBw) (by simp; omega))
    rw [hr] at HR
    rw [← hN] at HR HWR ⊢
    clear h hf hL hr hlen hN hsz
    go_enter Tryd.func12, Tryd.ntmps12
    go_wp2_with (go_at_call 13; refine (HR.out _).mono ?_; rintro e w1 ⟨rfl, hb1⟩; have hz : w.heap.size < w1.heap.size := (by have h := hb1.size; simp only [World.size_alloc] at h; omega); have HS := Lib.hid (cell_since (N := w.heap.size) rfl (by simpa using hb1)); have d0 : w1.cell? ⟨w.heap.size, 0, none⟩ = some (.int .i64 t.kind) := (HS.out 0).1; have d1 : w1.cell? ⟨w.heap.size, 1, none⟩ = some (.int .i64 t.num) := (HS.out 1).1; have d2 : w1.cell? ⟨w.heap.size, 2, none⟩ = some (.slice A N cap) := (HS.out 2).1; have HB1 := Lib.hid (((Below.refl _ _).alloc (Nat.le_refl _) _).trans (hb1.mono (by simp))); clear hb1)
    have HB2 := Lib.hid (fun o => HB1.out.alloc (by omega) o)
    refine (HWR.out w1.heap.size w1.heap.size _ (HB2.out _) (Lib.fresh_isBuilder _ _ _) (by omega) (by omega) (by simp)).mono ?_
    rintro e w2 ⟨rfl, hb2, hl2, hk2⟩
    have HD := Lib.hid hb2
    have HL2 := Lib.hid hl2
    have hz2 := hl2.size
    simp only [World.size_alloc] at hz2
    clear hb2 hl2 hk2
    go_wp2_with (fail)
    refine (Tryd.Builder_String_any w1.heap.size w1.heap.size t.text w2 (by have := HD.out; rwa [List.nil_append] at this) (by omega)).mono ?_
    rintro e w3 ⟨rfl, hb3⟩
    go_wp2_with (fail)
    go_ret
    exact ⟨by rw [HT.out]; rfl, ((HB2.out _).trans (HL2.out.mono (by omega))).trans (hb3.mono (by omega))⟩
end Go.Proofs.YtjbdfckanabepaaDoor.vt

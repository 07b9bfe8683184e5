/- The document's own lines of a text, as a slice that the call makes. -/
import Derived.Test.YtoljheenijblmaaPlaceRefAt
import Derived.OwnWalk
import Derived.Below
import Derived.StillTailTactics
import Derived.WalkSmall
namespace Go.Proofs.Ytoljheenijblmaa.place
open Go.RowKit pl

/-- a text, as a value -/
def strV (l : List UInt8) : Value := .string ⟨l.toArray⟩
/-- a slice of texts that the call has made -/
def Rows (B : Nat) (w0 : World) (ls : List (List UInt8)) (v : Value) (w : World) : Prop :=
  ∃ g cap, v = .slice (some ⟨g, 0, none⟩) ls.length cap ∧ w.ownsRow B 9 1 v ls.length (ls.map strV) ∧ Below B w0 w
theorem infoStr : (Try.prog.info? 9).map (fun i => (i.zero, i.size, i.bytes)) = some (some (.string ⟨#[]⟩), 1, 16) := by kernel_rfl
theorem linesS_take (s : ByteArray) (k : Nat) (h : k < s.size) : linesS (s.data.toList.take (k + 1)) = growS (linesS (s.data.toList.take k)) s[k] := by rw [take_snoc s k h, linesS_snoc]
theorem new_one (w : World) (x : Value) (t : TypeId) : ∀ j u, [x][j]? = some u → (w.alloc (.cells #[x] t)).cell? ((⟨w.heap.size, 0, none⟩ : Addr).add j) = some u := by
  intro j u hj
  match j, hj with
  | 0, hj => simp at hj; subst hj; simp [Addr.add]
  | j + 1, hj => simp at hj
theorem one_str (s : ByteArray) : ∀ u ∈ [Value.string s], u.oneCell' = true := by intro u hu; simp at hu; subst hu; rfl
/-- a line more -/
theorem rows_new {B n g cap : Nat} {w wr w1 : World} {ls : List (List UInt8)} {v' : Value} {o : Obj} (hn : n = ls.length) (hbel : Below B w wr) (hB : B ≤ wr.heap.size)
    (hown : wr.ownsRow B 9 1 (.slice (some ⟨g, 0, none⟩) n cap) n (ls.map strV)) (hown' : w1.ownsRow B 9 1 v' (n + 1) (ls.map strV ++ [.string ⟨#[]⟩]))
    (hgrow : (wr.alloc o).grownBy w1 (Value.slice (some ⟨g, 0, none⟩) n cap).ownBlock) : Rows B w (ls ++ [[]]) v' w1 := by
  have hlen : (ls ++ [[]]).length = n + 1 := by simp [hn]
  have hmap : (ls ++ [[]]).map strV = ls.map strV ++ [.string ⟨#[]⟩] := by simp [strV]
  have hb : Below B w w1 := (hbel.alloc hB o).grown hgrow (by simp; omega) (fun k hk => (hown.lt k hk).1)
  unfold Rows
  rw [hlen, hmap]
  rcases hown'.2 with ⟨_, h0⟩ | ⟨g', cap', cur, hv, _⟩
  · omega
  · exact ⟨g', cap', hv, hv ▸ hown', hb⟩
/-- the last line a byte longer -/
theorem rows_last {B n m g cap : Nat} {w wr : World} {ls : List (List UInt8)} {c : UInt8} (hn : n = ls.length) (hm : n = m + 1) (hbel : Below B w wr)
    (hown : wr.ownsRow B 9 1 (.slice (some ⟨g, 0, none⟩) n cap) n (ls.map strV)) :
    Rows B w (ls.dropLast ++ [ls.getLast?.getD [] ++ [c]]) (.slice (some ⟨g, 0, none⟩) n cap) (wr.setCell ⟨g, m, none⟩ (strV (ls.getLast?.getD [] ++ [c]))) := by
  have hlen : (ls.dropLast ++ [ls.getLast?.getD [] ++ [c]]).length = n := by simp; omega
  have hmap : (ls.dropLast ++ [ls.getLast?.getD [] ++ [c]]).map strV = (ls.map strV).set m (strV (ls.getLast?.getD [] ++ [c])) := by
    apply List.ext_getElem?
    intro j
    rw [List.getElem?_set, List.map_append, List.map_dropLast]
    by_cases hj : m = j
    · subst hj
      rw [if_pos rfl, if_pos (by simp; omega), List.getElem?_append_right (by simp; omega)]
      simp [← hn, hm]
    · rw [if_neg hj]
      by_cases hlt : j < m
      · rw [List.getElem?_append_left (by simp; omega), List.getElem?_dropLast, if_pos (by simp; omega)]
      · rw [List.getElem?_eq_none (by simp; omega), List.getElem?_eq_none (by simp; omega)]
  have hst := hown.stored m (strV (ls.getLast?.getD [] ++ [c]))
  unfold Rows
  rw [hlen, hmap]
  exact ⟨g, cap, rfl, hst.1, hbel.grown hst.2 (by have := hown.lt g rfl; omega) (fun k hk => by cases hk; exact (hown.lt g rfl).1)⟩
theorem rows_cell {B n m g cap : Nat} {wr : World} {ls : List (List UInt8)} (hn : n = ls.length) (hm : n = m + 1)
    (hown : wr.ownsRow B 9 1 (.slice (some ⟨g, 0, none⟩) n cap) n (ls.map strV)) : wr.cell? ⟨g, m, none⟩ = some (strV (ls.getLast?.getD [])) := by
  rw [hown.cellAt m (by omega)]
  have : ls.getLast? = ls[m]? := by rw [List.getLast?_eq_getElem?]; congr 1; omega
  rw [this, List.getElem?_map]
  rw [List.getElem?_eq_getElem (by omega)]; rfl
theorem last_len {ls : List (List UInt8)} {N : Nat} (h : ∀ x ∈ ls, x.length ≤ N) : (ls.getLast?.getD []).length ≤ N := by
  cases hl : ls.getLast? with
  | none => simp
  | some x => exact h x (List.mem_of_getLast? hl)
theorem linesS_each : ∀ (l : List UInt8) (x : List UInt8), x ∈ linesS l → x.length ≤ l.length
  | [], x, h => by simp [linesS] at h; subst h; simp
  | c :: r, x, h => by
    unfold linesS at h
    split at h
    · rcases List.mem_cons.1 h with rfl | h
      · simp
      · have := linesS_each r x h; simp; omega
    · cases hl : linesS r with
      | nil => rw [hl] at h; simp at h; subst h; simp
      | cons a t =>
        rw [hl] at h
        rcases List.mem_cons.1 h with rfl | h
        · have := linesS_each r a (by rw [hl]; simp); simp; omega
        · have := linesS_each r x (by rw [hl]; simp [h]); simp; omega

theorem cat_one (y : List UInt8) (c : UInt8) : Value.string ((⟨y.toArray⟩ : ByteArray) ++ { data := #[c] }) = strV (y ++ [c]) := by
  unfold strV
  exact congrArg Value.string (by apply ByteArray.ext; simp)
theorem rows_drew {B : Nat} {w0 w : World} {ls : List (List UInt8)} {v : Value} (h : Rows B w0 ls v w) : Rows B w0 ls v w.drew := by
  obtain ⟨g, cap, hv, ho, hb⟩ := h
  exact ⟨g, cap, hv, ho.drew, hb.drew⟩
/-- one byte of a text -/
theorem one_slice (s : ByteArray) (k : Nat) (h : k < s.size) (w : World) :
    (Instr.slice 9 (.string s) (some (.int .i64 k)) (some (.int .i64 ((k : Int) + 1))) none).run Try.prog w = .ok (.string ⟨[s[k]].toArray⟩) w := by
  have e := run_slice_string (P := Try.prog) w 9 s .i64 .i64 (k : Int) ((k : Int) + 1) Try.underlying9 (by omega) (by omega) (by omega)
  have f : s.extract k (k + 1) = ⟨[s[k]].toArray⟩ := by
    apply ByteArray.ext
    apply Array.ext'
    rw [Lib.extract_data, show k + 1 - k = 1 by omega, List.drop_eq_getElem_cons (by simpa using h)]
    simp [ByteArray.getElem_eq_getElem_data]
  rw [show ((k : Int) + 1).toNat = k + 1 by omega, Int.toNat_natCast, f] at e
  exact e

set_option maxHeartbeats 1000000 in
theorem rlines_any (s : ByteArray) (w : World) (hs : s.size ≤ 1048576) :
    Calls Try.prog 12 #[.string s] w fun e w' => ∃ v, e = .returned v ∧ Rows w.heap.size w (linesS s.data.toList) v w' := by
  obtain ⟨i0, hi, hz0, hz1, hz2⟩ := info_parts infoStr
  generalize hB : w.heap.size = B
  have HB := Lib.hid hB
  have h0 : Rows B w [[]] (.slice (some ⟨B, 0, none⟩) 1 1) (w.alloc (.cells #[.string ⟨#[]⟩] 9)) := by
    refine ⟨B, 1, rfl, ?_, (Below.refl _ _).alloc (by omega) _⟩
    have h := World.ownsRow_lit (size := 1) (e := 9) w #[.string ⟨#[]⟩] 1 (base := B) (by omega) (by decide) (by simp)
    rw [hB] at h
    exact h
  have H0 := Lib.hid h0
  have hBw : B ≤ w.heap.size := by omega
  clear h0
  go_enter Try.func12, Try.ntmps12
  go_wp2
  go_loopw [3, 4] (fun v i wr => ∃ k : Nat, k ≤ s.size ∧ i = .int .i64 k ∧ Hid (Rows B w (linesS (s.data.toList.take k)) v wr)) (fun _ i _ => s.size - (intOf i).toNat)
  case atStart => exact ⟨0, Nat.zero_le _, rfl, H0⟩
  case round =>
    obtain ⟨k, hk, rfl, HR⟩ := hrel
    by_cases hlt : k < s.size
    · have hT := Lib.hid (linesS_take s k hlt)
      obtain ⟨ls, hls⟩ : ∃ ls, ls = linesS (s.data.toList.take k) := ⟨_, rfl⟩
      have hlen := linesS_len (s.data.toList.take k)
      have hlen2 : (s.data.toList.take k).length ≤ k := List.length_take_le _ _
      have heach := last_len (fun x hx => linesS_each (s.data.toList.take k) x hx)
      rw [← hls] at hlen HR hT heach
      have HLS := Lib.hid hls
      clear hls
      obtain ⟨g, cap, hv, hown, hbel⟩ := HR.out
      obtain ⟨m, hm⟩ : ∃ m, ls.length = m + 1 := ⟨ls.length - 1, by omega⟩
      obtain ⟨n, hn⟩ : ∃ n, n = ls.length := ⟨_, rfl⟩
      rw [← hn] at hv hown hlen hm
      rw [hv] at hown
      have hsz := hbel.size
      have hcell := rows_cell hn hm hown
      have hfro := hown.frozenAt m
      have HN := Lib.hid hn
      clear hn HR
      subst hv
      subst hm
      obtain ⟨y, hy⟩ : ∃ y, y = ls.getLast?.getD [] := ⟨_, rfl⟩
      rw [← hy] at hcell heach
      have HY := Lib.hid hy
      clear hy
      have hyl : (y.length : Int) ≤ 1048576 := by omega
      unfold strV at hcell
      go_wp2_with (at_builtin; refine wpList_append_own _ rfl _ _ 34 rfl B 9 i0 (.string ⟨#[]⟩) 1 16 Try.underlying34 hi hz0 hz1 hz2 rfl (by decide) _ _ _ rfl (hown.alloc _) ⟨wr.heap.size, 0, none⟩ 1 1 [.string ⟨#[]⟩] rfl rfl (new_one _ _ _) (one_str _) (by unfold maxLen; omega) (by omega) (by simp; omega) ?_; intro v' w1 hown' hgrow _; have HR2 := Lib.hid (rows_new HN.out hbel (by omega) hown hown' hgrow); clear hown' hgrow)
      · go_roundw
        case rel =>
          have h10 := is_ten (n := s[k].toNat) (by assumption)
          exact ⟨k + 1, by omega, by go_num, Lib.hid (by rw [hT.out, growS, if_pos h10]; exact HR2.out)⟩
        case measure => simp [intOf]; omega
      · have h10 := Lib.hid (no_ten (n := s[k].toNat) (by assumption))
        have w1 := IntWalk.i64_in (m : Int) (by omega)
        have w2 := IntWalk.i64_in ((k : Int) + 1) (by omega)
        have hsl := one_slice s k hlt
        have x3 : ¬ 9223372036854775807 < y.length + 1 := by omega
        have x1 : (m : Int) < (m : Int) + 1 := by omega
        have x2 : (0 : Int) ≤ (m : Int) := by omega
        go_still_tail 17, (by kernel_rfl)
        change wpList _ _ _ _ _ wr.drew
        have HR2 := Lib.hid (rows_last (c := s[k]) HN.out rfl hbel hown)
        clear hown hbel
        go_wp2
        go_roundw
        case rel =>
          refine ⟨k + 1, by omega, by go_num, Lib.hid ?_⟩
          rw [hT.out, growS, if_neg h10.out]
          have h := HR2.out
          rw [← HY.out] at h ⊢
          rw [cat_one]
          exact rows_drew h
        case measure => simp [intOf]; omega
    · have hkn : k = s.size := by omega
      have hfin : Hid (s.data.toList.take k = s.data.toList) := by show _ = _; rw [hkn]; exact List.take_of_length_le (by simp)
      clear hkn
      go_wp2
      go_ret
      exact ⟨_, rfl, by have h := HR.out; rw [hfin.out] at h; exact h⟩
end Go.Proofs.Ytoljheenijblmaa.place

/- The first comma or closing bracket in any bytes: what the library's IndexAny tells at these three. -/
import Derived.Test.YtjbdfckanabepaaDoorValParse
import Derived.Test.YtjbdfckanabepaaDoorShelf
import Derived.Laws.RangeAny
import Derived.Lib.DecodeN
import Derived.Deep.LoopGhost
import Derived.Laws.Runes
import Derived.WalkMore
import Derived.Deep.RegionHeld3
import Derived.Lib.IndexBytes
namespace Go.Proofs.YtjbdfckanabepaaDoor.vt
open Go.RowKit

/-- the bytes that stand behind a number or a flag -/
def stops : List UInt8 := [44, 93, 125]
theorem stops_is (c : UInt8) : stops.contains c = isStop c := by
  unfold stops isStop
  rw [List.contains_cons, List.contains_cons, List.contains_cons, List.contains_nil, Bool.or_false, Bool.or_assoc]
theorem high_not (c : UInt8) (h : 128 ≤ c.toNat) : stops.contains c = false := by
  rw [stops_is]
  have e1 : c ≠ 44 := by rintro rfl; simp at h
  have e2 : c ≠ 93 := by rintro rfl; simp at h
  have e3 : c ≠ 125 := by rintro rfl; simp at h
  simp [isStop, e1, e2, e3]
/-- the place of the first one, or none -/
def stopI (s : List UInt8) : Int := if (s.dropWhile fun c => !isStop c).isEmpty then -1 else ((s.takeWhile fun c => !isStop c).length : Nat)
theorem indexAny_stop : ∀ s : List UInt8, Lib.indexAny s stops = stopI s
  | [] => rfl
  | c :: r => by
    have ih := indexAny_stop r
    rw [Lib.indexAny, stops_is, ih]
    unfold stopI
    rw [List.takeWhile_cons, List.dropWhile_cons]
    cases hc : isStop c
    · simp only [Bool.not_false, if_true, Bool.false_eq_true, if_false]
      by_cases h : (r.dropWhile fun c => !isStop c).isEmpty
      · rw [if_pos h, if_pos h]; decide
      · rw [if_neg h, if_neg h, if_neg (by simp), List.length_cons, Int.natCast_add]; rfl
    · simp
/-- each byte of a wide rune is wide -/
theorem wide_bytes (s : ByteArray) (pos : Nat) (h0 : 128 ≤ (s.get! pos).toNat) (j : Nat) (h1 : pos ≤ j) (h2 : j < pos + (Utf8.decode s pos).2) : 128 ≤ (s.get! j).toNat := by
  rw [Lib.decode_at] at h2
  unfold Lib.decodeN at h2
  have hb (k : Nat) := (s.get! (pos + k)).toNat_lt
  obtain ⟨d, rfl⟩ : ∃ d, j = pos + d := ⟨j - pos, by omega⟩
  have h3 : d < 1 ∨ d < 4 ∧ ((s.get! (pos + 1)).toNat / 64 = 2) ∧ (d < 2 ∨ (s.get! (pos + 2)).toNat / 64 = 2 ∧ (d < 3 ∨ (s.get! (pos + 3)).toNat / 64 = 2)) := by
    repeat' split at h2
    all_goals (dsimp only at h2; omega)
  rcases d with _ | _ | _ | _ | d
  · exact h0
  · show 128 ≤ (s.get! (pos + 1)).toNat; omega
  · show 128 ≤ (s.get! (pos + 2)).toNat; omega
  · show 128 ≤ (s.get! (pos + 3)).toNat; omega
  · omega
theorem get_list (s : ByteArray) (j : Nat) (b : UInt8) (h : s.data.toList[j]? = some b) : s.get! j = b := by
  have hj : j < s.data.size := by
    have := (List.getElem?_eq_some_iff.1 h).1
    simpa using this
  have e : s.get! j = s.data[j]! := by
    cases s; rfl
  rw [e, getElem!_pos s.data j hj]
  have := (List.getElem?_eq_some_iff.1 h).2
  simpa using this
theorem wide_no {s : ByteArray} {pos : Nat} (hno : Lib.NoAny s.data.toList stops pos) (h0 : 128 ≤ (s.get! pos).toNat) : Lib.NoAny s.data.toList stops (pos + (Utf8.decode s pos).2) := fun j b hj hb => by
  by_cases h : j < pos
  · exact hno j b h hb
  · have := wide_bytes s pos h0 j (by omega) hj
    rw [get_list s j b hb] at this
    exact high_not b this
theorem no_le {s c : List UInt8} {i j : Nat} (h : Lib.NoAny s c j) (hij : i ≤ j) : Lib.NoAny s c i := fun k b hk hb => h k b (by omega) hb

/-! ### the iterator over a string, wherever it lies -/
def nextAt (w : World) (b : Nat) (s : ByteArray) (p : Nat) : World := { w with heap := w.heap.setIfInBounds b (.stringIter s p) }
theorem run_next_at {P : Program} (w : World) (b : Nat) (s : ByteArray) (pos : Nat) (ty : TypeId) (hb : w.heap[b]? = some (.stringIter s pos)) (h : pos < s.size) :
    (Instr.next (.pointer (some ⟨b, 0, none⟩)) true ty).run P w = .ok (.tuple #[.bool true, .int .i64 pos, .int .i32 (Utf8.decode s pos).1]) (nextAt w b s (pos + (Utf8.decode s pos).2)) := by
  simp only [Instr.next, getObj, setObj, Sem.run_bind, Sem.run, hb, Result.andThen, h, if_true, nextAt]
  simp [goInt]
theorem run_next_at_end {P : Program} (w : World) (b : Nat) (s : ByteArray) (pos : Nat) (ty : TypeId) (hb : w.heap[b]? = some (.stringIter s pos)) (h : ¬ pos < s.size) :
    (Instr.next (.pointer (some ⟨b, 0, none⟩)) true ty).run P w = .ok (.tuple #[.bool false]) w := by
  simp [Instr.next, getObj, Sem.run, hb, h]
theorem next_at_heap (w : World) (b : Nat) (s : ByteArray) (p : Nat) (h : b < w.heap.size) : (nextAt w b s p).heap[b]? = some (.stringIter s p) := by
  show (w.heap.setIfInBounds b _)[b]? = _
  rw [Array.getElem?_setIfInBounds, if_pos rfl, if_pos h]
theorem next_at_below {B b : Nat} {w0 w : World} {s : ByteArray} {p : Nat} (hb : Below B w0 w) (h : B ≤ b) : Below B w0 (nextAt w b s p) :=
  ⟨hb.os, hb.tape, hb.output, by show _ ≤ (w.heap.setIfInBounds b _).size; rw [Array.size_setIfInBounds]; exact hb.size, fun k hk => by
    show (w.heap.setIfInBounds b _)[k]? = _
    rw [Array.getElem?_setIfInBounds, if_neg (by omega)]; exact hb.block k hk⟩
theorem iter_below (w : World) (s : ByteArray) : Below w.heap.size w (w.iter s 0) := (Below.refl _ _).alloc (Nat.le_refl _) _

/-- a wide rune's bytes -/
theorem wide_enc (r : Int) (h0 : 128 ≤ r) : (∃ a b : UInt8, Utf8.encode r = ⟨#[a, b]⟩ ∧ 128 ≤ b.toNat) ∨ (∃ a b c : UInt8, Utf8.encode r = ⟨#[a, b, c]⟩ ∧ 128 ≤ c.toNat) ∨ (∃ a b c d : UInt8, Utf8.encode r = ⟨#[a, b, c, d]⟩ ∧ 128 ≤ d.toNat) := by
  have hc : 128 ≤ (if Utf8.valid r then r.toNat else Utf8.runeError) := by
    split
    · omega
    · decide
  unfold Utf8.encode
  dsimp only
  generalize (if Utf8.valid r then r.toNat else Utf8.runeError) = c at hc
  have hk : ∀ m : Nat, 128 ≤ (UInt8.ofNat (0x80 + m % 64)).toNat := fun m => by rw [UInt8.toNat_ofNat']; omega
  rw [if_neg (by omega)]
  split
  · exact Or.inl ⟨_, _, rfl, hk _⟩
  · split
    · exact Or.inr (Or.inl ⟨_, _, _, rfl, hk _⟩)
    · exact Or.inr (Or.inr ⟨_, _, _, _, rfl, hk _⟩)
/-- a wide byte is not among narrow ones -/
theorem idx_no (s : ByteArray) (c : Int) (w : World) (hs : ∀ x ∈ s.data.toList, x.toNat < 128) (hc : 128 ≤ c ∧ c < 256) :
    Calls Tryd.prog 58 #[.string s, .int .u8 c] w fun e w' => e = .returned (.int .i64 (-1)) ∧ w' = w := by
  refine (Tryd.strings_IndexByte _ _ _).mono ?_
  rintro e w' ⟨rfl, rfl⟩
  refine ⟨?_, rfl⟩
  have : Lib.indexByte s.data.toList c.toNat.toUInt8 = -1 := by
    have hk : ∀ l : List UInt8, (∀ x ∈ l, x.toNat < 128) → Lib.indexByte l c.toNat.toUInt8 = -1 := by
      intro l
      induction l with
      | nil => intro _; rfl
      | cons x l ih =>
        intro h
        rw [Lib.indexByte, ih (fun y hy => h y (by simp [hy]))]
        have hx := h x (by simp)
        have : (x == c.toNat.toUInt8) = false := by
          rw [beq_eq_false_iff_ne]
          rintro rfl
          rw [UInt8.toNat_ofNat'] at hx
          omega
        rw [this]; rfl
    exact hk _ hs
  rw [this]
/-- none of the three is a wide rune -/
def NoRune (w : World) (e : Ending) (w' : World) : Prop := e = .returned (.int .i64 (-1)) ∧ Below w.heap.size w w'
set_option maxHeartbeats 2000000 in
set_option maxRecDepth 1000000 in
theorem rune_bad (w : World) : Calls Tryd.prog 51 #[.string ⟨#[44, 93, 125]⟩, .int .i32 65533] w (NoRune w) := by
  go_enter Tryd.func51, Tryd.ntmps51
  go_wp2
  go_loopg [5, 6] 3 (fun g _ _ wx => ∃ i : Nat, i + g = 3 ∧ wx = w.iter ⟨#[44, 93, 125]⟩ i)
  case atStart => exact ⟨0, rfl, rfl⟩
  case round =>
    obtain ⟨i, hig, rfl⟩ := hrel
    cases gk with
    | zero =>
      obtain rfl : i = 3 := by omega
      have hnx := fun ty => run_next_end (P := Tryd.prog) w ⟨#[44, 93, 125]⟩ 3 ty (by decide)
      go_wp2
      go_ret
      exact ⟨rfl, (Below.refl _ _).alloc (Nat.le_refl _) _⟩
    | succ g =>
      have hi : i < 3 := by omega
      obtain ⟨c, hc, hnx⟩ : ∃ c : Int, c < 128 ∧ ∀ ty, (Instr.next (.pointer (some ⟨w.heap.size, 0, none⟩)) true ty).run Tryd.prog (w.iter ⟨#[44, 93, 125]⟩ i) = .ok (.tuple #[.bool true, .int .i64 i, .int .i32 c]) (w.iter ⟨#[44, 93, 125]⟩ (i + 1)) := by
        rcases i with _ | _ | _ | i
        · exact ⟨44, by decide, fun ty => run_next_ascii (P := Tryd.prog) w ⟨#[44, 93, 125]⟩ 0 ty (by decide) (by decide)⟩
        · exact ⟨93, by decide, fun ty => run_next_ascii (P := Tryd.prog) w ⟨#[44, 93, 125]⟩ 1 ty (by decide) (by decide)⟩
        · exact ⟨125, by decide, fun ty => run_next_ascii (P := Tryd.prog) w ⟨#[44, 93, 125]⟩ 2 ty (by decide) (by decide)⟩
        · omega
      have hne : (c == 65533) = false := beq_eq_false_iff_ne.2 (by omega)
      go_wp2
      go_roundg g
      case measure => omega
      case rel => exact ⟨i + 1, by omega, rfl⟩
set_option maxHeartbeats 2000000 in
set_option maxRecDepth 1000000 in
theorem rune_wide (r : Int) (w : World) (h0 : 128 ≤ r) (h1 : r ≤ 1114111) (h2 : ¬ r = 65533) : Calls Tryd.prog 51 #[.string ⟨#[44, 93, 125]⟩, .int .i32 r] w (NoRune w) := by
  have HW := Lib.hid (wide_enc r h0)
  go_enter Tryd.func51, Tryd.ntmps51
  go_wp2_with (fail)
  refine (Tryd.utf8_ValidRune _ _).mono ?_
  rintro e w' ⟨rfl, rfl⟩
  have hcv : ∀ w, (convert 21 9 (.int .i32 r)).run Tryd.prog w = .ok (.string (Utf8.encode r)) w := fun w => run_convert_int_string w _ _ _ _ (by kernel_rfl) (by kernel_rfl)
  have hle : (Utf8.encode r).size ≤ maxLen := by rcases HW.out with ⟨a, b, he, hb⟩ | ⟨a, b, c, he, hb⟩ | ⟨a, b, c, d, he, hb⟩ <;> (rw [he]; unfold maxLen; simp [ByteArray.size])
  cases hv : Lib.validRune r
  · go_wp2_with (fail)
    go_ret
    exact ⟨rfl, Below.refl _ _⟩
  rcases HW.out with ⟨a, b, he, hb⟩ | ⟨a, b, c, he, hb⟩ | ⟨a, b, c, d, he, hb⟩
  · have hb2 : ¬ (93 : Int) = b.toNat := by omega
    clear hv
    rw [he] at hcv hle
    clear HW he
    go_wp2_with (fail)
    go_step3
    go_wp2_with (fail)
    have hne : ((((⟨#[44, 93, 125]⟩ : ByteArray)[1]'(by decide)).toNat : Int) != (((⟨#[a, b]⟩ : ByteArray)[1]'(by show 1 < Array.size _; simp)).toNat : Int)) = true := bne_iff_ne.2 hb2
    have hcI : (128 : Int) ≤ (((⟨#[a, b]⟩ : ByteArray)[1]'(by show 1 < Array.size _; simp)).toNat : Int) ∧ (((⟨#[a, b]⟩ : ByteArray)[1]'(by show 1 < Array.size _; simp)).toNat : Int) < 256 := ⟨by show (128 : Int) ≤ (b.toNat : Int); omega, by show (b.toNat : Int) < 256; have := b.toNat_lt; omega⟩
    have HC := Lib.hid hcI
    have hwk : IntKind.i64.wrap 2 = 2 := IntWalk.i64_in _ (by omega)
    clear hcI
    go_loopg [9, 10] 0 (fun g v9 v10 wx => v9 = .int .i64 1 ∧ v10 = .int .i64 0 ∧ wx = w')
    case atStart => exact ⟨rfl, rfl, rfl⟩
    case round =>
      obtain ⟨rfl, rfl, rfl⟩ := hrel
      go_wp2_with (fail)
      go_step3
      go_wp2_with (fail)
      go_region_held3 (fun _ => True) (trivial) (fail)
      all_goals
        go_wp2_with (fail)
        go_region_held3 (fun _ => True) (trivial) ((go_at_call 58; refine (idx_no _ _ _ (by decide +kernel) HC.out).mono ?_; rintro e w' ⟨rfl, rfl⟩))
      all_goals
        go_wp2_with (fail)
        change bodyPost Tryd.prog _ _ Exit.ret _ _
        go_ret
        exact ⟨rfl, (Below.refl _ _).drew.drew⟩
  · have hb2 : ¬ (125 : Int) = c.toNat := by omega
    clear hv
    rw [he] at hcv hle
    clear HW he
    go_wp2_with (fail)
    go_step3
    go_wp2_with (fail)
    have hne : ((((⟨#[44, 93, 125]⟩ : ByteArray)[2]'(by decide)).toNat : Int) != (((⟨#[a, b, c]⟩ : ByteArray)[2]'(by show 2 < Array.size _; simp)).toNat : Int)) = true := bne_iff_ne.2 hb2
    have hcI : (128 : Int) ≤ (((⟨#[a, b, c]⟩ : ByteArray)[2]'(by show 2 < Array.size _; simp)).toNat : Int) ∧ (((⟨#[a, b, c]⟩ : ByteArray)[2]'(by show 2 < Array.size _; simp)).toNat : Int) < 256 := ⟨by show (128 : Int) ≤ (c.toNat : Int); omega, by show (c.toNat : Int) < 256; have := c.toNat_lt; omega⟩
    have HC := Lib.hid hcI
    have hwk : IntKind.i64.wrap 3 = 3 := IntWalk.i64_in _ (by omega)
    clear hcI
    go_loopg [9, 10] 0 (fun g v9 v10 wx => v9 = .int .i64 2 ∧ v10 = .int .i64 0 ∧ wx = w')
    case atStart => exact ⟨rfl, rfl, rfl⟩
    case round =>
      obtain ⟨rfl, rfl, rfl⟩ := hrel
      go_wp2_with (fail)
      go_step3
      go_wp2_with (fail)
      go_region_held3 (fun _ => True) (trivial) (fail)
      all_goals
        go_wp2_with (fail)
        go_region_held3 (fun _ => True) (trivial) ((go_at_call 58; refine (idx_no _ _ _ (by decide +kernel) HC.out).mono ?_; rintro e w' ⟨rfl, rfl⟩))
      all_goals
        go_wp2_with (fail)
        change bodyPost Tryd.prog _ _ Exit.ret _ _
        go_ret
        exact ⟨rfl, (Below.refl _ _).drew.drew⟩
  · clear hv
    rw [he] at hcv hle
    clear HW he
    go_wp2_with (fail)
    go_step3
    go_wp2_with (fail)
    go_loopg [9, 10] 0 (fun g v9 v10 wx => v9 = .int .i64 3 ∧ v10 = .int .i64 0 ∧ wx = w')
    case atStart => exact ⟨rfl, rfl, rfl⟩
    case round =>
      obtain ⟨rfl, rfl, rfl⟩ := hrel
      go_wp2_with (fail)
      try rw [Exit.noGoto_ret]
      go_ret
      exact ⟨rfl, Below.refl _ _⟩
theorem rune_high (r : Int) (w : World) (h0 : 128 ≤ r) (h1 : r ≤ 1114111) : Calls Tryd.prog 51 #[.string ⟨#[44, 93, 125]⟩, .int .i32 r] w (NoRune w) := by
  by_cases h : r = 65533
  · subst h; exact rune_bad w
  · exact rune_wide r w h0 h1 h
theorem rune_le (s : ByteArray) (pos : Nat) : (Utf8.decode s pos).1 ≤ 1114111 := by
  rw [Lib.decode_at]
  have := (s.get! pos).toNat_lt
  unfold Lib.decodeN
  repeat' split
  all_goals (simp only; omega)
/-- what IndexAny tells of a short text -/
def AnyPost (s : ByteArray) (w : World) (e : Ending) (w' : World) : Prop := e = .returned (.int .i64 (Lib.indexAny s.data.toList stops)) ∧ Below w.heap.size w w'
set_option maxHeartbeats 4000000 in
set_option maxRecDepth 1000000 in
theorem any_short (s : ByteArray) (w : World) (h8 : s.size ≤ 8) : Calls Tryd.prog 46 #[.string s, .string ⟨#[44, 93, 125]⟩] w (AnyPost s w) := by
  have h8z : decide ((8 : Int) < (s.size : Int)) = false := decide_eq_false (by omega)
  go_enter Tryd.func46, Tryd.ntmps46
  go_wp2_with (go_at_call 52; refine (Tryd.strings_shouldUseASCIISet _ _).mono ?_; rintro e w' ⟨rfl, hw⟩; rw [hw, h8z])
  go_loopg [9, 10] s.size (fun g _ _ wx => ∃ i : Nat, s.size ≤ i + g ∧ wx.heap[w.heap.size]? = some (.stringIter s i) ∧ Below w.heap.size w wx ∧ Lib.NoAny s.data.toList stops i)
  case atStart => exact ⟨0, by omega, World.iter_heap w s 0, iter_below w s, Lib.NoAny.zero _ _⟩
  case round =>
    obtain ⟨i, hig, hit, hb, hno⟩ := hrel
    have HN := Lib.hid hno
    have HB := Lib.hid hb
    have HIT := Lib.hid hit
    clear hno hb
    by_cases hi : i < s.size
    · have hnx := fun ty => run_next_at (P := Tryd.prog) wr w.heap.size s i ty hit hi
      clear hit
      have hwl : w.heap.size < wr.heap.size := by
        rcases Nat.lt_or_ge w.heap.size wr.heap.size with h | h
        · exact h
        · have := HIT.out; rw [Array.getElem?_eq_none h] at this; cases this
      obtain ⟨x, hx⟩ : ∃ x : UInt8, s[i]'hi = x := ⟨_, rfl⟩
      have hxl : s.data.toList[i]? = some x := by rw [← hx]; exact Lib.data_getElem? s i hi
      have Hx := Lib.hid hxl
      have hg : s.get! i = x := get_list s i x hxl
      by_cases h128 : x.toNat < 128
      · have hd := decode_ascii s i hi (by rw [hx]; exact h128)
        rw [hd, hx] at hnx
        obtain ⟨W, hW⟩ : ∃ W, W = nextAt wr w.heap.size s (i + 1) := ⟨_, rfl⟩
        have HWI : Hid (W.heap[w.heap.size]? = some (.stringIter s (i + 1))) := Lib.hid (by rw [hW]; exact next_at_heap _ _ _ _ hwl)
        have HWB : Hid (Below w.heap.size w W) := Lib.hid (by rw [hW]; exact next_at_below HB.out (Nat.le_refl _))
        dsimp only at hnx
        rw [← hW] at hnx
        clear hW hd hx hxl hg hwl
        have hback : ((x.toNat : Int)).toNat.toUInt8 = x := by simp
        obtain ⟨q, hq⟩ : ∃ q, Lib.indexByte stops x = q := ⟨_, rfl⟩
        have hcon : stops.contains x = decide (0 ≤ q) := by rw [← hq]; exact Lib.contains_iff_indexByte stops x
        have HQ : Hid (Lib.indexByte (⟨#[44, 93, 125]⟩ : ByteArray).data.toList ((x.toNat : Int)).toNat.toUInt8 = q) := Lib.hid (by rw [hback]; exact hq)
        clear hq hback
        by_cases h0 : 0 ≤ q
        · have HC : Hid (stops.contains x = true) := Lib.hid (by rw [hcon]; exact decide_eq_true h0)
          clear hcon
          go_wp2_with (go_at_call 51; refine (Tryd.strings_IndexRune_ascii _ _ _ (by omega) (by omega)).mono ?_; rintro e w' ⟨rfl, hw⟩; rw [hw, HQ.out])
          go_ret
          exact ⟨by rw [Lib.indexAny_hit HN.out Hx.out HC.out]; rfl, HWB.out⟩
        · have HC : Hid (stops.contains x = false) := Lib.hid (by rw [hcon]; exact decide_eq_false h0)
          clear hcon
          go_wp2_with (go_at_call 51; refine (Tryd.strings_IndexRune_ascii _ _ _ (by omega) (by omega)).mono ?_; rintro e w' ⟨rfl, hw⟩; rw [hw, HQ.out])
          go_roundg (gk - 1)
          case measure => omega
          case rel => exact ⟨i + 1, by omega, HWI.out, HWB.out, HN.out.succ Hx.out HC.out⟩
      · obtain ⟨r, hr⟩ : ∃ r, r = (Utf8.decode s i).1 := ⟨_, rfl⟩
        obtain ⟨k, hk⟩ : ∃ k, k = (Utf8.decode s i).2 := ⟨_, rfl⟩
        have hr1 : r ≤ 1114111 := by rw [hr]; exact rune_le s i
        have hr2 : 128 ≤ r := by rw [hr]; exact (decode_high s i hi (by rw [hx]; omega)).1
        have hk1 : 1 ≤ k := by rw [hk]; exact (decode_high s i hi (by rw [hx]; omega)).2
        have HNK : Hid (Lib.NoAny s.data.toList stops (i + k)) := Lib.hid (by rw [hk]; exact wide_no HN.out (by rw [hg]; omega))
        rw [← hr, ← hk] at hnx
        obtain ⟨W, hW⟩ : ∃ W, W = nextAt wr w.heap.size s (i + k) := ⟨_, rfl⟩
        have HWI : Hid (W.heap[w.heap.size]? = some (.stringIter s (i + k))) := Lib.hid (by rw [hW]; exact next_at_heap _ _ _ _ hwl)
        have HWL : Hid (w.heap.size < W.heap.size) := Lib.hid (by rw [hW]; show _ < (wr.heap.setIfInBounds _ _).size; rw [Array.size_setIfInBounds]; exact hwl)
        have HWB : Hid (Below w.heap.size w W) := Lib.hid (by rw [hW]; exact next_at_below HB.out (Nat.le_refl _))
        rw [← hW] at hnx
        clear hW hr hk hx hxl hg hwl
        go_wp2_with (fail)
        refine (rune_high (r : Int) W (by omega) (by omega)).mono ?_
        rintro e w2 ⟨rfl, hb2⟩
        have HB2 := Lib.hid hb2
        clear hb2
        go_wp2_with (fail)
        go_roundg (gk - 1)
        case measure => omega
        case rel => exact ⟨i + k, by omega, (HB2.out.block _ HWL.out).trans HWI.out, HWB.out.trans (HB2.out.mono (Nat.le_of_lt HWL.out)), HNK.out⟩
    · have hnx := fun ty => run_next_at_end (P := Tryd.prog) wr w.heap.size s i ty hit hi
      clear hit
      go_wp2
      go_ret
      exact ⟨by rw [Lib.indexAny_none (no_le HN.out (by rw [← Lib.size_eq]; omega))]; rfl, HB.out⟩
theorem stops_zero : (Tryd.prog.info? 78).map (fun i => (i.zero, i.size)) = some (some (.agg (Array.replicate 256 (.bool false))), 256) := by kernel_rfl
/-- the first comma or closing bracket of any text -/
theorem any_stop (s : ByteArray) (w : World) (hs : s.size ≤ 1048576) : Calls Tryd.prog 46 #[.string s, .string ⟨#[44, 93, 125]⟩] w (AnyPost s w) := by
  by_cases h8 : s.size ≤ 8
  · exact any_short s w h8
  · refine (Tryd.strings_IndexAny_long (zero_of_info stops_zero).1 s ⟨#[44, 93, 125]⟩ w (by decide) (by omega) (by omega) (by decide) ?_).mono ?_
    · intro j b hb
      rcases j with _ | _ | _ | j
      · injection hb with hb; subst hb; decide
      · injection hb with hb; subst hb; decide
      · injection hb with hb; subst hb; decide
      · cases hb
    · rintro e w' ⟨rfl, rfl⟩
      exact ⟨rfl, ((Below.refl _ _).alloc (Nat.le_refl _) _).alloc (by simp) _⟩
end Go.Proofs.YtjbdfckanabepaaDoor.vt

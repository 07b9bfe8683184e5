/- How many bits of a number of sixteen are set: what math/bits tells, and where an arm stands. -/
import Derived.Test.YtjlbchkdiaomjaaDoorTrieArms
import Derived.Test.YtjlbchkdiaomjaaDoorTrieMix
import Derived.Test.YtjlbchkdiaomjaaDoorMem
import Derived.BigQuiet
import Derived.Deep.QuietTactic
import Derived.Laws.BitsAllLaws
import Derived.IntWalk
namespace Go.Proofs.YtjlbchkdiaomjaaDoor.trie
open Go.RowKit mem tri mix

set_option maxRecDepth 100000 in
/-- the table of the library, as the program has it -/
def popT : ByteArray := { data := ((([0, 1, 1, 2, 1, 2, 2, 3, 1, 2, 2, 3, 2, 3, 3, 4, 1, 2, 2, 3, 2, 3, 3, 4, 2, 3, 3, 4, 3, 4, 4, 5, 1, 2, 2, 3, 2, 3, 3, 4, 2, 3, 3, 4, 3, 4, 4, 5, 2, 3, 3, 4, 3, 4, 4, 5, 3, 4, 4, 5, 4, 5, 5, 6] : List UInt8).append
  [1, 2, 2, 3, 2, 3, 3, 4, 2, 3, 3, 4, 3, 4, 4, 5, 2, 3, 3, 4, 3, 4, 4, 5, 3, 4, 4, 5, 4, 5, 5, 6, 2, 3, 3, 4, 3, 4, 4, 5, 3, 4, 4, 5, 4, 5, 5, 6, 3, 4, 4, 5, 4, 5, 5, 6, 4, 5, 5, 6, 5, 6, 6, 7]).append
  (([1, 2, 2, 3, 2, 3, 3, 4, 2, 3, 3, 4, 3, 4, 4, 5, 2, 3, 3, 4, 3, 4, 4, 5, 3, 4, 4, 5, 4, 5, 5, 6, 2, 3, 3, 4, 3, 4, 4, 5, 3, 4, 4, 5, 4, 5, 5, 6, 3, 4, 4, 5, 4, 5, 5, 6, 4, 5, 5, 6, 5, 6, 6, 7] : List UInt8).append
  [2, 3, 3, 4, 3, 4, 4, 5, 3, 4, 4, 5, 4, 5, 5, 6, 3, 4, 4, 5, 4, 5, 5, 6, 4, 5, 5, 6, 5, 6, 6, 7, 3, 4, 4, 5, 4, 5, 5, 6, 4, 5, 5, 6, 5, 6, 6, 7, 4, 5, 5, 6, 5, 6, 6, 7, 5, 6, 6, 7, 6, 7, 7, 8])).toArray }
set_option maxRecDepth 100000 in
theorem popT_size : popT.size = 256 := by decide +kernel
theorem popT_lit : ({ data := ((([0, 1, 1, 2, 1, 2, 2, 3, 1, 2, 2, 3, 2, 3, 3, 4, 1, 2, 2, 3, 2, 3, 3, 4, 2, 3, 3, 4, 3, 4, 4, 5, 1, 2, 2, 3, 2, 3, 3, 4, 2, 3, 3, 4, 3, 4, 4, 5, 2, 3, 3, 4, 3, 4, 4, 5, 3, 4, 4, 5, 4, 5, 5, 6] : List UInt8).append
  [1, 2, 2, 3, 2, 3, 3, 4, 2, 3, 3, 4, 3, 4, 4, 5, 2, 3, 3, 4, 3, 4, 4, 5, 3, 4, 4, 5, 4, 5, 5, 6, 2, 3, 3, 4, 3, 4, 4, 5, 3, 4, 4, 5, 4, 5, 5, 6, 3, 4, 4, 5, 4, 5, 5, 6, 4, 5, 5, 6, 5, 6, 6, 7]).append
  (([1, 2, 2, 3, 2, 3, 3, 4, 2, 3, 3, 4, 3, 4, 4, 5, 2, 3, 3, 4, 3, 4, 4, 5, 3, 4, 4, 5, 4, 5, 5, 6, 2, 3, 3, 4, 3, 4, 4, 5, 3, 4, 4, 5, 4, 5, 5, 6, 3, 4, 4, 5, 4, 5, 5, 6, 4, 5, 5, 6, 5, 6, 6, 7] : List UInt8).append
  [2, 3, 3, 4, 3, 4, 4, 5, 3, 4, 4, 5, 4, 5, 5, 6, 3, 4, 4, 5, 4, 5, 5, 6, 4, 5, 5, 6, 5, 6, 6, 7, 3, 4, 4, 5, 4, 5, 5, 6, 4, 5, 5, 6, 5, 6, 6, 7, 4, 5, 5, 6, 5, 6, 6, 7, 5, 6, 6, 7, 6, 7, 7, 8])).toArray } : ByteArray) = popT := rfl
def pop8 (x : Nat) : Nat := sumTo 8 fun i => (x.testBit i).toNat
set_option maxRecDepth 100000 in
theorem popT_all : ∀ i : Fin 256, (popT.data.toList.getD i.1 0).toNat = pop8 i.1 := by decide +kernel
theorem popT_at (i : Nat) (h : i < popT.size) : (popT[i]).toNat = pop8 i := by
  have h1 := popT_all ⟨i, by rw [popT_size] at h; exact h⟩
  rw [← h1]
  have : popT[i] = popT.data.toList.getD i 0 := by
    show popT.data[i] = _
    rw [List.getD_eq_getElem?_getD, Array.getElem?_toList]
    rw [show popT.data[i]? = some popT.data[i] from Array.getElem?_eq_getElem h]; rfl
  rw [this]
theorem pop8_le (x : Nat) : pop8 x ≤ 8 := by
  have h := sumTo_le (g := fun i => (x.testBit i).toNat) (h := fun _ => 1) 8 (fun i _ => by cases x.testBit i <;> simp)
  rw [sumTo_const] at h; exact h
theorem pop_parts (x : Nat) : pop8 (x / 256) + pop8 (x &&& 255) = pop x := by
  have e : ∀ i, (x / 256).testBit i = x.testBit (i + 8) := by
    intro i
    rw [show (256 : Nat) = 2 ^ 8 by rfl, Nat.testBit_div_two_pow]
  have f : ∀ i, (x &&& 255).testBit i = (x.testBit i && decide (i < 8)) := by
    intro i
    rw [Nat.testBit_and, show (255 : Nat) = 2 ^ 8 - 1 by rfl, Nat.testBit_two_pow_sub_one]
  unfold pop8 pop sumTo
  simp only [sumTo, e, f]
  simp
  omega

theorem popT_run (i : Nat) (hi : i < 256) (z : Int) (hz : z = i) (w : World) : (Instr.index 9 (.string popT) (.int .u16 z)).run Tryd.prog w = .ok (.int .u8 (pop8 i : Nat)) w := by
  subst hz
  have h : i < popT.size := by rw [popT_size]; exact hi
  rw [run_index_string _ _ _ _ _ Tryd.underlying9, dif_pos ⟨by omega, by omega⟩]
  have := popT_at i h
  simp only [Int.toNat_natCast]
  rw [this]
theorem pop_any (x : Nat) (w : World) (hx : x ≤ 65535) :
    Calls Tryd.prog 65 #[.int .u16 x] w fun e w' => e = .returned (.int .i64 (pop x)) ∧ ∃ n, w' = w.drewN n := by
  have hp := Lib.hid (pop_parts x)
  have l1 := pop8_le (x / 256)
  have l2 := pop8_le (x &&& 255)
  have b2 : (x &&& 255) < 256 := by have := Nat.and_le_right (n := x) (m := 255); omega
  have r1 := fun w => popT_run (x / 256) (by omega) ((x : Int) / 256) (by omega) w
  have e2 : bits .and .u16 (x : Int) 255 = ((x &&& 255 : Nat) : Int) := u16_and_nat x 255 (by omega) (by decide)
  have r2 := fun w => popT_run (x &&& 255) b2 ((x &&& 255 : Nat) : Int) rfl w
  obtain ⟨m, hm⟩ : ∃ m, m = x &&& 255 := ⟨_, rfl⟩
  obtain ⟨p1, hp1⟩ : ∃ p, p = pop8 (x / 256) := ⟨_, rfl⟩
  obtain ⟨p2, hp2⟩ : ∃ p, p = pop8 (x &&& 255) := ⟨_, rfl⟩
  rw [← hp1] at l1 r1
  rw [← hp2] at l2 r2
  rw [← hm] at e2 r2
  rw [← hp1, ← hp2] at hp
  have e3 : IntKind.u8.wrap ((p1 : Int) + (p2 : Int)) = (p1 : Int) + (p2 : Int) := by simp only [IntKind.wrap, IntKind.bits, IntKind.signed]; simp; omega
  clear hp1 hp2 hm b2
  go_enter Tryd.func65, Tryd.ntmps65
  go_wp2_with (fail)
  rw [popT_lit]
  go_quiet (fail)
  go_wp2
  go_ret
  exact ⟨by rw [← hp.out]; rfl, _, rfl⟩
theorem bit_wrap (f : Nat) (hf : f ≤ 15) : IntKind.u16.wrap (2 ^ f) = ((2 ^ f : Nat) : Int) ∧ 2 ^ f ≤ 32768 ∧ 1 ≤ 2 ^ f := by
  have : f = 0 ∨ f = 1 ∨ f = 2 ∨ f = 3 ∨ f = 4 ∨ f = 5 ∨ f = 6 ∨ f = 7 ∨ f = 8 ∨ f = 9 ∨ f = 10 ∨ f = 11 ∨ f = 12 ∨ f = 13 ∨ f = 14 ∨ f = 15 := by omega
  rcases this with rfl | rfl | rfl | rfl | rfl | rfl | rfl | rfl | rfl | rfl | rfl | rfl | rfl | rfl | rfl | rfl <;> exact ⟨rfl, by decide, by decide⟩
/-- where an arm stands, or would stand, and if it is there -/
theorem find_any (a : Nat → Tr) (g f : Nat) (w : World) (hf : f ≤ 15) (hc : w.cell? ⟨g, 0, none⟩ = some (.int .u16 (hasS a : Nat))) :
    Calls Tryd.prog 52 #[.pointer (some ⟨g, 0, none⟩), .int .i64 f] w fun e w' => e = .returned (.tuple #[.int .i64 ((pre a f).length : Nat), .bool (!isN (a f))]) ∧ ∃ n, w' = w.drewN n := by
  obtain ⟨hb, hb2, hb1⟩ := bit_wrap f hf
  have hx := hasS_lt a
  have hp := pop_low a f (by omega)
  have ha := has_and a f (by omega)
  have hlo : hasS a &&& (2 ^ f - 1) = hasS a % 2 ^ f := Nat.and_two_pow_sub_one_eq_mod _ _
  obtain ⟨x, hxe⟩ : ∃ x, x = hasS a := ⟨_, rfl⟩
  obtain ⟨b, hbe⟩ : ∃ b, b = 2 ^ f := ⟨_, rfl⟩
  rw [← hxe] at hc hx hp ha hlo
  rw [← hbe] at hb hb2 hb1 hp ha hlo
  have e1 : IntKind.u16.wrap ((b : Int) - 1) = ((b - 1 : Nat) : Int) := by rw [IntKind.wrap_u16]; omega
  have e2 : bits .and .u16 (x : Int) ((b - 1 : Nat) : Int) = ((x &&& (b - 1) : Nat) : Int) := u16_and_nat x (b - 1) (by omega) (by omega)
  have e3 : bits .and .u16 (x : Int) (b : Int) = ((x &&& b : Nat) : Int) := u16_and_nat x b (by omega) (by omega)
  have l2 : x &&& (b - 1) ≤ 65535 := by have := Nat.and_le_left (n := x) (m := b - 1); omega
  rw [← hlo] at hp
  obtain ⟨y, hy⟩ : ∃ y, y = x &&& (b - 1) := ⟨_, rfl⟩
  obtain ⟨z, hz⟩ : ∃ z, z = x &&& b := ⟨_, rfl⟩
  obtain ⟨c, hcc⟩ : ∃ c, c = b - 1 := ⟨_, rfl⟩
  rw [← hcc] at e1 e2 hy hp l2
  rw [← hy] at e2 l2 hp
  rw [← hz] at e3 ha
  have hP := Lib.hid hp
  have hz2 : ((z : Int) != 0) = !isN (a f) := by
    cases hn : isN (a f)
    · rw [hn] at ha; simp at ha
      have : (z : Int) ≠ 0 := by omega
      simpa using this
    · rw [hn] at ha; simp at ha; subst ha; rfl
  obtain ⟨r, hr⟩ : ∃ r, r = !isN (a f) := ⟨_, rfl⟩
  rw [← hr] at hz2 ⊢
  clear hlo hx hp ha hbe hxe hy hz hcc hr
  go_enter Tryd.func52, Tryd.ntmps52
  go_wp2_with (fail)
  clear hb
  go_quiet ((go_at_call 65; exact (pop_any y _ l2).quiet_of))
  go_wp2
  go_ret2
  exact ⟨by rw [← hP.out]; rfl, _, rfl⟩
end Go.Proofs.YtjlbchkdiaomjaaDoor.trie

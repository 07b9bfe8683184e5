/- Bytes in memory: slices that read as bytes, rows of bytes that a call puts more behind. -/
import Derived.Test.YtnjcapenkoemlaaCellNum
import Derived.Test.YtnjcapenkoemlaaMine
import Derived.Laws.BytesArg
import Derived.Laws.IdiomStrings
namespace Go.Proofs.Ytnjcapenkoemlaa.vt.ce
open Go.RowKit mem vt

def byV (l : List UInt8) : List Value := l.map fun c => .int .u8 (c.toNat : Int)
theorem byV_len (l : List UInt8) : (byV l).length = l.length := by unfold byV; simp
theorem byV_append (a b : List UInt8) : byV (a ++ b) = byV a ++ byV b := by unfold byV; simp
theorem byV_at (l : List UInt8) (j : Nat) (u : Value) (h : (byV l)[j]? = some u) : ∃ hj : j < l.length, u = .int .u8 (l[j].toNat : Int) := by
  have hj := (List.getElem?_eq_some_iff.1 h).1
  rw [byV_len] at hj
  refine ⟨hj, ?_⟩
  unfold byV at h
  simp [List.getElem?_eq_getElem hj] at h
  exact h.symm
theorem byV_one (l : List UInt8) : ∀ u ∈ byV l, u.oneCell' = true := by
  unfold byV; intro u hu; simp at hu; obtain ⟨c, _, rfl⟩ := hu; rfl
/-- a slice that reads as bytes, which lie in a block of which G holds -/
def Bts (G : Nat → Prop) (w : World) (l : List UInt8) (s : Value) : Prop :=
  ∃ A cap, s = .slice A l.length cap ∧ (l.length ≤ 9223372036854775807 ∧ (A = none → cap = 0) ∧ l.length ≤ cap) ∧ (0 < l.length → ∃ b off, A = some ⟨b, off, none⟩ ∧ G b ∧ ∀ j (hj : j < l.length), w.cell? ⟨b, off + j, none⟩ = some (.int .u8 (l[j].toNat : Int)))
theorem Bts.nil_ (G : Nat → Prop) (w : World) : Bts G w [] (.slice none 0 0) := ⟨none, 0, rfl, ⟨by simp, fun _ => rfl, by simp⟩, fun h => absurd h (by simp)⟩
theorem Bts.form {G : Nat → Prop} {w : World} {l : List UInt8} {s : Value} (h : Bts G w l s) : ∃ A cap, s = .slice A l.length cap := by
  obtain ⟨A, cap, hs, _⟩ := h; exact ⟨A, cap, hs⟩
theorem Bts.carry {G G' : Nat → Prop} {w w' : World} {l : List UInt8} {s : Value} (h : Bts G w l s) (hc : ∀ b o v, G b → w.cell? ⟨b, o, none⟩ = some v → G' b ∧ w'.cell? ⟨b, o, none⟩ = some v) : Bts G' w' l s := by
  obtain ⟨A, cap, hs, hl, h⟩ := h
  refine ⟨A, cap, hs, hl, fun h0 => ?_⟩
  obtain ⟨b, off, hA, hb, h⟩ := h h0
  exact ⟨b, off, hA, (hc _ _ _ hb (h 0 h0)).1, fun j hj => (hc _ _ _ hb (h j hj)).2⟩
theorem Bts.below {G : Nat → Prop} {w w' : World} {l : List UInt8} {s : Value} (h : Bts G w l s) (hb : Below w.heap.size w w') : Bts G w' l s :=
  h.carry fun b o _ hG hc => ⟨hG, (hb.cell (p := ⟨b, o, none⟩) (World.block_lt_of_cell? _ _ hc)).trans hc⟩
theorem Bts.mono {G G' : Nat → Prop} {w : World} {l : List UInt8} {s : Value} (h : Bts G w l s) (hg : ∀ b, G b → G' b) : Bts G' w l s := h.carry fun b _ _ hb hc => ⟨hg b hb, hc⟩
theorem Bts.lt {G : Nat → Prop} {w : World} {l : List UInt8} {s : Value} (h : Bts G w l s) : Bts (fun b => G b ∧ b < w.heap.size) w l s :=
  h.carry fun _ _ _ hb hc => ⟨⟨hb, World.block_lt_of_cell? _ _ hc⟩, hc⟩
/-- a row of the call's own reads as bytes -/
theorem Bts.of_own {B : Nat} {w : World} {l : List UInt8} {v : Value} (h : w.ownsRow B 5 1 v l.length (byV l)) : Bts (fun b => v.ownBlock = some b) w l v := by
  rcases h.2 with ⟨rfl, hn⟩ | ⟨g, cap, cur, rfl, hb, hg, hnc, hcm, hcs, htake⟩
  · have : l = [] := List.eq_nil_of_length_eq_zero hn
    subst this; exact Bts.nil_ _ _
  · refine ⟨_, cap, rfl, ⟨by unfold maxLen at hcm; omega, (fun h => by cases h), hnc⟩, fun h0 => ⟨g, 0, rfl, rfl, fun j hj => ?_⟩⟩
    rw [Nat.zero_add, h.cellAt j (by omega)]
    unfold byV; simp [List.getElem?_eq_getElem hj]
theorem bytes_conv {G : Nat → Prop} {w : World} {l : List UInt8} {s : Value} (h : Bts G w l s) : (convert 27 9 s).run Try.prog w = .ok (.string ⟨l.toArray⟩) w := by
  obtain ⟨A, cap, rfl, hl, h⟩ := h
  cases A with
  | none =>
    have : l = [] := by
      cases l with
      | nil => rfl
      | cons a r => obtain ⟨b, off, h, _⟩ := h (by simp); cases h
    subst this
    exact run_convert_bytes_nil (P := Try.prog) w 27 5 Try.underlying27 Try.underlying5 _ _ 9 Try.underlying9
  | some a =>
    refine run_convert_bytes_back (P := Try.prog) w 27 9 5 a cap l Try.underlying27 Try.underlying5 Try.underlying9 fun j hj => ?_
    obtain ⟨b, off, hA, _, hc⟩ := h (by omega)
    injection hA with hA
    subst hA
    rw [cells_add]
    exact hc j hj
theorem infoB : (Try.prog.info? 5).map (fun i => (i.zero, i.size, i.bytes)) = some (some (.int .u8 0), 1, 1) := by kernel_rfl
theorem grown_trans {w w1 w2 : World} {r r1 : Option Nat} (h : w.grownBy w1 r) (h1 : w1.grownBy w2 r1) (hr : ∀ k, r1 = some k → r = some k ∨ w.heap.size ≤ k) : w.grownBy w2 r :=
  ⟨h1.os.trans h.os, h1.tape.trans h.tape, h1.output.trans h.output, Nat.le_trans h.size h1.size, fun k hk hn => (h1.block k (Nat.lt_of_lt_of_le hk h.size) (fun e => by
    rcases hr k e.symm with e' | e'
    · exact hn e'.symm
    · omega)).trans (h.block k hk hn)⟩
theorem grown_refl (w : World) (r : Option Nat) : w.grownBy w r := ⟨rfl, rfl, rfl, Nat.le_refl _, fun _ _ _ => rfl⟩
theorem grown_below {B : Nat} {w w1 : World} {r : Option Nat} (h : Below B w w1) (hB : w.heap.size ≤ B) : w.grownBy w1 r := ⟨h.os, h.tape, h.output, h.size, fun k hk _ => h.block k (by omega)⟩
/-- a row of bytes with more behind them -/
def Put (B : Nat) (acc : List UInt8) (v : Value) (w : World) (v' : Value) (w' : World) : Prop :=
  w'.ownsRow B 5 1 v' acc.length (byV acc) ∧ w.grownBy w' v.ownBlock ∧ ∀ k, v'.ownBlock = some k → v.ownBlock = some k ∨ w.heap.size ≤ k
theorem Put.refl {B : Nat} {acc : List UInt8} {v : Value} {w : World} (h : w.ownsRow B 5 1 v acc.length (byV acc)) : Put B acc v w v w := ⟨h, grown_refl _ _, fun _ h => Or.inl h⟩
theorem Put.trans {B : Nat} {a b : List UInt8} {v v1 v2 : Value} {w w1 w2 : World} (h : Put B a v w v1 w1) (h1 : Put B b v1 w1 v2 w2) : Put B b v w v2 w2 :=
  ⟨h1.1, grown_trans h.2.1 h1.2.1 h.2.2, fun k hk => by
    rcases h1.2.2 k hk with e | e
    · exact h.2.2 k e
    · exact Or.inr (Nat.le_trans h.2.1.size e)⟩
theorem Put.below {B : Nat} {a : List UInt8} {v v1 : Value} {w w1 : World} (h : Put B a v w v1 w1) (hv : ∀ k, v.ownBlock = some k → B ≤ k) (hB : B ≤ w.heap.size) : Below B w w1 :=
  (Below.refl B w).grown h.2.1 hB hv
theorem Put.alloc {B : Nat} {a : List UInt8} {v v1 : Value} {w w1 : World} (h : Put B a v w v1 w1) (o : Obj) : Put B a v w v1 (w1.alloc o) :=
  ⟨h.1.alloc o, grown_trans h.2.1 (World.grownBy_alloc w1 o none) (fun k e => by cases e), h.2.2⟩
/-- .. behind what was laid in a new block -/
theorem Put.from_alloc {B : Nat} {a : List UInt8} {v v1 : Value} {w w1 : World} {o : Obj} (h : Put B a v (w.alloc o) v1 w1) : Put B a v w v1 w1 :=
  ⟨h.1, grown_trans (World.grownBy_alloc w o none |> fun g => ⟨g.os, g.tape, g.output, g.size, fun k hk _ => g.block k hk (by simp)⟩) h.2.1 (fun k e => Or.inl e), fun k hk => (h.2.2 k hk).imp id fun e => by simp at e; omega⟩
/-- behind one byte -/
theorem put_one {B n m : Nat} {acc : List UInt8} {c : UInt8} {v v' : Value} {w w1 : World} {o : Obj} {x : Int} (hn : n = acc.length) (hm : m = n + 1) (hc : x = (c.toNat : Int)) (hown : w1.ownsRow B 5 1 v' m (byV acc ++ [.int .u8 x])) (hg : (w.alloc o).grownBy w1 v.ownBlock) (hb : ∀ k, v'.ownBlock = some k → v.ownBlock = some k ∨ (w.alloc o).heap.size ≤ k) :
    Put B (acc ++ [c]) v w v' w1 := by
  refine Put.from_alloc (o := o) ⟨?_, hg, hb⟩
  have e : byV (acc ++ [c]) = byV acc ++ [.int .u8 x] := by rw [byV_append, hc]; rfl
  rw [e, List.length_append, List.length_singleton, ← hn, ← hm]
  exact hown
/-- the append of one byte, met in a walk -/
theorem wpList_put {w wr : World} {ops : Array Oper} {rest : List Oper} {o : Oper} {a : Act} {Q : Exit → Act → World → Prop} (hgd : o.guard = none) (s x : Operand)
    (ho : o.op = .call { callee := .builtin .append, args := #[s, x], argTypes := #[27, 27] }) (B n : Nat) (acc : List UInt8) (v0 v : Value) (c : UInt8) (y : Int) (H : Nat) (hH : H = wr.heap.size)
    (hs : a.eval s = v) (hx : a.eval x = .slice (some ⟨H, 0, none⟩) 1 1) (hp : Put B acc v0 w v wr) (hn : n = acc.length) (hy : y = (c.toNat : Int)) (hl : n ≤ 2199023255552) (hB : B ≤ wr.heap.size)
    (h : ∀ A2 c2 w', Put B (acc ++ [c]) v0 w (.slice A2 (n + 1) c2) w' → wpList Try.prog ops Q rest (a.put o.dst (.slice A2 (n + 1) c2)) w') :
    wpList Try.prog ops Q (o :: rest) a (wr.alloc (.cells #[.int .u8 y] 5)) := by
  subst hH
  obtain ⟨i0, hi, hz0, hz1, hz2⟩ := info_parts infoB
  have hown := hp.1
  rw [← hn] at hown
  refine wpList_append_mine hgd s x 27 ho B 5 i0 (.int .u8 0) 1 1 Try.underlying27 hi hz0 hz1 hz2 rfl (by decide) v n (byV acc) hs (hown.alloc _) ⟨wr.heap.size, 0, none⟩ 1 1 [.int .u8 y] hx rfl (new_one wr _ _) (one_int .u8 _) (by unfold maxLen; omega) (by omega) (by rw [World.size_alloc]; omega) ?_
  intro v' w' h1 h2 h3
  obtain ⟨A2, c2, rfl⟩ := own_form h1
  exact h A2 c2 w' (hp.trans (put_one hn rfl hy h1 h2 h3))
theorem grp_le : ∀ (k x : Nat), x < 128 ^ k → (grpN x).length ≤ k + 1
  | 0, x, h => by rw [grpN_low (by simp at h; omega)]; simp
  | k + 1, x, h => by
    by_cases hx : x ≤ 127
    · rw [grpN_low hx]; simp
    · rw [grpN_high hx, List.length_cons]
      have := grp_le k (x / 128) (by rw [Nat.pow_succ] at h; omega)
      omega
theorem grp_ten {x : Nat} (h : x < 18446744073709551616) : (grpN x).length ≤ 11 := grp_le 10 x (by omega)
def PutRel (B : Nat) (tot : List UInt8) (v : Value) (w : World) (a u : Value) (wr : World) : Prop :=
  ∃ (acc : List UInt8) (x : Nat), u = .int .u64 x ∧ x < 18446744073709551616 ∧ Hid (acc ++ grpN x = tot) ∧ Put B acc v w a wr
def PutPost (B : Nat) (tot : List UInt8) (v : Value) (w : World) (e : Ending) (w' : World) : Prop := ∃ v', e = .returned v' ∧ Put B tot v w v' w'
set_option maxRecDepth 100000 in
theorem putNumber_any (B : Nat) (acc : List UInt8) (n : Int) (v : Value) (w : World) (hn : I64 n) (ho : w.ownsRow B 5 1 v acc.length (byV acc)) (hB : B ≤ w.heap.size) (hl : acc.length ≤ 1099511627776) :
    Calls Try.prog 29 #[v, .int .i64 n] w (PutPost B (acc ++ grpN (zig n)) v w) := by
  obtain ⟨i0, hi, hz0, hz1, hz2⟩ := info_parts infoB
  obtain ⟨tot, htot⟩ : ∃ tot, tot = acc ++ grpN (zig n) := ⟨_, rfl⟩
  have hz := zig_lt hn
  have htl : tot.length ≤ 1099511627800 := by rw [htot, List.length_append]; have := grp_ten hz; omega
  have HF := Lib.hid (folded_any n w hn)
  have HP := Lib.hid (Put.refl ho)
  have HT := Lib.hid htot
  rw [← htot]
  obtain ⟨A, cap, rfl⟩ := own_form ho
  obtain ⟨z, hzz⟩ : ∃ z, z = zig n := ⟨_, rfl⟩
  rw [← hzz] at HF HT hz
  obtain ⟨N, hN⟩ : ∃ N, N = acc.length := ⟨_, rfl⟩
  rw [← hN] at HP ⊢
  clear ho htot hzz hN hn
  go_enter Try.func29, Try.ntmps29
  go_wp2_with (fail)
  refine HF.out.mono ?_
  rintro e w1 ⟨rfl, rfl⟩
  go_wp2_with (fail)
  go_loopw [0, 5] (fun a u wr => PutRel B tot (.slice A N cap) w a u wr) (fun _ u _ => (intOf u).toNat)
  case atStart => unfold PutRel; exact ⟨acc, z, rfl, hz, Lib.hid HT.out.symm, HP.out⟩
  case round =>
    obtain ⟨ac, x, rfl, hx, HE, hp⟩ := hrel
    have hal : ac.length ≤ 1099511627800 := by have := congrArg List.length HE.out; rw [List.length_append] at this; omega
    have HPP := Lib.hid hp
    have hBr : B ≤ wr.heap.size := by have := hp.2.1.size; omega
    obtain ⟨A1, c1, rfl⟩ := own_form hp.1
    obtain ⟨M, hM⟩ : ∃ M, M = ac.length := ⟨_, rfl⟩
    have HO : Hid (wr.ownsRow B 5 1 (.slice A1 M c1) M (byV ac)) := Lib.hid (by rw [hM]; exact hp.1)
    have HM := Lib.hid hM
    rw [← hM] at HPP hal ⊢
    clear hp hM
    by_cases h128 : 128 ≤ x
    · have HS : Hid (ac ++ [UInt8.ofNat (x % 128 + 128)] ++ grpN (x / 128) = tot) := Lib.hid (by rw [← HE.out, grpN_high (by omega : ¬ x ≤ 127), List.append_assoc]; rfl)
      have HC : Hid ((x : Int) % 128 + 128 = ((UInt8.ofNat (x % 128 + 128)).toNat : Int)) := Lib.hid (by rw [byte_nat (by omega)]; omega)
      go_wp2_with (at_builtin; refine wpList_put rfl (.tmp 12) (.tmp 17) rfl B M ac (.slice A N cap) (.slice A1 M c1) (UInt8.ofNat (x % 128 + 128)) ((x : Int) % 128 + 128) wr.heap.size rfl rfl rfl HPP.out HM.out HC.out (by omega) hBr ?_; intro A2 c2 w1 hq; have HQ := Lib.hid hq; clear hq)
      go_roundw
      case rel => unfold PutRel; exact ⟨_, x / 128, by simp, by omega, HS, HQ.out⟩
      case measure => simp [intOf]; omega
    · have h127 : x < 128 := by omega
      have HS : Hid (ac ++ [UInt8.ofNat x] = tot) := Lib.hid (by rw [← HE.out, grpN_low (by omega : x ≤ 127)])
      have HC : Hid ((x : Int) = ((UInt8.ofNat x).toNat : Int)) := Lib.hid (by rw [byte_nat (by omega)])
      go_wp2_with (at_builtin; refine wpList_put rfl (.tmp 19) (.tmp 22) rfl B M ac (.slice A N cap) (.slice A1 M c1) (UInt8.ofNat x) (x : Int) wr.heap.size rfl rfl rfl HPP.out HM.out HC.out (by omega) hBr ?_; intro A2 c2 w1 hq; have HQ := Lib.hid hq; clear hq)
      go_ret
      have h := HQ.out
      rw [HS.out] at h
      exact ⟨_, rfl, h⟩
end Go.Proofs.Ytnjcapenkoemlaa.vt.ce

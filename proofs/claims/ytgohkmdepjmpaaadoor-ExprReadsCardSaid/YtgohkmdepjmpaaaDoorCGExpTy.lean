import Derived.Test.YtgohkmdepjmpaaaDoorCGExpBase
import Derived.RangeFuncNested
import Derived.RangeFuncBound
import Derived.RangeFuncCalls
import Derived.RangeFuncLeaves
import Derived.RangeFuncBox
import Derived.Shelf.Abstract
import Derived.OwnWalkIn
import Derived.TacticsInMore
import Derived.LoopNIn
import Derived.LoopIn
import Derived.Test.YtgohkmdepjmpaaaDoorCGExpRow
import Derived.RangeFuncFrom
import Derived.RangeFuncWrites
import Derived.Deep.LoopGhost
/- A type read from tokens: what the package's way comes to, over plain lists. -/
--KEEP
namespace Go.Proofs.YtgohkmdepjmpaaaDoor.pm.em
open Go.RowKit wd lx nt ne pm
variable {l : List Tk} {i : Int}

def wrapR (a : Int) : Res → Res
  | .node n j => .node (.mk 5 a 0 [] [n]) j
  | r => r
def wrapRs (ats : List Int) (r : Res) : Res := ats.foldr wrapR r
def wrapAll (ats : List Int) (n : NT) : NT := ats.foldr (fun a n => .mk 5 a 0 [] [n]) n
theorem wrapRs_snoc (ats : List Int) (a : Int) (r : Res) : wrapRs (ats ++ [a]) r = wrapRs ats (wrapR a r) := by simp [wrapRs]
theorem wrapRs_node : ∀ (ats : List Int) (n : NT) (j : Int), wrapRs ats (.node n j) = .node (wrapAll ats n) j
  | [], _, _ => rfl
  | a :: ats, n, j => by
    show wrapR a (wrapRs ats (.node n j)) = _
    rw [wrapRs_node ats n j]; rfl
theorem wrapRs_no : ∀ (ats : List Int) (j : Int), wrapRs ats (.no j) = .no j
  | [], _ => rfl
  | a :: ats, j => by
    show wrapR a (wrapRs ats (.no j)) = _
    rw [wrapRs_no ats j]; rfl
theorem typR_run (l : List Tk) (i : Int) : run l (fuelP l .typ i) .typ i = some (typR l i) := by
  obtain ⟨r, h⟩ := run_all l .typ i
  unfold typR
  rw [h]
  rfl
theorem typR_of {f : Nat} {r : Res} (h : run l f .typ i = some r) : typR l i = r := run_one l (typR_run l i) h
theorem plain_kind {t : Tk} {n : NT} (h : plainF t = some n) : t.kind = 1 ∨ t.kind = 3 := by
  unfold plainF isWd at h
  by_cases h3 : t.kind = 3
  · exact Or.inr h3
  · simp [h3] at h
    exact Or.inl h.1
theorem typR_some {n : NT} (h : plainF (tokAt l i) = some n) : typR l i = .node n (i + 1) := by
  refine typR_of (f := 1) ?_
  rw [run_succ]
  simp only [stepR]
  have hk := plain_kind h
  unfold plainF at h
  rcases hk with hk | hk
  · have w : ∀ m, isWd (tokAt l i) m = false := fun m => by unfold isWd; simp [hk]
    rw [w, w, w] at h
    simp [hk] at h
    rw [if_pos hk, ← h]
  · rw [if_neg (by omega)]
    by_cases w1 : isWd (tokAt l i) sInt = true
    · rw [if_pos w1] at h; rw [if_pos (by exact w1)]; injection h with h; rw [← h]
    rw [if_neg w1] at h; rw [if_neg (by exact w1)]
    by_cases w2 : isWd (tokAt l i) sBool = true
    · rw [if_pos w2] at h; rw [if_pos (by exact w2)]; injection h with h; rw [← h]
    rw [if_neg w2] at h; rw [if_neg (by exact w2)]
    by_cases w3 : isWd (tokAt l i) sRev = true
    · rw [if_pos w3] at h; rw [if_pos (by exact w3)]; injection h with h; rw [← h]
    rw [if_neg w3, if_neg (by omega)] at h
    cases h
theorem mark_plain (h : isM l i [91] = true) : (tokAt l i).kind ≠ 1 ∧ ∀ m, pm.isW l i m = false := by
  have hk := isM_kind4 h
  exact ⟨by omega, fun m => kind_apartW (by omega)⟩
theorem typR_arr (h1 : isM l i [91] = true) (h2 : isM l (i + 1) [93] = true) : typR l i = wrapR (tokAt l i).at_ (typR l (i + 2)) := by
  refine typR_of (f := fuelP l .typ (i + 2) + 1) ?_
  obtain ⟨hk, hw⟩ := mark_plain h1
  rw [run_succ]
  simp only [stepR]
  rw [if_neg hk, if_neg (by rw [hw]; decide), if_neg (by rw [hw]; decide), if_neg (by rw [hw]; decide), if_neg (by rw [h1]; decide), if_neg (by rw [h2]; decide), typR_run]
  have he := run_ends l _ _ _ _ (typR_run l (i + 2))
  cases ht : typR l (i + 2) with
  | node n j => rfl
  | no j => rfl
  | list ns j => rw [ht] at he; simp [Ends, Mode.lists] at he
theorem typR_no1 (h1 : isM l i [91] = true) (h2 : isM l (i + 1) [93] = false) : typR l i = .no (i + 1) := by
  refine typR_of (f := 1) ?_
  obtain ⟨hk, hw⟩ := mark_plain h1
  rw [run_succ]
  simp only [stepR]
  rw [if_neg hk, if_neg (by rw [hw]; decide), if_neg (by rw [hw]; decide), if_neg (by rw [hw]; decide), if_neg (by rw [h1]; decide), if_pos h2]
theorem typR_no (h : plainF (tokAt l i) = none) (h1 : isM l i [91] = false) : typR l i = .no i := by
  refine typR_of (f := 1) ?_
  rw [run_succ]
  simp only [stepR]
  unfold plainF at h
  by_cases w1 : isWd (tokAt l i) sInt = true
  · rw [if_pos w1] at h; cases h
  rw [if_neg w1] at h
  by_cases w2 : isWd (tokAt l i) sBool = true
  · rw [if_pos w2] at h; cases h
  rw [if_neg w2] at h
  by_cases w3 : isWd (tokAt l i) sRev = true
  · rw [if_pos w3] at h; cases h
  rw [if_neg w3] at h
  by_cases w4 : (tokAt l i).kind = 1
  · rw [if_pos w4] at h; cases h
  rw [if_neg w4, if_neg (by exact w1), if_neg (by exact w2), if_neg (by exact w3), if_pos h1]
theorem typR_len {n : NT} {j : Int} (h : typR l i = .node n j) : i < j ∧ 0 ≤ i ∧ i < (l.length : Int) ∧ j ≤ (l.length : Int) := by
  have he := run_ends l _ _ _ _ (typR_run l i)
  rw [h] at he
  simp [Ends, Mode.lists, Mode.strict] at he
  omega
end Go.Proofs.YtgohkmdepjmpaaaDoor.pm.em

/- The library's iterator that goes through a slice of numbers from the last one on: for every loop over it. -/
--KEEP
namespace Go.Proofs.YtgohkmdepjmpaaaDoor.pm.em
open Go.RowKit Go.Shelf wd lx nt ne pm mem
open vt (I64 Typ)

attribute [local go_sem] Oper.semAt_some

/-- numbers that fit -/
abbrev TI := { x : Int // I64 x }
def tiV (zs : List TI) : List Value := zs.map fun x => .int .i64 x.1
def z0 : TI := ⟨0, by unfold I64; omega⟩
/-- all blocks of cells stay, but those of nodes -/
def KeepI (w w' : World) : Prop := ∀ (k : Nat) (cs : Array Value) (t : TypeId) (fr : Nat × Nat), w.heap[k]? = some (.cells cs t fr) → t ≠ NodeT → w'.heap[k]? = w.heap[k]?
theorem KeepI.refl (w : World) : KeepI w w := fun _ _ _ _ _ _ => rfl
theorem KeepI.trans {a b c : World} (h1 : KeepI a b) (h2 : KeepI b c) : KeepI a c := fun k cs t fr h ht => by
  have e1 := h1 k cs t fr h ht
  exact (h2 k cs t fr (e1.trans h) ht).trans e1
theorem KeepI.put {w : World} (W : World) (l : Nat) (o o' : Obj) (_ : w.heap.size ≤ l) (h : W.heap[l]? = some o) (hc : o.isCells = false) (_ : o.isWalk = false) : KeepI W (W.putObj l o') := fun k cs t fr hk _ => by
  have hne : k ≠ l := by
    rintro rfl
    rw [hk] at h
    injection h with h
    subst h
    cases hc
  simp only [World.putObj, Array.getElem?_setIfInBounds]
  rw [if_neg (fun e => hne e.symm)]
theorem KeepI.below {B : Nat} {w w' : World} (h : Below B w w') (hB : w.heap.size ≤ B) : KeepI w w' := fun k _ _ _ hk _ => h.block k (Nat.lt_of_lt_of_le (Array.getElem?_eq_some_iff.1 hk).1 hB)
theorem KeepI.set {w : World} {g : Nat} {cs : Array Value} (h : Box w g NodeT cs) (i : Nat) (v : Value) : KeepI w (w.setCell ⟨g, i, none⟩ v) := fun k c t fr hk ht => by
  refine Below.heap_setCell w ⟨g, i, none⟩ v k fun e => ht ?_
  have e2 : k = g := e
  rw [e2, h] at hk
  injection hk with hk
  injection hk with _ h1 _
  exact h1.symm
theorem KeepI.typ {w w' : World} {t : TypeId} {b : Nat} (h : KeepI w w') (hb : Typ w t b) (ht : t ≠ NodeT) : w'.heap[b]? = w.heap[b]? := by
  obtain ⟨cs, fr, hc⟩ := hb
  exact h b cs t fr hc ht
/-- what has come when k rounds are over, of len -/
def dnto (zs : List TI) (len k : Nat) : List (Nat × TI) := (List.range k).map fun j => (len - 1 - j, zs[len - 1 - j]?.getD z0)
theorem dnto_succ (zs : List TI) (len k : Nat) : dnto zs len (k + 1) = dnto zs len k ++ [(len - 1 - k, zs[len - 1 - k]?.getD z0)] := by simp [dnto, List.range_succ]
theorem dnto_length (zs : List TI) (len k : Nat) : (dnto zs len k).length = k := by simp [dnto]
set_option maxRecDepth 100000 in
set_option maxHeartbeats 2000000 in
theorem back1_in (n : Nat) (hn : 1 ≤ n) (l Bs b off len cap : Nat) (zs : List TI) (hlen : len ≤ 1048576) (J Jx : List (Nat × TI) → World → Prop)
    (hY : ∀ pre x W, J pre W → pre.length < len → YieldAt Fence.wide (n - 1) Tryd.prog l #[.int .i64 (x.1 : Int), .int .i64 x.2.1] W fun e W' =>
      (e = .returned (.bool true) ∧ J (pre ++ [x]) W' ∧ KeepI W W') ∨ (e = .returned (.bool false) ∧ Jx (pre ++ [x]) W'))
    (W : World) (hBs : W.cell? ⟨Bs, 0, none⟩ = some (.slice (some ⟨b, off, none⟩) len cap)) (hBn : Typ W 64 Bs) (hbt : Typ W 3 b) (hc : ∀ j, j < len → W.cell? ⟨b, off + j, none⟩ = some (.int .i64 (zs[j]?.getD z0).1)) (h0 : J [] W) :
    CallsIn Fence.wide n Tryd.prog 55 #[.func (.yield l) #[] #[], .pointer (some ⟨Bs, 0, none⟩)] W fun e W' => (∃ v, e = .returned v) ∧
      ((∃ ys, ys = dnto zs len len ∧ J ys W') ∨ (∃ pre, Jx pre W')) := by
  refine callsIn_of_wp Tryd.func55 rfl trivial ?_ rfl
  simp only [Tryd.ntmps55, List.size_toArray, List.length_cons, List.length_nil, Nat.reduceAdd, Nat.reduceSub, Array.replicate_succ, Array.replicate_zero, List.push_toArray, List.append_toArray, List.nil_append, List.cons_append]
  have hw1 : IntKind.i64.wrap ((len : Int) - 1) = (len : Int) - 1 := IntWalk.i64_in _ (by omega)
  gi_wp2
  gi_loopw [3] (fun i wr => ∃ k : Nat, k ≤ len ∧ i = .int .i64 ((len : Int) - 1 - k) ∧ J (dnto zs len k) wr ∧ KeepI W wr)
    (fun i _ => (intOf i + 1).toNat)
  case atStart => exact ⟨0, Nat.zero_le _, by simp, h0, KeepI.refl _⟩
  case round =>
    obtain ⟨k, hk, rfl, hJs, hnx⟩ := hrel
    by_cases hlt : k < len
    · obtain ⟨m, hm⟩ : ∃ m : Nat, (len : Int) - 1 - k = m := ⟨len - 1 - k, by omega⟩
      have hmk : len - 1 - k = m := by omega
      rw [hm]
      have hcx' := (World.cell?_of_block (w := W) (w' := wr) (a := ⟨b, off + m, none⟩) (hnx.typ hbt (by decide))).trans (hc m (by omega))
      have hbs' := (World.cell?_of_block (w := W) (w' := wr) (a := ⟨Bs, 0, none⟩) (hnx.typ hBn (by decide))).trans hBs
      have q1 : (0 : Int) ≤ (m : Int) := by omega
      have q2 : (m : Int) < (len : Int) := by omega
      have hw2 : IntKind.i64.wrap ((m : Int) - 1) = (m : Int) - 1 := IntWalk.i64_in _ (by omega)
      obtain ⟨fn, tmps, assign, body, hy, hR⟩ := hY _ (m, zs[m]?.getD z0) wr hJs (by rw [dnto_length]; exact hlt)
      dsimp only at hy
      have HJ := Lib.hid (dnto_succ zs len k)
      rw [hmk] at HJ
      obtain ⟨z, hz⟩ : ∃ z, z = zs[m]?.getD z0 := ⟨_, rfl⟩
      rw [← hz] at hcx' hy hR HJ
      have HM := Lib.hid hm
      clear hz hm hmk hc hY hBs
      gi_wp2
      refine hR.mono ?_
      rintro e W3 (⟨rfl, hJ3, hk3⟩ | ⟨rfl, hJx3⟩)
      · have hb3 := hnx.trans hk3
        gi_wp2
        go_roundw
        case rel => exact ⟨k + 1, by omega, by have := HM.out; rw [show (len : Int) - 1 - ((k + 1 : Nat) : Int) = (m : Int) - 1 by omega], by rw [HJ.out]; exact hJ3, hb3⟩
        case measure => simp [intOf]
      · gi_wp2
        refine bodyPost_ret (results_none rfl _ _ _) rfl ?_
        exact ⟨⟨_, rfl⟩, .inr ⟨_, hJx3⟩⟩
    · obtain rfl : k = len := by omega
      rw [show (k : Int) - 1 - k = -1 by omega]
      gi_wp2
      go_end0
      exact ⟨⟨_, rfl⟩, .inl ⟨_, rfl, hJs⟩⟩
set_option maxRecDepth 100000 in
set_option maxHeartbeats 1000000 in
theorem back1_nil (n : Nat) (l Bs : Nat) (J : List (Nat × TI) → World → Prop) (W : World) (hBs : W.cell? ⟨Bs, 0, none⟩ = some (.slice none 0 0)) (h0 : J [] W) :
    CallsIn Fence.wide n Tryd.prog 55 #[.func (.yield l) #[] #[], .pointer (some ⟨Bs, 0, none⟩)] W fun e W' => (∃ v, e = .returned v) ∧ J [] W' := by
  refine callsIn_of_wp Tryd.func55 rfl trivial ?_ rfl
  simp only [Tryd.ntmps55, List.size_toArray, List.length_cons, List.length_nil, Nat.reduceAdd, Nat.reduceSub, Array.replicate_succ, Array.replicate_zero, List.push_toArray, List.append_toArray, List.nil_append, List.cons_append]
  gi_wp2
  gi_loopw [3] (fun i wr => i = .int .i64 (-1) ∧ J [] wr) (fun _ _ => 0)
  case atStart => exact ⟨rfl, h0⟩
  case round =>
    obtain ⟨rfl, hJs⟩ := hrel
    gi_wp2
    go_end0
    exact ⟨⟨_, rfl⟩, hJs⟩
/-- the slice's value is boxed; the function's value holds the box -/
theorem back_any (a : Option Addr) (len cap : Nat) (w : World) :
    Calls Tryd.prog 40 #[.slice a len cap] w fun e w' => e = .returned (.func (.func 55) #[] #[.pointer (some ⟨w.heap.size, 0, none⟩)]) ∧ w' = w.alloc (.cells #[.slice a len cap] 64) := by
  have hmf : ∀ (fn : Fn) (first cap : Array Value) (w : World), (Instr.makeFunc fn first cap).run Tryd.prog w = .ok (.func fn first cap) w := fun _ _ _ _ => rfl
  go_enter Tryd.func40, Tryd.ntmps40
  go_wp2_with (fail)
  go_ret
  exact ⟨rfl, rfl⟩
/-- a slice that holds these numbers; or nil -/
def IntsB (W : World) (sv : Value) (zs : List TI) : Prop :=
  (sv = .slice none 0 0 ∧ zs = []) ∨ ∃ b cap, sv = .slice (some ⟨b, 0, none⟩) zs.length cap ∧ Typ W 3 b ∧ ∀ j, j < zs.length → W.cell? ⟨b, 0 + j, none⟩ = some (.int .i64 (zs[j]?.getD z0).1)
theorem back_stops (n : Nat) (hn : 1 ≤ n) (Bs : Nat) (sv : Value) (zs : List TI) (hlen : zs.length ≤ 1048576) (w : World) (hBs : Box w Bs 64 #[sv]) (hI : IntsB w sv zs) :
    SeqStopsK Fence.wide n Tryd.prog 55 #[.pointer (some ⟨Bs, 0, none⟩)] (fun x : Nat × TI => #[Value.int .i64 (x.1 : Int), Value.int .i64 x.2.1]) KeepI (fun ys => ys = dnto zs zs.length zs.length) (fun _ => True) zs.length w := fun l J Jx W hW _ _ hY h0 => by
  have hb' : Box W Bs 64 #[sv] := hBs.on hW
  have hc' := hb'.cell 0
  rcases hI with ⟨rfl, rfl⟩ | ⟨b, cap, rfl, ⟨cs, fr, hb⟩, hcs⟩
  · exact (back1_nil n l Bs J W hc' h0).mono fun e W' ⟨he, hj⟩ => ⟨he, .inl ⟨_, rfl, hj⟩⟩
  · have hlt : b < w.heap.size := (Array.getElem?_eq_some_iff.1 hb).1
    refine (back1_in n hn l Bs b 0 zs.length cap zs hlen J Jx hY W hc' ⟨_, _, hb'⟩ ⟨cs, fr, (hW.block b hlt).trans hb⟩ (fun j hj => (hW.cell (p := ⟨b, 0 + j, none⟩) hlt).trans (hcs j hj)) h0).mono ?_
    rintro e W' ⟨he, ⟨ys, rfl, hj⟩ | ⟨pre, hj⟩⟩
    · exact ⟨he, .inl ⟨_, rfl, hj⟩⟩
    · exact ⟨he, .inr ⟨_, trivial, hj⟩⟩
theorem dnto_all (zs : List TI) : (dnto zs zs.length zs.length).map (·.2) = zs.reverse := by
  apply List.ext_getElem
  · simp [dnto]
  · intro i h1 h2
    simp [dnto] at h1
    have : zs.length - 1 - i < zs.length := by omega
    simp [dnto, this]
end Go.Proofs.YtgohkmdepjmpaaaDoor.pm.em

/- The package's reader reads a type. -/
--KEEP
namespace Go.Proofs.YtgohkmdepjmpaaaDoor.pm.em
open Go.RowKit Go.Shelf wd lx nt ne pm mem
open vt (I64 own_base own_form own_below own_step set_same Typ set_comm)
variable {l : List Tk} {v : Value} {w0 : World} {rb : Nat} {A A' : Nat → Prop} {i j : Int} {wants over : Bool} {rs : List NT} {G : List Frm} {w w' : World}

attribute [local go_sem] Oper.semAt_some

theorem infoI : (Tryd.prog.info? 3).map (fun i => (i.zero, i.size, i.bytes)) = some (some (.int .i64 0), 1, 8) := by kernel_rfl
theorem up_up {w1 w2 : World} {b : Nat} (h : Up A w w2 b) : Up (Up A w w1) w1 w2 b := by
  rcases h with h | h
  · exact Or.inl (Or.inl h)
  · by_cases hb : b < w1.heap.size
    · exact Or.inl (Or.inr ⟨h.1, hb⟩)
    · exact Or.inr ⟨by omega, h.2⟩
theorem Rd.only (h : Rd l v w0 rb A i wants over rs G w) (ho : Only rb w w') : Keep A w w' := fun b q => ho b (h.ap b q).2.1 (h.ap b q).2.2
theorem tfield (t : Tk) (w : World) : (Instr.field 44 (.agg #[.int .i64 t.kind, .int .i64 t.at_, .int .i64 t.n, .string ⟨t.text.toArray⟩]) 1).run Tryd.prog w = .ok (.int .i64 t.at_) w := by kernel_rfl
theorem plain_form {t : Tk} {n : NT} (h : plainF t = some n) (ha : I64 t.at_) (hs : t.text.length ≤ 281474976710656) : n.kids = [] ∧ Hd n ∧ t.kind ≠ 0 := by
  have hk := plain_kind h
  have h1 : ∀ k : Int, 1 ≤ k → k ≤ 4 → I64 k := fun k _ _ => by unfold I64; omega
  have h0 : I64 (0 : Int) := by unfold I64; omega
  refine ⟨?_, ?_, by omega⟩
  · unfold plainF at h
    repeat' split at h
    all_goals first | (cases h; done) | (injection h with h; rw [← h]; rfl)
  · unfold plainF at h
    repeat' split at h
    all_goals first | (cases h; done) | (injection h with h; rw [← h]; first | exact ⟨h1 1 (by decide) (by decide), ha, h0, (by show 0 ≤ 281474976710656; decide)⟩ | exact ⟨h1 2 (by decide) (by decide), ha, h0, (by show 0 ≤ 281474976710656; decide)⟩ | exact ⟨h1 3 (by decide) (by decide), ha, h0, (by show 0 ≤ 281474976710656; decide)⟩ | exact ⟨h1 4 (by decide) (by decide), ha, h0, hs⟩)
/-- what is told of a type -/
def TyP (l : List Tk) (v : Value) (w0 : World) (rb : Nat) (A : Nat → Prop) (wants over : Bool) (rs : List NT) (G : List Frm) (w : World) (r : Res) (e : Ending) (w' : World) : Prop :=
  match r with
  | .node n j => ∃ s, e = .returned (.tuple #[.agg #[.int .i64 n.kind, .int .i64 n.at_, .int .i64 n.num, .string ⟨n.name.toArray⟩, s], .bool true]) ∧ nt.Kids (fun b => w.heap.size ≤ b ∧ b < w'.heap.size) w' n.kids s ∧ Hd n ∧ Rd l v w0 rb (Up A w w') j wants over rs G w' ∧ Keep A w w' ∧ w.heap.size ≤ w'.heap.size
  | .no j => e = .returned (.tuple #[.agg ZZ, .bool false]) ∧ Rd l v w0 rb (Up A w w') j wants over rs G w' ∧ Keep A w w'
  | .list _ _ => False
/-- the result is stored, and the reader as it stands -/
theorem ty_end {R : Nat} {x y z u q a b c d e : Value} (h : Rd l v w0 rb A i wants over rs G w) (m : Mv v rb wants over i j w w') (low : Below w0.heap.size w0 w') (hj : I64 j) (hRr : ¬ R = rb) (hR : w.heap.size ≤ R) (hb : Box w' R NodeT #[x, y, z, u, q]) :
    Rd l v w0 rb (Up A w (five w' R a b c d e)) j wants over rs G (five w' R a b c d e) ∧ Keep A w (five w' R a b c d e) := by
  have hw : w0.heap.size ≤ R := Nat.le_trans h.low.size hR
  have h5 : ∀ k, k ≠ R → (five w' R a b c d e).heap[k]? = w'.heap[k]? := fun k hk => by
    unfold five
    rw [Below.heap_setCell _ ⟨R, 4, none⟩ _ k hk, Below.heap_setCell _ ⟨R, 3, none⟩ _ k hk, Below.heap_setCell _ ⟨R, 2, none⟩ _ k hk, Below.heap_setCell _ ⟨R, 1, none⟩ _ k hk, Below.heap_setCell _ ⟨R, 0, none⟩ _ k hk]
  have hm : Mv v rb wants over i j w (five w' R a b c d e) := ⟨fun k hk hn => (h5 k (by omega)).trans (m.1 k hk hn), by have := m.2.1; unfold five; simpa [World.setCell] using this, fun vr vo q => (h5 rb (fun e => hRr e.symm)).trans (m.2.2 vr vo q)⟩
  exact ⟨h.moved hm (below_five low hw _ _ _ _ _) hj, h.only hm.1⟩
/-- the type behind the brackets that have come -/
def nodeOf (n0 : NT) (pre : List (Nat × TI)) : NT := pre.foldl (fun n x => .mk 5 x.2.1 0 [] [n]) n0
theorem nodeOf_snoc (n0 : NT) (pre : List (Nat × TI)) (x : Nat × TI) : nodeOf n0 (pre ++ [x]) = .mk 5 x.2.1 0 [] [nodeOf n0 pre] := by simp [nodeOf]
theorem nodeOf_map (n0 : NT) (pre : List (Nat × TI)) : nodeOf n0 pre = (pre.map (·.2)).foldl (fun n (x : TI) => .mk 5 x.1 0 [] [n]) n0 := by simp [nodeOf, List.foldl_map]
theorem nodeOf_all (n0 : NT) (zs : List TI) : nodeOf n0 (dnto zs zs.length zs.length) = wrapAll (zs.map (·.1)) n0 := by
  rw [nodeOf_map, dnto_all, List.foldl_reverse]
  unfold wrapAll
  rw [List.foldr_map]
theorem nodeOf_hd {n0 : NT} (h : Hd n0) (pre : List (Nat × TI)) : Hd (nodeOf n0 pre) := by
  rcases List.eq_nil_or_concat pre with rfl | ⟨q, x, rfl⟩
  · exact h
  · rw [List.concat_eq_append, nodeOf_snoc]
    exact ⟨by show I64 5; unfold I64; omega, x.2.2, by show I64 0; unfold I64; omega, by show 0 ≤ 281474976710656; omega⟩
theorem node_kept {n : NT} {N : Nat} {A B : World} {row : Option Nat} (hs : ∃ s, Box A N NodeT #[.int .i64 n.kind, .int .i64 n.at_, .int .i64 n.num, .string ⟨n.name.toArray⟩, s] ∧ nt.Kids (fun b => N < b) A n.kids s) (hg : A.grownBy B row) (hr : ∀ r, row = some r → ∃ o : Obj, A.heap[r]? = some o ∧ o.isCells = false) :
    ∃ s, Box B N NodeT #[.int .i64 n.kind, .int .i64 n.at_, .int .i64 n.num, .string ⟨n.name.toArray⟩, s] ∧ nt.Kids (fun b => N < b) B n.kids s := by
  obtain ⟨s, hb, hk⟩ := hs
  refine ⟨s, (hg.block N hb.lt fun e => ?_).trans hb, hk.carry fun b o u q hc => ⟨q, cell_kept hc hg hr⟩⟩
  obtain ⟨o, ho, hc⟩ := hr N e.symm
  rw [show A.heap[N]? = _ from hb] at ho
  injection ho with ho
  rw [← ho] at hc
  cases hc
theorem node_own (n0 : NT) (N : Nat) : _root_.Go.Own (fun (pre : List (Nat × TI)) (W : World) => ∃ s, Box W N NodeT #[.int .i64 (nodeOf n0 pre).kind, .int .i64 (nodeOf n0 pre).at_, .int .i64 (nodeOf n0 pre).num, .string ⟨(nodeOf n0 pre).name.toArray⟩, s] ∧ nt.Kids (fun b => N < b) W (nodeOf n0 pre).kids s) := fun _ _ _ _ hs hg hr => node_kept hs hg hr
/-- one round: the node is a kid of another one -/
theorem round_node {n : NT} {N : Nat} {a : Int} {s : Value} {W X W7 : World} (hN : N < W.heap.size) (hd : Hd n) (ha : I64 a) (hb : Box W N NodeT #[.int .i64 n.kind, .int .i64 n.at_, .int .i64 n.num, .string ⟨n.name.toArray⟩, s]) (hk : nt.Kids (fun b => N < b) W n.kids s) (hB : Below N W7 W) (hX : X = (five W N (.int .i64 5) (.int .i64 a) (.int .i64 0) (.string ⟨#[]⟩) (.slice (some ⟨W.heap.size, 0, none⟩) 1 1)).alloc (.cells #[.int .i64 n.kind, .int .i64 n.at_, .int .i64 n.num, .string ⟨n.name.toArray⟩, s] NodeT)) :
    KeepsOthers W X ∧ KeepI W X ∧ (∃ s', Box X N NodeT #[.int .i64 5, .int .i64 a, .int .i64 0, .string ⟨#[]⟩, s'] ∧ nt.Kids (fun b => N < b) X [n] s') ∧ Below N W7 X := by
  have hz : (five W N (.int .i64 5) (.int .i64 a) (.int .i64 0) (.string ⟨#[]⟩) (.slice (some ⟨W.heap.size, 0, none⟩) 1 1)).heap.size = W.heap.size := by unfold five; simp [World.setCell]
  have b0 : Box (W.setCell ⟨N, 0, none⟩ (.int .i64 5)) N NodeT _ := hb.set 0 _
  have b1 := b0.set 1 (.int .i64 a)
  have b2 := b1.set 2 (.int .i64 0)
  have b3 := b2.set 3 (.string ⟨#[]⟩)
  subst hX
  refine ⟨(((((KeepsOthers.setCell _ _ _).trans (KeepsOthers.setCell _ _ _)).trans (KeepsOthers.setCell _ _ _)).trans (KeepsOthers.setCell _ _ _)).trans (KeepsOthers.setCell _ _ _)).trans (KeepsOthers.alloc _ _), ?_, ⟨_, (box_five hb _ _ _ _ _).alloc _, ?_⟩, ?_⟩
  · exact (((((KeepI.set hb 0 _).trans (KeepI.set b0 1 _)).trans (KeepI.set b1 2 _)).trans (KeepI.set b2 3 _)).trans (KeepI.set b3 4 _)).trans (KeepI.below ((Below.refl _ _).alloc (Nat.le_refl _) _) (Nat.le_refl _))
  · exact row_one hz.symm hd (kids_five hk (fun b q => by omega) _ _ _ _ _) hN
  · exact (below_five hB (Nat.le_refl _) _ _ _ _ _).alloc (by rw [hz]; omega) _
/-- how the reader stands between two brackets -/
def TyRel (l : List Tk) (v : Value) (w0 : World) (rb : Nat) (A : Nat → Prop) (i : Int) (wants over : Bool) (rs : List NT) (G : List Frm) (w : World) (g : Nat) (va vat : Value) (wr : World) : Prop :=
  ∃ (ats : List TI) (p : Int), vat = .int .i64 (tokAt l p).at_ ∧ Hid (wr.ownsRow w.heap.size 3 1 va ats.length (tiV ats)) ∧ Hid (typR l i = wrapRs (ats.map (·.1)) (typR l p)) ∧ Hid (Rd l v w0 rb (Up A w wr) p wants over rs G wr) ∧ Hid (Mv v rb wants over i p w wr) ∧ Hid (Box wr w.heap.size NodeT #[.int .i64 0, .int .i64 0, .int .i64 0, .string ⟨#[]⟩, .slice none 0 0]) ∧ ats.length + g = 1048577 ∧ Hid ((ats = [] ∧ p = i) ∨ (0 ≤ i ∧ p = i + 2 * ats.length ∧ p ≤ (l.length : Int))) ∧ Hid (w.heap.size ≤ wr.heap.size)
set_option maxRecDepth 100000 in
set_option maxHeartbeats 8000000 in
theorem typed_any (h : Rd l v w0 rb A i wants over rs G w) :
    Calls Tryd.prog 25 #[.pointer (some ⟨rb, 0, none⟩)] w (TyP l v w0 rb A wants over rs G w (typR l i)) := by
  obtain ⟨P, hP⟩ : ∃ P, P = TyP l v w0 rb A wants over rs G w (typR l i) := ⟨_, rfl⟩
  rw [← hP]
  obtain ⟨R, hR⟩ : ∃ R, R = w.heap.size := ⟨_, rfl⟩
  obtain ⟨W, hW⟩ : ∃ W, W = w.alloc (.cells #[.int .i64 0, .int .i64 0, .int .i64 0, .string ⟨#[]⟩, .slice none 0 0] NodeT) := ⟨_, rfl⟩
  have hbW : Below w.heap.size w W := by rw [hW]; exact (Below.refl _ _).alloc (Nat.le_refl _) _
  have bR : Box W R NodeT #[.int .i64 0, .int .i64 0, .int .i64 0, .string ⟨#[]⟩, .slice none 0 0] := by rw [hW]; exact Box.new _ _ _ _ hR
  have hrR : ¬ rb = R := by have := h.lt; omega
  have hRr : ¬ R = rb := fun e => hrR e.symm
  have HC := Lib.hid (token_any (h.on_ hbW))
  have HA := Lib.hid h
  have HAW := Lib.hid (h.on hbW)
  have HBR := Lib.hid bR
  have HPP := Lib.hid hP
  have HW := Lib.hid hW
  have HRR := Lib.hid hR
  have HBW := Lib.hid hbW
  have HLEN := Lib.hid h.env.src.len
  have HFAIR := Lib.hid h.env.src.fair
  have HF := Lib.hid (fun p w' => tfield (tokAt l p) w')
  obtain ⟨i0, hi, hz0, hz1, hz2⟩ := info_parts infoI
  clear hP hR hW hbW bR h
  have hf : Fence.wide.fn 25 := trivial
  refine (callsIn_wide (n := 9)).1 ?_
  refine callsIn_of_wp_marks Tryd.func25 rfl hf ?_ rfl
  simp only [Tryd.ntmps25, List.size_toArray, List.length_cons, List.length_nil, Nat.reduceAdd, Nat.reduceSub, Array.replicate_succ, Array.replicate_zero, List.push_toArray, List.append_toArray, List.nil_append, List.cons_append]
  refine wpIn_wide.2 ?_
  go_wp2_with (first | (rw [← HW.out, ← HRR.out]))
  refine HC.out.mono ?_
  rintro e w1 ⟨rfl, hb1⟩
  have hR1 := (HAW.out.on hb1).mono (A' := Up A w w1) fun b q => up_up q
  have HK1 : Hid (Mv v rb wants over i i w w1) := Lib.hid (Mv.of (HBW.out.trans (hb1.mono HBW.out.size)) i)
  have HR1 := Lib.hid hR1
  have HBR1 := Lib.hid (HBR.out.on hb1)
  have HZ1 : Hid (w.heap.size ≤ w1.heap.size) := Lib.hid (Nat.le_trans HBW.out.size hb1.size)
  have hfi := fun w' => HF.out i w'
  unfold tkA
  clear hb1 hR1
  go_wp2_with (fail)
  clear hfi
  go_loopg [4, 5] 1048577 (fun g va vat wr => TyRel l v w0 rb A i wants over rs G w g va vat wr)
  case atStart =>
    unfold TyRel
    exact ⟨[], i, rfl, Lib.hid (World.ownsRow_nil _ _ _ _), Lib.hid rfl, HR1, HK1, by rw [← HRR.out]; exact HBR1, by simp, Lib.hid (Or.inl ⟨rfl, rfl⟩), HZ1⟩
  case round =>
    unfold TyRel at hrel
    obtain ⟨ats, p, rfl, HO, HE, HRd, HK, HBx, hg, HPos, HZ⟩ := hrel
    rw [← HRR.out] at HBx
    obtain ⟨Av, cv, rfl⟩ := own_form HO.out
    obtain ⟨K, hKl⟩ : ∃ K, K = ats.length := ⟨_, rfl⟩
    rw [← hKl] at hg ⊢
    have HKL := Lib.hid hKl
    have hKb : K ≤ 1048576 ∧ (K = 1048576 → isM l p [91] = false) := by
      have hlen := HLEN.out
      rcases HPos.out with ⟨e, _⟩ | ⟨e1, e2, e3⟩
      · subst e
        exact ⟨by simp at hKl; omega, fun h => by simp at hKl; omega⟩
      · exact ⟨by omega, fun h => by omega⟩
    clear hKl
    cases h1 : isM l p [91] with
    | true =>
      have hin := isM_in h1
      have hlen := HLEN.out
      have HM1 := Lib.hid h1
      have HT1 := Lib.hid (took_moves [91] HRd.out h1)
      have HRrow : Hid (∀ w', Only rb wr w' → w'.ownsRow w.heap.size 3 1 (.slice Av K cv) K (tiV ats)) := Lib.hid fun w' ho => own_step (by have := HO.out; rw [← HKL.out] at this; exact this) fun k hk => ho k (HO.out.lt k (by rw [← HKL.out]; exact hk)).2 (by have := (HO.out.lt k (by rw [← HKL.out]; exact hk)).1; have := HA.out.lt; omega)
      cases h2 : isM l (p + 1) [93] with
      | false =>
        have HM2 := Lib.hid h2
        have HJ : Hid (I64 (p + 1)) := Lib.hid (by unfold I64; omega)
        have HEN : Hid (typR l i = .no (p + 1)) := Lib.hid (by rw [HE.out, typR_no1 h1 h2, wrapRs_no])
        clear h1 h2 hin hlen hKb
        go_wp2_with (fail)
        refine HT1.out.mono ?_
        rintro e w2 ⟨rfl, hr2, ho2, hx2⟩
        have HT2 := Lib.hid (took_no [93] hr2 HM2.out)
        have HR2 := Lib.hid hr2
        have HB2 := Lib.hid (ho2.box HBx.out hRr)
        have HV2 : Hid (Mv v rb wants over i (p + 1) w w2) := Lib.hid (HK.out.trans hx2)
        clear hr2 ho2 hx2
        go_wp2_with (fail)
        refine HT2.out.mono ?_
        rintro e w3 ⟨rfl, hb3⟩
        have hB3 := HB2.out.on hb3
        have HB3 := Lib.hid hB3
        have HL3 := Lib.hid (HR2.out.on hb3).low
        have HV3 : Hid (Mv v rb wants over i (p + 1) w w3) := Lib.hid (HV2.out.trans (Mv.of hb3 _))
        have r0 := hB3.cell 0
        have r1 := hB3.cell 1
        have r2 := hB3.cell 2
        have r3 := hB3.cell 3
        have r4 := hB3.cell 4
        have g0 := hB3.frozen 0
        have g1 := hB3.frozen 1
        have g2 := hB3.frozen 2
        have g3 := hB3.frozen 3
        have g4 := hB3.frozen 4
        simp only [List.getElem?_toArray, List.getElem?_cons_zero, List.getElem?_cons_succ] at r0 r1 r2 r3 r4
        clear hB3 hb3
        go_wp2_with (fail)
        refine ⟨_, node_ret2b rfl rfl rfl (box_five HB3.out _ _ _ _ _), ?_⟩
        rw [HPP.out, HEN.out]
        exact ⟨rfl, ty_end HA.out HV3.out HL3.out HJ.out hRr (by rw [HRR.out]; exact Nat.le_refl _) HB3.out⟩
      | true =>
        have HM2 := Lib.hid h2
        have HPE : Hid ((tokAt l p).kind = 4) := Lib.hid (isM_kind4 h1)
        have hin2 := isM_in h2
        have HE2 : Hid (∀ x : TI, x.1 = (tokAt l p).at_ → typR l i = wrapRs ((ats ++ [x]).map (·.1)) (typR l (p + 2))) := Lib.hid fun x hx => by rw [List.map_append, List.map_cons, List.map_nil, wrapRs_snoc, hx, ← typR_arr h1 h2]; exact HE.out
        have HPos2 : Hid (∀ x : TI, (ats ++ [x] = [] ∧ p + 2 = i) ∨ (0 ≤ i ∧ p + 2 = i + 2 * ((ats ++ [x]).length : Int) ∧ p + 2 ≤ (l.length : Int))) := Lib.hid fun x => Or.inr (by
          rw [List.length_append]
          rcases HPos.out with ⟨e, e2⟩ | ⟨e1, e2, e3⟩
          · subst e; simp; omega
          · simp; omega)
        have hK1 : K ≤ 1048575 := by
          rcases Nat.lt_or_ge K 1048576 with h | h
          · omega
          · have := hKb.2 (by omega); rw [h1] at this; cases this
        obtain ⟨ta, hta⟩ : ∃ x : TI, x.1 = (tokAt l p).at_ := ⟨⟨(tokAt l p).at_, (HFAIR.out p).1⟩, rfl⟩
        have HTA := Lib.hid hta
        obtain ⟨at0, hat0⟩ : ∃ at0, at0 = (tokAt l p).at_ := ⟨_, rfl⟩
        rw [← hat0] at hta ⊢
        have HAT := Lib.hid hta
        clear h1 h2 hin hlen hKb hin2 hta hat0
        go_wp2_with (fail)
        refine HT1.out.mono ?_
        rintro e w2 ⟨rfl, hr2, ho2, hx2⟩
        have HT2 := Lib.hid (took_moves [93] hr2 HM2.out)
        have HB2 := Lib.hid (ho2.box HBx.out hRr)
        have HV2 : Hid (Mv v rb wants over i (p + 1) w w2) := Lib.hid (HK.out.trans hx2)
        have HRw2 := Lib.hid (HRrow.out w2 ho2)
        clear hr2 ho2 hx2
        go_wp2_with (fail)
        refine HT2.out.mono ?_
        rintro e w3 ⟨rfl, hr3, ho3, hx3⟩
        have hB3 := HB2.out
        have HB3 := Lib.hid (ho3.box HB2.out hRr)
        have HV3 : Hid (Mv v rb wants over i (p + 1 + 1) w w3) := Lib.hid (HV2.out.trans hx3)
        have hrow3 : w3.ownsRow w.heap.size 3 1 (.slice Av K cv) K (tiV ats) := own_step HRw2.out fun k hk => ho3 k (HRw2.out.lt k hk).2 (by have := (HRw2.out.lt k hk).1; have := HA.out.lt; omega)
        have HR3 := Lib.hid hr3
        have hBs : w.heap.size ≤ w3.heap.size := HV3.out.2.1
        have h1c : ∀ u ∈ [Value.int .i64 at0], u.oneCell' = true := by intro u hu; simp at hu; subst hu; rfl
        have HH1 := Lib.hid h1c
        have HRW3 := Lib.hid hrow3
        have HBS := Lib.hid hBs
        clear hr3 ho3 hx3 hB3 hrow3 hBs h1c
        go_wp2_with (at_builtin; refine wpList_append_own _ rfl _ _ 64 rfl w.heap.size 3 i0 (.int .i64 0) 1 8 Tryd.underlying64 hi hz0 hz1 hz2 rfl (by decide) (.slice Av K cv) K (tiV ats) rfl (HRW3.out.alloc _) ⟨w3.heap.size, 0, none⟩ 1 1 [.int .i64 at0] rfl rfl (new_one _ _ _) HH1.out (by unfold maxLen; omega) (by omega) (by simp; have := HBS.out; omega) ?_; intro v' w4 hown hgrow _; obtain ⟨A4, c4, rfl⟩ := own_form hown; have HOW := Lib.hid hown; have HGR := Lib.hid hgrow; clear hown hgrow)
        have hkeep4 : ∀ k, k < w3.heap.size → k < w.heap.size ∨ k = R → w4.heap[k]? = w3.heap[k]? := fun k hk hk2 => (HGR.out.block k (by simp; omega) (fun e => by
          rcases hk2 with hk2 | hk2
          · have := (HRW3.out.lt k e.symm).1; omega
          · have h1 := Typ.own HRW3.out e.symm
            rw [hk2] at h1
            exact h1.ne (⟨_, _, HB3.out⟩ : Typ w3 NodeT R) (by decide) rfl)).trans (Below.heap_alloc _ _ k hk)
        have hz4 : w3.heap.size ≤ w4.heap.size := by have := HGR.out.size; simp at this; omega
        have hws := HV3.out.2.1
        have HV4 : Hid (Mv v rb wants over i (p + 2) w w4) := Lib.hid ⟨fun k hk hn => (hkeep4 k (by omega) (Or.inl hk)).trans (HV3.out.1 k hk hn), by omega, fun vr vo q => by
          have q3 := HV3.out.2.2 vr vo q
          rw [show p + 1 + 1 = p + 2 by omega] at q3
          exact (hkeep4 rb q3.lt (Or.inl q.lt)).trans q3⟩
        have hl4 : Below w0.heap.size w0 w4 := (HR3.out.low.alloc (by have := HR3.out.low.size; omega) _).grown HGR.out (by simp; have := HR3.out.low.size; omega) (fun k hk => by have := (HRW3.out.lt k hk).1; have := HA.out.low.size; omega)
        have hr4 := HA.out.moved HV4.out hl4 (by have := HR3.out.num; rw [show p + 1 + 1 = p + 2 by omega] at this; exact this)
        have HR4 := Lib.hid hr4
        have HT4 := Lib.hid (token_any hr4)
        have HB4 : Hid (Box w4 R NodeT _) := Lib.hid ((hkeep4 R HB3.out.lt (Or.inr rfl)).trans HB3.out)
        have hfi := fun w' => HF.out (p + 2) w'
        have HGK : Hid (∃ g2, gk = g2 + 1) := Lib.hid ⟨gk - 1, by omega⟩
        clear hkeep4 hz4 hws hl4 hr4
        refine HT4.out.mono ?_
        rintro e w5 ⟨rfl, hb5⟩
        unfold tkA
        have HB5 := Lib.hid hb5
        clear hb5
        go_wp2_with (fail)
        obtain ⟨g2, hg2⟩ := HGK.out
        go_roundg g2
        case measure => omega
        case rel =>
          unfold TyRel
          have hb5 := HB5.out
          refine ⟨ats ++ [ta], p + 2, rfl, Lib.hid ?_, Lib.hid (HE2.out ta HTA.out), Lib.hid ((HR4.out.on hb5).mono fun b q => up_up q), Lib.hid (HV4.out.trans (Mv.of hb5 _)), ?_, ?_, Lib.hid (HPos2.out ta), ?_⟩
          · have hw := HOW.out
            have e : tiV (ats ++ [ta]) = tiV ats ++ [.int .i64 at0] := by unfold tiV; rw [List.map_append, List.map_cons, List.map_nil, HAT.out]
            rw [e, List.length_append, List.length_cons, List.length_nil, ← HKL.out]
            exact own_below hw hb5
          · rw [← HRR.out]; exact Lib.hid (HB4.out.on hb5)
          · rw [List.length_append, List.length_cons, List.length_nil, ← HKL.out]; omega
          · exact Lib.hid (HV4.out.trans (Mv.of hb5 _)).2.1
    | false =>
      have HM1 := Lib.hid h1
      have HT1 := Lib.hid (took_no [91] HRd.out h1)
      have HRrow : Hid (wr.ownsRow w.heap.size 3 1 (.slice Av K cv) K (tiV ats)) := Lib.hid (by have := HO.out; rw [← HKL.out] at this; exact this)
      have HKB := Lib.hid hKb
      clear h1 hKb
      go_wp2_with (fail)
      refine HT1.out.mono ?_
      rintro e w2 ⟨rfl, hb2⟩
      have HB2 := Lib.hid hb2
      have HT2 := Lib.hid (token_any (HRd.out.on hb2))
      clear hb2
      go_wp2_with (fail)
      refine HT2.out.mono ?_
      rintro e w3 ⟨rfl, hb3⟩
      have HB3 : Hid (Below wr.heap.size wr w3) := Lib.hid (HB2.out.trans (hb3.mono HB2.out.size))
      clear hb3
      have HPL := Lib.hid (plain_tok (tokAt l p) w3 ((HRd.out.on HB3.out).ldw) (fun hk => (HA.out.env.good p).1 hk))
      unfold tkA at HPL ⊢
      cases hpl : plainF (tokAt l p) with
      | none =>
        rw [hpl] at HPL
        have HEN : Hid (typR l i = .no p) := Lib.hid (by rw [HE.out, typR_no hpl HM1.out, wrapRs_no])
        clear hpl
        go_wp2_with (fail)
        refine HPL.out.mono ?_
        intro e w4 hpo
        obtain ⟨rfl, hb4⟩ := hpo
        have hb4' : Below wr.heap.size wr w4 := HB3.out.trans (hb4.mono HB3.out.size)
        have hB4 := HBx.out.on hb4'
        have HB4 := Lib.hid hB4
        have HL4 : Hid (Below w0.heap.size w0 w4) := Lib.hid (HRd.out.on hb4').low
        have HV4 : Hid (Mv v rb wants over i p w w4) := Lib.hid (HK.out.trans (Mv.of hb4' _))
        have HJ := Lib.hid HRd.out.num
        have hRz : R < w4.heap.size := hB4.lt
        have r0 := hB4.cell 0
        have r1 := hB4.cell 1
        have r2 := hB4.cell 2
        have r3 := hB4.cell 3
        have r4 := hB4.cell 4
        have g0 := hB4.frozen 0
        have g1 := hB4.frozen 1
        have g2 := hB4.frozen 2
        have g3 := hB4.frozen 3
        have g4 := hB4.frozen 4
        simp only [List.getElem?_toArray, List.getElem?_cons_zero, List.getElem?_cons_succ] at r0 r1 r2 r3 r4
        clear hB4 hb4 hb4'
        go_wp2_with (fail)
        refine ⟨_, node_ret2b rfl rfl rfl ((box_five HB4.out _ _ _ _ _).alloc _), ?_⟩
        rw [HPP.out, HEN.out]
        obtain ⟨e1, e2⟩ := ty_end (a := .int .i64 0) (b := .int .i64 0) (c := .int .i64 0) (d := .string ⟨#[]⟩) (e := .slice none 0 0) HA.out HV4.out HL4.out HJ.out hRr (by rw [HRR.out]; exact Nat.le_refl _) HB4.out
        have hba := (Below.refl _ (five w4 R (.int .i64 0) (.int .i64 0) (.int .i64 0) (.string ⟨#[]⟩) (.slice none 0 0))).alloc (Nat.le_refl _) (.cells #[.int .i64 0, .int .i64 0, .int .i64 0, .string ⟨#[]⟩, .slice none 0 0] NodeT)
        exact ⟨rfl, (e1.on hba).mono fun b q => up_up q, e2.trans fun b q => hba.block b (e1.ap b (Or.inl q)).2.1⟩
      | some n0 =>
        rw [hpl] at HPL
        obtain ⟨hk0, hd0, hin0⟩ := plain_form hpl (HFAIR.out p).1 (by have := (HFAIR.out p).2.2; omega)
        have hin0 := tok_in hin0
        have HEN : Hid (typR l i = .node (wrapAll (ats.map (·.1)) n0) (p + 1)) := Lib.hid (by rw [HE.out, typR_some hpl, wrapRs_node])
        have HN0 := Lib.hid (And.intro hk0 hd0)
        have hlen := HLEN.out
        have hx : IntKind.i64.wrap (p + 1) = p + 1 := IntWalk.i64_in _ (by omega)
        have HJ : Hid (I64 (p + 1)) := Lib.hid (by unfold I64; omega)
        obtain ⟨nk, na, nn, nm, nks⟩ := n0
        have hk0' : nks = [] := hk0
        subst hk0'
        clear hpl hk0 hd0 hin0 hlen
        go_wp2_with (fail)
        refine HPL.out.mono ?_
        intro e w4 hpo
        obtain ⟨rfl, hb4⟩ := hpo
        have hb4' : Below wr.heap.size wr w4 := HB3.out.trans (hb4.mono HB3.out.size)
        obtain ⟨vr, vo, vs, ⟨_, c1, _⟩, hf, hbx, _⟩ := (HRd.out.on hb4').cells
        have f1 := hf 1
        have hrz : rb < w4.heap.size := hbx.lt
        have HB4' := Lib.hid hb4'
        clear hf hbx hb4 hb4'
        dsimp only [NT.kind, NT.at_, NT.num, NT.name]
        go_wp2_with (fail)
        refine (back_any _ _ _ _).mono ?_
        rintro e w7 ⟨rfl, hw7⟩
        obtain ⟨N, hN⟩ : ∃ N, N = w4.heap.size := ⟨_, rfl⟩
        have HN := Lib.hid hN
        have HW7 : Hid (w7 = ((w4.setCell ⟨rb, 1, none⟩ (.int .i64 (p + 1))).alloc (.cells #[.int .i64 nk, .int .i64 na, .int .i64 nn, .string ⟨nm.toArray⟩, .slice none 0 0] NodeT)).alloc (.cells #[.slice Av K cv] 64)) := Lib.hid hw7
        have HFN : Hid ((((w4.setCell ⟨rb, 1, none⟩ (.int .i64 (p + 1))).alloc (.cells #[.int .i64 nk, .int .i64 na, .int .i64 nn, .string ⟨nm.toArray⟩, .slice none 0 0] 29)).heap.size = N + 1)) := Lib.hid (by rw [hN]; simp [World.setCell])
        rw [← hN]
        rw [HFN.out]
        clear hw7 hN c1 f1
        go_wp2_with (fail)
        refine (wpIn_wide (n := 9)).1 ?_
        have hb4' := HB4'.out
        have hR4 := HRd.out.on hb4'
        have hV4 : Mv v rb wants over i p w w4 := HK.out.trans (Mv.of hb4' _)
        have hwN : w.heap.size ≤ N := by rw [HN.out]; exact hV4.2.1
        have hRN : R < N := by rw [HN.out]; exact (HBx.out.on hb4').lt
        have hz7 : w7.heap.size = N + 2 := by rw [HW7.out, HN.out]; simp [World.setCell]
        have hk7 : ∀ k, k < N → k ≠ rb → w7.heap[k]? = w4.heap[k]? := fun k hk hn => by
          rw [HW7.out, Below.heap_alloc _ _ k (by simp [World.setCell]; have := HN.out; omega), Below.heap_alloc _ _ k (by simp [World.setCell]; have := HN.out; omega), Below.heap_setCell _ ⟨rb, 1, none⟩ _ k hn]
        have HV7 : Hid (Mv v rb wants over i (p + 1) w w7) := Lib.hid ⟨fun k hk hn => (hk7 k (by omega) hn).trans (hV4.1 k hk hn), by omega, fun vr vo q => by rw [HW7.out]; exact (((hV4.2.2 vr vo q).set 1 _).alloc _).alloc _⟩
        have HL7 : Hid (Below w0.heap.size w0 w7) := Lib.hid (by rw [HW7.out]; exact ((hR4.low.setCell (p := ⟨rb, 1, none⟩) hR4.hB _).alloc (by simpa [World.setCell] using hR4.low.size) _).alloc (by have := hR4.low.size; simp [World.setCell]; omega) _)
        have bN : Box w7 N NodeT #[.int .i64 nk, .int .i64 na, .int .i64 nn, .string ⟨nm.toArray⟩, .slice none 0 0] := by rw [HW7.out]; exact (Box.new _ _ _ _ (by rw [HN.out]; simp [World.setCell])).alloc _
        have bS : Box w7 (N + 1) 64 #[.slice Av K cv] := by rw [HW7.out]; exact Box.new _ _ _ _ (by rw [HN.out]; simp [World.setCell])
        have bR7 : Box w7 R NodeT #[.int .i64 0, .int .i64 0, .int .i64 0, .string ⟨#[]⟩, .slice none 0 0] := (hk7 R hRN hRr).trans (HBx.out.on hb4')
        have hrow4 := own_below HRrow.out hb4'
        have hI7 : IntsB w7 (.slice Av K cv) ats := by
          rcases hrow4.2 with ⟨e1, e2⟩ | ⟨g, cap, cur, e1, hg1, hg2, _⟩
          · exact Or.inl ⟨e1, List.eq_nil_of_length_eq_zero (by rw [← HKL.out]; exact e2)⟩
          · have hgl : g < w4.heap.size := (Array.getElem?_eq_some_iff.1 hg2).1
            have hgr : g ≠ rb := by have := HA.out.lt; omega
            have h7 := hk7 g (by rw [HN.out]; exact hgl) hgr
            rw [e1] at hrow4 ⊢
            refine Or.inr ⟨g, cap, by rw [HKL.out], ⟨_, _, h7.trans hg2⟩, fun j hj => ?_⟩
            rw [Nat.zero_add]
            refine (World.cell?_of_block (w := w4) (w' := w7) (a := ⟨g, j, none⟩) h7).trans ?_
            rw [hrow4.cellAt j (by rw [HKL.out]; omega)]
            unfold tiV
            rw [List.getElem?_map, List.getElem?_eq_getElem hj]
            rfl
        have hKb : ats.length ≤ 1048576 := by rw [← HKL.out]; exact HKB.out.1
        have HBN := Lib.hid bN
        have HBR7 := Lib.hid bR7
        have HZ7 := Lib.hid hz7
        have HwN := Lib.hid hwN
        have HRN := Lib.hid hRN
        refine wpIn_rangeFunc_ownG rfl (by decide) (gf := 55) (lb := #[.pointer (some ⟨N + 1, 0, none⟩)]) rfl trivial (enters_of Tryd.func55 (by kernel_rfl) rfl)
          (back_stops 8 (by decide) (N + 1) _ ats hKb w7 bS hI7) (fun h1 h2 => KeepI.trans h1 h2) (fun W l o o' h1 h2 h3 h4 => KeepI.put (w := w7) W l o o' h1 h2 h3 h4) (Below.refl _ _) (fun _ => rfl)
          (fun (pre : List (Nat × TI)) (W : World) => (∃ s, Box W N NodeT #[.int .i64 (nodeOf (.mk nk na nn nm []) pre).kind, .int .i64 (nodeOf (.mk nk na nn nm []) pre).at_, .int .i64 (nodeOf (.mk nk na nn nm []) pre).num, .string ⟨(nodeOf (.mk nk na nn nm []) pre).name.toArray⟩, s] ∧ nt.Kids (fun b => N < b) W (nodeOf (.mk nk na nn nm []) pre).kids s) ∧ Below N w7 W)
          (fun _ _ _ => False)
          (OwnFrom.and (Own.from (node_own (.mk nk na nn nm []) N) _) (ownFrom_below (by omega) (by omega)))
          (fun _ _ _ _ _ hs _ _ => hs)
          ⟨⟨_, bN, nt.Kids.nil_ _ _⟩, Below.refl _ _⟩
          (fun x => { tmps := #[.pointer (some ⟨rb, 0, none⟩), undef, .pointer (some ⟨R, 0, none⟩), u3, .slice Av K cv, .int .i64 (tokAt l p).at_, .pointer (some ⟨N, 0, none⟩), .bool true, undef, .int .i64 x.2.1, .pointer (some ⟨rb, 0, none⟩), .agg #[.int .i64 (tokAt l i).kind, .int .i64 (tokAt l i).at_, .int .i64 (tokAt l i).n, .string ⟨(tokAt l i).text.toArray⟩], .int .i64 (tokAt l i).at_, .pointer (some ⟨rb, 0, none⟩), .bool false, u15, u16, u17, u18, u19, u20, u21, u22, u23, u24, u25, .tuple #[.agg #[.int .i64 nk, .int .i64 na, .int .i64 nn, .string ⟨nm.toArray⟩, .slice none 0 0], .bool true], .pointer (some ⟨rb, 0, none⟩), .agg #[.int .i64 (tokAt l p).kind, .int .i64 (tokAt l p).at_, .int .i64 (tokAt l p).n, .string ⟨(tokAt l p).text.toArray⟩], .tuple #[.agg #[.int .i64 nk, .int .i64 na, .int .i64 nn, .string ⟨nm.toArray⟩, .slice none 0 0], .bool true], .agg #[.int .i64 nk, .int .i64 na, .int .i64 nn, .string ⟨nm.toArray⟩, .slice none 0 0], .bool true, .bool true, .bool false, undef, .pointer (some ⟨rb, 0, none⟩), .pointer (some ⟨rb, 0, none⟩), .pointer (some ⟨rb, 1, none⟩), .int .i64 p, .int .i64 (p + 1), .pointer (some ⟨rb, 0, none⟩), .pointer (some ⟨rb, 1, none⟩), .slice Av K cv, .func (.func 55) #[] #[.pointer (some ⟨N + 1, 0, none⟩)], .int .i64 (x.1 : Int), .int .i64 x.2.1, undef, undef, undef, undef, undef], defers := [] }) ?assign ?body ?done ?stop
        case assign =>
          intro l x W K hK
          gi_wp2
          exact hK
        case body =>
          rintro l pre x W ⟨⟨s, hb, hk⟩, hB⟩ _
          obtain ⟨As, cs, rfl, _⟩ := hk.form
          have hNl := hb.lt
          have HS := Lib.hid (nodeOf_snoc (.mk nk na nn nm []) pre x)
          have HD := Lib.hid (nodeOf_hd HN0.out.2 pre)
          obtain ⟨q, hq⟩ : ∃ q, q = nodeOf (.mk nk na nn nm []) pre := ⟨_, rfl⟩
          rw [← hq] at hb hk HS HD
          obtain ⟨M9, hM9⟩ : ∃ M9, M9 = q.kids.length := ⟨_, rfl⟩
          rw [← hM9] at hb hk
          have HH := Lib.hid (fun X hX => round_node (X := X) hNl HD.out x.2.2 hb hk hB hX)
          have n0 := hb.cell 0
          have n1 := hb.cell 1
          have n2 := hb.cell 2
          have n3 := hb.cell 3
          have n4 := hb.cell 4
          have g0 := hb.frozen 0
          have g1 := hb.frozen 1
          have g2 := hb.frozen 2
          have g3 := hb.frozen 3
          have g4 := hb.frozen 4
          simp only [List.getElem?_toArray, List.getElem?_cons_zero, List.getElem?_cons_succ] at n0 n1 n2 n3 n4
          clear hq hM9 hb hk hB bN bS bR7 hrow4 hI7 hk7 hz7 hR4 hV4
          gi_wp2
          obtain ⟨p1, p2, p3, p4⟩ := HH.out _ rfl
          exact ⟨p1.from _, p2, by rw [HS.out]; exact p3, p4⟩
        case done =>
          rintro D ys W hD rfl ⟨⟨s, hb, hk⟩, hB⟩ hK
          have HQ := Lib.hid (nodeOf_hd HN0.out.2 (dnto ats ats.length ats.length))
          rw [nodeOf_all] at hb hk HQ
          obtain ⟨As, cs, rfl, _⟩ := hk.form
          obtain ⟨q, hq⟩ : ∃ q, q = wrapAll (ats.map (·.1)) (.mk nk na nn nm []) := ⟨_, rfl⟩
          rw [← hq] at hb hk HQ HEN
          have hRN' := HRN.out
          have hwN' := HwN.out
          have hz7' := HZ7.out
          have hbR : Box W R NodeT _ := (hB.block R hRN').trans HBR7.out
          have hDR : D ≠ R := by omega
          obtain ⟨M9, hM9⟩ : ∃ M9, M9 = q.kids.length := ⟨_, rfl⟩
          rw [← hM9] at hb hk
          have hK5 : (five W R (.int .i64 q.kind) (.int .i64 q.at_) (.int .i64 q.num) (.string ⟨q.name.toArray⟩) (.slice As M9 cs)).heap[D]? = some (.deferred (some [])) := by
            unfold five
            rw [Below.heap_setCell _ ⟨R, 4, none⟩ _ D hDR, Below.heap_setCell _ ⟨R, 3, none⟩ _ D hDR, Below.heap_setCell _ ⟨R, 2, none⟩ _ D hDR, Below.heap_setCell _ ⟨R, 1, none⟩ _ D hDR, Below.heap_setCell _ ⟨R, 0, none⟩ _ D hDR]
            exact hK
          have HK5 := Lib.hid hK5
          have HFIN : Hid (∀ Z, Z = (five W R (.int .i64 q.kind) (.int .i64 q.at_) (.int .i64 q.num) (.string ⟨q.name.toArray⟩) (.slice As M9 cs)).putObj D (.deferred none) → Box Z R NodeT #[.int .i64 q.kind, .int .i64 q.at_, .int .i64 q.num, .string ⟨q.name.toArray⟩, .slice As M9 cs] ∧ TyP l v w0 rb A wants over rs G w (.node q (p + 1)) (.returned (.tuple #[.agg #[.int .i64 q.kind, .int .i64 q.at_, .int .i64 q.num, .string ⟨q.name.toArray⟩, .slice As M9 cs], .bool true])) Z) := Lib.hid fun Z hZ => by
            have h5 : ∀ k, k ≠ R → k ≠ D → Z.heap[k]? = W.heap[k]? := fun k hk hkD => by
              rw [hZ, World.putObj_heap_other hkD]
              unfold five
              rw [Below.heap_setCell _ ⟨R, 4, none⟩ _ k hk, Below.heap_setCell _ ⟨R, 3, none⟩ _ k hk, Below.heap_setCell _ ⟨R, 2, none⟩ _ k hk, Below.heap_setCell _ ⟨R, 1, none⟩ _ k hk, Below.heap_setCell _ ⟨R, 0, none⟩ _ k hk]
            have hbz : Box Z R NodeT #[.int .i64 q.kind, .int .i64 q.at_, .int .i64 q.num, .string ⟨q.name.toArray⟩, .slice As M9 cs] := by rw [hZ]; exact (World.putObj_heap_other (fun e => hDR e.symm)).trans (box_five hbR _ _ _ _ _)
            have hsz : Z.heap.size = W.heap.size := by rw [hZ]; unfold five; simp [World.setCell]
            have hlow : Below w0.heap.size w0 Z := by
              have h1 : Below w0.heap.size w0 W := HL7.out.trans (hB.mono (by have := HA.out.low.size; omega))
              rw [hZ]
              exact (below_five h1 (by rw [HRR.out]; exact HA.out.low.size) _ _ _ _ _).grown (grownBy_putObj' _ D _) (by have := h1.size; unfold five; simpa [World.setCell] using this) (fun k e => by cases e; have := HA.out.low.size; omega)
            have hmv : Mv v rb wants over i (p + 1) w Z := ⟨fun k hk hn => (h5 k (by have := HRR.out; omega) (by omega)).trans ((hB.block k (by omega)).trans (HV7.out.1 k hk hn)), by rw [hsz]; exact Nat.le_trans HV7.out.2.1 hB.size, fun vr vo e => (h5 rb hrR (by have := HA.out.lt; omega)).trans ((hB.block rb (by have := HA.out.lt; omega)).trans (HV7.out.2.2 vr vo e))⟩
            refine ⟨hbz, .slice As M9 cs, rfl, hk.carry fun b o u e hc => ?_, HQ.out, HA.out.moved hmv hlow HJ.out, HA.out.only hmv.1, hmv.2.1⟩
            have hlt : b < W.heap.size := World.block_lt_of_cell? _ _ hc
            have hbD : b ≠ D := fun e2 => by
              obtain ⟨o2, ho2, hc2⟩ := cells_of_cell hc
              rw [show (⟨b, o, none⟩ : Addr).block = D from e2, hK] at ho2
              injection ho2 with ho2
              rw [← ho2] at hc2
              cases hc2
            exact ⟨⟨by omega, by rw [hsz]; exact hlt⟩, (World.cell?_of_block (w := W) (w' := Z) (a := ⟨b, o, none⟩) (h5 b (by omega) hbD)).trans hc⟩
          have n0 := hb.cell 0
          have n1 := hb.cell 1
          have n2 := hb.cell 2
          have n3 := hb.cell 3
          have n4 := hb.cell 4
          have r0 := hbR.cell 0
          have r1 := hbR.cell 1
          have r2 := hbR.cell 2
          have r3 := hbR.cell 3
          have r4 := hbR.cell 4
          have g0 := hbR.frozen 0
          have g1 := hbR.frozen 1
          have g2 := hbR.frozen 2
          have g3 := hbR.frozen 3
          have g4 := hbR.frozen 4
          simp only [List.getElem?_toArray, List.getElem?_cons_zero, List.getElem?_cons_succ] at n0 n1 n2 n3 n4 r0 r1 r2 r3 r4
          clear hq hM9 hb hk hB bN bS bR7 hrow4 hI7 hk7 hz7 hR4 hV4 hbR hK hK5 hRN' hwN' hz7' hDR hD
          gi_wp2
          go_wp2_with (fail)
          refine ⟨by simp, .inl ⟨_, _, rfl, run_takeDeferred HK5.out, ?_⟩⟩
          obtain ⟨p1, p2⟩ := HFIN.out _ rfl
          refine ⟨_, node_ret2b rfl rfl rfl p1, ?_⟩
          rw [HPP.out, HEN.out]
          exact p2
        case stop =>
          rintro D c pre W _ _ h _
          exact h.elim
end Go.Proofs.YtgohkmdepjmpaaaDoor.pm.em

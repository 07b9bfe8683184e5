/- The package's functions: nodes without number and name, right names, rows of sorts. -/
import Derived.Test.YtkmkeaeaalnbjaaDoorCTreeName
import Derived.Test.YtkmkeaeaalnbjaaDoorCGNode
import Derived.Test.YtkmkeaeaalnbjaaDoorCGWord
namespace Go.Proofs.YtkmkeaeaalnbjaaDoor.nt
open Go.RowKit mem wd lx
open vt (I64 own_form)

/-- a function that tells a Bool of a node, where the words' table is laid -/
def SortOf (F : FuncId) (f : NT → Bool) (t : NT) : Prop := ∀ (G : Nat → Prop), Hd t → ∀ (s : Value) (w : World), wd.LD w → Kids G w t.kids s →
    Calls Tryd.prog F #[.agg #[.int .i64 t.kind, .int .i64 t.at_, .int .i64 t.num, .string ⟨t.name.toArray⟩, s]] w fun e w' => e = .returned (.bool (f t)) ∧ Below w.heap.size w w'
theorem pbare_any (t : NT) (s : Value) (w : World) : Calls Tryd.prog 25 #[.agg #[.int .i64 t.kind, .int .i64 t.at_, .int .i64 t.num, .string ⟨t.name.toArray⟩, s]] w fun e w' => e = .returned (.bool (aloneN t.num t.name)) ∧ Below w.heap.size w w' := by
  obtain ⟨k, a, n, nm, l⟩ := t
  show Calls Tryd.prog 25 #[.agg #[.int .i64 k, .int .i64 a, .int .i64 n, .string ⟨nm.toArray⟩, s]] w fun e w' => e = .returned (.bool (aloneN n nm)) ∧ Below w.heap.size w w'
  obtain ⟨H, hH⟩ : ∃ H, H = w.heap.size := ⟨_, rfl⟩
  obtain ⟨W, hW⟩ : ∃ W, W = w.alloc (.cells #[.int .i64 k, .int .i64 a, .int .i64 n, .string ⟨nm.toArray⟩, s] NodeT) := ⟨_, rfl⟩
  obtain ⟨⟨x0, x1, x2, x3, x4⟩, HB, HHW⟩ := boxed hH hW
  have HW := Lib.hid hW
  have HHH := Lib.hid hH
  clear hW hH
  by_cases c1 : n = 0
  · subst c1
    cases nm with
    | nil =>
      go_enter Tryd.func25, Tryd.ntmps25
      go_wp2_with (first | (rw [← HW.out, ← HHH.out]))
      go_ret
      exact ⟨rfl, HB.out⟩
    | cons c r =>
      go_enter Tryd.func25, Tryd.ntmps25
      go_wp2_with (first | (rw [← HW.out, ← HHH.out]))
      go_ret
      exact ⟨rfl, HB.out⟩
  · have e1 : (n == 0) = false := beq_eq_false_iff_ne.2 c1
    have HR : Hid (aloneN n nm = false) := Lib.hid (by unfold aloneN; simp [c1])
    clear c1
    go_enter Tryd.func25, Tryd.ntmps25
    go_wp2_with (first | (rw [← HW.out, ← HHH.out]))
    go_ret
    exact ⟨by rw [HR.out]; rfl, HB.out⟩
/-! ### right names -/
theorem pin_name (c : UInt8) (w : World) : Calls Tryd.prog 62 #[.int .u8 c.toNat] w fun e w' => e = .returned (.bool (isLD c)) ∧ w = w' := by
  have hl : isLD c = (decide (97 ≤ c.toNat ∧ c.toNat ≤ 122 ∨ 65 ≤ c.toNat ∧ c.toNat ≤ 90 ∨ c.toNat = 95) || (decide (48 ≤ c.toNat) && decide (c.toNat ≤ 57))) := by rw [isLD_num, isDg_num]
  obtain ⟨K, hK⟩ : ∃ K, K = isLD c := ⟨_, rfl⟩
  rw [← hK] at hl ⊢
  have HK := Lib.hid hl
  clear hK hl
  obtain ⟨n, hn⟩ : ∃ n, n = c.toNat := ⟨_, rfl⟩
  rw [← hn] at HK ⊢
  clear hn
  go_enter Tryd.func62, Tryd.ntmps62
  go_wp2_with (fail)
  all_goals go_ret
  all_goals refine ⟨congrArg (fun x => Ending.returned (Value.bool x)) ?_, rfl⟩
  all_goals rw [HK.out]
  all_goals try simp only [beq_iff_eq, beq_eq_false_iff_ne] at *
  all_goals rw [Bool.eq_iff_iff]
  all_goals simp only [Bool.or_eq_true, Bool.and_eq_true, beq_iff_eq, decide_eq_true_eq, true_iff]
  all_goals omega
/-- a name, but for its length -/
theorem name_cons {c : UInt8} {r : List UInt8} (h : (c :: r).length ≤ 32) : nameC (c :: r) = (!isDg c && (c :: r).all isLD && !isW (c :: r)) := by
  unfold nameC; simp only; rw [decide_eq_true h]; rfl
theorem all_at {p : UInt8 → Bool} {l : List UInt8} {k : Nat} (hk : k < l.length) (h : p l[k] = false) : l.all p = false := by
  rw [List.all_eq_false]; exact ⟨l[k], List.getElem_mem hk, by simp [h]⟩
theorem all_take_b (p : UInt8 → Bool) (l : List UInt8) (k : Nat) (h : k < l.length) : (l.take (k + 1)).all p = ((l.take k).all p && p l[k]) := by
  rw [List.take_succ_eq_append_getElem h, List.all_append]; simp
def NmRel (w : World) (s : List UInt8) (i : Value) (wr : World) : Prop := ∃ k q : Nat, k ≤ s.length ∧ i = .int .i64 k ∧ Hid ((s.take k).all isLD = true) ∧ wr = w.drewN q
set_option maxHeartbeats 1000000 in
theorem pis_name (s : List UInt8) (w : World) (hs : s.length ≤ 281474976710656) (hL : wd.LD w) : Calls Tryd.prog 44 #[.string ⟨s.toArray⟩] w fun e w' => e = .returned (.bool (named s)) ∧ Below w.heap.size w w' := by
  rw [named_eq]
  have HB := Lib.hid (Below.refl w.heap.size w)
  cases s with
  | nil =>
    go_enter Tryd.func44, Tryd.ntmps44
    go_wp2_with (fail)
    go_ret
    exact ⟨rfl, HB.out⟩
  | cons c r =>
    obtain ⟨S, hS⟩ : ∃ S : ByteArray, S = ⟨(c :: r).toArray⟩ := ⟨_, rfl⟩
    have e0 : S.toList.isEmpty = false := by rw [ByteArray.toList_eq, hS]; rfl
    have e1 : ¬ S.toList = [] := by rw [ByteArray.toList_eq, hS]; simp
    have hsz : S.size = (c :: r).length := by rw [hS]; rfl
    have hget : ∀ (k : Nat) (hk : k < S.size), S[k] = (c :: r)[k]'(by omega) := by intro k hk; subst hS; rfl
    have h0 : 0 < S.size := by rw [hsz]; simp
    have h0' : (0 : Int) < (S.size : Int) := by omega
    by_cases h1 : 32 < (c :: r).length
    · have hR : nameC (c :: r) = false := by unfold nameC; simp only; rw [decide_eq_false (by omega)]; rfl
      have h2 : (32 : Int) < (S.size : Int) := by omega
      rw [hR, ← hS]
      clear hS hget hR h1 hs hsz h0 h0'
      go_enter Tryd.func44, Tryd.ntmps44
      go_wp2_with (fail)
      go_ret
      exact ⟨rfl, HB.out⟩
    · have h2 : decide ((32 : Int) < (S.size : Int)) = false := by rw [decide_eq_false_iff_not]; omega
      have h3 : ¬ (32 : Int) < (S.size : Int) := by omega
      have hz : S.size ≤ 32 := by omega
      have hR := name_cons (c := c) (r := r) (by omega)
      have hc0 : S[0] = c := hget 0 h0
      have hD : isDg S[0] = isDg c := by rw [hc0]
      have HW := Lib.hid (fun w' (hb : Below w.heap.size w w') => wd.is_any (c :: r) w' (by omega) (hL.on hb))
      rw [← hS] at HW ⊢
      rw [isDg_num] at hD
      clear hc0
      by_cases hd : isDg c = true
      · rw [hd] at hD hR
        have hD : 48 ≤ S[0].toNat ∧ S[0].toNat ≤ 57 := by simpa using hD
        have d1 : (48 : Int) ≤ (S[0].toNat : Int) := by omega
        have d2 : (S[0].toNat : Int) ≤ 57 := by omega
        have HR : Hid (nameC (c :: r) = false) := Lib.hid (by rw [hR]; simp)
        clear hD hd hR hS hget hs h1 hsz HW hL
        go_enter Tryd.func44, Tryd.ntmps44
        go_wp2_with (fail)
        go_ret
        exact ⟨by rw [HR.out]; rfl, HB.out⟩
      · rw [Bool.not_eq_true] at hd
        rw [hd] at hD hR
        have HR : Hid (nameC (c :: r) = ((c :: r).all isLD && !isW (c :: r))) := Lib.hid (by rw [hR]; simp)
        have HD : S[0].toNat < 48 ∨ 57 < S[0].toNat := by
          by_cases h : S[0].toNat < 48
          · exact .inl h
          · refine .inr ?_
            rw [decide_eq_true (show 48 ≤ S[0].toNat by omega), Bool.true_and] at hD
            have := of_decide_eq_false hD
            omega
        have HG : Hid (∀ (k : Nat) (hk : k < S.size), ∃ hk2 : k < (c :: r).length, S[k] = (c :: r)[k]) := Lib.hid (fun k hk => ⟨by omega, hget k hk⟩)
        obtain ⟨L, hLs⟩ : ∃ L, L = c :: r := ⟨_, rfl⟩
        rw [← hLs] at HR HG HW hsz ⊢
        have HSZ := Lib.hid hsz
        clear hD hd hR hS hget hs h1 hsz hL hLs
        clear hsz
        rcases HD with HD | HD
        · have d1 : decide ((48 : Int) ≤ (S[0].toNat : Int)) = false := by rw [decide_eq_false_iff_not]; omega
          clear HD
          go_enter Tryd.func44, Tryd.ntmps44
          go_wp2_with (fail)
          go_loopw [23] (fun i wr => NmRel w L i wr) (fun i _ => L.length - (intOf i).toNat)
          case atStart => unfold NmRel; exact ⟨0, 0, Nat.zero_le _, rfl, Lib.hid rfl, rfl⟩
          case round =>
            unfold NmRel at hrel
            obtain ⟨k, q, hk, rfl, HT, rfl⟩ := hrel
            by_cases hlt : k < S.size
            · obtain ⟨hkl, hgk⟩ := HG.out k hlt
              have HI := fun W => Lib.hid (pin_name S[k] W)
              have HU := Lib.hid (all_take_b isLD L k hkl)
              have HU2 := Lib.hid (all_at (p := isLD) hkl)
              rw [← hgk] at HU HU2
              obtain ⟨b, hb⟩ : ∃ b, b = isLD S[k] := ⟨_, rfl⟩
              rw [← hb] at HI HU HU2
              have hlt' : (k : Int) < (S.size : Int) := by omega
              clear hgk hb
              cases b
              · go_wp2_with (go_at_call 62; refine (HI _).out.mono ?_; rintro e w1 ⟨rfl, rfl⟩)
                go_ret
                exact ⟨by rw [HR.out, HU2.out (by simp)]; rfl, below_drewN HB.out q⟩
              · go_wp2_with (go_at_call 62; refine (HI _).out.mono ?_; rintro e w1 ⟨rfl, rfl⟩)
                go_roundw
                case rel => unfold NmRel; exact ⟨k + 1, _, by omega, by go_num, Lib.hid (by rw [HU.out, HT.out]; rfl), rfl⟩
                case measure => simp [intOf]; omega
            · obtain rfl : k = L.length := by have := HSZ.out; omega
              have hn : decide (((L.length : Nat) : Int) < (S.size : Int)) = false := by rw [decide_eq_false_iff_not]; omega
              have HA : Hid (L.all isLD = true) := Lib.hid (by have h := HT.out; rw [List.take_length] at h; exact h)
              have HW2 := Lib.hid (HW.out (w.drewN q) (below_drewN HB.out q))
              clear HW
              obtain ⟨b, hb⟩ : ∃ b, b = isW L := ⟨_, rfl⟩
              rw [← hb] at HW2 HR
              clear hb
              go_wp2_with (go_at_call 63; refine HW2.out.mono ?_; rintro e w1 ⟨rfl, hb1⟩)
              go_ret
              exact ⟨by rw [HR.out, HA.out]; rfl, (below_drewN HB.out q).trans (hb1.mono (below_drewN HB.out q).size)⟩
        · have d1 : (48 : Int) ≤ (S[0].toNat : Int) := by omega
          have d2 : decide ((S[0].toNat : Int) ≤ 57) = false := by rw [decide_eq_false_iff_not]; omega
          clear HD
          go_enter Tryd.func44, Tryd.ntmps44
          go_wp2_with (fail)
          go_loopw [23] (fun i wr => NmRel w L i wr) (fun i _ => L.length - (intOf i).toNat)
          case atStart => unfold NmRel; exact ⟨0, 0, Nat.zero_le _, rfl, Lib.hid rfl, rfl⟩
          case round =>
            unfold NmRel at hrel
            obtain ⟨k, q, hk, rfl, HT, rfl⟩ := hrel
            by_cases hlt : k < S.size
            · obtain ⟨hkl, hgk⟩ := HG.out k hlt
              have HI := fun W => Lib.hid (pin_name S[k] W)
              have HU := Lib.hid (all_take_b isLD L k hkl)
              have HU2 := Lib.hid (all_at (p := isLD) hkl)
              rw [← hgk] at HU HU2
              obtain ⟨b, hb⟩ : ∃ b, b = isLD S[k] := ⟨_, rfl⟩
              rw [← hb] at HI HU HU2
              have hlt' : (k : Int) < (S.size : Int) := by omega
              clear hgk hb
              cases b
              · go_wp2_with (go_at_call 62; refine (HI _).out.mono ?_; rintro e w1 ⟨rfl, rfl⟩)
                go_ret
                exact ⟨by rw [HR.out, HU2.out (by simp)]; rfl, below_drewN HB.out q⟩
              · go_wp2_with (go_at_call 62; refine (HI _).out.mono ?_; rintro e w1 ⟨rfl, rfl⟩)
                go_roundw
                case rel => unfold NmRel; exact ⟨k + 1, _, by omega, by go_num, Lib.hid (by rw [HU.out, HT.out]; rfl), rfl⟩
                case measure => simp [intOf]; omega
            · obtain rfl : k = L.length := by have := HSZ.out; omega
              have hn : decide (((L.length : Nat) : Int) < (S.size : Int)) = false := by rw [decide_eq_false_iff_not]; omega
              have HA : Hid (L.all isLD = true) := Lib.hid (by have h := HT.out; rw [List.take_length] at h; exact h)
              have HW2 := Lib.hid (HW.out (w.drewN q) (below_drewN HB.out q))
              clear HW
              obtain ⟨b, hb⟩ : ∃ b, b = isW L := ⟨_, rfl⟩
              rw [← hb] at HW2 HR
              clear hb
              go_wp2_with (go_at_call 63; refine HW2.out.mono ?_; rintro e w1 ⟨rfl, hb1⟩)
              go_ret
              exact ⟨by rw [HR.out, HA.out]; rfl, (below_drewN HB.out q).trans (hb1.mono (below_drewN HB.out q).size)⟩
/-- a right name and no number -/
def nmN (n : Int) (s : List UInt8) : Bool := decide (n = 0) && named s
set_option maxHeartbeats 400000 in
theorem pnamed_any (t : NT) (hd : Hd t) (s : Value) (w : World) (hL : wd.LD w) : Calls Tryd.prog 27 #[.agg #[.int .i64 t.kind, .int .i64 t.at_, .int .i64 t.num, .string ⟨t.name.toArray⟩, s]] w fun e w' => e = .returned (.bool (nmN t.num t.name)) ∧ Below w.heap.size w w' := by
  obtain ⟨k, a, n, nm, l⟩ := t
  obtain ⟨_, _, _, hnm⟩ := hd
  change nm.length ≤ _ at hnm
  show Calls Tryd.prog 27 #[.agg #[.int .i64 k, .int .i64 a, .int .i64 n, .string ⟨nm.toArray⟩, s]] w fun e w' => e = .returned (.bool (nmN n nm)) ∧ Below w.heap.size w w'
  obtain ⟨H, hH⟩ : ∃ H, H = w.heap.size := ⟨_, rfl⟩
  obtain ⟨W, hW⟩ : ∃ W, W = w.alloc (.cells #[.int .i64 k, .int .i64 a, .int .i64 n, .string ⟨nm.toArray⟩, s] NodeT) := ⟨_, rfl⟩
  obtain ⟨⟨x0, x1, x2, x3, x4⟩, HB, HHW⟩ := boxed hH hW
  have HI := fun q => Lib.hid (pis_name nm (W.drewN q) hnm (hL.on (below_drewN HB.out q)))
  have HW := Lib.hid hW
  have HHH := Lib.hid hH
  obtain ⟨B, hB⟩ : ∃ B, B = named nm := ⟨_, rfl⟩
  have HR : Hid (nmN n nm = (decide (n = 0) && B)) := Lib.hid (by rw [hB]; rfl)
  rw [← hB] at HI
  clear hW hH hL hB
  by_cases c1 : n = 0
  · subst c1
    go_enter Tryd.func27, Tryd.ntmps27
    go_wp2_with (first | (rw [← HW.out, ← HHH.out]) | (go_at_call 44; refine (HI 0).out.mono ?_; rintro e w1 ⟨rfl, hb1⟩))
    go_ret
    exact ⟨by rw [HR.out]; rfl, HB.out.trans (hb1.mono HB.out.size)⟩
  · have e1 : (n == 0) = false := beq_eq_false_iff_ne.2 c1
    rw [decide_eq_false c1] at HR
    clear c1
    go_enter Tryd.func27, Tryd.ntmps27
    go_wp2_with (first | (rw [← HW.out, ← HHH.out]))
    go_ret
    exact ⟨by rw [HR.out]; rfl, HB.out⟩
end Go.Proofs.YtkmkeaeaalnbjaaDoor.nt

/- A value in a variable; whether a value is small. -/
import Derived.Test.YtnjcapenkoemlaaValOwn
import Derived.Test.YtnjcapenkoemlaaValSize
namespace Go.Proofs.Ytnjcapenkoemlaa.vt
open Go.RowKit mem

/-- a variable that holds a value -/
def VarIs (w : World) (b : Nat) (t : VT) (s : Value) : Prop :=
  (w.cell? ⟨b, 0, none⟩ = some (.int .i64 t.kind) ∧ w.cell? ⟨b, 1, none⟩ = some (.int .i64 t.num) ∧ w.cell? ⟨b, 2, none⟩ = some s) ∧ Kids (fun _ => True) w t.kids s ∧ b < w.heap.size
theorem VarIs.below {w w' : World} {b : Nat} {t : VT} {s : Value} (h : VarIs w b t s) (hb : Below w.heap.size w w') : VarIs w' b t s :=
  ⟨⟨(hb.cell (p := ⟨b, 0, none⟩) h.2.2).trans h.1.1, (hb.cell (p := ⟨b, 1, none⟩) h.2.2).trans h.1.2.1, (hb.cell (p := ⟨b, 2, none⟩) h.2.2).trans h.1.2.2⟩, h.2.1.below hb, Nat.lt_of_lt_of_le h.2.2 hb.size⟩
theorem VarIs.new {w : World} {t : VT} {s : Value} (b : Nat) (hb : b = w.heap.size) (h : Kids (fun _ => True) w t.kids s) : VarIs (w.alloc (.cells #[.int .i64 t.kind, .int .i64 t.num, s] 24)) b t s :=
  ⟨⟨cell_new w b hb _ _ 0, cell_new w b hb _ _ 1, cell_new w b hb _ _ 2⟩, h.below ((Below.refl _ _).alloc (Nat.le_refl _) _), by rw [hb]; simp⟩
theorem kids_two (w : World) {u v : VT} {s s' : Value} (hu : I64 u.kind ∧ I64 u.num) (hv : I64 v.kind ∧ I64 v.num) (h1 : Kids (fun _ => True) w u.kids s) (h2 : Kids (fun _ => True) w v.kids s') :
    Kids (fun _ => True) (w.alloc (.cells #[.int .i64 u.kind, .int .i64 u.num, s, .int .i64 v.kind, .int .i64 v.num, s'] 24)) [u, v] (.slice (some ⟨w.heap.size, 0, none⟩) 2 2) := by
  have hb := (Below.refl w.heap.size w).alloc (Nat.le_refl _) (.cells #[.int .i64 u.kind, .int .i64 u.num, s, .int .i64 v.kind, .int .i64 v.num, s'] 24)
  refine ⟨_, 2, rfl, ⟨by simp, fun h => by cases h⟩, fun _ => ⟨w.heap.size, 0, rfl, trivial, ?_⟩⟩
  rw [row_cons, row_cons]
  refine ⟨⟨hu.1, hu.2, cell_new w _ rfl _ _ 0, cell_new w _ rfl _ _ 1, s, cell_new w _ rfl _ _ 2, h1.below hb⟩, ⟨hv.1, hv.2, cell_new w _ rfl _ _ 3, cell_new w _ rfl _ _ 4, s', cell_new w _ rfl _ _ 5, h2.below hb⟩, by rw [Row]; trivial⟩
def smallI (t : VT) : Int := if 300 < wrap64 (t.size : Int) then 0 else 1
theorem small_any {G : Nat → Prop} (t : VT) (s : Value) (w : World) (h : Kids G w t.kids s) :
    Calls Try.prog 7 #[.agg #[.int .i64 t.kind, .int .i64 t.num, s]] w fun e w' => e = .returned (.int .i64 (smallI t)) ∧ Below w.heap.size w w' := by
  have HS := Lib.hid (fun o => rsize_any t s (w.alloc o) (h.below ((Below.refl _ _).alloc (Nat.le_refl _) o)))
  obtain ⟨A, cap, rfl, _⟩ := h.form
  obtain ⟨n, hn⟩ : ∃ n, n = t.kids.length := ⟨_, rfl⟩
  rw [← hn] at HS ⊢
  have HK : Hid (smallI t = if 300 < wrap64 (t.size : Int) then 0 else 1) := Lib.hid rfl
  clear h hn
  obtain ⟨m, hm⟩ : ∃ m, m = wrap64 (t.size : Int) := ⟨_, rfl⟩
  rw [← hm] at HK
  have HB := Lib.hid (fun o => (Below.refl w.heap.size w).alloc (Nat.le_refl _) o)
  by_cases hc : 300 < m
  · have HK2 : Hid (smallI t = 0) := Lib.hid (by rw [HK.out, if_pos hc])
    go_enter Try.func7, Try.ntmps7
    go_wp2_with (fail)
    refine (HS.out _).mono ?_
    rintro e w1 ⟨rfl, hb1⟩
    rw [← hm]
    clear hm
    go_wp2_with (fail)
    rw [HK2.out]
    go_ret
    exact ⟨rfl, (HB.out _).trans (hb1.mono (by simp))⟩
  · have HK2 : Hid (smallI t = 1) := Lib.hid (by rw [HK.out, if_neg hc])
    go_enter Try.func7, Try.ntmps7
    go_wp2_with (fail)
    refine (HS.out _).mono ?_
    rintro e w1 ⟨rfl, hb1⟩
    rw [← hm]
    clear hm
    go_wp2_with (fail)
    rw [HK2.out]
    go_ret
    exact ⟨rfl, (HB.out _).trans (hb1.mono (by simp))⟩
end Go.Proofs.Ytnjcapenkoemlaa.vt

/- The layer's works() answers true. -/
import Derived.Test.YtjppfnofceejhaaDoorLexCon
namespace Go.Proofs.YtjppfnofceejhaaDoor.lx
open Go.RowKit mem vt wd

/-- lex.All in the forms that the laws take -/
theorem all_ok {l : List UInt8} {w : World} {e : Ending} {w' : World} {ts : List Tok} {q : Nat} (h : AllPost l w e w') (hl : lexA l = (0, q, ts)) :
    ∃ A c, e = .returned (.tuple #[.slice A ts.length c, .int .i64 q, .int .i64 0]) ∧ TokS w'.heap.size w' ts (.slice A ts.length c) ∧ Below w.heap.size w w' := by
  unfold AllPost at h
  rw [hl] at h
  obtain ⟨v, h1, h2⟩ := h
  obtain ⟨A, c, rfl⟩ := own_form h2.1
  exact ⟨A, c, h1, TokS.of_got h2, h2.2⟩
theorem works_any (w : World) (hL : LD w) : Calls Tryd.prog 6 #[] w fun e w' => e = .returned (.bool true) ∧ Below w.heap.size w w' := by
  have HA := Lib.hid (lall_any ⟨exS.toArray⟩ w (by decide) hL)
  have HP : Hid (∀ e w', AllPost exS w e w' → ∃ A c, e = .returned (.tuple #[.slice A 5 c, .int .i64 0, .int .i64 0]) ∧ TokS w'.heap.size w' exT (.slice A 5 c) ∧ Below w.heap.size w w') := Lib.hid (fun e w' h => all_ok h ex_lex)
  go_enter Tryd.func6, Tryd.ntmps6
  go_wp2_with (fail)
  refine HA.out.mono ?_
  intro e w1 hp
  obtain ⟨A, c, rfl, ht, hb⟩ := HP.out _ _ hp
  obtain ⟨b, off, rfl, _, hc⟩ := TokS.cells ht (by decide)
  obtain ⟨_, _, x2, x3⟩ := hc 2 (by decide)
  obtain ⟨_, y1, _, _⟩ := hc 4 (by decide)
  change w1.cell? ⟨b, off + 8 + 2, none⟩ = some (.int .i64 7) at x2
  change w1.cell? ⟨b, off + 8 + 3, none⟩ = some (.string ⟨#[48, 55]⟩) at x3
  change w1.cell? ⟨b, off + 16 + 1, none⟩ = some (.int .i64 14) at y1
  have HS := Lib.hid (lspell_any exT (.slice (some ⟨b, off, none⟩) 5 c) w1 w1.heap.size ht (Nat.le_refl _) (by decide +kernel) (by decide))
  rw [ex_spell] at HS
  have HB := Lib.hid hb
  clear hp ht hb hc HA HP
  go_wp2_with (fail)
  refine HS.out.mono ?_
  rintro e w2 ⟨rfl, hb2⟩
  go_wp2_with (fail)
  go_ret
  exact ⟨rfl, HB.out.trans (hb2.mono HB.out.size)⟩
end Go.Proofs.YtjppfnofceejhaaDoor.lx

/- An argument opened: a row of bytes. -/
import Derived.Test.YtnjcapenkoemlaaPathOpen
import Derived.Test.YtnjcapenkoemlaaCellMem
namespace Go.Proofs.Ytnjcapenkoemlaa.vt.ce
open Go.ChangeShapes Go.WideShapes Go.ChangeAt Go.RowKit mem vt

theorem u8_wf {n : Int} (h : (Lit.int .u8 n).wf = true) : 0 ≤ n ∧ n ≤ 255 := by
  have e1 : IntKind.u8.min = 0 := rfl
  have e2 : IntKind.u8.max = 255 := rfl
  simp [Lit.wf, e1, e2] at h
  exact h
section
variable {H : Type} {enc : TypeId × Value → H} {W : World}
theorem cellsB : Try.prog.cellsOf 5 = 1 := by kernel_rfl
set_option maxRecDepth 100000 in
/-- what a reading of a row of bytes gives -/
theorem open_bytes_fuel {v : Value} {n : Nat} {x : DataW H × List MemPlace} (h : DataW.trod enc Try.prog W 0 (fun _ => true) true n 27 [v] = some x) : ∃ l : List UInt8, Bts (fun _ => True) W l v := by
  rcases DataW.trod_slice Try.underlying27 h with ⟨h1, h2⟩ | ⟨a, len, cap, elems, rest, m, hm, h1, hx, hb, hlc, hcm, hel, hall, hsp, hns⟩
  · injection h1 with h1 _
    subst h1
    exact ⟨[], Bts.nil_ _ _⟩
  · injection h1 with h1 _
    subst h1
    have each : ∀ i, i < len → ∃ c : UInt8, W.cell? ((a.add (i * 1)).add 0) = some (.int .u8 (c.toNat : Int)) := by
      intro i hi
      have e := hall i hi
      have hie : i < elems.length := by omega
      rw [List.getElem?_eq_getElem hie, Option.bind_eq_some_iff] at e
      obtain ⟨cs', hc, ht⟩ := e
      rw [cellsB] at hc
      obtain ⟨_, hcl, hat⟩ := World.cells?_some hc
      match cs', hcl with
      | [v0], _ =>
        obtain ⟨k, hk, _, wk⟩ := DataW.trod_int Try.underlying5 ht
        injection hk with hk _
        have wk2 : 0 ≤ k ∧ k ≤ 255 := u8_wf wk
        refine ⟨UInt8.ofNat k.toNat, ?_⟩
        rw [byte_nat (by omega), show ((k.toNat : Nat) : Int) = k by omega, ← hk]
        exact hat 0 (by decide)
    obtain ⟨q, hq⟩ := Go.Deep.choose_lt each
    have hlen : ((List.range len).map q).length = len := by simp
    refine ⟨(List.range len).map q, some a, cap, by rw [hlen], ⟨by rw [hlen]; unfold maxLen at hcm; omega, (fun h => by cases h), by rw [hlen]; exact hlc⟩, fun hp => ?_⟩
    rw [hlen] at hp
    have hc0 := hq 0 hp
    have hsp : a.spot = none := by
      unfold World.cell? at hc0
      split at hc0
      · cases hs : a.spot with
        | none => rfl
        | some k => simp [Addr.add, hs] at hc0
      · cases hc0
    obtain ⟨b, off, sp⟩ := a
    dsimp only at hsp
    subst hsp
    refine ⟨b, off, rfl, trivial, fun k hk => ?_⟩
    rw [hlen] at hk
    have h1 := hq k hk
    rw [cells_add, cells_add] at h1
    have e : ((List.range len).map q)[k]'(by rw [hlen]; exact hk) = q k := by simp
    rw [e]
    simpa using h1
theorem open_bytes {v : Value} {d : DataW H} {p : List MemPlace} (h : DataW.Trod enc Try.prog W 0 (fun _ => true) true 27 v d p) (hv : ∃ a len cap, v = .slice a len cap) : ∃ l : List UInt8, Bts (fun _ => True) W l v := by
  obtain ⟨a, len, cap, rfl⟩ := hv
  obtain ⟨fuel, hf⟩ := h
  exact open_bytes_fuel hf
end
end Go.Proofs.Ytnjcapenkoemlaa.vt.ce

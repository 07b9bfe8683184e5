/- The package's functions. -/
import Derived.Test.YtgohkmdepjmpaaaDoorCParAll
import Derived.Test.YtgohkmdepjmpaaaDoorCGExpFun
--KEEP
namespace Go.Proofs.YtgohkmdepjmpaaaDoor.pm
open Go.RowKit wd lx nt ne mem
open vt (I64 own_form)

/-- what the package's functions find laid -/
def LD (w : World) : Prop := wd.LD w
theorem LD.on {w w' : World} (h : LD w) (hb : Below w.heap.size w w') : LD w' := wd.LD.on h hb
/-- tokens as a lexer tells them -/
structure Fine (l : List Tk) : Prop where
  good : Good l
  txt : ∀ i, (tokAt l i).text.length ≤ 1048576
/-- what the package's reader of a node tells -/
def ToldE (r : Res) (w : World) (e : Ending) (w' : World) : Prop :=
  match r with
  | .node n j => ∃ s, e = .returned (.tuple #[.agg #[.int .i64 n.kind, .int .i64 n.at_, .int .i64 n.num, .string ⟨n.name.toArray⟩, s], .int .i64 j, .int .i64 0]) ∧ nt.Kids (fun _ => True) w' n.kids s ∧ Hd n ∧ Below w.heap.size w w'
  | .no j => e = .returned (.tuple #[.agg ZZ, .int .i64 j, .int .i64 1]) ∧ Below w.heap.size w w'
  | .list _ _ => False
/-- what its reader of nodes tells -/
def ToldEL (r : Res) (w : World) (e : Ending) (w' : World) : Prop :=
  match r with
  | .list ns j => ∃ s, e = .returned (.tuple #[s, .int .i64 j, .int .i64 0]) ∧ nt.Kids (fun _ => True) w' ns s ∧ Below w.heap.size w w'
  | .no j => ∃ A c, e = .returned (.tuple #[.slice A 0 c, .int .i64 j, .int .i64 1]) ∧ Below w.heap.size w w'
  | .node _ _ => False
theorem eexpr_any {l : List Tk} {v : Value} {w : World} (i : Int) (hs : Src l v w) (hf : Fine l) (hi : I64 i) (hL : LD w) : ∃ f r, run l f (.lev 1) i = some r ∧ Calls Tryd.prog 8 #[v, .int .i64 i] w (ToldE r w) := by
  obtain ⟨f, r, hr, hsim⟩ := em.expr_sim l i
  refine ⟨f, r, hr, ?_⟩
  have he : em.Env l v w := ⟨hs, hf.good, hf.txt, hL⟩
  cases r with
  | node n j =>
    obtain ⟨G, n', h1, h2⟩ := hsim
    obtain ⟨k, hk⟩ := h1.runs h2 (fun s e => by cases e)
    exact em.expr_walk k _ he hi hk
  | no j =>
    obtain ⟨s', h1, _, h3⟩ := hsim
    obtain ⟨k, hk⟩ := h1.runs h3 (fun s e => by cases e)
    exact em.expr_walk k _ he hi hk
  | list ns j => exact hsim.elim
theorem args_start {l : List Tk} {i : Int} {s : em.MS} (h : em.argsM l i 17 0 [] [] [] = .go s) : em.InvS l s := by
  have h0 : 0 ≤ i := by
    by_cases h1 : isM l i [40] = true
    · exact (isM_in h1).1
    · unfold em.argsM at h
      rw [if_neg h1] at h
      cases h
  obtain ⟨k1, k2, k3, k4⟩ := em.args_inv (l := l) (G := []) (p := i) (a := 0) (nm := []) (ks := []) (k := 17) (by decide) (Nat.zero_le _) (fun f hf => by cases hf) h0 (by simp) s h
  exact Or.inr ⟨i, k1, k4, by simpa [em.cnt] using k2, k3⟩
theorem eargs_any {l : List Tk} {v : Value} {w : World} (i : Int) (hs : Src l v w) (hf : Fine l) (hi : I64 i) (hL : LD w) : ∃ f r, run l f .args i = some r ∧ Calls Tryd.prog 15 #[v, .int .i64 i] w (ToldEL r w) := by
  obtain ⟨f, r, hr, hsim⟩ := em.args_sim l i
  refine ⟨f, r, hr, ?_⟩
  have he : em.Env l v w := ⟨hs, hf.good, hf.txt, hL⟩
  cases r with
  | list ns j =>
    obtain ⟨s1, h1, h2⟩ := hsim
    obtain ⟨k, hk⟩ := h2.walk
    exact em.args_walk k (.over (.mk 17 0 0 [] ns) j) he hi (Or.inl ⟨s1, h1, args_start h1, hk.aruns⟩)
  | no j =>
    rcases hsim with h | ⟨s1, h1, s', h2, h3, h4⟩
    · exact (em.args_walk 0 (.no j) he hi (Or.inr ⟨j, h, rfl⟩)).mono fun e w' q => ⟨none, 0, q.1, q.2⟩
    · obtain ⟨k, hk⟩ := h2.walk
      exact (em.args_walk (k + 1) (.no j) he hi (Or.inl ⟨s1, h1, args_start h1, hk.afails h3 h4⟩)).mono fun e w' q => ⟨none, 0, q.1, q.2⟩
  | node n j => exact hsim.elim
theorem etype_any {l : List Tk} {v : Value} {w : World} (i : Int) (hs : Src l v w) (hf : Fine l) (hi : I64 i) (hL : LD w) : ∃ f r, run l f .typ i = some r ∧ Calls Tryd.prog 12 #[v, .int .i64 i] w (ToldE r w) := by
  refine ⟨_, _, em.typR_run l i, ?_⟩
  have he : em.Env l v w := ⟨hs, hf.good, hf.txt, hL⟩
  have hen := run_ends _ _ _ _ _ (em.typR_run l i)
  cases h : em.typR l i with
  | node n j => exact em.type_some n h he hi
  | no j => exact em.type_no h he hi
  | list ns j => rw [h] at hen; simp [Ends, Mode.lists] at hen
end Go.Proofs.YtgohkmdepjmpaaaDoor.pm

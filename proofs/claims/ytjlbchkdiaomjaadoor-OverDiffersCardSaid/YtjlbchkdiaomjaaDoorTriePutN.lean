/- A node with one arm more: the row cut where it goes, and laid anew. -/
import Derived.Test.YtjlbchkdiaomjaaDoorTrieConcat
import Derived.Test.YtjlbchkdiaomjaaDoorTrieGet
import Derived.Test.YtjlbchkdiaomjaaDoorTrieLone
import Derived.Deep.RegionHeld3
import Derived.Deep.Onto
namespace Go.Proofs.YtjlbchkdiaomjaaDoor.trie
open Go.RowKit mem tri mix

theorem concat3 (g c : Nat) (x1 x2 x3 : Value) (n1 n2 n3 : Nat) (y1 y2 y3 : List Value) (w : World) (hn : n1 + n2 + n3 ≤ 32) (hg : g < w.heap.size)
    (c1 : w.cell? ⟨g, 0, none⟩ = some x1) (c2 : w.cell? ⟨g, 1, none⟩ = some x2) (c3 : w.cell? ⟨g, 2, none⟩ = some x3)
    (s1 : Sees w.heap.size 3 w x1 n1 y1) (s2 : Sees w.heap.size 3 w x2 n2 y2) (s3 : Sees w.heap.size 3 w x3 n3 y3)
    (o1 : ∀ u ∈ y1, u.oneCell' = true) (o2 : ∀ u ∈ y2, u.oneCell' = true) (o3 : ∀ u ∈ y3, u.oneCell' = true) :
    Calls Tryd.prog 54 #[.slice (some ⟨g, 0, none⟩) 3 c] w fun e w' => ∃ r, e = .returned r ∧ Got w.heap.size 84 3 (n1 + n2 + n3) (y1 ++ (y2 ++ y3)) r w w' := by
  have h := concat_any g c [(x1, n1, y1), (x2, n2, y2), (x3, n3, y3)] w hg (by simp) (by simp [partsN]; omega) (fun k hk => by
    match k, hk with
    | 0, _ => exact ⟨c1, s1, o1⟩
    | 1, _ => exact ⟨c2, s2, o2⟩
    | 2, _ => exact ⟨c3, s3, o3⟩)
  have e1 : partsN [(x1, n1, y1), (x2, n2, y2), (x3, n3, y3)] = n1 + n2 + n3 := by simp [partsN]; omega
  have e2 : partsV [(x1, n1, y1), (x2, n2, y2), (x3, n3, y3)] = y1 ++ (y2 ++ y3) := by simp [partsV]
  rw [e1, e2] at h
  exact h
theorem concat2 (g c : Nat) (x1 x2 : Value) (n1 n2 : Nat) (y1 y2 : List Value) (w : World) (hn : n1 + n2 ≤ 32) (hg : g < w.heap.size)
    (c1 : w.cell? ⟨g, 0, none⟩ = some x1) (c2 : w.cell? ⟨g, 1, none⟩ = some x2)
    (s1 : Sees w.heap.size 3 w x1 n1 y1) (s2 : Sees w.heap.size 3 w x2 n2 y2)
    (o1 : ∀ u ∈ y1, u.oneCell' = true) (o2 : ∀ u ∈ y2, u.oneCell' = true) :
    Calls Tryd.prog 54 #[.slice (some ⟨g, 0, none⟩) 2 c] w fun e w' => ∃ r, e = .returned r ∧ Got w.heap.size 84 3 (n1 + n2) (y1 ++ y2) r w w' := by
  have h := concat_any g c [(x1, n1, y1), (x2, n2, y2)] w hg (by simp) (by simp [partsN]; omega) (fun k hk => by
    match k, hk with
    | 0, _ => exact ⟨c1, s1, o1⟩
    | 1, _ => exact ⟨c2, s2, o2⟩)
  have e1 : partsN [(x1, n1, y1), (x2, n2, y2)] = n1 + n2 := by simp [partsN]
  have e2 : partsV [(x1, n1, y1), (x2, n2, y2)] = y1 ++ y2 := by simp [partsV]
  rw [e1, e2] at h
  exact h
/-- parts of a row -/
theorem sees_low {B g o n cap p c : Nat} {w : World} {xs : List Value} (h : Sees B 3 w (.slice (some ⟨g, o, none⟩) n cap) n xs) (hp : p ≤ n) (P Q : List Value) (hx : xs = P ++ Q) (hP : P.length = p * 3) :
    Sees B 3 w (.slice (some ⟨g, o, none⟩) p c) p P := by
  obtain ⟨hl, A, cap', hv, hc⟩ := h
  injection hv with h1 h2 h3
  subst h1; subst h3
  refine ⟨hP, _, c, rfl, fun h0 => ?_⟩
  obtain ⟨b, off, hb, hlt, hc⟩ := hc (by omega)
  refine ⟨b, off, hb, hlt, fun j u hu => hc j u ?_⟩
  have := (List.getElem?_eq_some_iff.1 hu).1
  rw [hx, List.getElem?_append_left this]; exact hu
theorem sees_high {B g o n cap p c : Nat} {w : World} {xs : List Value} (h : Sees B 3 w (.slice (some ⟨g, o, none⟩) n cap) n xs) (hp : p ≤ n) (P Q : List Value) (hx : xs = P ++ Q) (hP : P.length = p * 3) :
    Sees B 3 w (.slice (some ⟨g, o + p * 3, none⟩) (n - p) c) (n - p) Q := by
  obtain ⟨hl, A, cap', hv, hc⟩ := h
  injection hv with h1 h2 h3
  subst h1; subst h3
  have hq : Q.length = (n - p) * 3 := by rw [hx, List.length_append] at hl; omega
  refine ⟨hq, _, c, rfl, fun h0 => ?_⟩
  obtain ⟨b, off, hb, hlt, hc⟩ := hc (by omega)
  injection hb with hb
  injection hb with hb1 hb2
  subst hb1; subst hb2
  refine ⟨g, o + p * 3, rfl, hlt, fun j u hu => ?_⟩
  rw [Nat.add_assoc]
  refine hc (p * 3 + j) u ?_
  rw [hx, List.getElem?_append_right (by omega), hP, Nat.add_sub_cancel_left]; exact hu
theorem sees_empty (B : Nat) (w : World) (A : Option Addr) (c : Nat) : Sees B 3 w (.slice A 0 c) 0 [] := ⟨rfl, A, c, rfl, fun h => absurd h (by omega)⟩

/-- the room that a put finds: the row cut at the place of the arm that is not there -/
theorem cut_off {a : Nat → Tr} {f : Nat} (hf : f < 16) (ha : isN (a f) = true) : armsV (subs a) = armsV (pre a f) ++ armsV (post a f) ∧ (armsV (pre a f)).length = (pre a f).length * 3 ∧ (subs a).length = (pre a f).length + (post a f).length := by
  have hs := subs_split a f hf
  rw [one_isN ha, List.nil_append] at hs
  exact ⟨by rw [hs, armsV_append], pre_arms a f, by rw [hs, List.length_append]⟩
theorem arms_new (a : Nat → Tr) (f : Nat) (r : Tr) (hf : f < 16) (hr : isN r = false) : armsV (subs (tri.upd a f r)) = armsV (pre a f) ++ (armV r ++ armsV (post a f)) ∧ (subs (tri.upd a f r)).length = (pre a f).length + 1 + (post a f).length := by
  rw [subs_upd a f r hf, armsV_append, armsV_append, armsV_one, one_not hr]
  exact ⟨rfl, by simp; omega⟩

theorem put_cat (w : World) (x1 x3 : Value) (n1 n3 : Nat) (y1 y3 : List Value) (k v : Int) (s1 : Sees w.heap.size 3 w x1 n1 y1) (s3 : Sees w.heap.size 3 w x3 n3 y3)
    (o1 : ∀ u ∈ y1, u.oneCell' = true) (o3 : ∀ u ∈ y3, u.oneCell' = true) (hn : n1 + 1 + n3 ≤ 32) :
    Calls Tryd.prog 54 #[.slice (some ⟨w.heap.size + 1, 0, none⟩) 3 3]
      ((w.alloc (.cells #[.pointer none, .int .i64 k, .int .i64 v] 84)).alloc (.cells #[x1, .slice (some ⟨w.heap.size, 0, none⟩) 1 1, x3] 86)).drew
      fun e w' => ∃ r, e = .returned r ∧ Got w.heap.size 84 3 (n1 + 1 + n3) (y1 ++ ([.pointer none, .int .i64 k, .int .i64 v] ++ y3)) r w w' := by
  have hb := (((Below.refl w.heap.size w).alloc (Nat.le_refl _) (.cells #[.pointer none, .int .i64 k, .int .i64 v] 84)).alloc (by simp) (.cells #[x1, .slice (some ⟨w.heap.size, 0, none⟩) 1 1, x3] 86)).drew
  have s2 : Sees (w.heap.size + 1) 3 ((w.alloc (.cells #[.pointer none, .int .i64 k, .int .i64 v] 84)).alloc (.cells #[x1, .slice (some ⟨w.heap.size, 0, none⟩) 1 1, x3] 86)).drew (.slice (some ⟨w.heap.size, 0, none⟩) 1 1) 1 [.pointer none, .int .i64 k, .int .i64 v] := by
    refine ⟨rfl, _, 1, rfl, fun _ => ⟨w.heap.size, 0, rfl, Nat.lt_succ_self _, fun j u hu => ?_⟩⟩
    match j, hu with
    | 0, hu => cases hu; simp
    | 1, hu => cases hu; simp
    | 2, hu => cases hu; simp
    | j + 3, hu => simp at hu
  refine (concat3 (w.heap.size + 1) 3 x1 (.slice (some ⟨w.heap.size, 0, none⟩) 1 1) x3 n1 1 n3 y1 [.pointer none, .int .i64 k, .int .i64 v] y3 _ hn (by simp) (by simp) (by simp) (by simp)
    ((s1.below hb).more (by simp; omega)) (s2.more (by simp)) ((s3.below hb).more (by simp; omega)) o1 (by intro u hu; simp at hu; rcases hu with rfl | rfl | rfl <;> rfl) o3).mono ?_
  rintro e w' ⟨r, rfl, hg⟩
  exact ⟨r, rfl, hg.1.mono (by simp; omega), hb.trans (hg.2.mono (by simp; omega))⟩
def PutEnd (k v : Int) (lv : Nat) (t : Tr) (w : World) (e : Ending) (w' : World) : Prop :=
  ∃ c a, e = .returned (.pointer (some ⟨c, 0, none⟩)) ∧ PutT k v lv t (.kid c a) ∧ Lies w'.heap.size w' (.kid c a) ∧ Below w.heap.size w w'
theorem put_fin {b f lv m g cap : Nat} {a : Nat → Tr} {k v : Int} {w w2 w3 : World} (hf : f < 16) (hfe : f = nib k lv) (ha : isN (a f) = true) (hL : Lies w.heap.size w (.kid b a)) (hb2 : Below w.heap.size w w2)
    (hgot : Got w2.heap.size 84 3 m (armsV (pre a f) ++ ([.pointer none, .int .i64 k, .int .i64 v] ++ armsV (post a f))) (.slice (some ⟨g, 0, none⟩) m cap) w2 w3) (hm : m = (pre a f).length + 1 + (post a f).length) (z : Int) (hz : z = ((hasS a ||| 2 ^ f : Nat) : Int)) :
    PutEnd k v lv (.kid b a) w (.returned (.pointer (some ⟨w3.heap.size, 0, none⟩))) ((w3.alloc (.cells #[.int .u16 z, .slice (some ⟨g, 0, none⟩) m cap] 88)).drew) := by
  obtain ⟨e1, e2⟩ := arms_new a f (.pair k v) hf rfl
  have hb3 : Below w.heap.size w w3 := hb2.trans (hgot.2.mono hb2.size)
  have hsz := hb3.size
  rw [show ([.pointer none, .int .i64 k, .int .i64 v] : List Value) = armV (.pair k v) from rfl, ← e1] at hgot
  subst hz
  have hn := node_new (a := tri.upd a f (.pair k v)) (v := .slice (some ⟨g, 0, none⟩) m cap) (w := w3) (hasS a ||| 2 ^ f) (has_or a f _ hf rfl) (by rw [e2, ← hm]; exact Sees.of_own hgot.1) (Roomy.of_own hgot.1) (RowIs.of_own hgot.1) (Lies.upd (fun g hg => ((hL.at g hg).below hb3).more hsz) trivial)
  have hsn : ((w3.alloc (.cells #[.int .u16 ((hasS a ||| 2 ^ f : Nat) : Int), .slice (some ⟨g, 0, none⟩) m cap] 88)).drew).heap.size = w3.heap.size + 1 := by simp
  refine ⟨w3.heap.size, _, rfl, ?_, by rw [hsn]; exact hn.below (Below.refl _ _).drew, (hb3.alloc hsz _).drew⟩
  have h := PutT.kid (k := k) (v := v) lv b a w3.heap.size (.pair k v) (by rw [← hfe, isN_none ha]; exact PutT.new _)
  rw [← hfe] at h
  exact h
set_option maxHeartbeats 2000000 in
set_option maxRecDepth 100000 in
theorem put_new (B lv b : Nat) (a : Nat → Tr) (k v : Int) (w : World) (hlv : lv ≤ 15) (hB : B ≤ w.heap.size) (hT : Laid B w) (hL : Lies w.heap.size w (.kid b a)) (ha : isN (a (nib k lv)) = true) :
    Calls Tryd.prog 51 #[.pointer (some ⟨b, 0, none⟩), .agg #[.int .i64 k, .int .i64 v], .int .i64 lv] w (PutEnd k v lv (.kid b a) w) := by
  have HT := Lib.hid hT
  have HL := Lib.hid hL
  obtain ⟨f, hfe⟩ : ∃ f, f = nib k lv := ⟨_, rfl⟩
  have hf := nib_lt k lv
  rw [← hfe] at hf ha
  have HN := Lib.hid hfe
  have HI := Lib.hid ha
  obtain ⟨p, hp⟩ : ∃ p, p = (pre a f).length := ⟨_, rfl⟩
  have HP := Lib.hid hp
  clear hT hL hfe ha hp
  go_enter Tryd.func51, Tryd.ntmps51
  go_wp2_with (fail)
  have hb0 := (Below.refl w.heap.size w).alloc (Nat.le_refl _) (.cells #[.int .i64 k, .int .i64 v] 50)
  refine (knib_on B k lv w _ hlv hb0 hB HT.out).mono ?_
  rintro e w1 ⟨rfl, hb1⟩
  have d0 := (hb1.cell (p := ⟨w.heap.size, 0, none⟩) (by simp)).trans (show _ = some (.int .i64 k) by simp)
  have d1 := (hb1.cell (p := ⟨w.heap.size, 1, none⟩) (by simp)).trans (show _ = some (.int .i64 v) by simp)
  have hbw1 : Below w.heap.size w w1 := hb0.trans (hb1.mono (by simp))
  have hz1 := hb1.size
  rw [World.size_alloc] at hz1
  rw [← HN.out]
  go_wp2_with (fail)
  refine (find_no a b f p _ (by omega) HI.out HP.out ((HL.out.below hbw1).has)).mono ?_
  rintro e w2 ⟨rfl, d, hw2⟩
  have hbw2 : Below w.heap.size w w2 := by rw [hw2]; exact below_drewN hbw1 d
  have c0 : w2.cell? ⟨w.heap.size, 0, none⟩ = some (.int .i64 k) := by rw [hw2]; exact d0
  have c1 : w2.cell? ⟨w.heap.size, 1, none⟩ = some (.int .i64 v) := by rw [hw2]; exact d1
  have hz2 : w.heap.size < w2.heap.size := by rw [hw2]; simp; omega
  clear hw2 d0 d1 hb1 hz1 hbw1
  obtain ⟨_, ch, ⟨v1, cv, hs, hro, _⟩, _⟩ := HL.out.below hbw2
  obtain ⟨e1, e2, e3⟩ := cut_off hf HI.out
  obtain ⟨A, cap, rfl⟩ := hs.form
  obtain ⟨r1, r2, r3⟩ := hro _ _ _ rfl
  obtain ⟨q, hq⟩ : ∃ q, q = (post a f).length := ⟨_, rfl⟩
  obtain ⟨n, hn⟩ : ∃ n, n = (subs a).length := ⟨_, rfl⟩
  obtain ⟨x, hx⟩ : ∃ x, x = hasS a := ⟨_, rfl⟩
  have h16 := subs_len a
  rw [← hn] at cv r1 e3 hs h16
  rw [← HP.out] at e2 e3
  rw [← hq] at e3
  rw [← hx] at ch
  have HE1 := Lib.hid e1
  have HE2 := Lib.hid e2
  have HQ := Lib.hid hq
  have HX := Lib.hid hx
  have HS := Lib.hid hs
  have hpn : p ≤ n := by omega
  have HE3 := Lib.hid e3
  clear e1 e2 hq hn hx hs e3
  cases A with
  | none =>
    have hc0 := r2 rfl
    obtain rfl : cap = 0 := hc0
    obtain rfl : n = 0 := by omega
    obtain rfl : p = 0 := by omega
    have hpre : armsV (pre a f) = [] := List.eq_nil_of_length_eq_zero (by have := HE2.out; omega)
    have hpost : armsV (post a f) = [] := by
      have h1 := HS.out.1
      rw [HE1.out, List.length_append] at h1
      exact List.eq_nil_of_length_eq_zero (by omega)
    have s1 : Sees w2.heap.size 3 w2 (.slice none 0 0) 0 (armsV (pre a f)) := by rw [hpre]; exact sees_empty _ _ _ _
    have s3 : Sees w2.heap.size 3 w2 (.slice none 0 0) 0 (armsV (post a f)) := by rw [hpost]; exact sees_empty _ _ _ _
    have HC := Lib.hid (put_cat w2 _ _ _ _ _ _ k v s1 s3 armsV_cells armsV_cells (by omega))
    clear s1 s3 hpre hpost r2 r3 hro
    have hbl : b < w2.heap.size := by have := HL.out.1; omega
    go_wp2_with (fail)
    go_region_held3 (fun w' => w'.cell? ⟨b, 1, none⟩ = some (.slice none 0 0) ∧ w'.cell? ⟨w.heap.size, 0, none⟩ = some (.int .i64 k) ∧ w'.cell? ⟨w.heap.size, 1, none⟩ = some (.int .i64 v)) (first | go_keep) (first | (go_at_call 54; refine HC.out.mono ?_; rintro e w3 ⟨r, rfl, hgot⟩; obtain ⟨g3, cap3, rfl, _, _⟩ := got_form hgot (by omega); have q0 := hgot.2.cell (p := ⟨b, 1, none⟩) hbl; have q1 := hgot.2.cell (p := ⟨w.heap.size, 0, none⟩) hz2; have q2 := hgot.2.cell (p := ⟨w.heap.size, 1, none⟩) hz2))
    all_goals
      have ch3 := (hgot.2.cell (p := ⟨b, 0, none⟩) hbl).trans ch
      have HG := Lib.hid hgot
      clear q0 q1 q2 cv c0 c1 ch hgot
      go_wp2_with (fail)
      go_still_tail 9, (by kernel_rfl)
      change wpList _ _ _ _ _ w3.drew
      go_wp2
      go_ret
      exact put_fin hf HN.out HI.out HL.out hbw2 HG.out (by have h1 := HP.out; have h2 := HQ.out; have h3 := HE3.out; omega) _ (by rw [(bit_wrap f (by omega)).1, HX.out]; exact u16_or_nat _ _ (by have := hasS_lt a; omega) (by have := (bit_wrap f (by omega)).2.1; omega))
  | some A =>
    obtain ⟨g, o, hA⟩ := r3 A rfl
    subst hA
    by_cases hcp : cap = p
    · obtain rfl : n = p := by omega
      obtain rfl : cap = n := hcp
      have hpost : armsV (post a f) = [] := by
        have h1 := HS.out.1
        rw [HE1.out, List.length_append, HE2.out] at h1
        exact List.eq_nil_of_length_eq_zero (by omega)
      have s1 := sees_low (c := cap) HS.out (Nat.le_refl _) _ _ HE1.out HE2.out
      have s3 : Sees w2.heap.size 3 w2 (.slice (some ⟨g, o, none⟩) 0 0) 0 (armsV (post a f)) := by rw [hpost]; exact sees_empty _ _ _ _
      have HC := Lib.hid (put_cat w2 _ _ _ _ _ _ k v (s1.more (by omega)) s3 armsV_cells armsV_cells (by omega))
      clear s1 s3 hpost r2 r3 hro
      have i0 : (0 : Int) ≤ (cap : Int) := by omega
      have hbl : b < w2.heap.size := by have := HL.out.1; omega
      go_wp2_with (fail)
      go_region_held3 (fun w' => w'.cell? ⟨b, 1, none⟩ = some (.slice (some ⟨g, o, none⟩) cap cap) ∧ w'.cell? ⟨w.heap.size, 0, none⟩ = some (.int .i64 k) ∧ w'.cell? ⟨w.heap.size, 1, none⟩ = some (.int .i64 v)) (first | go_keep) (first | (go_at_call 54; refine HC.out.mono ?_; rintro e w3 ⟨r, rfl, hgot⟩; obtain ⟨g3, cap3, rfl, _, _⟩ := got_form hgot (by omega); have q0 := hgot.2.cell (p := ⟨b, 1, none⟩) hbl; have q1 := hgot.2.cell (p := ⟨w.heap.size, 0, none⟩) hz2; have q2 := hgot.2.cell (p := ⟨w.heap.size, 1, none⟩) hz2))
      all_goals
        have ch3 := (hgot.2.cell (p := ⟨b, 0, none⟩) hbl).trans ch
        have HG := Lib.hid hgot
        clear q0 q1 q2 cv c0 c1 ch hgot
        go_wp2_with (fail)
        go_still_tail 9, (by kernel_rfl)
        change wpList _ _ _ _ _ w3.drew
        go_wp2
        go_ret
        exact put_fin hf HN.out HI.out HL.out hbw2 HG.out (by have h1 := HP.out; have h2 := HQ.out; have h3 := HE3.out; omega) _ (by rw [(bit_wrap f (by omega)).1, HX.out]; exact u16_or_nat _ _ (by have := hasS_lt a; omega) (by have := (bit_wrap f (by omega)).2.1; omega))
    · clear r2 r3
      have s1 := sees_low (c := cap) HS.out hpn _ _ HE1.out HE2.out
      have s3 := sees_high (c := cap - p) HS.out hpn _ _ HE1.out HE2.out
      have HC := Lib.hid (put_cat w2 _ _ _ _ _ _ k v (s1.more (by omega)) (s3.more (by omega)) armsV_cells armsV_cells (by omega))
      clear s1 s3
      have i0 : (0 : Int) ≤ (p : Int) := by omega
      have i1 : (p : Int) ≤ (cap : Int) := by omega
      have i2 : (p : Int) ≤ (n : Int) := by omega
      have hbl : b < w2.heap.size := by have := HL.out.1; omega
      go_wp2_with (fail)
      go_region_held3 (fun w' => w'.cell? ⟨b, 1, none⟩ = some (.slice (some ⟨g, o, none⟩) n cap) ∧ w'.cell? ⟨w.heap.size, 0, none⟩ = some (.int .i64 k) ∧ w'.cell? ⟨w.heap.size, 1, none⟩ = some (.int .i64 v)) (first | go_keep) (first | (go_at_call 54; refine HC.out.mono ?_; rintro e w3 ⟨r, rfl, hgot⟩; obtain ⟨g3, cap3, rfl, _, _⟩ := got_form hgot (by omega); have q0 := hgot.2.cell (p := ⟨b, 1, none⟩) hbl; have q1 := hgot.2.cell (p := ⟨w.heap.size, 0, none⟩) hz2; have q2 := hgot.2.cell (p := ⟨w.heap.size, 1, none⟩) hz2))
      all_goals
        have ch3 := (hgot.2.cell (p := ⟨b, 0, none⟩) hbl).trans ch
        have HG := Lib.hid hgot
        clear q0 q1 q2 cv c0 c1 ch hgot
        go_wp2_with (fail)
        go_still_tail 9, (by kernel_rfl)
        change wpList _ _ _ _ _ w3.drew
        go_wp2
        go_ret
        exact put_fin hf HN.out HI.out HL.out hbw2 HG.out (by have h1 := HP.out; have h2 := HQ.out; have h3 := HE3.out; omega) _ (by rw [(bit_wrap f (by omega)).1, HX.out]; exact u16_or_nat _ _ (by have := hasS_lt a; omega) (by have := (bit_wrap f (by omega)).2.1; omega))
end Go.Proofs.YtjlbchkdiaomjaaDoor.trie

/- The law on what is read from any token of any source. -/
import Derived.Test.YtgohkmdepjmpaaaDoorCParWorks
import Derived.Test.YtgohkmdepjmpaaaDoorCParPlaced
import Derived.Test.YtgohkmdepjmpaaaDoorCNodeExpr
namespace Go.Proofs.YtgohkmdepjmpaaaDoor.pm
open Go.RowKit wd lx nt ne mem
open vt (I64 own_form)

theorem ereads_long (s : ByteArray) (i : Int) (w : World) (hs : 400 < s.size) (hm : s.size ≤ 9223372036854775807) (hL : LD w) : Calls Tryd.prog 3 #[.string s, .int .i64 i] w fun e w' => e = .returned (.bool true) ∧ Below w.heap.size w w' := by
  have h4 : (400 : Int) < (s.size : Int) := by omega
  have HWK := Lib.hid (fun w hL => works13_any w hL)
  have HL := Lib.hid hL
  clear hL
  go_enter Tryd.func3, Tryd.ntmps3
  go_wp2_with (fail)
  refine (HWK.out w HL.out).mono ?_
  rintro e w1 ⟨rfl, hb1⟩
  have HB1 := Lib.hid hb1
  clear hb1
  go_wp2_with (fail)
  refine (HWK.out w1 (HL.out.on HB1.out)).mono ?_
  rintro e w2 ⟨rfl, hb2⟩
  have HB2 := Lib.hid (HB1.out.trans (hb2.mono HB1.out.size))
  clear hb2
  go_wp2_with (fail)
  go_ret
  exact ⟨rfl, HB2.out⟩
set_option maxRecDepth 100000 in
set_option maxHeartbeats 4000000 in
theorem ereads_short (s : ByteArray) (i : Int) (w : World) (hs : s.size ≤ 400) (hi : I64 i) (hL : LD w) : Calls Tryd.prog 3 #[.string s, .int .i64 i] w fun e w' => e = .returned (.bool true) ∧ Below w.heap.size w w' := by
  have h4 : decide ((400 : Int) < (s.size : Int)) = false := by rw [decide_eq_false_iff_not]; omega
  have hm : s.size ≤ 9223372036854775807 := by omega
  have HWK := Lib.hid (works13_any w hL)
  have HL := Lib.hid hL
  have HI := Lib.hid hi
  have HA := Lib.hid (fun w => rlall_any s w (by omega))
  have hsz : s.data.toList.length ≤ 16384 := by have e : s.data.toList.length = s.size := Array.length_toList; omega
  have hsz4 : s.data.toList.length ≤ 400 := by have e : s.data.toList.length = s.size := Array.length_toList; omega
  have HCUT := Lib.hid (fun q ts => cut_of (q := q) (ts := ts) hsz)
  have HSZ := Lib.hid (And.intro hsz hsz4)
  obtain ⟨LL, hLL⟩ : ∃ LL, LL = s.data.toList := ⟨_, rfl⟩
  rw [← hLL] at HA HCUT HSZ
  obtain ⟨⟨er, qq, ts⟩, htot⟩ : ∃ tot, tot = lexW LL 0 := ⟨_, rfl⟩
  rw [← htot] at HA HCUT
  clear htot hLL hsz hsz4 hi hL
  go_enter Tryd.func3, Tryd.ntmps3
  go_wp2_with (fail)
  refine HWK.out.mono ?_
  rintro e w1 ⟨rfl, hb1⟩
  have HB1 := Lib.hid hb1
  clear hb1 HWK
  go_wp2_with (fail)
  refine (HA.out w1).mono ?_
  rintro e w2 ⟨v, rfl, hg⟩
  have hg : Got w1.heap.size TokT 4 ts.length (toksV ts) v w1 w2 := hg
  obtain ⟨A, c, rfl⟩ := own_form hg.1
  have HG := Lib.hid hg
  have HB2 := Lib.hid (HB1.out.trans (hg.2.mono HB1.out.size))
  obtain ⟨N, hN⟩ : ∃ N, N = ts.length := ⟨_, rfl⟩
  rw [← hN] at HG ⊢
  have HN := Lib.hid hN
  clear hg hN HA
  by_cases her : er = 0
  · subst her
    have hcut := HCUT.out qq ts rfl
    have hsrc : Src (ts.map toTk) (.slice A N c) w2 := src_got hcut HSZ.out.1 (by rw [← HN.out]; exact HG.out)
    have HCC := Lib.hid hcut
    have HSRC : Hid (∀ w', Below w2.heap.size w2 w' → Src (ts.map toTk) (.slice A N c) w') := Lib.hid (fun w' hb => hsrc.on hb)
    have HBASE : Hid (∀ w', Below w2.heap.size w2 w' → Below w.heap.size w w') := Lib.hid (fun w' hb => HB2.out.trans (hb.mono HB2.out.size))
    have HLD : Hid (∀ w', Below w2.heap.size w2 w' → LD w') := Lib.hid (fun w' hb => HL.out.on (HBASE.out w' hb))
    clear hcut hsrc HCUT HG
    obtain ⟨f, r, hr, hx⟩ := eexpr_any i (HSRC.out w2 (Below.refl _ _)) HCC.out.fine HI.out (HLD.out w2 (Below.refl _ _))
    have hen := run_ends _ _ _ _ _ hr
    have HREF : Hid (∀ w', Below w2.heap.size w2 w' → Calls Tryd.prog 9 #[.slice A N c, .int .i64 i] w' (Told r w')) := Lib.hid (fun w' hb => by
      obtain ⟨f', r', hr', hx'⟩ := expr_all13 i (HSRC.out w' hb) HI.out
      rw [run_one _ hr hr']
      exact hx')
    have HX := Lib.hid hx
    clear hx
    cases r with
    | list _ _ => simp [Ends, Mode.lists] at hen
    | no j =>
      clear hen
      go_wp2_with (fail)
      refine HX.out.mono ?_
      rintro e w3 ⟨rfl, hb3⟩
      have HBw3 := Lib.hid hb3
      clear hb3 HX
      obtain ⟨V1, hV⟩ : ∃ V, V = w3.alloc (.cells #[.int .i64 0, .int .i64 0, .int .i64 0, .string ⟨#[]⟩, .slice none 0 0] NodeT) := ⟨_, rfl⟩
      obtain ⟨O1, hO⟩ : ∃ O, O = w3.heap.size := ⟨_, rfl⟩
      have hOw : w2.heap.size ≤ O1 := by rw [hO]; exact HBw3.out.size
      have hbV : Below w2.heap.size w2 V1 := by rw [hV]; exact HBw3.out.alloc HBw3.out.size _
      have bO : Box V1 O1 NodeT #[.int .i64 0, .int .i64 0, .int .i64 0, .string ⟨#[]⟩, .slice none 0 0] := by rw [hV]; exact Box.new _ _ _ _ hO
      have HBU1 : Hid (Below w2.heap.size w2 (((((V1.setCell ⟨O1, 0, none⟩ (.int .i64 0)).setCell ⟨O1, 1, none⟩ (.int .i64 0)).setCell ⟨O1, 2, none⟩ (.int .i64 0)).setCell ⟨O1, 3, none⟩ (.string ⟨#[]⟩)).setCell ⟨O1, 4, none⟩ (.slice none 0 0))) := Lib.hid (below_five hbV hOw _ _ _ _ _)
      have HBW1 : Hid (Below w3.heap.size w3 (((((V1.setCell ⟨O1, 0, none⟩ (.int .i64 0)).setCell ⟨O1, 1, none⟩ (.int .i64 0)).setCell ⟨O1, 2, none⟩ (.int .i64 0)).setCell ⟨O1, 3, none⟩ (.string ⟨#[]⟩)).setCell ⟨O1, 4, none⟩ (.slice none 0 0))) := Lib.hid (below_five (by rw [hV]; exact (Below.refl _ _).alloc (Nat.le_refl _) _) (by rw [hO]; exact Nat.le_refl _) _ _ _ _ _)
      have HBO1 : Hid (Box (((((V1.setCell ⟨O1, 0, none⟩ (.int .i64 0)).setCell ⟨O1, 1, none⟩ (.int .i64 0)).setCell ⟨O1, 2, none⟩ (.int .i64 0)).setCell ⟨O1, 3, none⟩ (.string ⟨#[]⟩)).setCell ⟨O1, 4, none⟩ (.slice none 0 0)) O1 NodeT #[.int .i64 0, .int .i64 0, .int .i64 0, .string ⟨#[]⟩, .slice none 0 0]) := Lib.hid (box_five bO _ _ _ _ _)
      have a0 := bO.cell 0
      have a1 := bO.cell 1
      have a2 := bO.cell 2
      have a3 := bO.cell 3
      have a4 := bO.cell 4
      have b0 := bO.frozen 0
      have b1 := bO.frozen 1
      have b2 := bO.frozen 2
      have b3 := bO.frozen 3
      have b4 := bO.frozen 4
      simp only [List.getElem?_toArray, List.getElem?_cons_zero, List.getElem?_cons_succ] at a0 a1 a2 a3 a4
      have HV1 := Lib.hid hV
      have HO1 := Lib.hid hO
      obtain ⟨U1, hU⟩ : ∃ U, U = ((((V1.setCell ⟨O1, 0, none⟩ (.int .i64 0)).setCell ⟨O1, 1, none⟩ (.int .i64 0)).setCell ⟨O1, 2, none⟩ (.int .i64 0)).setCell ⟨O1, 3, none⟩ (.string ⟨#[]⟩)).setCell ⟨O1, 4, none⟩ (.slice none 0 0) := ⟨_, rfl⟩
      rw [← hU] at HBU1 HBW1 HBO1
      have HU1 := Lib.hid hU
      clear hU hV hO hOw hbV bO
      have hbU1 := HBU1.out
      have HR := Lib.hid (HREF.out U1 hbU1)
      clear hbU1
      go_wp2_with (first | (rw [← HV1.out, ← HO1.out]) | (rw [← HU1.out]))
      refine HR.out.mono ?_
      rintro e w4 ⟨rfl, hb4⟩
      have HBw4 := Lib.hid (HBU1.out.trans (hb4.mono HBU1.out.size))
      have hO1 := HBO1.out.on hb4
      have hO1lt := hO1.lt
      clear a0 a1 a2 a3 a4 b0 b1 b2 b3 b4 hb4 HR HREF
      obtain ⟨V2, hV⟩ : ∃ V, V = w4.alloc (.cells #[.int .i64 0, .int .i64 0, .int .i64 0, .string ⟨#[]⟩, .slice none 0 0] NodeT) := ⟨_, rfl⟩
      obtain ⟨O2, hO⟩ : ∃ O, O = w4.heap.size := ⟨_, rfl⟩
      have hOw : w2.heap.size ≤ O2 := by rw [hO]; exact HBw4.out.size
      have hbV : Below w2.heap.size w2 V2 := by rw [hV]; exact HBw4.out.alloc HBw4.out.size _
      have bO : Box V2 O2 NodeT #[.int .i64 0, .int .i64 0, .int .i64 0, .string ⟨#[]⟩, .slice none 0 0] := by rw [hV]; exact Box.new _ _ _ _ hO
      have HBU2 : Hid (Below w2.heap.size w2 (((((V2.setCell ⟨O2, 0, none⟩ (.int .i64 0)).setCell ⟨O2, 1, none⟩ (.int .i64 0)).setCell ⟨O2, 2, none⟩ (.int .i64 0)).setCell ⟨O2, 3, none⟩ (.string ⟨#[]⟩)).setCell ⟨O2, 4, none⟩ (.slice none 0 0))) := Lib.hid (below_five hbV hOw _ _ _ _ _)
      have HBW2 : Hid (Below w4.heap.size w4 (((((V2.setCell ⟨O2, 0, none⟩ (.int .i64 0)).setCell ⟨O2, 1, none⟩ (.int .i64 0)).setCell ⟨O2, 2, none⟩ (.int .i64 0)).setCell ⟨O2, 3, none⟩ (.string ⟨#[]⟩)).setCell ⟨O2, 4, none⟩ (.slice none 0 0))) := Lib.hid (below_five (by rw [hV]; exact (Below.refl _ _).alloc (Nat.le_refl _) _) (by rw [hO]; exact Nat.le_refl _) _ _ _ _ _)
      have HBO2 : Hid (Box (((((V2.setCell ⟨O2, 0, none⟩ (.int .i64 0)).setCell ⟨O2, 1, none⟩ (.int .i64 0)).setCell ⟨O2, 2, none⟩ (.int .i64 0)).setCell ⟨O2, 3, none⟩ (.string ⟨#[]⟩)).setCell ⟨O2, 4, none⟩ (.slice none 0 0)) O2 NodeT #[.int .i64 0, .int .i64 0, .int .i64 0, .string ⟨#[]⟩, .slice none 0 0]) := Lib.hid (box_five bO _ _ _ _ _)
      have a0 := bO.cell 0
      have a1 := bO.cell 1
      have a2 := bO.cell 2
      have a3 := bO.cell 3
      have a4 := bO.cell 4
      have b0 := bO.frozen 0
      have b1 := bO.frozen 1
      have b2 := bO.frozen 2
      have b3 := bO.frozen 3
      have b4 := bO.frozen 4
      simp only [List.getElem?_toArray, List.getElem?_cons_zero, List.getElem?_cons_succ] at a0 a1 a2 a3 a4
      have HV2 := Lib.hid hV
      have HO2 := Lib.hid hO
      obtain ⟨U2, hU⟩ : ∃ U, U = ((((V2.setCell ⟨O2, 0, none⟩ (.int .i64 0)).setCell ⟨O2, 1, none⟩ (.int .i64 0)).setCell ⟨O2, 2, none⟩ (.int .i64 0)).setCell ⟨O2, 3, none⟩ (.string ⟨#[]⟩)).setCell ⟨O2, 4, none⟩ (.slice none 0 0) := ⟨_, rfl⟩
      rw [← hU] at HBU2 HBW2 HBO2
      have HU2 := Lib.hid hU
      clear hU hV hO hOw hbV bO
      have hO1u := hO1.below HBW2.out hO1lt
      have x0 := hO1u.cell 0
      have x1 := hO1u.cell 1
      have x2 := hO1u.cell 2
      have x3 := hO1u.cell 3
      have x4 := hO1u.cell 4
      simp only [List.getElem?_toArray, List.getElem?_cons_zero, List.getElem?_cons_succ] at x0 x1 x2 x3 x4
      have y0 := HBO2.out.cell 0
      have y1 := HBO2.out.cell 1
      have y2 := HBO2.out.cell 2
      have y3 := HBO2.out.cell 3
      have y4 := HBO2.out.cell 4
      simp only [List.getElem?_toArray, List.getElem?_cons_zero, List.getElem?_cons_succ] at y0 y1 y2 y3 y4
      have HPL := Lib.hid (rplaced_any (G := fun _ => True) (.mk 0 0 0 [] []) ⟨by show I64 0; unfold I64; omega, by show I64 0; unfold I64; omega, by show I64 0; unfold I64; omega, by show 0 ≤ 281474976710656; omega⟩ (.slice none 0 0) (.slice none 0 0) U2 (nt.Kids.nil_ _ _) (nt.Kids.nil_ _ _))
      clear hO1 hO1lt hO1u
      go_wp2_with (first | (rw [← HV2.out, ← HO2.out]) | (rw [← HU2.out]))
      refine HPL.out.mono ?_
      rintro e w5 ⟨rfl, hb5⟩
      have HB5 := Lib.hid (HBU2.out.trans (hb5.mono HBU2.out.size))
      clear hb5 HPL x0 x1 x2 x3 x4 y0 y1 y2 y3 y4 a0 a1 a2 a3 a4 b0 b1 b2 b3 b4
      go_wp2_with (fail)
      go_ret
      exact ⟨rfl, HBASE.out _ HB5.out⟩
    | node n j =>
      have HND : Hid (n.expr = true) := Lib.hid (by
        have := run_ok _ HCC.out.good _ (.lev 1) _ _ (show ModeOk (.lev 1) from Nat.le_refl 1) hr
        exact this)
      have hin := node_in HCC.out.toks (m := .lev 1) rfl hr
      rw [← HN.out] at hin
      clear hen
      go_wp2_with (fail)
      refine HX.out.mono ?_
      rintro e w3 ⟨s3, rfl, hk3, hd3, hb3⟩
      obtain ⟨A3, c3, rfl, _⟩ := hk3.form
      have HBw3 := Lib.hid hb3
      have HD := Lib.hid hd3
      clear HX
      obtain ⟨V1, hV⟩ : ∃ V, V = w3.alloc (.cells #[.int .i64 0, .int .i64 0, .int .i64 0, .string ⟨#[]⟩, .slice none 0 0] NodeT) := ⟨_, rfl⟩
      obtain ⟨O1, hO⟩ : ∃ O, O = w3.heap.size := ⟨_, rfl⟩
      have hOw : w2.heap.size ≤ O1 := by rw [hO]; exact HBw3.out.size
      have hbV : Below w2.heap.size w2 V1 := by rw [hV]; exact HBw3.out.alloc HBw3.out.size _
      have bO : Box V1 O1 NodeT #[.int .i64 0, .int .i64 0, .int .i64 0, .string ⟨#[]⟩, .slice none 0 0] := by rw [hV]; exact Box.new _ _ _ _ hO
      have HBU1 : Hid (Below w2.heap.size w2 (((((V1.setCell ⟨O1, 0, none⟩ (.int .i64 n.kind)).setCell ⟨O1, 1, none⟩ (.int .i64 n.at_)).setCell ⟨O1, 2, none⟩ (.int .i64 n.num)).setCell ⟨O1, 3, none⟩ (.string ⟨n.name.toArray⟩)).setCell ⟨O1, 4, none⟩ (.slice A3 n.kids.length c3))) := Lib.hid (below_five hbV hOw _ _ _ _ _)
      have HBW1 : Hid (Below w3.heap.size w3 (((((V1.setCell ⟨O1, 0, none⟩ (.int .i64 n.kind)).setCell ⟨O1, 1, none⟩ (.int .i64 n.at_)).setCell ⟨O1, 2, none⟩ (.int .i64 n.num)).setCell ⟨O1, 3, none⟩ (.string ⟨n.name.toArray⟩)).setCell ⟨O1, 4, none⟩ (.slice A3 n.kids.length c3))) := Lib.hid (below_five (by rw [hV]; exact (Below.refl _ _).alloc (Nat.le_refl _) _) (by rw [hO]; exact Nat.le_refl _) _ _ _ _ _)
      have HBO1 : Hid (Box (((((V1.setCell ⟨O1, 0, none⟩ (.int .i64 n.kind)).setCell ⟨O1, 1, none⟩ (.int .i64 n.at_)).setCell ⟨O1, 2, none⟩ (.int .i64 n.num)).setCell ⟨O1, 3, none⟩ (.string ⟨n.name.toArray⟩)).setCell ⟨O1, 4, none⟩ (.slice A3 n.kids.length c3)) O1 NodeT #[.int .i64 n.kind, .int .i64 n.at_, .int .i64 n.num, .string ⟨n.name.toArray⟩, .slice A3 n.kids.length c3]) := Lib.hid (box_five bO _ _ _ _ _)
      have a0 := bO.cell 0
      have a1 := bO.cell 1
      have a2 := bO.cell 2
      have a3 := bO.cell 3
      have a4 := bO.cell 4
      have b0 := bO.frozen 0
      have b1 := bO.frozen 1
      have b2 := bO.frozen 2
      have b3 := bO.frozen 3
      have b4 := bO.frozen 4
      simp only [List.getElem?_toArray, List.getElem?_cons_zero, List.getElem?_cons_succ] at a0 a1 a2 a3 a4
      have HV1 := Lib.hid hV
      have HO1 := Lib.hid hO
      obtain ⟨U1, hU⟩ : ∃ U, U = ((((V1.setCell ⟨O1, 0, none⟩ (.int .i64 n.kind)).setCell ⟨O1, 1, none⟩ (.int .i64 n.at_)).setCell ⟨O1, 2, none⟩ (.int .i64 n.num)).setCell ⟨O1, 3, none⟩ (.string ⟨n.name.toArray⟩)).setCell ⟨O1, 4, none⟩ (.slice A3 n.kids.length c3) := ⟨_, rfl⟩
      rw [← hU] at HBU1 HBW1 HBO1
      have HU1 := Lib.hid hU
      clear hU hV hO hOw hbV bO
      have hkU : nt.Kids (fun b => b < w3.heap.size) U1 n.kids (.slice A3 n.kids.length c3) := (hk3.lt.mono fun b hb => hb.2 : nt.Kids (fun b => b < w3.heap.size) w3 n.kids (.slice A3 n.kids.length c3)).below HBW1.out
      have HK1 := Lib.hid (hkU.mono (G' := fun _ => True) fun _ _ => trivial)
      clear hb3 hk3 hd3 hkU
      have HR := Lib.hid (HREF.out U1 HBU1.out)
      go_wp2_with (first | (rw [← HV1.out, ← HO1.out]) | (rw [← HU1.out]))
      refine HR.out.mono ?_
      rintro e w4 ⟨s4, rfl, hk4, _, hb4⟩
      obtain ⟨A4, c4, rfl, _⟩ := hk4.form
      have HBw4 := Lib.hid (HBU1.out.trans (hb4.mono HBU1.out.size))
      have hO1 := HBO1.out.on hb4
      have hO1lt := hO1.lt
      have HK4 := Lib.hid (HK1.out.below hb4)
      have HKR := Lib.hid (hk4.mono (G' := fun _ => True) fun _ _ => trivial)
      clear a0 a1 a2 a3 a4 b0 b1 b2 b3 b4 hb4 HR HREF hk4 HK1
      obtain ⟨V2, hV⟩ : ∃ V, V = w4.alloc (.cells #[.int .i64 0, .int .i64 0, .int .i64 0, .string ⟨#[]⟩, .slice none 0 0] NodeT) := ⟨_, rfl⟩
      obtain ⟨O2, hO⟩ : ∃ O, O = w4.heap.size := ⟨_, rfl⟩
      have hOw : w2.heap.size ≤ O2 := by rw [hO]; exact HBw4.out.size
      have hbV : Below w2.heap.size w2 V2 := by rw [hV]; exact HBw4.out.alloc HBw4.out.size _
      have bO : Box V2 O2 NodeT #[.int .i64 0, .int .i64 0, .int .i64 0, .string ⟨#[]⟩, .slice none 0 0] := by rw [hV]; exact Box.new _ _ _ _ hO
      have HBU2 : Hid (Below w2.heap.size w2 (((((V2.setCell ⟨O2, 0, none⟩ (.int .i64 n.kind)).setCell ⟨O2, 1, none⟩ (.int .i64 n.at_)).setCell ⟨O2, 2, none⟩ (.int .i64 n.num)).setCell ⟨O2, 3, none⟩ (.string ⟨n.name.toArray⟩)).setCell ⟨O2, 4, none⟩ (.slice A4 n.kids.length c4))) := Lib.hid (below_five hbV hOw _ _ _ _ _)
      have HBW2 : Hid (Below w4.heap.size w4 (((((V2.setCell ⟨O2, 0, none⟩ (.int .i64 n.kind)).setCell ⟨O2, 1, none⟩ (.int .i64 n.at_)).setCell ⟨O2, 2, none⟩ (.int .i64 n.num)).setCell ⟨O2, 3, none⟩ (.string ⟨n.name.toArray⟩)).setCell ⟨O2, 4, none⟩ (.slice A4 n.kids.length c4))) := Lib.hid (below_five (by rw [hV]; exact (Below.refl _ _).alloc (Nat.le_refl _) _) (by rw [hO]; exact Nat.le_refl _) _ _ _ _ _)
      have HBO2 : Hid (Box (((((V2.setCell ⟨O2, 0, none⟩ (.int .i64 n.kind)).setCell ⟨O2, 1, none⟩ (.int .i64 n.at_)).setCell ⟨O2, 2, none⟩ (.int .i64 n.num)).setCell ⟨O2, 3, none⟩ (.string ⟨n.name.toArray⟩)).setCell ⟨O2, 4, none⟩ (.slice A4 n.kids.length c4)) O2 NodeT #[.int .i64 n.kind, .int .i64 n.at_, .int .i64 n.num, .string ⟨n.name.toArray⟩, .slice A4 n.kids.length c4]) := Lib.hid (box_five bO _ _ _ _ _)
      have a0 := bO.cell 0
      have a1 := bO.cell 1
      have a2 := bO.cell 2
      have a3 := bO.cell 3
      have a4 := bO.cell 4
      have b0 := bO.frozen 0
      have b1 := bO.frozen 1
      have b2 := bO.frozen 2
      have b3 := bO.frozen 3
      have b4 := bO.frozen 4
      simp only [List.getElem?_toArray, List.getElem?_cons_zero, List.getElem?_cons_succ] at a0 a1 a2 a3 a4
      have HV2 := Lib.hid hV
      have HO2 := Lib.hid hO
      obtain ⟨U2, hU⟩ : ∃ U, U = ((((V2.setCell ⟨O2, 0, none⟩ (.int .i64 n.kind)).setCell ⟨O2, 1, none⟩ (.int .i64 n.at_)).setCell ⟨O2, 2, none⟩ (.int .i64 n.num)).setCell ⟨O2, 3, none⟩ (.string ⟨n.name.toArray⟩)).setCell ⟨O2, 4, none⟩ (.slice A4 n.kids.length c4) := ⟨_, rfl⟩
      rw [← hU] at HBU2 HBW2 HBO2
      have HU2 := Lib.hid hU
      clear hU hV hO hOw hbV bO
      have hO1u := hO1.below HBW2.out hO1lt
      have hO1s : O1 < U2.heap.size := hO1u.lt
      have HBX : Hid (∀ w', Below U2.heap.size U2 w' → Box w' O1 NodeT #[.int .i64 n.kind, .int .i64 n.at_, .int .i64 n.num, .string ⟨n.name.toArray⟩, .slice A3 n.kids.length c3]) := Lib.hid (fun w' hb => hO1u.on hb)
      have HK5 := Lib.hid (HK4.out.below HBW2.out)
      have HKR5 := Lib.hid (HKR.out.below HBW2.out)
      have x0 := hO1u.cell 0
      have x1 := hO1u.cell 1
      have x2 := hO1u.cell 2
      have x3 := hO1u.cell 3
      have x4 := hO1u.cell 4
      simp only [List.getElem?_toArray, List.getElem?_cons_zero, List.getElem?_cons_succ] at x0 x1 x2 x3 x4
      have y0 := HBO2.out.cell 0
      have y1 := HBO2.out.cell 1
      have y2 := HBO2.out.cell 2
      have y3 := HBO2.out.cell 3
      have y4 := HBO2.out.cell 4
      simp only [List.getElem?_toArray, List.getElem?_cons_zero, List.getElem?_cons_succ] at y0 y1 y2 y3 y4
      have HPL := Lib.hid (rplaced_any (G := fun _ => True) n HD.out _ _ U2 HK5.out HKR5.out)
      clear hO1 hO1lt hO1u hO1s
      go_wp2_with (first | (rw [← HV2.out, ← HO2.out]) | (rw [← HU2.out]))
      refine HPL.out.mono ?_
      rintro e w5 ⟨rfl, hb5⟩
      have HB5 := Lib.hid (HBU2.out.trans (hb5.mono HBU2.out.size))
      have bX := HBX.out w5 hb5
      have HIF := Lib.hid (rexpr_any (G := fun _ => True) n HD.out _ w5 (HK5.out.below hb5))
      rw [HND.out] at HIF
      clear hb5 HPL x0 x1 x2 x3 x4 y0 y1 y2 y3 y4 a0 a1 a2 a3 a4 b0 b1 b2 b3 b4
      have x0 := bX.cell 0
      have x1 := bX.cell 1
      have x2 := bX.cell 2
      have x3 := bX.cell 3
      have x4 := bX.cell 4
      simp only [List.getElem?_toArray, List.getElem?_cons_zero, List.getElem?_cons_succ] at x0 x1 x2 x3 x4
      clear bX
      have hj1 : i < j := hin.1
      have hj2 : j < (N : Int) := hin.2
      go_wp2_with (fail)
      refine HIF.out.mono ?_
      rintro e w6 ⟨rfl, hb6⟩
      have HB6 := Lib.hid (HB5.out.trans (hb6.mono HB5.out.size))
      clear hb6
      go_wp2_with (fail)
      go_ret
      exact ⟨rfl, HBASE.out _ HB6.out⟩
  · have her' : (er == 0) = false := beq_eq_false_iff_ne.2 her
    go_wp2_with (fail)
    go_ret
    exact ⟨rfl, HB2.out⟩
theorem ereads_law (s : ByteArray) (i : Int) (w : World) (hm : s.size ≤ 9223372036854775807) (hi : I64 i) (hL : LD w) : Calls Tryd.prog 3 #[.string s, .int .i64 i] w fun e w' => e = .returned (.bool true) ∧ Below w.heap.size w w' := by
  by_cases hs : s.size ≤ 400
  · exact ereads_short s i w hs hi hL
  · exact ereads_long s i w (by omega) hm hL
end Go.Proofs.YtgohkmdepjmpaaaDoor.pm

/- The law on the first token at which a source is no program. -/
import Derived.Test.YtdndfifkfjoffaaGreatDoorZbo
import Derived.Test.YtdndfifkfjoffaaGreatDoorZbl
import Derived.Test.YtdndfifkfjoffaaGreatDoorZaa
set_option maxRecDepth 100000
set_option maxHeartbeats 4000000
namespace Go.Proofs.YtdndfifkfjoffaaGreatDoor.pm
open Go.RowKit wd lx nt ne mem
open vt (I64 qt)
theorem qhB(s s2:ByteArray)(w:World)(hs:1000<s.size)(hm:s.size≤9223372036854775807)(hm2:s2.size≤9223372036854775807)(hL:LD w):Calls Tryz.prog 4 #[.string s,.string s2] w fun e w'=>e=.returned (.bool true)∧Below w.heap.size w w':=by
 have h3:(1000:Int)<(s.size:Int):=by omega
 have HWK:=qb (fun w hL=>qde w hL);have HL:=qb hL;clear hL;go_enter Tryz.func4,Tryz.ntmps4
 go_wp2_with fail;refine(HWK.out w HL.out).mono ?_;rintro e w1 ⟨rfl,hb1⟩;have HB1:=qb hb1;clear hb1;go_wp2_with fail;refine(HWK.out w1 (HL.out.on HB1.out)).mono ?_;rintro e w2 ⟨rfl,hb2⟩;have HB2:=qb (HB1.out.trans (hb2.mono HB1.out.size));clear hb2;go_wp2_with fail;go_ret;exact⟨rfl,HB2.out⟩
theorem qhC(s s2:ByteArray)(w:World)(hs:s.size≤1000)(hs2:200<s2.size)(hm:s.size≤9223372036854775807)(hm2:s2.size≤9223372036854775807)(hL:LD w):Calls Tryz.prog 4 #[.string s,.string s2] w fun e w'=>e=.returned (.bool true)∧Below w.heap.size w w':=by
 have h3:decide ((1000:Int)<(s.size:Int))=false:=by rw[decide_eq_false_iff_not];omega
 have h1:(200:Int)<(s2.size:Int):=by omega
 have HWK:=qb (fun w hL=>qde w hL);have HL:=qb hL;clear hL;go_enter Tryz.func4,Tryz.ntmps4
 go_wp2_with fail;refine(HWK.out w HL.out).mono ?_;rintro e w1 ⟨rfl,hb1⟩;have HB1:=qb hb1;clear hb1;go_wp2_with fail;refine(HWK.out w1 (HL.out.on HB1.out)).mono ?_;rintro e w2 ⟨rfl,hb2⟩;have HB2:=qb (HB1.out.trans (hb2.mono HB1.out.size));clear hb2;go_wp2_with fail;go_ret;exact⟨rfl,HB2.out⟩
theorem qku{a:List Tk}{i:Int}(h:i=(a.length:Int))(t:Tk):qh (a++[t]) i=t:=by
 subst h;unfold qh;rw[if_pos (by omega),List.getD_eq_getElem?_getD,Int.toNat_natCast,List.getElem?_append_right qe,Nat.sub_self];rfl
theorem qkg{s s2:List UInt8}{ts ms:List Tok}{K:Nat}(h:Cut s ts)(h2:Cut s2 ms){t:Tok}(ht:t∈ms):qcP ((ts.take K++[t]).map qK):=qep fun u hu=>(List.mem_append.1 hu).elim (fun q=>⟨s,ts,h,List.mem_of_mem_take q⟩) fun q=>⟨s2,ms,h2,by rw[List.mem_singleton.1 q];exact ht⟩
theorem qhF(s s2:ByteArray)(w:World)(hs:s.size≤1000)(hs2:s2.size≤200)(hL:LD w):Calls Tryz.prog 4 #[.string s,.string s2] w fun e w'=>e=.returned (.bool true)∧Below w.heap.size w w':=by
 have h3:decide ((1000:Int)<(s.size:Int))=false:=by rw[decide_eq_false_iff_not];omega
 have h1:decide ((200:Int)<(s2.size:Int))=false:=by rw[decide_eq_false_iff_not];omega
 have hm:s.size≤9223372036854775807:=by omega
 have hm2:s2.size≤9223372036854775807:=by omega
 have HWK:=qb (qde w hL);have HL:=qb hL;have HA:=qb (fun w=>qex s w (by omega));have HA2:=qb (fun w=>qex s2 w (by omega));have hsz:s.data.toList.length≤1000:=by have e:s.data.toList.length=s.size:=Array.length_toList;omega
 have hsz2:s2.data.toList.length≤200:=by have e:s2.data.toList.length=s2.size:=Array.length_toList;omega
 have HCUT:=qb (fun q ts=>qiF (q:=q) (ts:=ts) (show s.data.toList.length≤16384 by omega));have HCUT2:=qb (fun q ts=>qiF (q:=q) (ts:=ts) (show s2.data.toList.length≤16384 by omega));have HSZ:=qb (And.intro hsz hsz2);obtain⟨LL,hLL⟩:=qc s.data.toList;rw[←hLL]at HA HCUT HSZ;obtain⟨L2,hL2⟩:=qc s2.data.toList;rw[←hL2]at HA2 HCUT2 HSZ;obtain⟨⟨er,qq,ts⟩,htot⟩:∃tot,tot=qaA LL 0:=⟨_,rfl⟩;rw[←htot]at HA HCUT;obtain⟨⟨er2,qq2,ms⟩,htot2⟩:∃tot,tot=qaA L2 0:=⟨_,rfl⟩;rw[←htot2]at HA2 HCUT2;clear htot htot2 hLL hL2 hsz hsz2 hL;go_enter Tryz.func4,Tryz.ntmps4
 go_wp2_with fail;refine HWK.out.mono ?_;rintro e w1 ⟨rfl,hb1⟩;have HB1:=qb hb1;clear hb1 HWK;go_wp2_with fail;refine(HA.out w1).mono ?_;rintro e w2 ⟨v,rfl,hg⟩;have hg:Got w1.heap.size qcu 4 ts.length (qaQ ts) v w1 w2:=hg;obtain⟨A,c,rfl⟩:=qt hg.1;have HG:=qb hg;have HB2:=qb (HB1.out.trans (hg.2.mono HB1.out.size));obtain⟨N,hN⟩:=qc ts.length;rw[←hN]at HG ⊢;have HN:=qb hN;clear hg hN HA;go_wp2_with fail;refine(HA2.out w2).mono ?_;rintro e w3 ⟨v2,rfl,hg⟩;have hg:Got w2.heap.size qcu 4 ms.length (qaQ ms) v2 w2 w3:=hg;obtain⟨A2,c2,rfl⟩:=qt hg.1;have HG2:=qb hg;have HB3:=qb (HB2.out.trans (hg.2.mono HB2.out.size));obtain⟨M,hM⟩:=qc ms.length;rw[←hM]at HG2 ⊢;have HMM:=qb hM;clear hg hM HA2;by_cases her:er=0
 · subst her;by_cases her2:er2=0
   · subst her2;have hcut:=HCUT.out qq ts rfl;have hcut2:=HCUT2.out qq2 ms rfl;have hN0:0<N:=by rw[HN.out];exact(qdw hcut.toks).1
     have hM0:0<M:=by rw[HMM.out];exact(qdw hcut2.toks).1
     have hN1:N≤1001:=by have:=hcut.len;have:=HSZ.out.1;have:=HN.out;omega
     have hM1:M≤201:=by have:=hcut2.len;have:=HSZ.out.2;have:=HMM.out;omega
     have hsrc2:Src (ts.map qK) (.slice A N c) w2:=qgS hcut (by have:=HSZ.out.1;omega) (by rw[←HN.out];exact HG.out);have hsrc:Src (ts.map qK) (.slice A N c) w3:=hsrc2.on HG2.out.2;have hsrcm:Src (ms.map qK) (.slice A2 M c2) w3:=qgS hcut2 (by have:=HSZ.out.2;omega) (by rw[←HMM.out];exact HG2.out);obtain⟨bL,oL,rfl,hbL,hnl,hcL⟩:=qgj hsrc.lies (by rw[List.length_map,←HN.out];exact hN0);obtain⟨bM,oM,rfl,hbM,hnl2,hcM⟩:=qgj hsrcm.lies (by rw[List.length_map,←HMM.out];exact hM0);have HCL:Hid (∀w',Below w3.heap.size w3 w'→∀j u,(qav (ts.map qK))[j]?=some u→w'.cell? ⟨bL,oL+j,none⟩=some u):=qb (fun w' hb j u hu=>(hb.cell (p:=⟨bL,oL+j,none⟩) hbL).trans (hcL j u hu));have HCM:Hid (∀w',Below w3.heap.size w3 w'→∀j u,(qav (ms.map qK))[j]?=some u→w'.cell? ⟨bM,oM+j,none⟩=some u):=qb (fun w' hb j u hu=>(hb.cell (p:=⟨bM,oM+j,none⟩) hbM).trans (hcM j u hu));clear hbL hcL hbM hcM hnl hnl2
     have HCAP:Hid (N≤c):=qb (by
       rcases HG.out.1.2 with⟨_,h⟩|⟨g,cap,cur,hs,_,_,hcap,_⟩
       · omega
       · injection hs with _ _ hc
         omega)
     have HCC:=qb hcut;have HCC2:=qb hcut2;have HLD3:Hid (LD w3):=qb (HL.out.on HB3.out);have HFIN:Hid (∀w',Below w3.heap.size w3 w'→Below w.heap.size w w'):=qb (fun w' hb=>HB3.out.trans (hb.mono HB3.out.size));clear hcut hcut2 hsrc2 hsrcm HCUT HCUT2 HG HG2;obtain⟨r,hr⟩:=qc (qa7 (ts.map qK));have hx:=qch hsrc HCC.out.fine HLD3.out;rw[←hr]at hx;have HX:=qb hx;have HR:=qb hr;clear hx hr hsrc;have hNz:(N:Int)≠0:=by omega
     cases r with
     |list _ _=>
       go_wp2_with fail
       exact HX.out.mono fun _ _ h=>h.elim
     |node n j=>
       go_wp2_with fail;refine HX.out.mono ?_;rintro e w4 ⟨s4,rfl,hk4,_,hb4⟩;obtain⟨A4,c4,rfl,_⟩:=hk4.form;have HB4:=qb hb4;clear hk4 hb4 HX;obtain⟨V,hV⟩:=qc (w4.alloc (.cells #[.int .i64 0,.int .i64 0,.int .i64 0,.string ⟨#[]⟩,.slice none 0 0] qi));obtain⟨O,hO⟩:=qc w4.heap.size;have hOw:w3.heap.size≤O:=by rw[hO];exact HB4.out.size
       have hbV:Below w3.heap.size w3 V:=by rw[hV];exact HB4.out.alloc HB4.out.size _
       have bO:Box V O qi #[.int .i64 0,.int .i64 0,.int .i64 0,.string ⟨#[]⟩,.slice none 0 0]:=by rw[hV];exact Box.new _ _ _ _ hO
       have HBU:Hid (Below w3.heap.size w3 (((((V.setCell ⟨O,0,none⟩ (.int .i64 n.kind)).setCell ⟨O,1,none⟩ (.int .i64 n.at_)).setCell ⟨O,2,none⟩ (.int .i64 n.num)).setCell ⟨O,3,none⟩ (.string ⟨n.name.toArray⟩)).setCell ⟨O,4,none⟩ (.slice A4 n.kids.length c4))):=qb (qm hbV hOw _ _ _ _ _);obtain⟨U1,hU⟩:=qc (((((V.setCell ⟨O,0,none⟩ (.int .i64 n.kind)).setCell ⟨O,1,none⟩ (.int .i64 n.at_)).setCell ⟨O,2,none⟩ (.int .i64 n.num)).setCell ⟨O,3,none⟩ (.string ⟨n.name.toArray⟩)).setCell ⟨O,4,none⟩ (.slice A4 n.kids.length c4));rw[←hU]at HBU;have HU1:=qb hU;have a0:=bO.cell 0;have a1:=bO.cell 1;have a2:=bO.cell 2;have a3:=bO.cell 3;have a4:=bO.cell 4;have b0:=bO.frozen 0;have b1:=bO.frozen 1;have b2:=bO.frozen 2;have b3:=bO.frozen 3;have b4:=bO.frozen 4;simp only[qg]at a0 a1 a2 a3 a4;have HV1:=qb hV;have HO1:=qb hO;clear hU hV hO hOw hbV bO;go_wp2_with (first|(rw[←HV1.out,←HO1.out])|(rw[←HU1.out]));go_ret
       exact⟨rfl,HFIN.out _ HBU.out⟩
     |no j=>
       have hj0:0≤j:=by
         rcases qbc (ts.map qK)with⟨n',j',f',_,j0,_,hp⟩|⟨j',f',_,j0,_,hp⟩
         · have e:=HR.out.trans hp;by_cases hc:j'=((ts.map qK).length:Int)-1∧(qh (ts.map qK) j').kind=0
           · rw[if_pos hc]at e;cases e
           · rw[if_neg hc]at e;cases e;omega
         · have e:=HR.out.trans hp;cases e;exact j0
       obtain⟨J,rfl⟩:=Int.eq_ofNat_of_zero_le hj0;clear hj0;by_cases hjN:(N:Int)-1≤(J:Int)
       · have hJ0:decide ((J:Int)<0)=false:=decide_eq_false (by omega);go_wp2_with fail;refine HX.out.mono ?_;rintro e w4 ⟨rfl,hb4⟩;have HB4:=qb hb4;clear hb4 HX;obtain⟨V,hV⟩:=qc (w4.alloc (.cells #[.int .i64 0,.int .i64 0,.int .i64 0,.string ⟨#[]⟩,.slice none 0 0] qi));obtain⟨O,hO⟩:=qc w4.heap.size;have hOw:w3.heap.size≤O:=by rw[hO];exact HB4.out.size
         have hbV:Below w3.heap.size w3 V:=by rw[hV];exact HB4.out.alloc HB4.out.size _
         have bO:Box V O qi #[.int .i64 0,.int .i64 0,.int .i64 0,.string ⟨#[]⟩,.slice none 0 0]:=by rw[hV];exact Box.new _ _ _ _ hO
         have HBU:Hid (Below w3.heap.size w3 (((((V.setCell ⟨O,0,none⟩ (.int .i64 0)).setCell ⟨O,1,none⟩ (.int .i64 0)).setCell ⟨O,2,none⟩ (.int .i64 0)).setCell ⟨O,3,none⟩ (.string ⟨#[]⟩)).setCell ⟨O,4,none⟩ (.slice none 0 0))):=qb (qm hbV hOw _ _ _ _ _);obtain⟨U1,hU⟩:=qc (((((V.setCell ⟨O,0,none⟩ (.int .i64 0)).setCell ⟨O,1,none⟩ (.int .i64 0)).setCell ⟨O,2,none⟩ (.int .i64 0)).setCell ⟨O,3,none⟩ (.string ⟨#[]⟩)).setCell ⟨O,4,none⟩ (.slice none 0 0));rw[←hU]at HBU;have HU1:=qb hU;have a0:=bO.cell 0;have a1:=bO.cell 1;have a2:=bO.cell 2;have a3:=bO.cell 3;have a4:=bO.cell 4;have b0:=bO.frozen 0;have b1:=bO.frozen 1;have b2:=bO.frozen 2;have b3:=bO.frozen 3;have b4:=bO.frozen 4;simp only[qg]at a0 a1 a2 a3 a4;have HV1:=qb hV;have HO1:=qb hO;clear hU hV hO hOw hbV bO;go_wp2_with (first|(rw[←HV1.out,←HO1.out])|(rw[←HU1.out]));go_ret;exact⟨rfl,HFIN.out _ HBU.out⟩
       · have hJ0:decide ((J:Int)<0)=false:=decide_eq_false (by omega);have hjN':decide ((N:Int)-1≤(J:Int))=false:=decide_eq_false hjN;go_wp2_with fail;refine HX.out.mono ?_;rintro e w4 ⟨rfl,hb4⟩;have HB4:=qb hb4;clear hb4 HX;obtain⟨V,hV⟩:=qc (w4.alloc (.cells #[.int .i64 0,.int .i64 0,.int .i64 0,.string ⟨#[]⟩,.slice none 0 0] qi));obtain⟨O,hO⟩:=qc w4.heap.size;have hOw:w3.heap.size≤O:=by rw[hO];exact HB4.out.size
         have hbV:Below w3.heap.size w3 V:=by rw[hV];exact HB4.out.alloc HB4.out.size _
         have bO:Box V O qi #[.int .i64 0,.int .i64 0,.int .i64 0,.string ⟨#[]⟩,.slice none 0 0]:=by rw[hV];exact Box.new _ _ _ _ hO
         have HBU:Hid (Below w3.heap.size w3 (((((V.setCell ⟨O,0,none⟩ (.int .i64 0)).setCell ⟨O,1,none⟩ (.int .i64 0)).setCell ⟨O,2,none⟩ (.int .i64 0)).setCell ⟨O,3,none⟩ (.string ⟨#[]⟩)).setCell ⟨O,4,none⟩ (.slice none 0 0))):=qb (qm hbV hOw _ _ _ _ _);obtain⟨U1,hU⟩:=qc (((((V.setCell ⟨O,0,none⟩ (.int .i64 0)).setCell ⟨O,1,none⟩ (.int .i64 0)).setCell ⟨O,2,none⟩ (.int .i64 0)).setCell ⟨O,3,none⟩ (.string ⟨#[]⟩)).setCell ⟨O,4,none⟩ (.slice none 0 0));rw[←hU]at HBU;have HU1:=qb hU;have a0:=bO.cell 0;have a1:=bO.cell 1;have a2:=bO.cell 2;have a3:=bO.cell 3;have a4:=bO.cell 4;have b0:=bO.frozen 0;have b1:=bO.frozen 1;have b2:=bO.frozen 2;have b3:=bO.frozen 3;have b4:=bO.frozen 4;simp only[qg]at a0 a1 a2 a3 a4;have HV1:=qb hV;have HO1:=qb hO;clear hU hV hO hOw hbV bO;obtain⟨X,hX⟩:=qc (U1.alloc (.cells #[] TkT))
         have HGX:Hid (Got U1.heap.size TkT 4 0 (qav []) (.slice (some ⟨U1.heap.size,0,none⟩) 0 0) U1 X):=qb (by
           rw[hX];exact⟨⟨rfl,.inr ⟨U1.heap.size,0,#[],rfl,Nat.le_refl _,heap_alloc_new U1 _,Nat.le_refl _,by decide,rfl,rfl⟩⟩,qd.alloc qe _⟩)
         have HBXW:Hid (Below w3.heap.size w3 X):=qb (by rw[hX];exact HBU.out.alloc HBU.out.size _);have HX:=qb hX;have HSX:Hid (U1.heap.size≤X.heap.size∧w3.heap.size≤U1.heap.size):=qb ⟨HGX.out.2.size,HBU.out.size⟩;clear hX;obtain⟨K,hK⟩:=qc (J+1);have hJK:(J:Int)+1=(K:Int):=by omega
         have hK1:0<K:=by omega
         have hKN:K≤N:=by omega
         have hlenT:K=((ts.map qK).take K).length:=by rw[List.length_take,List.length_map,←HN.out];omega
         have hlenM:M=(ms.map qK).length:=by rw[List.length_map];exact HMM.out
         have HLT:=qb hlenT;have HLM:=qb hlenM;have HKK:=qb hK;have HCT:Hid (∀j u,(qav ((ts.map qK).take K))[j]?=some u→X.cell? ⟨bL,oL+j,none⟩=some u):=qb (fun j u hu=>HCL.out X HBXW.out j u (qgi _ _ hu));clear hlenT hlenM;have hKc:(K:Int)≤(c:Int):=by have:=HCAP.out;omega
         have hKc2:K≤c:=by have:=HCAP.out;omega
         clear hK;go_wp2_with (first|(rw[←HV1.out,←HO1.out])|(rw[←HU1.out])|(rw[←HX.out])|(at_builtin;(refine qeI (w:=U1) rfl (.tmp 77) (.tmp 81) rfl U1.heap.size 0 [] ((ts.map qK).take K) (.slice (some ⟨U1.heap.size,0,none⟩) 0 0) bL oL K c rfl rfl HGX.out HLT.out hK1 HCT.out (by omega) HSX.out.1 K (Nat.zero_add K).symm ?_);intro v5 w5 hg5 hb5;obtain⟨A5,c5,rfl⟩:=qt hg5.1;have HG5:=qb hg5;have HB5X:=qb (HBXW.out.trans (hb5.mono HSX.out.2));have HCM5:=qb (HCM.out w5 HB5X.out);clear hg5 hb5)|(at_builtin;(refine qeI (w:=U1) rfl (.tmp 82) (.tmp 83) rfl U1.heap.size K ([]++(ts.map qK).take K) (ms.map qK) (.slice A5 K c5) bM oM M c2 rfl rfl HG5.out HLM.out hM0 HCM5.out (by omega) HG5.out.2.size (K+M) rfl ?_);intro v6 w6 hg6 hb6;obtain⟨A6,c6,rfl⟩:=qt hg6.1;have HG6:=qb hg6;have HB6X:=qb (HB5X.out.trans (hb6.mono HSX.out.2));clear hg6 hb6));obtain⟨l2,hl2⟩:=qc (((ts.take K)++ms).map qK);have hl3:l2=[]++(ts.map qK).take K++ms.map qK:=by rw[hl2,List.map_append,List.map_take];simp
         have hlen:K+M=l2.length:=by rw[hl3,List.length_append,List.length_append,←HLM.out,←HLT.out];simp
         have hraw:∀t∈(ts.take K)++ms,(0≤t.n∧t.n≤9223372036854775807)∧t.at_+t.text.length≤1048576:=fun t ht=>by
           rcases List.mem_append.1 ht with h|h
           · exact HCC.out.raw t (List.mem_of_mem_take h)
           · exact HCC2.out.raw t h
         have hsrc2:Src l2 (.slice A6 (K+M) c6) w6:=⟨by
           have:=HG6.out.sees;unfold qb7;rw[←hl3]at this;rw[←hlen];exact this,by omega,by rw[hl2];exact qgw hraw⟩
         have hx2:=qch hsrc2 (by rw[hl2];exact qkf HCC.out HCC2.out) (HLD3.out.on HB6X.out)
         have hag:qbZ (ts.map qK) l2 K:=by
           rw[hl3];simp only[List.nil_append];exact qfS (by rw[List.length_map,←HN.out];exact hKN)
         have hpw:qa7 l2=.no (J:Int):=qfA HR.out.symm (by rw[List.length_map,←HN.out];omega) (by rw[hJK];exact hag) (by omega);rw[hpw]at hx2;have HX2:=qb hx2;clear hx2 hpw hag hsrc2 hraw hlen hl3 hl2 HG6 HG5 HGX HCM5 HCT HLT a0 a1 a2 a3 a4 b0 b1 b2 b3 b4;refine HX2.out.mono ?_;rintro e w7 ⟨rfl,hb7⟩;have HB7:=qb (HB6X.out.trans (hb7.mono HB6X.out.size));clear hb7 HX2;obtain⟨V,hV⟩:=qc (w7.alloc (.cells #[.int .i64 0,.int .i64 0,.int .i64 0,.string ⟨#[]⟩,.slice none 0 0] qi));obtain⟨O,hO⟩:=qc w7.heap.size;have hOw:w3.heap.size≤O:=by rw[hO];exact HB7.out.size
         have hbV:Below w3.heap.size w3 V:=by rw[hV];exact HB7.out.alloc HB7.out.size _
         have bO:Box V O qi #[.int .i64 0,.int .i64 0,.int .i64 0,.string ⟨#[]⟩,.slice none 0 0]:=by rw[hV];exact Box.new _ _ _ _ hO
         have HBU7:Hid (Below w3.heap.size w3 (((((V.setCell ⟨O,0,none⟩ (.int .i64 0)).setCell ⟨O,1,none⟩ (.int .i64 0)).setCell ⟨O,2,none⟩ (.int .i64 0)).setCell ⟨O,3,none⟩ (.string ⟨#[]⟩)).setCell ⟨O,4,none⟩ (.slice none 0 0))):=qb (qm hbV hOw _ _ _ _ _);obtain⟨U7,hU⟩:=qc (((((V.setCell ⟨O,0,none⟩ (.int .i64 0)).setCell ⟨O,1,none⟩ (.int .i64 0)).setCell ⟨O,2,none⟩ (.int .i64 0)).setCell ⟨O,3,none⟩ (.string ⟨#[]⟩)).setCell ⟨O,4,none⟩ (.slice none 0 0));rw[←hU]at HBU7;have HU7:=qb hU;have a0:=bO.cell 0;have a1:=bO.cell 1;have a2:=bO.cell 2;have a3:=bO.cell 3;have a4:=bO.cell 4;have b0:=bO.frozen 0;have b1:=bO.frozen 1;have b2:=bO.frozen 2;have b3:=bO.frozen 3;have b4:=bO.frozen 4;simp only[qg]at a0 a1 a2 a3 a4;have HV7:=qb hV;have HO7:=qb hO;clear hU hV hO hOw hbV bO;clear HBXW HSX HX HB5X HB6X HU1 HV1 HO1 HBU HB4 HB7 HLM;go_wp2_with (first|(rw[←HV7.out,←HO7.out])|(rw[←HU7.out]));obtain⟨tl,htl⟩:∃tl,ms[M-1]?=some tl:=⟨_,List.getElem?_eq_getElem (by have:=HMM.out;omega)⟩;have htm:tl∈ms:=List.mem_of_getElem? htl;have hJN:J<N:=by omega
         have hpl:J=((ts.map qK).take J).length:=by rw[List.length_take,List.length_map,←HN.out];omega
         have hkl:(qK tl).kind=0:=by
           have h:=(qdw HCC2.out.toks).2
           have e:qh (ms.map qK) ((ms.length:Int)-1)=qK tl:=by
             unfold qh;rw[if_pos (by have:=HMM.out;omega),List.getD_eq_getElem?_getD,show((ms.length:Int)-1).toNat=M-1 by have:=HMM.out;omega,List.getElem?_map,htl];rfl
           rw[e]at h;exact h
         have hag:qbZ (ts.map qK) ((ts.map qK).take J++[qK tl]) J:=qfS (by rw[List.length_map,←HN.out];omega);have hpa:=qjd HR.out.symm (by rw[List.length_map,←HN.out];omega) hag (by rw[List.length_append,←hpl];rfl) (by rw[qku (by rw[←hpl])];exact hkl);have hl3:(ts.map qK).take J++[qK tl]=(ts.take J++[tl]).map qK:=by rw[List.map_append,List.map_take];rfl
         have hfine:qcP ((ts.map qK).take J++[qK tl]):=by rw[hl3];exact qkg HCC.out HCC2.out htm
         have hfair:∀i,I64 (qh ((ts.map qK).take J++[qK tl]) i).at_∧I64 (qh ((ts.map qK).take J++[qK tl]) i).n∧(qh ((ts.map qK).take J++[qK tl]) i).text.length≤281474976710656:=by
           rw[hl3];refine qgw fun t ht=>?_;rcases List.mem_append.1 ht with h|h
           · exact HCC.out.raw t (List.mem_of_mem_take h)
           · rw[List.mem_singleton.1 h];exact HCC2.out.raw tl htm
         have hlen3:J+1=((ts.map qK).take J++[qK tl]).length:=by rw[List.length_append,←hpl];rfl
         have hat:∀j u,(tkV (qK tl))[j]?=some u→(qav (ms.map qK))[(M-1)*4+j]?=some u:=fun j u hu=>by
           have hj:j<4:=(List.getElem?_eq_some_iff.1 hu).1;have hm1:M-1<(ms.map qK).length:=by rw[List.length_map];have:=HMM.out;omega
           rw[qdu _ (M-1) j hm1 hj]
           have e:(ms.map qK)[M-1]=qK tl:=by
             have e2:(ms.map qK)[M-1]?=some (qK tl):=by rw[List.getElem?_map,htl];rfl
             rw[List.getElem?_eq_getElem hm1]at e2;exact Option.some.inj e2
           rw[e];exact hu
         obtain⟨pre,hpre⟩:=qc ((ts.map qK).take J);obtain⟨tt,htt⟩:=qc (qK tl);have HTAKE:Hid (∀w',Below w3.heap.size w3 w'→∀j u,(qav pre)[j]?=some u→w'.cell? ⟨bL,oL+j,none⟩=some u):=qb (fun w' hb j u hu=>HCL.out w' hb j u (qgi _ _ (by rw[←hpre];exact hu)));have HLAST:Hid (∀w',Below w3.heap.size w3 w'→∀j u,(tkV tt)[j]?=some u→w'.cell? ⟨bM,oM+((M-1)*4+j),none⟩=some u):=qb (fun w' hb j u hu=>HCM.out w' hb _ u (hat j u (by rw[←htt];exact hu)));rw[←hpre,←htt]at hpa hfine hfair hlen3;rw[←hpre]at hpl
         have hsrcOf:∀B v' w',w'.ownsRow B TkT 4 v' (J+1) (qav (pre++[tt]))→Src (pre++[tt]) v' w':=fun B v' w' ho=>⟨by
           have hg:Got B TkT 4 (J+1) (qav (pre++[tt])) v' w' w':=⟨ho,Below.refl _ _⟩;have:=hg.sees;unfold qb7;rw[←hlen3];exact this,by omega,hfair⟩
         obtain⟨rj,re,hrj,HPC⟩:∃rj re:Int,(re=0∨(re=1∧rj=(J:Int)))∧Hid (∀B v' w',Below w3.heap.size w3 w'→w'.ownsRow B TkT 4 v' (J+1) (qav (pre++[tt]))→Calls Tryz.prog 17 #[v'] w' fun e w''=>∃(x0 x1 x2:Int) (x3:ByteArray) (A:Option Addr) (x4 x5:Nat),e=.returned (.tuple #[.agg #[.int .i64 x0,.int .i64 x1,.int .i64 x2,.string x3,.slice A x4 x5],.int .i64 rj,.int .i64 re])∧Below w'.heap.size w' w''):=by
           rcases hpa with⟨n3,j3,hp3⟩|hp3
           · refine⟨j3,0,.inl rfl,qb fun B v' w' hb ho=>?_⟩;have hx:=qch (hsrcOf B v' w' ho) hfine (HLD3.out.on hb);rw[hp3]at hx;refine hx.mono ?_;rintro e w'' ⟨s',rfl,hk,_,hb'⟩;obtain⟨As,cs,rfl,_⟩:=hk.form;exact⟨_,_,_,_,_,_,_,rfl,hb'⟩
           · refine⟨J,1,.inr ⟨rfl,rfl⟩,qb fun B v' w' hb ho=>?_⟩;have hx:=qch (hsrcOf B v' w' ho) hfine (HLD3.out.on hb);rw[hp3]at hx;exact hx.mono fun e w'' ⟨he,hb'⟩=>⟨_,_,_,_,_,_,_,he,hb'⟩
         have HRJ:=qb hrj;have HPL:=qb hpl;have hJc2:(J:Int)≤(c:Int):=by have:=HCAP.out;omega
         have hM2:(M:Int)-1=((M-1:Nat):Int):=by omega
         have hM3:((M-1:Nat):Int)<(M:Int):=by omega
         have hM4:M-1<M:=by omega
         obtain⟨M1,hM1e⟩:=qc (M-1);rw[←hM1e]at hM2 hM3 hM4 HLAST;have hM5:M1≤201:=by omega
         have HM1:=qb hM1e;clear hM1e;have hJc:J≤c:=by have:=HCAP.out;omega
         clear hpl hrj hpa hfine hfair hsrcOf hlen3 hat hag hl3 hkl htm htl hpre htt a0 a1 a2 a3 a4 b0 b1 b2 b3 b4;have hW:Below w3.heap.size w3 U7.drew:=HBU7.out.drew;have hWs:w3.heap.size≤U7.drew.heap.size:=hW.size;have HIN:Hid (∀w',Below U7.drew.heap.size U7.drew w'→Below w3.heap.size w3 w'):=qb (fun w' hb=>hW.trans (hb.mono hWs));clear hW hWs;refine qgM (by kernel_rfl) (by kernel_rfl) (AJ (aPP U7.drew.heap.size N c J M c2 bL oL bM oM pre tt rj re) U7.drew) (AJ.start _ _) (qcO.all ⟨?_,?_,?_,?_,?_,?_,?_,?_,?_,?_,?_,?_,?_,?_,?_,?_,?_,?_,?_,?_,?_,?_,trivial⟩) ?_
         · intro L V a w' hS hJ hC hL hE;refine⟨rfl,?_⟩;have h124:L 12=true→L 4=true:=fun h=>by have q:=hC 12 _ rfl h;simp[Region.binds]at q;simp[q]
           refine qam (v:=.slice (some ⟨w'.heap.size,0,none⟩) 0 0) (w':=w'.alloc (.cells #[] TkT)) ?_ ⟨_,rfl,hJ.lay0 hL h124⟩;go_simp
         · intro L V a w' hS hJ hC hL hE;refine⟨rfl,?_⟩;have e5:a.eval (.tmp 5)=.slice (some ⟨bL,oL,none⟩) N c:=(hS.eval0 (k:=5) (by kernel_rfl)).trans rfl;refine qam (v:=.slice (some ⟨bL,oL,none⟩) N c) (w':=w') ?_ ⟨_,rfl,hJ.plain qd rfl hL (by decide) (by decide)⟩;simp[execOp,e5]
         · intro L V a w' hS hJ hC hL hE;refine⟨rfl,?_⟩;have e12:a.eval (.tmp 12)=.int .i64 (J:Int):=(hS.eval0 (k:=12) (by kernel_rfl)).trans rfl;refine qam (v:=.int .i64 (J:Int)) (w':=w') ?_ ⟨_,rfl,hJ.plain qd rfl hL (by decide) (by decide)⟩;simp[execOp,e12]
         · intro L V a w' hS hJ hC hL hE;refine⟨rfl,?_⟩;simp[Region.binds]at hE;have h1:L 1=true:=by simp[hE]
           have e91:a.eval (.tmp 91)=V 1:=hS.eval (i:=1) rfl rfl h1;have h2:L 2=true:=by simp[hE]
           have e92:a.eval (.tmp 92)=V 2:=hS.eval (i:=2) rfl rfl h2;have p1:V 1=.slice (some ⟨bL,oL,none⟩) N c:=hJ.pp 1 h1 (fun q hq=>by cases hq);have p2:V 2=.int .i64 (J:Int):=hJ.pp 2 h2 (fun q hq=>by cases hq);refine qam (v:=.slice (some ⟨bL,oL,none⟩) J c) (w':=w') ?_ ⟨_,rfl,hJ.plain qd rfl hL (by decide) (by decide)⟩;simp only[execOp,e91,e92,p1,p2,Option.map];go_simp
         · intro L V a w' hS hJ hC hL hE;refine⟨rfl,?_⟩;simp[Region.binds]at hE;have h0:L 0=true:=by simp[hE]
           have e90:a.eval (.tmp 90)=V 0:=hS.eval (i:=0) rfl rfl h0;have h3:L 3=true:=by simp[hE]
           have e93:a.eval (.tmp 93)=V 3:=hS.eval (i:=3) rfl rfl h3;have p3:V 3=.slice (some ⟨bL,oL,none⟩) J c:=hJ.pp 3 h3 (fun q hq=>by cases hq);have h124:L 12=true→L 4=true:=fun h=>by have q:=hC 12 _ rfl h;simp[Region.binds]at q;simp[q]
           obtain⟨v',w2,hr,hj⟩:=hJ.put4 hL h0 h124 23 (fun w2 hb=>HTAKE.out w2 (HIN.out w2 hb)) HPL.out (by omega);exact qdE (.tmp 90) (.tmp 93) 23 rfl e90 (e93.trans p3) hr ⟨_,rfl,hj⟩
         · intro L V a w' hS hJ hC hL hE;refine⟨rfl,?_⟩;have e8:a.eval (.tmp 8)=.slice (some ⟨bM,oM,none⟩) M c2:=(hS.eval0 (k:=8) (by kernel_rfl)).trans rfl;refine qam (v:=.slice (some ⟨bM,oM,none⟩) M c2) (w':=w') ?_ ⟨_,rfl,hJ.plain qd rfl hL (by decide) (by decide)⟩;simp[execOp,e8]
         · intro L V a w' hS hJ hC hL hE;refine⟨rfl,?_⟩;have e8:a.eval (.tmp 8)=.slice (some ⟨bM,oM,none⟩) M c2:=(hS.eval0 (k:=8) (by kernel_rfl)).trans rfl;refine qam (v:=.slice (some ⟨bM,oM,none⟩) M c2) (w':=w') ?_ ⟨_,rfl,hJ.plain qd rfl hL (by decide) (by decide)⟩;simp[execOp,e8]
         · intro L V a w' hS hJ hC hL hE;refine⟨rfl,?_⟩;simp[Region.binds]at hE;have h6:L 6=true:=by simp[hE]
           have e96:a.eval (.tmp 96)=V 6:=hS.eval (i:=6) rfl rfl h6;have p6:V 6=.slice (some ⟨bM,oM,none⟩) M c2:=hJ.pp 6 h6 (fun q hq=>by cases hq);refine qam (v:=.int .i64 (M:Int)) (w':=w') ?_ ⟨_,rfl,hJ.plain qd rfl hL (by decide) (by decide)⟩;have g96:a.tmps[96]?.getD undef=V 6:=by rw[←Array.getD_eq_getD_getElem?];exact e96
           rw[p6]at g96;clear e96;go_simp
         · intro L V a w' hS hJ hC hL hE;refine⟨rfl,?_⟩;simp[Region.binds]at hE;have h7:L 7=true:=by simp[hE]
           have e97:a.eval (.tmp 97)=V 7:=hS.eval (i:=7) rfl rfl h7;have p7:V 7=.int .i64 (M:Int):=hJ.pp 7 h7 (fun q hq=>by cases hq);refine qam (v:=.int .i64 ((M-1:Nat):Int)) (w':=w') ?_ ⟨_,rfl,hJ.plain qd rfl hL (by decide) (by decide)⟩;simp only[execOp,e97,p7];rw[←HM1.out];have hwr:IntKind.i64.wrap (M1:Int)=(M1:Int):=IntWalk.i64_in _ (by omega);go_simp
         · intro L V a w' hS hJ hC hL hE;refine⟨rfl,?_⟩;simp[Region.binds]at hE;have h5:L 5=true:=by simp[hE]
           have e95:a.eval (.tmp 95)=V 5:=hS.eval (i:=5) rfl rfl h5;have h8:L 8=true:=by simp[hE]
           have e98:a.eval (.tmp 98)=V 8:=hS.eval (i:=8) rfl rfl h8;have p5:V 5=.slice (some ⟨bM,oM,none⟩) M c2:=hJ.pp 5 h5 (fun q hq=>by cases hq);have p8:V 8=.int .i64 ((M-1:Nat):Int):=hJ.pp 8 h8 (fun q hq=>by cases hq);refine qam (v:=.pointer (some ⟨bM,oM+(M-1)*4,none⟩)) (w':=w') ?_ ⟨_,rfl,hJ.plain qd rfl hL (by decide) (by decide)⟩;rw[←HM1.out]at p8 ⊢;simp only[execOp,e95,e98,p5,p8];go_simp;try (intro h;exact absurd h (by omega))
         · intro L V a w' hS hJ hC hL hE;refine⟨rfl,?_⟩;simp[Region.binds]at hE;have h9:L 9=true:=by simp[hE]
           have e99:a.eval (.tmp 99)=V 9:=hS.eval (i:=9) rfl rfl h9;have p9:V 9=.pointer (some ⟨bM,oM+(M-1)*4,none⟩):=hJ.pp 9 h9 (fun q hq=>by cases hq);have hc:=HLAST.out w' (HIN.out w' hJ.base);refine qam (v:=tkA tt) (w':=w') ?_ ⟨_,rfl,hJ.plain qd rfl hL (by decide) (by decide)⟩;rw[←HM1.out]at p9;have c0:w'.cell? ⟨bM,oM+M1*4,none⟩=some (.int .i64 tt.kind):=hc 0 _ rfl;have c1:w'.cell? ⟨bM,oM+M1*4+1,none⟩=some (.int .i64 tt.at_):=by rw[Nat.add_assoc];exact hc 1 _ rfl
           have c2:w'.cell? ⟨bM,oM+M1*4+2,none⟩=some (.int .i64 tt.n):=by rw[Nat.add_assoc];exact hc 2 _ rfl
           have c3:w'.cell? ⟨bM,oM+M1*4+3,none⟩=some (.string ⟨tt.text.toArray⟩):=by rw[Nat.add_assoc];exact hc 3 _ rfl
           clear hc;simp only[execOp,e99,p9];unfold tkA;go_simp
         · intro L V a w' hS hJ hC hL hE;refine⟨rfl,?_⟩;simp[Region.binds]at hE;have h10:L 10=true:=by simp[hE]
           have e100:a.eval (.tmp 100)=V 10:=hS.eval (i:=10) rfl rfl h10;have p10:V 10=tkA tt:=hJ.pp 10 h10 (fun q hq=>by cases hq);refine qam (v:=.slice (some ⟨w'.heap.size,0,none⟩) 1 1) (w':=w'.alloc (.cells (tkV tt).toArray TkT)) ?_ ⟨_,rfl,hJ.lay11 hL⟩;have g100:a.tmps[100]?.getD undef=V 10:=by rw[←Array.getD_eq_getD_getElem?];exact e100
           rw[p10]at g100;clear e100;unfold tkA at g100;unfold tkV;go_simp
         · intro L V a w' hS hJ hC hL hE;refine⟨rfl,?_⟩;simp[Region.binds]at hE;have h4:L 4=true:=by simp[hE]
           have e94:a.eval (.tmp 94)=V 4:=hS.eval (i:=4) rfl rfl h4;have h11:L 11=true:=by simp[hE]
           have e101:a.eval (.tmp 101)=V 11:=hS.eval (i:=11) rfl rfl h11;have h0:L 0=true:=by have q:=hC 4 _ rfl h4;simp[Region.binds]at q;simp[q]
           obtain⟨v',w2,hr,hj⟩:=hJ.put12 hL h4 h11 h0 23 (by omega);exact qdE (.tmp 94) (.tmp 101) 23 rfl e94 e101 hr ⟨_,rfl,hj⟩
         · intro L V a w' hS hJ hC hL hE;refine⟨rfl,?_⟩;simp[Region.binds]at hE;have h12:L 12=true:=by simp[hE]
           have e102:a.eval (.tmp 102)=V 12:=hS.eval (i:=12) rfl rfl h12;have p12:w'.ownsRow U7.drew.heap.size TkT 4 (V 12) (J+1) (qav (pre++[tt])):=hJ.pp 12 h12 (fun q hq=>by simp[qcM]at hq;subst hq;exact hL);have HX3:=HPC.out _ _ w' (HIN.out w' hJ.base) p12;have e102':a.tmps[102]?.getD undef=V 12:=by rw[←Array.getD_eq_getD_getElem?];exact e102
           clear e102;go_simp;refine HX3.mono ?_;rintro e w2 ⟨x0,x1,x2,x3,x4,x5,x6,rfl,hb⟩;exact⟨_,rfl,hJ.plain hb ⟨_,_,_,_,_,_,_,rfl⟩ hL (by decide) (by decide)⟩
         · intro L V a w' hS hJ hC hL hE;refine⟨rfl,?_⟩;simp[Region.binds]at hE;have h13:L 13=true:=by simp[hE]
           have e103:a.eval (.tmp 103)=V 13:=hS.eval (i:=13) rfl rfl h13;obtain⟨x0,x1,x2,x3,xA,x4,x5,p13⟩:=hJ.pp 13 h13 (fun q hq=>by cases hq);refine qam (v:=.tuple #[.agg #[.int .i64 x0,.int .i64 x1,.int .i64 x2,.string x3,.slice xA x4 x5],.int .i64 rj,.int .i64 re]) (w':=w') ?_ ⟨_,rfl,hJ.plain qd ⟨_,_,_,_,_,_,_,rfl⟩ hL (by decide) (by decide)⟩;simp[execOp,e103,p13]
         · intro L V a w' hS hJ hC hL hE;refine⟨rfl,?_⟩;simp[Region.binds]at hE;have h14:L 14=true:=by simp[hE]
           have e89:a.eval (.tmp 89)=V 14:=hS.eval (i:=14) rfl rfl h14;obtain⟨x0,x1,x2,x3,xA,x4,x5,p14⟩:=hJ.pp 14 h14 (fun q hq=>by cases hq);refine qam (v:=.agg #[.int .i64 x0,.int .i64 x1,.int .i64 x2,.string x3,.slice xA x4 x5]) (w':=w') ?_ ⟨_,rfl,hJ.plain qd ⟨_,_,_,_,_,_,_,rfl⟩ hL (by decide) (by decide)⟩;rw[p14]at e89;simp only[execOp,e89];go_simp
         · intro L V a w' hS hJ hC hL hE;refine⟨rfl,?_⟩;simp[Region.binds]at hE;have h14:L 14=true:=by simp[hE]
           have e89:a.eval (.tmp 89)=V 14:=hS.eval (i:=14) rfl rfl h14;obtain⟨x0,x1,x2,x3,xA,x4,x5,p14⟩:=hJ.pp 14 h14 (fun q hq=>by cases hq);refine qam (v:=.int .i64 rj) (w':=w') ?_ ⟨_,rfl,hJ.plain qd rfl hL (by decide) (by decide)⟩;rw[p14]at e89;simp only[execOp,e89];go_simp
         · intro L V a w' hS hJ hC hL hE;refine⟨rfl,?_⟩;simp[Region.binds]at hE;have h14:L 14=true:=by simp[hE]
           have e89:a.eval (.tmp 89)=V 14:=hS.eval (i:=14) rfl rfl h14;obtain⟨x0,x1,x2,x3,xA,x4,x5,p14⟩:=hJ.pp 14 h14 (fun q hq=>by cases hq);refine qam (v:=.int .i64 re) (w':=w') ?_ ⟨_,rfl,hJ.plain qd rfl hL (by decide) (by decide)⟩;rw[p14]at e89;simp only[execOp,e89];go_simp
         · intro L V a w' hS hJ hC hL hE;refine⟨rfl,?_⟩;have hw:Below w'.heap.size w' (w'.alloc (.cells #[.int .i64 0,.int .i64 0,.int .i64 0,.string ⟨#[]⟩,.slice none 0 0] qi)):=qd.alloc qe _;refine qam (v:=.pointer (some ⟨w'.heap.size,0,none⟩)) (w':=w'.alloc (.cells #[.int .i64 0,.int .i64 0,.int .i64 0,.string ⟨#[]⟩,.slice none 0 0] qi)) ?_ ⟨_,rfl,hJ.plain hw ⟨_,_,_,_,_,_,rfl,hJ.base.size,Box.new _ _ _ _ rfl⟩ hL (by decide) (by decide)⟩;go_simp
         · intro L V a w' hS hJ hC hL hE;refine⟨rfl,?_⟩;simp[Region.binds]at hE;have h18:L 18=true:=by simp[hE]
           have e17:a.eval (.tmp 17)=V 18:=hS.eval (i:=18) rfl rfl h18;have h15:L 15=true:=by simp[hE]
           have e104:a.eval (.tmp 104)=V 15:=hS.eval (i:=15) rfl rfl h15;obtain⟨x0,x1,x2,x3,xA,x4,x5,p15⟩:=hJ.pp 15 h15 (fun q hq=>by cases hq);have h14:L 14=true:=by have q:=hC 15 _ rfl h15;simp[Region.binds]at q;simp[q]
           have h13:L 13=true:=by have q:=hC 14 _ rfl h14;simp[Region.binds]at q;simp[q]
           have h12:L 12=true:=by have q:=hC 13 _ rfl h13;simp[Region.binds]at q;simp[q]
           have h4:L 4=true:=by have q:=hC 12 _ rfl h12;simp[Region.binds]at q;simp[q]
           obtain⟨b,y0,y1,y2,y3,y4,p18,hbB,hbx⟩:=hJ.pp 18 h18 (fun q hq=>by simp[qcM]at hq;subst hq;exact hL);have hj:=hJ.store19 (v:=undef) hL h4 h12 h13 hbB (.int .i64 x0) (.int .i64 x1) (.int .i64 x2) (.string x3) (.slice xA x4 x5);rw[p18]at e17;rw[p15]at e104;obtain⟨⟨z0,z1,z2,z3,z4⟩,f0,f1,f2,f3,f4⟩:=pm.c5 hbx;unfold Oper.wp;simp only[execOp,e17,e104];go_simp;exact⟨undef,hj⟩
         · intro L V a w' hS hJ hC hL hE;refine⟨rfl,?_⟩;simp[Region.binds]at hE;have h16:L 16=true:=by simp[hE]
           have e105:a.eval (.tmp 105)=V 16:=hS.eval (i:=16) rfl rfl h16;have p16:V 16=.int .i64 rj:=hJ.pp 16 h16 (fun q hq=>by cases hq);refine qam (v:=.int .i64 rj) (w':=w') ?_ ⟨_,rfl,hJ.plain qd rfl hL (by decide) (by decide)⟩;simp[execOp,e105,p16]
         · intro L V a w' hS hJ hC hL hE;refine⟨rfl,?_⟩;simp[Region.binds]at hE;have h17:L 17=true:=by simp[hE]
           have e106:a.eval (.tmp 106)=V 17:=hS.eval (i:=17) rfl rfl h17;have p17:V 17=.int .i64 re:=hJ.pp 17 h17 (fun q hq=>by cases hq);refine qam (v:=.int .i64 re) (w':=w') ?_ ⟨_,rfl,hJ.plain qd rfl hL (by decide) (by decide)⟩;simp[execOp,e106,p17]
         · intro L V w' hL hJ;have p20:V 20=.int .i64 rj:=hJ.pp 20 (hL 20 (by decide)) (fun q hq=>by cases hq);have p21:V 21=.int .i64 re:=hJ.pp 21 (hL 21 (by decide)) (fun q hq=>by cases hq);have HE:=qb (HFIN.out w' (HIN.out w' hJ.base));clear hJ hL;simp only[qgK,List.map,Nat.zero_add,Nat.reduceAdd,p20,p21];clear p20 p21;rcases HRJ.out with hre|⟨hre,hrj⟩
           · subst hre;go_wp2_with fail;go_ret;exact⟨rfl,HE.out⟩
           · subst hre;subst hrj;go_wp2_with fail;go_ret;exact⟨rfl,HE.out⟩
   · have her2':(er2==0)=false:=beq_eq_false_iff_ne.2 her2;go_wp2_with fail;go_ret;exact⟨rfl,HB3.out⟩
 · have her':(er==0)=false:=beq_eq_false_iff_ne.2 her;go_wp2_with fail;go_ret;exact⟨rfl,HB3.out⟩
theorem qki(s s2:ByteArray)(w:World)(hm:s.size≤9223372036854775807)(hm2:s2.size≤9223372036854775807)(hL:LD w):Calls Tryz.prog 4 #[.string s,.string s2] w fun e w'=>e=.returned (.bool true)∧Below w.heap.size w w':=by
 by_cases hs:s.size≤1000
 · by_cases hs2:s2.size≤200
   · exact qhF s s2 w hs hs2 hL
   · exact qhC s s2 w hs (by omega) hm hm2 hL
 · exact qhB s s2 w (by omega) hm hm2 hL
end Go.Proofs.YtdndfifkfjoffaaGreatDoor.pm

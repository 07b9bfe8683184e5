/- The document's own list of tokens. (and what it stands on) -/
import Derived.Test.YtdndfifkfjoffaaGreatDoorZac
import Derived.Laws.OwnMore
import Derived.Laws.AppendOwnNone
import Derived.ArgAppend
import Derived.Test.YtdndfifkfjoffaaGreatDoorZaa
set_option maxRecDepth 100000
set_option maxHeartbeats 4000000
namespace Go.Proofs.YtdndfifkfjoffaaGreatDoor.lx
open Go.RowKit mem vt wd
def qoN(k:Int)(p:Nat)(n:Int)(t:List UInt8):Value:=.agg #[.int .i64 k,.int .i64 p,.int .i64 n,.string ⟨t.toArray⟩]
def qfs(p:Nat)(r:Int × Int × Int × List UInt8):Value:=.tuple #[qoN r.2.1 p r.2.2.1 r.2.2.2,.int .i64 r.1]
theorem qbg(s:ByteArray)(p:Nat)(h:p<s.size):s.data.toList.drop p=s[p]::s.data.toList.drop (p+1):=by
 rw[List.drop_eq_getElem_cons (by simpa using h)];rfl
theorem qhu(s:ByteArray)(p:UInt8→Bool)(a e:Nat)(h:e=qcN s p a)(hle:a≤e)(hs:e≤s.size)(w:World):
   (Instr.slice 9 (.string s) (some (.int .i64 a)) (some (.int .i64 e)) none).run Tryz.prog w=.ok (.string ⟨((s.data.toList.drop a).takeWhile p).toArray⟩) w:=by
 have x:=run_slice_string (P:=Tryz.prog) w 9 s .i64 .i64 (a:Int) (e:Int) Tryz.underlying9 (by omega) (by omega) (by omega);rw[Int.toNat_natCast,Int.toNat_natCast,h,qmx,←h]at x;exact x
theorem qdL{c:UInt8}(h:cls c=1)(r:List UInt8):qR (c::r)=(if 32<((c::r).takeWhile qaP).length then 3 else 0,if isW ((c::r).takeWhile qaP)=true then 3 else 1,0,(c::r).takeWhile qaP):=by
 unfold qR;simp only[if_pos h]
theorem qaT{tm:Array Value}{w2:World}{R:Nat}{a b c d:Value}{e:Int}(h4:tm.getD 4 undef=.pointer (some ⟨R,0,none⟩))(h5:tm.getD 5 undef=.int .i64 e)(hb:Box w2 R 40 #[a,b,c,d]):
   (results Tryz.f26 tm).run Tryz.prog w2=.ok (.tuple #[.agg #[a,b,c,d],.int .i64 e]) w2:=by
 have x0:=hb.cell 0;have x1:=hb.cell 1;have x2:=hb.cell 2;have x3:=hb.cell 3;simp only[qg]at x0 x1 x2 x3;have h4':tm[4]?.getD undef=.pointer (some ⟨R,0,none⟩):=by simpa using h4
 have h5':tm[5]?.getD undef=.int .i64 e:=by simpa using h5
 simp[results,Tryz.results26,go_sem,h4',h5',x0,x1,x2,x3]
theorem qN{w:World}{g:Nat}{t:TypeId}{x y z u:Value}(h:Box w g t #[x,y,z,u])(a b c d:Value):Box ((((w.setCell ⟨g,0,none⟩ a).setCell ⟨g,1,none⟩ b).setCell ⟨g,2,none⟩ c).setCell ⟨g,3,none⟩ d) g t #[a,b,c,d]:=(((h.set 0 a).set 1 b).set 2 c).set 3 d
theorem qG{B g:Nat}{w0 w:World}(h:Below B w0 w)(hg:B≤g)(a b c d:Value):Below B w0 ((((w.setCell ⟨g,0,none⟩ a).setCell ⟨g,1,none⟩ b).setCell ⟨g,2,none⟩ c).setCell ⟨g,3,none⟩ d):=(((h.setCell hg a).setCell hg b).setCell hg c).setCell hg d
theorem qmf(s:ByteArray)(p:Nat)(w:World)(hs:s.size≤1048576)(hp:p<s.size)(hc:qb9 s[p].toNat=1):
   Calls Tryz.prog 26 #[.string s,.int .i64 p] w fun e w'=>e=.returned (qfs p (qR (s.data.toList.drop p)))∧Below w.heap.size w w':=by
 obtain⟨E,hE⟩:=qc (qcN s qaP p);obtain⟨hE1,hE2⟩:=qc4 s qaP p (by omega);rw[←hE]at hE1 hE2;have HE:=qb hE;clear hE
 have hcl:∀w,Hid (Calls Tryz.prog 25 #[.int .u8 s[p].toNat] w fun e w'=>e=.returned (.int .i64 1)∧w=w'):=fun w=>qb (by
   have h:=qbf s[p].toNat w (by have:=s[p].toNat_lt;omega);rw[hc]at h;exact h)
 have HC:Hid (cls s[p]=1):=qb hc;clear hc;go_enter Tryz.func26,Tryz.ntmps26
 go_wp2_with (first|(go_at_call 25;refine(hcl _).out.mono ?_;rintro e w1 ⟨rfl,rfl⟩));obtain⟨W,hW⟩:=qc (w.alloc (.cells #[.int .i64 0,.int .i64 0,.int .i64 0,.string ⟨#[]⟩] 40));have HB:Hid (Below w.heap.size w W):=qb (by rw[hW];exact qd.alloc qe _);have HT:Hid (W.heap[w.heap.size]?=some (.cells #[.int .i64 0,.int .i64 0,.int .i64 0,.string ⟨#[]⟩] 40 (0,0))):=qb (by rw[hW];exact heap_alloc_new _ _);rw[←hW];clear hW
 go_loop [7] (fun i=>∃e:Nat,i=.int .i64 e∧p≤e∧e≤E) (fun i=>s.size-(intOf i).toNat)
 case atStart=>exact⟨p,rfl,by omega,by omega⟩
 case round=>
   obtain⟨e,rfl,he1,he2⟩:=hrel;by_cases hlt:e<E
   · obtain⟨hes,hld⟩:=qdN s qaP p e he1 (by rw[←HE.out];exact hlt);have hK:qb9 s[e].toNat=1∨qb9 s[e].toNat=2:=by unfold qaP isL qa1 cls at hld;simpa using hld
     obtain⟨K,hKK⟩:=qc (qb9 s[e].toNat)
     have hcl2:∀w,Hid (Calls Tryz.prog 25 #[.int .u8 s[e].toNat] w fun e w'=>e=.returned (.int .i64 K)∧w=w'):=fun w=>qb (by
       have h:=qbf s[e].toNat w (by have:=s[e].toNat_lt;omega);rw[←hKK]at h;exact h)
     rw[←hKK]at hK;clear hKK hld;rcases hK with rfl|rfl
     · go_wp2_with (first|(go_at_call 25;refine(hcl2 _).out.mono ?_;rintro e w1 ⟨rfl,rfl⟩))
       go_round
       case rel=>exact⟨e+1,by go_num,by omega,by omega⟩
       case measure=>simp[intOf];omega
     · go_wp2_with (first|(go_at_call 25;refine(hcl2 _).out.mono ?_;rintro e w1 ⟨rfl,rfl⟩))
       go_round
       case rel=>exact⟨e+1,by go_num,by omega,by omega⟩
       case measure=>simp[intOf];omega
   · obtain rfl:e=E:=by omega
     clear hlt he2;have hct:=qhu s qaP p e HE.out hE2 hE1;obtain⟨t,ht⟩:=qc ((s.data.toList.drop p).takeWhile qaP);rw[←ht]at hct;by_cases hlt:e<s.size
     · have hno:=qgO s qaP p (by rw[←HE.out];exact hlt);simp only[←HE.out]at hno;have hK:¬qb9 s[e].toNat=1∧¬qb9 s[e].toNat=2:=by unfold qaP isL qa1 cls at hno;simpa using hno
       obtain⟨K,hKK⟩:=qc (qb9 s[e].toNat)
       have hcl2:∀w,Hid (Calls Tryz.prog 25 #[.int .u8 s[e].toNat] w fun e w'=>e=.returned (.int .i64 K)∧w=w'):=fun w=>qb (by
         have h:=qbf s[e].toNat w (by have:=s[e].toNat_lt;omega);rw[←hKK]at h;exact h)
       rw[←hKK]at hK;have k1:(K==1)=false:=by rw[beq_eq_false_iff_ne];exact hK.1
       have k2:(K==2)=false:=by rw[beq_eq_false_iff_ne];exact hK.2
       clear hKK hK hno;go_wp2_with (first|(go_at_call 25;refine(hcl2 _).out.mono ?_;rintro e w1 ⟨rfl,rfl⟩));rw[←ht]
       have htl:t.length≤1048576:=by
         have:=(List.takeWhile_sublist qaP (l:=s.data.toList.drop p)).length_le;rw[←ht,List.length_drop]at this;have e:s.data.toList.length=s.size:=by simp
         omega
       have HRT:Hid (qR (s.data.toList.drop p)=(if 32<t.length then 3 else 0,if isW t=true then 3 else 1,0,t)):=qb (by
         rw[ht,qbg s p hp];exact qdL HC.out _)
       clear ht hct HC;have HI:=qb (qjH t (W.alloc (.cells #[.int .i64 1,.int .i64 p,.int .i64 0,.string ⟨t.toArray⟩] 40)));obtain⟨W1,hW1⟩:=qc (W.alloc (.cells #[.int .i64 1,.int .i64 p,.int .i64 0,.string ⟨t.toArray⟩] 40));have BX:Box W1 W.heap.size 40 #[.int .i64 1,.int .i64 p,.int .i64 0,.string ⟨t.toArray⟩]:=by rw[hW1];exact Box.new _ _ _ _ rfl
       have BR:Box W1 w.heap.size 40 #[.int .i64 0,.int .i64 0,.int .i64 0,.string ⟨#[]⟩]:=by rw[hW1];exact Box.alloc HT.out _
       have HB1:Hid (Below w.heap.size w W1):=qb (by rw[hW1];exact HB.out.alloc HB.out.size _);have hne:w.heap.size<W.heap.size:=Box.lt HT.out;rw[←hW1]at HI ⊢;clear hW1 HT HB;refine HI.out.mono ?_;rintro e1 w1 ⟨rfl,hb1⟩;replace BX:=BX.on hb1;replace BR:=BR.on hb1;have HB2:=qb (HB1.out.trans (hb1.mono HB1.out.size));clear hb1 HB1 HI;obtain⟨H,hH⟩:=qc W.heap.size;rw[←hH]at BX hne ⊢;clear hH;obtain⟨R,hR⟩:=qc w.heap.size;rw[←hR]at BR hne HB2;have HR:=qb hR;rw[←hR];clear hR;have x0:=BX.cell 0;have x1:=BX.cell 1;have x2:=BX.cell 2;have x3:=BX.cell 3;have xf:=BX.frozen 0;have y0:=BR.cell 0;have y1:=BR.cell 1;have y2:=BR.cell 2;have y3:=BR.cell 3;have f0:=BR.frozen 0;have f1:=BR.frozen 1;have f2:=BR.frozen 2;have f3:=BR.frozen 3;have HBR:=qb BR;clear BX BR;simp only[qg]at x0 x1 x2 x3 y0 y1 y2 y3;have hne2:¬H=R:=by omega
       have hne3:¬R=H:=by omega
       by_cases hlong:32<t.length
       · rw[if_pos hlong]at HRT;have hlong2:32<(t.length:Int):=by omega
         cases hw:isW t
         · rw[hw]at HRT;go_wp2_with fail;try simp only[Exit.inBlock,Exit.then]
           refine bodyPost_ret (qaT rfl rfl (qN HBR.out _ _ _ _)) rfl ?_;exact⟨by rw[HRT.out];rfl,by rw[←HR.out];exact qG HB2.out qe _ _ _ _⟩
         · rw[hw]at HRT;go_wp2_with fail;try simp only[Exit.inBlock,Exit.then]
           refine bodyPost_ret (qaT rfl rfl (qN (HBR.out.far (by exact hne3) _) _ _ _ _)) rfl ?_;exact⟨by rw[HRT.out];rfl,by rw[←HR.out];exact qG (HB2.out.setCell (by dsimp only;omega) _) qe _ _ _ _⟩
       · rw[if_neg hlong]at HRT;have hlong2:¬32<(t.length:Int):=by omega
         cases hw:isW t
         · rw[hw]at HRT;go_wp2_with fail;try simp only[Exit.inBlock,Exit.then]
           refine bodyPost_ret (qaT rfl rfl (qN HBR.out _ _ _ _)) rfl ?_;exact⟨by rw[HRT.out];rfl,by rw[←HR.out];exact qG HB2.out qe _ _ _ _⟩
         · rw[hw]at HRT;go_wp2_with fail;try simp only[Exit.inBlock,Exit.then]
           refine bodyPost_ret (qaT rfl rfl (qN (HBR.out.far (by exact hne3) _) _ _ _ _)) rfl ?_;exact⟨by rw[HRT.out];rfl,by rw[←HR.out];exact qG (HB2.out.setCell (by dsimp only;omega) _) qe _ _ _ _⟩
     · obtain rfl:e=s.size:=by omega
       go_wp2_with fail;rw[←ht]
       have htl:t.length≤1048576:=by
         have:=(List.takeWhile_sublist qaP (l:=s.data.toList.drop p)).length_le;rw[←ht,List.length_drop]at this;have e:s.data.toList.length=s.size:=by simp
         omega
       have HRT:Hid (qR (s.data.toList.drop p)=(if 32<t.length then 3 else 0,if isW t=true then 3 else 1,0,t)):=qb (by
         rw[ht,qbg s p hp];exact qdL HC.out _)
       clear ht hct HC;have HI:=qb (qjH t (W.alloc (.cells #[.int .i64 1,.int .i64 p,.int .i64 0,.string ⟨t.toArray⟩] 40)));obtain⟨W1,hW1⟩:=qc (W.alloc (.cells #[.int .i64 1,.int .i64 p,.int .i64 0,.string ⟨t.toArray⟩] 40));have BX:Box W1 W.heap.size 40 #[.int .i64 1,.int .i64 p,.int .i64 0,.string ⟨t.toArray⟩]:=by rw[hW1];exact Box.new _ _ _ _ rfl
       have BR:Box W1 w.heap.size 40 #[.int .i64 0,.int .i64 0,.int .i64 0,.string ⟨#[]⟩]:=by rw[hW1];exact Box.alloc HT.out _
       have HB1:Hid (Below w.heap.size w W1):=qb (by rw[hW1];exact HB.out.alloc HB.out.size _);have hne:w.heap.size<W.heap.size:=Box.lt HT.out;rw[←hW1]at HI ⊢;clear hW1 HT HB;refine HI.out.mono ?_;rintro e1 w1 ⟨rfl,hb1⟩;replace BX:=BX.on hb1;replace BR:=BR.on hb1;have HB2:=qb (HB1.out.trans (hb1.mono HB1.out.size));clear hb1 HB1 HI;obtain⟨H,hH⟩:=qc W.heap.size;rw[←hH]at BX hne ⊢;clear hH;obtain⟨R,hR⟩:=qc w.heap.size;rw[←hR]at BR hne HB2;have HR:=qb hR;rw[←hR];clear hR;have x0:=BX.cell 0;have x1:=BX.cell 1;have x2:=BX.cell 2;have x3:=BX.cell 3;have xf:=BX.frozen 0;have y0:=BR.cell 0;have y1:=BR.cell 1;have y2:=BR.cell 2;have y3:=BR.cell 3;have f0:=BR.frozen 0;have f1:=BR.frozen 1;have f2:=BR.frozen 2;have f3:=BR.frozen 3;have HBR:=qb BR;clear BX BR;simp only[qg]at x0 x1 x2 x3 y0 y1 y2 y3;have hne2:¬H=R:=by omega
       have hne3:¬R=H:=by omega
       by_cases hlong:32<t.length
       · rw[if_pos hlong]at HRT;have hlong2:32<(t.length:Int):=by omega
         cases hw:isW t
         · rw[hw]at HRT;go_wp2_with fail;try simp only[Exit.inBlock,Exit.then]
           refine bodyPost_ret (qaT rfl rfl (qN HBR.out _ _ _ _)) rfl ?_;exact⟨by rw[HRT.out];rfl,by rw[←HR.out];exact qG HB2.out qe _ _ _ _⟩
         · rw[hw]at HRT;go_wp2_with fail;try simp only[Exit.inBlock,Exit.then]
           refine bodyPost_ret (qaT rfl rfl (qN (HBR.out.far (by exact hne3) _) _ _ _ _)) rfl ?_;exact⟨by rw[HRT.out];rfl,by rw[←HR.out];exact qG (HB2.out.setCell (by dsimp only;omega) _) qe _ _ _ _⟩
       · rw[if_neg hlong]at HRT;have hlong2:¬32<(t.length:Int):=by omega
         cases hw:isW t
         · rw[hw]at HRT;go_wp2_with fail;try simp only[Exit.inBlock,Exit.then]
           refine bodyPost_ret (qaT rfl rfl (qN HBR.out _ _ _ _)) rfl ?_;exact⟨by rw[HRT.out];rfl,by rw[←HR.out];exact qG HB2.out qe _ _ _ _⟩
         · rw[hw]at HRT;go_wp2_with fail;try simp only[Exit.inBlock,Exit.then]
           refine bodyPost_ret (qaT rfl rfl (qN (HBR.out.far (by exact hne3) _) _ _ _ _)) rfl ?_;exact⟨by rw[HRT.out];rfl,by rw[←HR.out];exact qG (HB2.out.setCell (by dsimp only;omega) _) qe _ _ _ _⟩
theorem qgb{c:UInt8}(h:cls c=2)(r:List UInt8):qR (c::r)=((whole.qbs ((c::r).takeWhile qa1)).2,2,(whole.qbs ((c::r).takeWhile qa1)).1,(c::r).takeWhile qa1):=by
 unfold qR;simp only[if_neg (show ¬cls c=1 by rw[h];decide),if_pos h]
theorem qh1{c:UInt8}(h1:¬cls c=1)(h2:¬cls c=2)(r:List UInt8):qR (c::r)=if qbV ((c::r).take 2)=[] then(1,0,0,[]) else(0,4,0,qbV ((c::r).take 2)):=by
 unfold qR;simp only[if_neg h1,if_neg h2]
theorem qnA(s:ByteArray)(p:Nat)(w:World)(hs:s.size≤1048576)(hp:p<s.size)(hc:qb9 s[p].toNat=2):
   Calls Tryz.prog 26 #[.string s,.int .i64 p] w fun e w'=>e=.returned (qfs p (qR (s.data.toList.drop p)))∧Below w.heap.size w w':=by
 obtain⟨E,hE⟩:=qc (qcN s qa1 p);obtain⟨hE1,hE2⟩:=qc4 s qa1 p (by omega);rw[←hE]at hE1 hE2;have HE:=qb hE;clear hE
 have hcl:∀w,Hid (Calls Tryz.prog 25 #[.int .u8 s[p].toNat] w fun e w'=>e=.returned (.int .i64 2)∧w=w'):=fun w=>qb (by
   have h:=qbf s[p].toNat w (by have:=s[p].toNat_lt;omega);rw[hc]at h;exact h)
 have HC:Hid (cls s[p]=2):=qb hc;clear hc;go_enter Tryz.func26,Tryz.ntmps26
 go_wp2_with (first|(go_at_call 25;refine(hcl _).out.mono ?_;rintro e w1 ⟨rfl,rfl⟩));obtain⟨W,hW⟩:=qc (w.alloc (.cells #[.int .i64 0,.int .i64 0,.int .i64 0,.string ⟨#[]⟩] 40));have HB:Hid (Below w.heap.size w W):=qb (by rw[hW];exact qd.alloc qe _);have HT:Hid (Box W w.heap.size 40 #[.int .i64 0,.int .i64 0,.int .i64 0,.string ⟨#[]⟩]):=qb (by rw[hW];exact heap_alloc_new _ _);rw[←hW];clear hW
 go_loop [7] (fun i=>∃e:Nat,i=.int .i64 e∧p≤e∧e≤E) (fun i=>s.size-(intOf i).toNat)
 case atStart=>exact⟨p,rfl,by omega,by omega⟩
 case round=>
   obtain⟨e,rfl,he1,he2⟩:=hrel;by_cases hlt:e<E
   · obtain⟨hes,hld⟩:=qdN s qa1 p e he1 (by rw[←HE.out];exact hlt);have hK:qb9 s[e].toNat=2:=by unfold qa1 cls at hld;simpa using hld
     have hcl2:∀w,Hid (Calls Tryz.prog 25 #[.int .u8 s[e].toNat] w fun e w'=>e=.returned (.int .i64 2)∧w=w'):=fun w=>qb (by
       have h:=qbf s[e].toNat w (by have:=s[e].toNat_lt;omega);rw[hK]at h;exact h)
     clear hK hld;go_wp2_with (first|(go_at_call 25;refine(hcl2 _).out.mono ?_;rintro e w1 ⟨rfl,rfl⟩))
     go_round
     case rel=>exact⟨e+1,by go_num,by omega,by omega⟩
     case measure=>simp[intOf];omega
   · obtain rfl:e=E:=by omega
     clear hlt he2;have hct:=qhu s qa1 p e HE.out hE2 hE1;obtain⟨t,ht⟩:=qc ((s.data.toList.drop p).takeWhile qa1)
     have HRT:Hid (qR (s.data.toList.drop p)=((whole.qbs t).2,2,(whole.qbs t).1,t)):=qb (by
       rw[ht,qbg s p hp];exact qgb HC.out _)
     rw[←ht]at hct
     have htl:t.length≤1048576:=by
       have:=(List.takeWhile_sublist qa1 (l:=s.data.toList.drop p)).length_le;rw[←ht,List.length_drop]at this;have e:s.data.toList.length=s.size:=by simp
       omega
     clear ht HC;have HRD:∀w,Hid (Calls Tryz.prog 60 #[.string ⟨t.toArray⟩] w fun e w'=>e=whole.qnG (whole.qbs t)∧∃n,w'=w.drewN n):=fun w=>qb (whole.qkZ ⟨t.toArray⟩ w (by show t.length≤_;unfold maxLen;omega));obtain⟨⟨rn,re⟩,hrr⟩:∃r,r=whole.qbs t:=⟨_,rfl⟩;rw[←hrr]at HRT HRD;simp only at HRT;clear hrr;have hR0:=HT.out;have f0:=hR0.frozen 0;have f1:=hR0.frozen 1;have f2:=hR0.frozen 2;have f3:=hR0.frozen 3;have y0:=hR0.cell 0;have y1:=hR0.cell 1;have y2:=hR0.cell 2;have y3:=hR0.cell 3;clear hR0;simp only[qg]at y0 y1 y2 y3;by_cases hlt:e<s.size
     · have hno:=qgO s qa1 p (by rw[←HE.out];exact hlt);simp only[←HE.out]at hno;have hK:¬qb9 s[e].toNat=2:=by unfold qa1 cls at hno;simpa using hno
       obtain⟨K,hKK⟩:=qc (qb9 s[e].toNat)
       have hcl2:∀w,Hid (Calls Tryz.prog 25 #[.int .u8 s[e].toNat] w fun e w'=>e=.returned (.int .i64 K)∧w=w'):=fun w=>qb (by
         have h:=qbf s[e].toNat w (by have:=s[e].toNat_lt;omega);rw[←hKK]at h;exact h)
       rw[←hKK]at hK;have k2:(K==2)=false:=by rw[beq_eq_false_iff_ne];exact hK
       clear hKK hK hno;go_wp2_with (first|(go_at_call 25;refine(hcl2 _).out.mono ?_;rintro e w1 ⟨rfl,rfl⟩)|(go_at_call 60;refine(HRD _).out.mono ?_;rintro e w1 ⟨rfl,q,rfl⟩;unfold whole.qnG));try simp only[Exit.inBlock,Exit.then]
       refine bodyPost_ret (qaT rfl rfl (qN (show Box (W.drewN q) _ _ _ from HT.out) _ _ _ _)) rfl ?_;exact⟨by rw[HRT.out];rfl,qG (below_drewN HB.out _) qe _ _ _ _⟩
     · obtain rfl:e=s.size:=by omega
       go_wp2_with (first|(go_at_call 60;refine(HRD _).out.mono ?_;rintro e w1 ⟨rfl,q,rfl⟩;unfold whole.qnG));try simp only[Exit.inBlock,Exit.then]
       refine bodyPost_ret (qaT rfl rfl (qN (show Box (W.drewN q) _ _ _ from HT.out) _ _ _ _)) rfl ?_;exact⟨by rw[HRT.out];rfl,qG (below_drewN HB.out _) qe _ _ _ _⟩
theorem qjx(s:ByteArray)(p e:Nat)(hp:p<s.size)(he:e=min (p+2) s.size):s.extract p e=⟨((s.data.toList.drop p).take 2).toArray⟩:=by
 apply ByteArray.ext;apply Array.ext';rw[Lib.extract_data,he];have e:s.data.toList.length=s.size:=by simp
 rw[List.take_eq_take_iff,List.length_drop];omega
theorem qkK(s:ByteArray)(p:Nat)(w:World)(hs:s.size≤1048576)(hp:p<s.size)(hc1:¬qb9 s[p].toNat=1)(hc2:¬qb9 s[p].toNat=2):
   Calls Tryz.prog 26 #[.string s,.int .i64 p] w fun e w'=>e=.returned (qfs p (qR (s.data.toList.drop p)))∧Below w.heap.size w w':=by
 obtain⟨K,hKK⟩:=qc (qb9 s[p].toNat)
 have hcl:∀w,Hid (Calls Tryz.prog 25 #[.int .u8 s[p].toNat] w fun e w'=>e=.returned (.int .i64 K)∧w=w'):=fun w=>qb (by
   have h:=qbf s[p].toNat w (by have:=s[p].toNat_lt;omega);rw[←hKK]at h;exact h)
 have HRT:=qb (qh1 (c:=s[p]) hc1 hc2 (s.data.toList.drop (p+1)));rw[←qbg s p hp]at HRT;rw[←hKK]at hc1 hc2;have k1:(K==1)=false:=by rw[beq_eq_false_iff_ne];exact hc1
 have k2:(K==2)=false:=by rw[beq_eq_false_iff_ne];exact hc2
 clear hKK hc1 hc2;obtain⟨W,hW⟩:=qc (w.alloc (.cells #[.int .i64 0,.int .i64 0,.int .i64 0,.string ⟨#[]⟩] 40));have HB:Hid (Below w.heap.size w W):=qb (by rw[hW];exact qd.alloc qe _);have HT:Hid (Box W w.heap.size 40 #[.int .i64 0,.int .i64 0,.int .i64 0,.string ⟨#[]⟩]):=qb (by rw[hW];exact heap_alloc_new _ _);have HM:=qb (qkY ((s.data.toList.drop p).take 2) W (by rw[List.length_take];omega));have HW:=qb hW;clear hW;obtain⟨m,hm⟩:=qc (qbV ((s.data.toList.drop p).take 2));rw[←hm]at HM HRT;clear hm;have tail:∀w1,Below W.heap.size W w1→Box w1 w.heap.size 40 #[.int .i64 0,.int .i64 0,.int .i64 0,.string ⟨#[]⟩]∧Below w.heap.size w w1:=fun w1 hb=>⟨HT.out.on hb,HB.out.trans (hb.mono HB.out.size)⟩;have TL:=qb tail;clear tail HT HB;by_cases h2:p+2≤s.size
 · have h2':(p:Int)+2≤(s.size:Int):=by omega
   go_enter Tryz.func26,Tryz.ntmps26
   go_wp2_with (first|(go_at_call 25;refine(hcl _).out.mono ?_;rintro e w1 ⟨rfl,rfl⟩));rw[qjx s p (p+2) hp (by omega),←HW.out];refine HM.out.mono ?_;rintro e1 w1 ⟨rfl,hb⟩;obtain⟨BR,HB2⟩:=TL.out w1 hb;replace HB2:=qb HB2;have HBR:=qb BR;have f0:=BR.frozen 0;have f1:=BR.frozen 1;have f2:=BR.frozen 2;have f3:=BR.frozen 3;have y0:=BR.cell 0;have y1:=BR.cell 1;have y2:=BR.cell 2;have y3:=BR.cell 3;clear BR hb TL HM;simp only[qg]at y0 y1 y2 y3;obtain⟨R,hR⟩:=qc w.heap.size;rw[←hR]at HBR HB2 f0 f1 f2 f3 y0 y1 y2 y3;have HR:=qb hR;rw[←hR];clear hR
   cases m with
   |nil=>
     rw[if_pos rfl]at HRT;go_wp2_with fail;try simp only[Exit.inBlock,Exit.then]
     refine bodyPost_ret (qaT rfl rfl (qN HBR.out _ _ _ _)) rfl ?_
     exact⟨by rw[HRT.out];rfl,by rw[←HR.out];exact qG HB2.out qe _ _ _ _⟩
   |cons a m=>
     rw[if_neg (by simp)]at HRT;have hne:(a::m==[])=false:=rfl;go_wp2_with fail;try simp only[Exit.inBlock,Exit.then]
     refine bodyPost_ret (qaT rfl rfl (qN HBR.out _ _ _ _)) rfl ?_;exact⟨by rw[HRT.out];rfl,by rw[←HR.out];exact qG HB2.out qe _ _ _ _⟩
 · have h2':¬(p:Int)+2≤(s.size:Int):=by omega
   go_enter Tryz.func26,Tryz.ntmps26
   go_wp2_with (first|(go_at_call 25;refine(hcl _).out.mono ?_;rintro e w1 ⟨rfl,rfl⟩));rw[qjx s p s.size hp (by omega),←HW.out];refine HM.out.mono ?_;rintro e1 w1 ⟨rfl,hb⟩;obtain⟨BR,HB2⟩:=TL.out w1 hb;replace HB2:=qb HB2;have HBR:=qb BR;have f0:=BR.frozen 0;have f1:=BR.frozen 1;have f2:=BR.frozen 2;have f3:=BR.frozen 3;have y0:=BR.cell 0;have y1:=BR.cell 1;have y2:=BR.cell 2;have y3:=BR.cell 3;clear BR hb TL HM;simp only[qg]at y0 y1 y2 y3;obtain⟨R,hR⟩:=qc w.heap.size;rw[←hR]at HBR HB2 f0 f1 f2 f3 y0 y1 y2 y3;have HR:=qb hR;rw[←hR];clear hR
   cases m with
   |nil=>
     rw[if_pos rfl]at HRT;go_wp2_with fail;try simp only[Exit.inBlock,Exit.then]
     refine bodyPost_ret (qaT rfl rfl (qN HBR.out _ _ _ _)) rfl ?_
     exact⟨by rw[HRT.out];rfl,by rw[←HR.out];exact qG HB2.out qe _ _ _ _⟩
   |cons a m=>
     rw[if_neg (by simp)]at HRT;have hne:(a::m==[])=false:=rfl;go_wp2_with fail;try simp only[Exit.inBlock,Exit.then]
     refine bodyPost_ret (qaT rfl rfl (qN HBR.out _ _ _ _)) rfl ?_;exact⟨by rw[HRT.out];rfl,by rw[←HR.out];exact qG HB2.out qe _ _ _ _⟩
end Go.Proofs.YtdndfifkfjoffaaGreatDoor.lx
namespace Go.Proofs.YtdndfifkfjoffaaGreatDoor.vt
open Go.RowKit mem
theorem qeO{P:Program}{w:World}(base:Nat)(t ty e:TypeId)(i:TypeInfo)(z:Value)(size bytes:Nat)(ht:P.underlying t=some (.slice e))(hi:P.info? e=some i)(hz:i.zero=some z)
   (hsize:i.size=size)(hby:i.bytes=bytes)(hzs:z.cells.size=size)(hsz:0<size)
   (v:Value)(n:Nat)(xs:List Value)(hown:w.ownsRow base e size v n xs)
   (ad:Addr)(m c:Nat)(news:List Value)(hl:news.length=m*size)(hnews:∀j u,news[j]?=some u→w.cell? (ad.add j)=some u)(h1:∀u∈news,u.oneCell'=true)
   (h63:n+m≤maxLen)(hbytes:(n+m)*bytes≤140737488355328)(hbase:base≤w.heap.size):
   ∃v' w',(Builtin.append_ #[t,t] ty #[v,.slice (some ad) m c]).run P w=.ok v' w'∧w'.ownsRow base e size v' (n+m) (xs++news)∧w.grownBy w' v.ownBlock∧(∀k,v'.ownBlock=some k→v.ownBlock=some k∨w.heap.size≤k):=by
 rcases hown.2 with⟨hv,hn⟩|⟨g,cap,cur,hv,hb,hg,hnc,hcm,hcs,htake⟩
 · have hown2:w.ownsRow w.heap.size e size v n xs:=⟨hown.1,.inl ⟨hv,hn⟩⟩;obtain⟨v',w',hr,h2,h3,_⟩:=run_append_own (P:=P) (w:=w) w.heap.size t ty e i z size bytes ht hi hz hsize hby hzs hsz v n xs hown2 ad m c news hl hnews h1 h63 hbytes qe;exact⟨v',w',hr,qft h2 hbase,h3,fun k hk=>Or.inr (h2.lt k hk).1⟩
 · subst hv;by_cases hroom:n+m≤cap
   · obtain⟨v',w',hr,h2,h3,_⟩:=run_append_own (P:=P) (w:=w) base t ty e i z size bytes ht hi hz hsize hby hzs hsz _ n xs hown ad m c news hl hnews h1 h63 hbytes hbase;have hfit:n*i.size+news.length≤cur.size:=by rw[hl,hcs,hsize,←Nat.add_mul];exact Nat.mul_le_mul_right _ hroom
     have hr2:=run_append_room (P:=P) (w:=w) t ty e i ht hi g n cap cur hg ad m c news (by rw[hl,hsize]) hnews h1 hroom hfit;rw[hr]at hr2;injection hr2 with e1 e2
     refine⟨v',w',hr,h2,h3,fun k hk=>Or.inl ?_⟩;rw[e1]at hk;exact hk
   · have holds:∀j u,xs[j]?=some u→w.cell? ((⟨g,0,none⟩:Addr).add j)=some u:=hown.cells (g:=g) rfl;obtain⟨v',w',hr,h2,h3⟩:=run_append_arg_grows (P:=P) w t ty e i z size bytes ht hi hz hsize hby hzs hsz ⟨g,0,none⟩ n cap xs hown.1 holds ad m c news hl hnews (by omega) h63 hbytes;exact⟨v',w',hr,qft h2 hbase,⟨h3.os,h3.tape,h3.output,h3.size,fun k hk _=>h3.block k hk (by simp)⟩,fun k hk=>Or.inr (h2.lt k hk).1⟩
theorem qad{P:Program}{w:World}{ops:Array Oper}{rest:List Oper}{o:Oper}{a:Act}{Q:Exit→Act→World→Prop}(hgd:o.guard=none)(s x:Operand)(t:TypeId)
   (ho:o.op=.call {callee:=.builtin .append,args:=#[s,x],argTypes:=#[t,t]})
   (base:Nat)(e:TypeId)(i:TypeInfo)(z:Value)(size bytes:Nat)(ht:P.underlying t=some (.slice e))(hi:P.info? e=some i)(hz:i.zero=some z)
   (hsize:i.size=size)(hby:i.bytes=bytes)(hzs:z.cells.size=size)(hsz:0<size)
   (v:Value)(n:Nat)(xs:List Value)(hs:a.eval s=v)(hown:w.ownsRow base e size v n xs)
   (ad:Addr)(m c:Nat)(news:List Value)(hx:a.eval x=.slice (some ad) m c)(hl:news.length=m*size)(hnews:∀j u,news[j]?=some u→w.cell? (ad.add j)=some u)(h1:∀u∈news,u.oneCell'=true)
   (h63:n+m≤maxLen)(hbytes:(n+m)*bytes≤140737488355328)(hbase:base≤w.heap.size)
   (h:∀v' w',w'.ownsRow base e size v' (n+m) (xs++news)→w.grownBy w' v.ownBlock→(∀k,v'.ownBlock=some k→v.ownBlock=some k∨w.heap.size≤k)→wpList P ops Q rest (a.put o.dst v') w'):wpList P ops Q (o::rest) a w:=by
 refine wpList_plain hgd fun K hK=>?_;obtain⟨v',w',hrun,h2,h3,h4⟩:=qeO (P:=P) (w:=w) base t o.type e i z size bytes ht hi hz hsize hby hzs hsz v n xs hown ad m c news hl hnews h1 h63 hbytes hbase;unfold Oper.wp;simp[execOp,ho,resolve,invoke,builtin,hs,hx,hrun,Result.andThen];exact hK _ _ (h v' w' h2 h3 h4)
def Typ(w:World)(t:TypeId)(b:Nat):Prop:=∃cs fr,w.heap[b]?=some (.cells cs t fr)
theorem Typ.ne{w:World}{t t':TypeId}{b b':Nat}(h:Typ w t b)(h':Typ w t' b')(hne:t≠t'):b≠b':=by
 rintro rfl;obtain⟨cs,fr,h⟩:=h;obtain⟨cs',fr',h'⟩:=h';rw[h]at h';injection h' with h'
 injection h' with _ e _
 exact hne e
theorem Typ.own{w:World}{base size n:Nat}{e:TypeId}{v:Value}{xs:List Value}(h:w.ownsRow base e size v n xs){k:Nat}(hk:v.ownBlock=some k):Typ w e k:=by
 rcases h.2 with⟨hv,_⟩|⟨g,cap,cur,hv,_,hh,_⟩
 · subst hv;cases hk
 · subst hv;injection hk with hk;subst hk;exact⟨_,_,hh⟩
theorem Typ.lt{w:World}{t:TypeId}{b:Nat}(h:Typ w t b):b<w.heap.size:=by
 obtain⟨cs,fr,h⟩:=h;exact(Array.getElem?_eq_some_iff.1 h).1
end Go.Proofs.YtdndfifkfjoffaaGreatDoor.vt
namespace Go.Proofs.YtdndfifkfjoffaaGreatDoor.lx
open Go.RowKit mem vt wd
def qdP(t:Tok):List Value:=[.int .i64 t.kind,.int .i64 t.at_,.int .i64 t.n,.string ⟨t.text.toArray⟩]
def qaQ(l:List Tok):List Value:=l.flatMap qdP
theorem qgW(a b:List Tok):qaQ (a++b)=qaQ a++qaQ b:=by unfold qaQ;rw[List.flatMap_append]
theorem qld(t:Tok):qaQ [t]=qdP t:=by unfold qaQ;simp
theorem qdb:∀(l:List Tok) (k j:Nat) (h:k<l.length),j<4→(qaQ l)[k*4+j]?=(qdP l[k])[j]?
 |t::l,0,j,_,hj=>by
   rw[show qaQ (t::l)=qdP t++qaQ l from rfl,List.getElem?_append_left (by show _<4;omega)]
   simp
 |t::l,k+1,j,h,hj=>by
   rw[show qaQ (t::l)=qdP t++qaQ l from rfl,List.getElem?_append_right (by show 4≤_;omega),show(k+1)*4+j-(qdP t).length=k*4+j by show _-4=_;omega];exact qdb l k j (by simpa using h) hj
theorem qnm:(Tryz.prog.info? 40).map (fun i=>(i.zero,i.size,i.bytes))=some (some (.agg #[.int .i64 0,.int .i64 0,.int .i64 0,.string ⟨#[]⟩]),4,40):=by kernel_rfl
theorem qnT(t:Tok):∀u∈qdP t,u.oneCell'=true:=by
 intro u hu;simp[qdP]at hu;rcases hu with rfl|rfl|rfl|rfl<;>rfl
theorem qnS(w:World)(t:Tok)(ty:TypeId):∀j u,(qdP t)[j]?=some u→(w.alloc (.cells (qdP t).toArray ty)).cell? ((⟨w.heap.size,0,none⟩:Addr).add j)=some u:=by
 intro j u hj;have h:=(Box.new w ty (qdP t).toArray w.heap.size rfl).cell j;have e:(⟨w.heap.size,0,none⟩:Addr).add j=⟨w.heap.size,j,none⟩:=by unfold Addr.add;simp;omega
 rw[e,h];simpa using hj
abbrev qcu:TypeId:=40
theorem qfL{w wr:World}{ops:Array Oper}{rest:List Oper}{o:Oper}{a:Act}{Q:Exit→Act→World→Prop}(hgd:o.guard=none)(s x:Operand)
   (ho:o.op=.call {callee:=.builtin .append,args:=#[s,x],argTypes:=#[23,23]})(B n:Nat)(acc:List Tok)(t:Tok)(v:Value)(H:Nat)
   (hs:a.eval s=v)(hx:a.eval x=.slice (some ⟨H,0,none⟩) 1 1)(hg:Got B qcu 4 n (qaQ acc) v w wr)(hl:n≤1099511627776)(hB:B≤wr.heap.size)(hH:H=wr.heap.size)
   (h:∀v' w',Got B qcu 4 (n+1) (qaQ (acc++[t])) v' w w'→(wr.alloc (.cells (qdP t).toArray qcu)).grownBy w' v.ownBlock→wpList Tryz.prog ops Q rest (a.put o.dst v') w'):
   wpList Tryz.prog ops Q (o::rest) a (wr.alloc (.cells (qdP t).toArray qcu)):=by
 obtain⟨i0,hi,hz0,hz1,hz2⟩:=info_parts qnm;subst hH;refine qad hgd s x 23 ho B qcu i0 (.agg #[.int .i64 0,.int .i64 0,.int .i64 0,.string ⟨#[]⟩]) 4 40 Tryz.underlying23 hi hz0 hz1 hz2 rfl (by decide) v n (qaQ acc) hs (hg.1.alloc _) ⟨wr.heap.size,0,none⟩ 1 1 (qdP t) hx rfl (qnS wr t qcu) (qnT t) (by unfold maxLen;omega) (by omega) (by simp;omega) ?_;intro v' w' h1 h2 h3;refine h v' w' ?_ h2;rw[qgW,qld];exact hg.app hB h1 h2
theorem qnz(s:ByteArray)(p:Nat)(w:World)(hs:s.size≤1048576)(hp:p<s.size):
   Calls Tryz.prog 26 #[.string s,.int .i64 p] w fun e w'=>e=.returned (qfs p (qR (s.data.toList.drop p)))∧Below w.heap.size w w':=by
 by_cases h1:qb9 s[p].toNat=1
 · exact qmf s p w hs hp h1
 · by_cases h2:qb9 s[p].toNat=2
   · exact qnA s p w hs hp h2
   · exact qkK s p w hs hp h1 h2
def qd0(acc:List Tok)(r:Int × Nat × List Tok):Int × Nat × List Tok:=if r.1=0 then(0,0,acc++r.2.2) else r
def qdF(s:ByteArray)(w:World)(tot:Int × Nat × List Tok)(o i:Value)(wr:World):Prop:=
 ∃(a n:Nat) (acc:List Tok),i=.int .i64 a∧a≤s.size∧n≤a∧Hid (n=acc.length)∧Hid (Got w.heap.size qcu 4 n (qaQ acc) o w wr)∧Hid (qd0 acc (qaA (s.data.toList.drop a) a)=tot)
theorem qlT(r:Int × Nat × List Tok)(h:r.1=0→r.2.1=0):qd0 [] r=r:=by
 unfold qd0;split
 · rename_i h0
   rw[List.nil_append];obtain⟨x,y,z⟩:=r;have h1:=h h0;simp only at h0 h1;rw[h0,h1]
 · rfl
theorem qiE(t:Tok)(r:Int × Nat × List Tok):(qcg t r).1=0→(qcg t r).2.1=0:=by
 unfold qcg;split
 · intro _;rfl
 · rename_i h;intro h0;exact absurd h0 h
theorem qfp:∀(N:Nat) (l:List UInt8) (p:Nat),l.length≤N→(qaA l p).1=0→(qaA l p).2.1=0
 |N,[],p,_,_=>by rw[qbq]
 |0,c::l,p,h,_=>by simp at h
 |N+1,c::l,p,h,h0=>by
   by_cases h3:cls c=3
   · rw[qbO h3]at h0 ⊢;exact qfp N l _ (by simpa using h) h0
   · by_cases h4:cls c=4
     · rw[qdn h4]at h0 ⊢;have:=qb1 l;exact qfp N _ _ (by simp at h;omega) h0
     · by_cases hb:(qR (c::l)).1=0
       · rw[qd3 h3 h4 l p hb]at h0 ⊢;exact qiE _ _ h0
       · rw[qdl h3 h4 l p hb]at h0;exact absurd h0 hb
theorem qlG(s:ByteArray)(a:Nat)(h:a<s.size)(h4:cls s[a]=4):qaN (s.data.toList.drop (a+1))=s.data.toList.drop (qcN s qaX a)∧a+1+((s.data.toList.drop (a+1)).takeWhile qaX).length=qcN s qaX a:=by
 have hn:qaX s[a]=true:=by
   unfold qaX;rw[Bool.not_eq_true',beq_eq_false_iff_ne];intro e;rw[e]at h4
   revert h4;decide
 have e:(s.data.toList.drop a).takeWhile qaX=s[a]::(s.data.toList.drop (a+1)).takeWhile qaX:=by
   rw[qbg s a h,List.takeWhile_cons,if_pos hn]
 have e2:qcN s qaX a=a+1+((s.data.toList.drop (a+1)).takeWhile qaX).length:=by unfold qcN;rw[e,List.length_cons];omega
 refine⟨?_,e2.symm⟩;have hd:s.data.toList.drop (a+1+((s.data.toList.drop (a+1)).takeWhile qaX).length)=(s.data.toList.drop (a+1)).drop ((s.data.toList.drop (a+1)).takeWhile qaX).length:=(List.drop_drop).symm;rw[e2,hd];obtain⟨D,hD⟩:=qc (s.data.toList.drop (a+1));rw[←hD];have hl:=qcx D;have:∀(A B:List UInt8),(A++B).drop A.length=B:=fun A B=>List.drop_left
 conv=>rhs;arg 2;rw[hl]
 exact(this _ _).symm
theorem qmd{l:List UInt8}(h:(qR l).1=0):1≤(qR l).2.2.2.length∧(qR l).2.2.2.length≤l.length:=by
 obtain⟨e,k,n,t⟩:∃r:Int × Int × Int × List UInt8,r=qR l:=⟨_,rfl⟩;have hh:qR l=(0,(qR l).2.1,(qR l).2.2.1,(qR l).2.2.2):=by rw[←h]
 obtain⟨_,h2,⟨c,r,ht,_⟩,_⟩:=qgG hh;exact⟨by rw[ht];simp,h2⟩
theorem qkm(acc:List Tok)(t:Tok)(r:Int × Nat × List Tok):qd0 acc (qcg t r)=qd0 (acc++[t]) r:=by
 unfold qd0 qcg;by_cases h:r.1=0
 · simp[h]
 · simp[h]
theorem qkn{s:ByteArray}{a:Nat}{acc:List Tok}{tot:Int × Nat × List Tok}(ha:a<s.size)(_:cls s[a]≠3)(_:cls s[a]≠4)(hE:qd0 acc (qaA (s.data.toList.drop a) a)=tot){k n:Int}{t:List UInt8}(h:qR (s.data.toList.drop a)=(0,k,n,t)):
   qd0 (acc++[⟨k,a,n,t⟩]) (qaA (s.data.toList.drop (a+t.length)) (a+t.length))=tot:=by
 rw[←hE,qgD h,qkm,List.drop_drop]
theorem qlS{s:ByteArray}{a:Nat}{acc:List Tok}{tot:Int × Nat × List Tok}(ha:a<s.size)(h3:cls s[a]≠3)(h4:cls s[a]≠4)(hE:qd0 acc (qaA (s.data.toList.drop a) a)=tot){e k n:Int}{t:List UInt8}(h:qR (s.data.toList.drop a)=(e,k,n,t))(he:e≠0):
   tot=(e,a,[]):=by
 rw[←hE];rw[qbg s a ha]at h ⊢;rw[qdl h3 h4 _ _ (by rw[h];exact he),h];unfold qd0;rw[if_neg he]
theorem qex(s:ByteArray)(w:World)(hs:s.size≤16384):
   Calls Tryz.prog 9 #[.string s] w fun e w'=>∃v,e=.returned (.tuple #[v,.int .i64 (qaA s.data.toList 0).2.1,.int .i64 (qaA s.data.toList 0).1])∧Got w.heap.size qcu 4 (qaA s.data.toList 0).2.2.length (qaQ (qaA s.data.toList 0).2.2) v w w':=by
 obtain⟨tot,htot⟩:=qc (qaA s.data.toList 0);rw[←htot]
 have HT:Hid (qd0 [] (qaA (s.data.toList.drop 0) 0)=tot):=qb (by
   rw[htot,List.drop_zero];exact qlT _ (qfp _ _ _ qe))
 have HG0:Hid (Got w.heap.size qcu 4 0 (qaQ []) (.slice none 0 0) w w):=qb (Got.nil_ _ _ _ _);clear htot;go_enter Tryz.func9,Tryz.ntmps9
 go_wp2_with fail
 go_loopw [5,6] (fun o i wr=>qdF s w tot o i wr) (fun _ i _=>s.size-(intOf i).toNat)
 case atStart=>unfold qdF;exact⟨0,0,[],rfl,by omega,by omega,qb rfl,HG0,HT⟩
 case round=>
   unfold qdF at hrel;obtain⟨a,n,acc,rfl,ha,hn,HN,HG,HE⟩:=hrel;obtain⟨A1,c1,rfl⟩:=qt HG.out.1;have hBr:w.heap.size≤wr.heap.size:=HG.out.2.size;by_cases hlt:a<s.size
   · obtain⟨K,hKK⟩:=qc (qb9 s[a].toNat)
     have hcl:∀w,Hid (Calls Tryz.prog 25 #[.int .u8 s[a].toNat] w fun e w'=>e=.returned (.int .i64 K)∧w=w'):=fun w=>qb (by
       have h:=qbf s[a].toNat w (by have:=s[a].toNat_lt;omega);rw[←hKK]at h;exact h)
     by_cases h3:K=3
     · subst h3
       have HN2:Hid (qd0 acc (qaA (s.data.toList.drop (a+1)) (a+1))=tot):=qb (by
         rw[←HE.out,qbg s a hlt,qbO (show cls s[a]=3 from hKK.symm)])
       clear hKK;go_wp2_with (first|(go_at_call 25;refine(hcl _).out.mono ?_;rintro e w1 ⟨rfl,rfl⟩))
       go_roundw
       case rel=>unfold qdF;exact⟨a+1,n,acc,by go_num,by omega,by omega,HN,HG,HN2⟩
       case measure=>simp[intOf];omega
     · have k3:(K==3)=false:=by rw[beq_eq_false_iff_ne];exact h3
       by_cases h4:K=4
       · subst h4;obtain⟨E,hE⟩:=qc (qcN s qaX a);obtain⟨hE1,hE2⟩:=qc4 s qaX a (by omega);obtain⟨d1,d2⟩:=qlG s a hlt hKK.symm
         have HN2:Hid (qd0 acc (qaA (s.data.toList.drop E) E)=tot):=qb (by
           rw[←HE.out,qbg s a hlt,qdn (show cls s[a]=4 from hKK.symm),d1,d2,hE])
         rw[←hE]at hE1 hE2;have hlt2:a<E:=by rw[hE,←d2];omega
         have HR:=qb hE;clear hKK d1 d2 hE;go_wp2_with (first|(go_at_call 25;refine(hcl _).out.mono ?_;rintro e w1 ⟨rfl,rfl⟩))
         go_loop [6] (fun i=>∃e:Nat,i=.int .i64 e∧a≤e∧e≤E) (fun i=>s.size-(intOf i).toNat)
         case atStart=>exact⟨a,rfl,by omega,by omega⟩
         case round=>
           obtain⟨e,rfl,he1,he2⟩:=hrel;by_cases hle:e<E
           · obtain⟨hes,hld⟩:=qdN s qaX a e he1 (by rw[←HR.out];exact hle)
             have hK:((s[e].toNat:Int)==10)=false:=by
               unfold qaX at hld;rw[Bool.not_eq_true',beq_eq_false_iff_ne]at hld;rw[beq_eq_false_iff_ne];intro h;apply hld;apply UInt8.toNat_inj.1;show _=10
               omega
             clear hld;go_wp2_with fail
             go_round
             case rel=>exact⟨e+1,by go_num,by omega,by omega⟩
             case measure=>simp[intOf];omega
           · obtain rfl:e=E:=by omega
             by_cases hes:e<s.size
             · have hno:=qgO s qaX a (by rw[←HR.out];exact hes);simp only[←HR.out]at hno
               have hK:((s[e].toNat:Int)==10)=true:=by
                 unfold qaX at hno;have:s[e]=10:=by simpa using hno
                 rw[this];rfl
               clear hno;go_wp2_with fail
               go_roundw
               case rel=>unfold qdF;exact⟨e,n,acc,rfl,by omega,by omega,HN,HG,HN2⟩
               case measure=>simp[intOf];omega
             · obtain rfl:e=s.size:=by omega
               go_wp2_with fail
               go_roundw
               case rel=>unfold qdF;exact⟨s.size,n,acc,rfl,by omega,by omega,HN,HG,HN2⟩
               case measure=>simp[intOf];omega
       · have k4:(K==4)=false:=by rw[beq_eq_false_iff_ne];exact h4
         have HO:=qb (qnz s a wr (by omega) hlt);obtain⟨⟨er,k,m,t⟩,hr⟩:∃r,r=qR (s.data.toList.drop a):=⟨_,rfl⟩;have HBAD:Hid (er≠0→tot=(er,a,[])):=qb (fun he=>qlS hlt (by rw[show cls s[a]=K from hKK.symm];exact h3) (by rw[show cls s[a]=K from hKK.symm];exact h4) HE.out hr.symm he);have HOK:Hid (er=0→qd0 (acc++[⟨k,a,m,t⟩]) (qaA (s.data.toList.drop (a+t.length)) (a+t.length))=tot):=qb (fun he=>qkn hlt (by rw[show cls s[a]=K from hKK.symm];exact h3) (by rw[show cls s[a]=K from hKK.symm];exact h4) HE.out (he▸hr.symm))
         have HL:Hid (er=0→1≤t.length∧a+t.length≤s.size):=qb (fun he=>by
           have:=qmd (l:=s.data.toList.drop a) (by rw[←hr];exact he);rw[←hr,List.length_drop]at this;have e:s.data.toList.length=s.size:=by simp
           rw[e]at this;simp only at this;omega)
         rw[←hr]at HO;clear hr hKK;unfold qfs qoN at HO;simp only at HO;go_wp2_with (first|(go_at_call 25;refine(hcl _).out.mono ?_;rintro e w1 ⟨rfl,rfl⟩));refine HO.out.mono ?_;rintro e1 w1 ⟨rfl,hb⟩;have HG2:Hid (Got w.heap.size qcu 4 n (qaQ acc) (.slice A1 n c1) w w1):=qb ⟨qv HG.out.1 hb,HG.out.2.trans (hb.mono hBr)⟩;have hB1:w.heap.size≤w1.heap.size:=HG2.out.2.size;clear hb HO HG hcl;by_cases he:er=0
         · subst he;have HOK2:=qb (HOK.out rfl);obtain⟨hl1,hl2⟩:=HL.out rfl;clear HBAD HL HOK;obtain⟨w2,hw2⟩:=qc (w1.alloc (.cells #[.int .i64 k,.int .i64 a,.int .i64 m,.string ⟨t.toArray⟩] qcu));have HW2:=qb hw2;have HG3:Hid (Got w.heap.size qcu 4 n (qaQ acc) (.slice A1 n c1) w w2):=qb (by rw[hw2];exact⟨HG2.out.1.alloc _,HG2.out.2.alloc hB1 _⟩)
           have HX:Hid (Box w2 w1.heap.size qcu #[.int .i64 k,.int .i64 a,.int .i64 m,.string ⟨t.toArray⟩]∧some w1.heap.size≠(Value.slice A1 n c1).ownBlock):=qb (by
             rw[hw2];exact⟨Box.new _ _ _ _ rfl,fun e=>by have:=(HG2.out.1.lt _ e.symm).2;omega⟩)
           have hB2:w.heap.size≤w2.heap.size:=HG3.out.2.size;have hz:=HX.out.1.cell 0;have hz1:=HX.out.1.cell 1;have hz2:=HX.out.1.cell 2;have hz3:=HX.out.1.cell 3;simp only[qg]at hz hz1 hz2 hz3;have HSZ:Hid (w1.heap.size+1=w2.heap.size):=qb (by rw[hw2];simp);clear hw2 HG2;go_wp2_with (first|(at_builtin;(change wpList _ _ _ _ _ ((w1.alloc (.cells #[.int .i64 k,.int .i64 a,.int .i64 m,.string ⟨t.toArray⟩] qcu)).alloc (.cells (qdP ⟨k,a,m,t⟩).toArray qcu));rw[←HW2.out]);refine qfL rfl (.tmp 49) (.tmp 51) rfl w.heap.size n acc ⟨k,a,m,t⟩ (.slice A1 n c1) (w1.heap.size+1) rfl rfl HG3.out (by omega) hB2 HSZ.out ?_;intro v' w' hq hgr;have hx3:=((HX.out.1.alloc _).grown hgr HX.out.2).cell 3;have HQ:=qb hq;clear hq hgr hz hz1 hz2 hz3;simp only[qg]at hx3))
           go_roundw
           case rel=>unfold qdF;exact⟨a+t.length,n+1,acc++[⟨k,a,m,t⟩],by go_num,by omega,by omega,qb (by rw[List.length_append,←HN.out];rfl),HQ,HOK2⟩
           case measure=>simp[intOf];omega
         · have e0:(er==0)=false:=by rw[beq_eq_false_iff_ne];exact he
           have HB2:=qb (HBAD.out he);clear HBAD HOK HL;go_wp2_with fail
           go_ret3
           exact⟨_,by rw[HB2.out];rfl,by rw[HB2.out];exact⟨World.ownsRow_nil _ _ _ _,HG2.out.2.alloc hB1 _⟩⟩
   · obtain rfl:a=s.size:=by omega
     have HF:Hid (tot=(0,0,acc++[⟨0,s.size,0,[]⟩])):=qb (by
       rw[←HE.out,List.drop_eq_nil_of_le (by simp),qbq];rfl)
     clear HE HT HG0;go_wp2_with (at_builtin;refine qfL rfl (.tmp 58) (.tmp 62) rfl w.heap.size n acc ⟨0,s.size,0,[]⟩ (.slice A1 n c1) wr.heap.size rfl rfl HG.out (by omega) hBr rfl ?_;intro v' w' hq _)
     go_ret3
     exact⟨v',by rw[HF.out];rfl,by rw[HF.out];simp only[List.length_append,List.length_cons,List.length_nil,←HN.out];exact hq⟩
end Go.Proofs.YtdndfifkfjoffaaGreatDoor.lx

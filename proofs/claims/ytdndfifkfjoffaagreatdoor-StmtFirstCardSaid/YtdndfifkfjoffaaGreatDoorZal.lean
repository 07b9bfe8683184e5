/- The package's reader puts an expression behind what is read. (and what it stands on) -/
import Derived.Test.YtdndfifkfjoffaaGreatDoorZak
import Derived.BigQuiet
import Derived.StillTailTactics
import Derived.Deep.RegionLaw
import Derived.Deep.AppendLies
import Derived.Test.YtdndfifkfjoffaaGreatDoorZaa
set_option maxRecDepth 100000
set_option maxHeartbeats 4000000
namespace Go.Proofs.YtdndfifkfjoffaaGreatDoor.pm.em
open Go.RowKit wd lx nt ne pm mem
open vt (I64 qft qt qv qZ qee Typ)
variable{l:List Tk}{v:Value}{w0:World}{rb:Nat}{A A':Nat→Prop}{i j:Int}{wants over:Bool}{rs:List NT}{G:List Frm}{w w':World}
theorem qcr{fn:Func}(hr:fn.results=#[ResultVar.cell 2 TkT]){tm:Array Value}{w2:World}{R:Nat}{a b c d:Value}(h4:tm.getD 2 undef=.pointer (some ⟨R,0,none⟩))(hb:Box w2 R TkT #[a,b,c,d]):
   (results fn tm).run Tryz.prog w2=.ok (.agg #[a,b,c,d]) w2:=by
 have x0:=hb.cell 0;have x1:=hb.cell 1;have x2:=hb.cell 2;have x3:=hb.cell 3;simp only[qg]at x0 x1 x2 x3;have h4':tm[2]?.getD undef=.pointer (some ⟨R,0,none⟩):=by simpa using h4
 simp[results,hr,go_sem,h4',x0,x1,x2,x3]
theorem qs(h:Rd l v w0 rb A i wants over rs G w):
   Calls Tryz.prog 141 #[.pointer (some ⟨rb,0,none⟩)] w (fun e w'=>e=.returned (tkA (qh l i))∧Below w.heap.size w w'):=by
 obtain⟨R,hR⟩:=qc w.heap.size;obtain⟨W,hW⟩:=qc (w.alloc (.cells #[.int .i64 0,.int .i64 0,.int .i64 0,.string ⟨#[]⟩] TkT));have HB:Hid (Below w.heap.size w W):=qb (by rw[hW];exact qd.alloc qe _);have BX:Box W R TkT #[.int .i64 0,.int .i64 0,.int .i64 0,.string ⟨#[]⟩]:=by rw[hW];exact Box.new _ _ _ _ hR
 have HX:=qb BX;have f0:=BX.frozen 0;have f1:=BX.frozen 1;have f2:=BX.frozen 2;have f3:=BX.frozen 3;have y0:=BX.cell 0;have y1:=BX.cell 1;have y2:=BX.cell 2;have y3:=BX.cell 3;simp only[qg]at y0 y1 y2 y3;have hrR:¬rb=R:=by rw[hR];have:=h.lt;omega
 have hRr:¬R=rb:=fun e=>hrR e.symm;obtain⟨vr,vo,vs,⟨c0,c1,_⟩,_⟩:=(h.on_ HB.out).cells;have hs:=h.srcw.on HB.out;have hi:=h.num;obtain⟨Av,cv,rfl⟩:=hs.lies.form;have hl:=hs.len;have HS:=qb hs.lies;unfold I64 at hi;obtain⟨N,hN⟩:=qc l.length;rw[←hN]at c0 hl;have HN:=qb hN;have HW:=qb hW;have HRR:=qb hR;have HBx:=qb (fun q a b c d=>qG (g:=R) (below_drewN HB.out q) (by rw[hR];exact Nat.le_refl _) a b c d);obtain⟨P,hP⟩:=qc ((fun(e:Ending) (w':World)=>e=.returned (tkA (qh l i))∧Below w.heap.size w w'));rw[←hP];have HP:=qb hP;clear hW BX hN hR hP h hs;by_cases hin:0≤i∧i<(N:Int)
 · obtain⟨k,rfl⟩:∃k:Nat,i=k:=⟨i.toNat,by omega⟩;have hk:k<l.length:=by rw[←HN.out];omega
   obtain⟨b,off,rfl,hbl,x⟩:=qb7.cells HS.out (by omega);obtain⟨x0,x1,x2,x3⟩:=x k hk;have HT:=qb (qjn hk);obtain⟨t,ht⟩:=qc (l[k]);rw[←ht]at x0 x1 x2 x3 HT;have h1:decide ((k:Int)<0)=false:=by rw[decide_eq_false_iff_not];omega
   have h2:decide ((N:Int)≤(k:Int))=false:=by rw[decide_eq_false_iff_not];omega
   have h3:(k:Int)<(N:Int):=hin.2;have h4:(0:Int)≤(k:Int):=hin.1;clear ht x hin hbl;go_enter Tryz.func141,Tryz.ntmps141
   go_wp2_with (first|(rw[←HW.out,←HRR.out]))
   go_quiet (fail)
   go_wp2_with fail;generalize hV:World.drewN W _=V;have HV:=qb (And.intro (show Below w.heap.size w V from by rw[←hV];exact below_drewN HB.out _) (show Box V R TkT _ from by rw[←hV];exact HX.out));have ec:∀p,V.cell? p=W.cell? p:=fun p=>by rw[←hV];rfl
   have ef:∀p,V.frozen? p=W.frozen? p:=fun p=>by rw[←hV];rfl
   have c0:=(ec _).trans c0;have c1:=(ec _).trans c1;have x0:=(ec _).trans x0;have x1:=(ec _).trans x1;have x2:=(ec _).trans x2;have x3:=(ec _).trans x3;have y0:=(ec _).trans y0;have y1:=(ec _).trans y1;have y2:=(ec _).trans y2;have y3:=(ec _).trans y3;have f0:=(ef _).trans f0;have f1:=(ef _).trans f1;have f2:=(ef _).trans f2;have f3:=(ef _).trans f3;clear ec ef hV
   go_still_tail 10,(by kernel_rfl)
   change wpList _ _ _ _ _ V.drew;go_wp2_with fail;try simp only[Exit.inBlock,Exit.then]
   refine bodyPost_ret (qcr rfl rfl (qN HV.out.2.drew _ _ _ _)) rfl ?_;rw[HP.out];exact⟨by rw[HT.out];rfl,qG HV.out.1.drew (by rw[HRR.out];exact Nat.le_refl _) _ _ _ _⟩
 · have HT:=qb (qeh (l:=l) (i:=i) (by rw[←HN.out];omega));by_cases h1:i<0
   · clear hin;go_enter Tryz.func141,Tryz.ntmps141
     go_wp2_with (first|(rw[←HW.out,←HRR.out]))
     go_quiet (fail)
     go_wp2_with fail;try simp only[Exit.inBlock,Exit.then]
     refine bodyPost_ret (qcr rfl rfl (qN HX.out _ _ _ _)) rfl ?_;rw[HP.out];exact⟨by rw[HT.out];rfl,HBx.out _ _ _ _ _⟩
   · have h1':decide (i<0)=false:=by rw[decide_eq_false_iff_not];omega
     have h2:(N:Int)≤i:=by omega
     clear hin h1;go_enter Tryz.func141,Tryz.ntmps141
     go_wp2_with (first|(rw[←HW.out,←HRR.out]))
     go_quiet (fail)
     go_wp2_with fail;try simp only[Exit.inBlock,Exit.then]
     refine bodyPost_ret (qcr rfl rfl (qN HX.out _ _ _ _)) rfl ?_;rw[HP.out];exact⟨by rw[HT.out];rfl,HBx.out _ _ _ _ _⟩
def qfM(rb:Nat)(w w':World):Prop:=∀k,k<w.heap.size→k≠rb→w'.heap[k]?=w.heap[k]?
theorem qfM.of(hb:Below w.heap.size w w'):qfM rb w w':=fun k hk _=>hb.block k hk
theorem qfM.box{Z:Nat}{T:TypeId}{cs:Array Value}(h:qfM rb w w')(hz:Box w Z T cs)(hn:Z≠rb):Box w' Z T cs:=(h Z hz.lt hn).trans hz
theorem qM(m:List UInt8)(h:Rd l v w0 rb A i wants over rs G w)(hm:isM l i m=false):
   Calls Tryz.prog 142 #[.pointer (some ⟨rb,0,none⟩),.string ⟨m.toArray⟩] w (fun e w'=>e=.returned (.bool false)∧Below w.heap.size w w'):=by
 have HC:=qb (qs h);rw[qgz]at hm;have HM:=qb (fun w'=>qfr (qh l i) m w');rw[hm]at HM;clear hm h;go_enter Tryz.func142,Tryz.ntmps142
 go_wp2_with fail;refine HC.out.mono ?_;rintro e w1 ⟨rfl,hb1⟩;have HB1:=qb hb1;clear hb1;go_wp2_with fail;refine(HM.out _).mono ?_;rintro e w2 ⟨rfl,hb2⟩;have HB2:=qb (HB1.out.trans (hb2.mono HB1.out.size));clear hb2;go_wp2_with fail;go_ret;exact⟨rfl,HB2.out⟩
def Mv(v:Value)(rb:Nat)(wants over:Bool)(i j:Int)(w w':World):Prop:=
 qfM rb w w'∧w.heap.size≤w'.heap.size∧∀vr vo,Box w rb RdT #[v,.int .i64 i,.bool wants,.bool over,vr,vo]→Box w' rb RdT #[v,.int .i64 j,.bool wants,.bool over,vr,vo]
theorem Mv.of(hb:Below w.heap.size w w')(i:Int):Mv v rb wants over i i w w':=⟨qfM.of hb,hb.size,fun _ _ h=>h.on hb⟩
theorem Mv.trans{k:Int}{w2:World}(h:Mv v rb wants over i j w w')(h2:Mv v rb wants over j k w' w2):Mv v rb wants over i k w w2:=
 ⟨fun b hb hn=>(h2.1 b (Nat.lt_of_lt_of_le hb h.2.1) hn).trans (h.1 b hb hn),Nat.le_trans h.2.1 h2.2.1,fun vr vo q=>h2.2.2 vr vo (h.2.2 vr vo q)⟩
theorem qdQ(m:List UInt8)(h:Rd l v w0 rb A i wants over rs G w)(hm:isM l i m=true):
   Calls Tryz.prog 142 #[.pointer (some ⟨rb,0,none⟩),.string ⟨m.toArray⟩] w (fun e w'=>e=.returned (.bool true)∧Rd l v w0 rb (Up A w w') (i+1) wants over rs G w'∧qfM rb w w'∧Mv v rb wants over i (i+1) w w'):=by
 have HC:=qb (qs h);have hin:=qu hm;have hlen:=h.env.src.len;have hx:IntKind.i64.wrap (i+1)=i+1:=IntWalk.i64_in _ (by omega);have HJ:Hid (I64 (i+1)):=qb (by unfold I64;omega);rw[qgz]at hm;have HM:=qb (fun w'=>qfr (qh l i) m w');rw[hm]at HM;have HR:=qb h;have HlR:=qb h.lt;clear hm h hin hlen;go_enter Tryz.func142,Tryz.ntmps142
 go_wp2_with fail;refine HC.out.mono ?_;rintro e w1 ⟨rfl,hb1⟩;have HB1:=qb hb1;clear hb1;go_wp2_with fail;refine(HM.out _).mono ?_;rintro e w2 ⟨rfl,hb2⟩;have HB2:=qb (HB1.out.trans (hb2.mono HB1.out.size));clear hb2;obtain⟨vr,vo,vs,⟨_,c1,_⟩,hf,_,_⟩:=(HR.out.on HB2.out).cells;have f1:=hf 1;clear hf;go_wp2_with fail;go_ret;refine⟨rfl,((HR.out.on HB2.out).seti HJ.out).mono fun b q=>?_,fun k hk hn=>(Below.heap_setCell w2 ⟨rb,1,none⟩ _ k hn).trans (HB2.out.block k hk),fun k hk hn=>(Below.heap_setCell w2 ⟨rb,1,none⟩ _ k hn).trans (HB2.out.block k hk),by simpa [World.setCell]using HB2.out.size,fun vr vo hb=>(hb.on HB2.out).set 1 _⟩;simpa [Up,World.setCell]using q
theorem qak(m:List UInt8)(h:Rd l v w0 rb A i wants over rs G w)(hm:isM l i m=true):
   Calls Tryz.prog 142 #[.pointer (some ⟨rb,0,none⟩),.string ⟨m.toArray⟩] w (fun e w'=>e=.returned (.bool true)∧Rd l v w0 rb (Up A w w') (i+1) wants over rs G w'∧qfM rb w w'):=
 (qdQ m h hm).mono fun _ _ q=>⟨q.1,q.2.1,q.2.2.1⟩
theorem Rd.moved(h:Rd l v w0 rb A i wants over rs G w)(m:Mv v rb wants over i j w w')(low:Below w0.heap.size w0 w')(hj:I64 j):Rd l v w0 rb (Up A w w') j wants over rs G w':=by
 obtain⟨ho,hz,hb⟩:=m;obtain⟨vr,vo,vs,hbx,hr⟩:=h.ex;have ht:Typ w RdT rb:=⟨_,_,hbx⟩;refine⟨h.env,low,h.hB,fun b q=>?_,h.fit,hj,vr,vo,vs,hb vr vo hbx,?_,hr.nods.carry fun b o u q hc=>?_,?_,fun b q=>?_⟩
 · have:=h.lt;have:=h.low.size;rcases q with q|q
   · have:=h.ap b q;omega
   · omega
 · exact qZ hr.own fun k hk=>ho k (Typ.own hr.own hk).lt ((Typ.own hr.own hk).ne ht (by decide))
 · have hlt:b<w.heap.size:=World.block_lt_of_cell? _ _ hc;exact⟨q,(World.cell?_of_block (w:=w) (w':=w') (a:=⟨b,o,none⟩) (ho b hlt q.2.1)).trans hc⟩
 · exact qZ hr.opn fun k hk=>ho k (Typ.own hr.opn hk).lt ((Typ.own hr.opn hk).ne ht (by decide))
 · rcases q with q|q
   · exact hr.apr b q
   · exact⟨fun e=>by have:=(hr.own.lt b e.symm).2;omega,fun e=>by have:=(hr.opn.lt b e.symm).2;omega⟩
theorem qbF{vr vo:Value}{vs:List Value}{f:Frm}(hr:Rows w0 rb A rs (f::G) vr vo vs w):∃g c,vo=.slice (some ⟨g,0,none⟩) (G.length+1) c∧w0.heap.size≤g∧g<w.heap.size∧G.length+1≤c∧∀j u,(qdM G f)[j]?=some u→w.cell? ⟨g,G.length*9+j,none⟩=some u:=by
 have ho:=hr.opn;have ho2:=ho.2;rcases ho2 with⟨_,hn⟩|⟨g,c,cur,hv,hb,hg,hc,_⟩
 · simp at hn
 · subst hv;have hlo:=qaY G;refine⟨g,c,rfl,hb,(Array.getElem?_eq_some_iff.1 hg).1,by simpa using hc,fun j u hu=>?_⟩
   have hj:j<9:=by
     obtain⟨h1,_⟩:=List.getElem?_eq_some_iff.1 hu;simpa using h1
   rw[ho.cellAt _ (by rw[List.length_cons];omega),qag,List.getElem?_append_right (by omega),show G.length*9+j-(qag G).length=j by omega];exact hu
theorem qlu(h:Rd l v w0 rb A i wants over rs [] w):
   Calls Tryz.prog 165 #[.pointer (some ⟨rb,0,none⟩)] w (fun e w'=>e=.returned (.int .i64 0)∧Below w.heap.size w w'):=by
 obtain⟨vr,vo,vs,⟨_,_,_,_,_,c5⟩,_,_,hr⟩:=h.cells;obtain⟨Ao,co,rfl⟩:=qt hr.opn;rw[List.length_nil]at c5;have HB:=qb (Below.refl w.heap.size w);clear h hr;go_enter Tryz.func165,Tryz.ntmps165
 go_wp2_with fail;go_ret;exact⟨rfl,HB.out⟩
theorem qjZ(f:Frm)(h:Rd l v w0 rb A i wants over rs (f::G) w)(hl:G.length≤1048590):
   Calls Tryz.prog 165 #[.pointer (some ⟨rb,0,none⟩)] w (fun e w'=>e=.returned (.int .i64 f.bind)∧Below w.heap.size w w'):=by
 obtain⟨vr,vo,vs,⟨_,_,_,_,_,c5⟩,_,_,hr⟩:=h.cells;obtain⟨g,c,rfl,_,_,_,hc⟩:=qbF hr;have d6:=hc 6 _ rfl;obtain⟨M,hM⟩:=qc G.length;rw[←hM]at c5 d6 hl;have x3:IntKind.i64.wrap ((M:Int)+1-1)=M:=by rw[IntWalk.i64_in _ (by omega)];omega
 have x5:((M:Int)+1==0)=false:=beq_eq_false_iff_ne.2 (by omega);have x6:(0:Int)≤(M:Int):=by omega
 have x7:(M:Int)<(M:Int)+1:=by omega
 have HB:=qb (Below.refl w.heap.size w);obtain⟨bd,hbd⟩:=qc f.bind;rw[←hbd]at d6 ⊢;clear h hr hM hc hbd;go_enter Tryz.func165,Tryz.ntmps165
 go_wp2_with fail
 go_quiet (fail)
 go_wp2_with fail;go_ret;exact⟨rfl,below_drewN HB.out _⟩
theorem qbC(h:Rd l v w0 rb A i wants over rs G w)(hl:G.length≤1048590):
   Calls Tryz.prog 165 #[.pointer (some ⟨rb,0,none⟩)] w (fun e w'=>e=.returned (.int .i64 (qan G))∧Below w.heap.size w w'):=by
 cases G with
 |nil=>exact qlu h
 |cons f G=>exact qjZ f h (by simp at hl;omega)
end Go.Proofs.YtdndfifkfjoffaaGreatDoor.pm.em
namespace Go.Proofs.YtdndfifkfjoffaaGreatDoor.pm.sx
open Go.RowKit wd lx nt ne pm mem
open vt (I64 qft qt qv qZ qee Typ)
variable{l:List Tk}{v:Value}{w0:World}{rb:Nat}{A A':Nat→Prop}{i j:Int}{G:List NT}{z:Option NT}{w w':World}
theorem qs(h:Rs l v w0 rb i w):
   Calls Tryz.prog 63 #[.pointer (some ⟨rb,0,none⟩)] w (fun e w'=>e=.returned (tkA (qh l i))∧Below w.heap.size w w'):=by
 obtain⟨R,hR⟩:=qc w.heap.size;obtain⟨W,hW⟩:=qc (w.alloc (.cells #[.int .i64 0,.int .i64 0,.int .i64 0,.string ⟨#[]⟩] TkT));have HB:Hid (Below w.heap.size w W):=qb (by rw[hW];exact qd.alloc qe _);have BX:Box W R TkT #[.int .i64 0,.int .i64 0,.int .i64 0,.string ⟨#[]⟩]:=by rw[hW];exact Box.new _ _ _ _ hR
 have HX:=qb BX;have f0:=BX.frozen 0;have f1:=BX.frozen 1;have f2:=BX.frozen 2;have f3:=BX.frozen 3;have y0:=BX.cell 0;have y1:=BX.cell 1;have y2:=BX.cell 2;have y3:=BX.cell 3;simp only[qg]at y0 y1 y2 y3;have hrR:¬rb=R:=by rw[hR];have:=h.lt;omega
 have hRr:¬R=rb:=fun e=>hrR e.symm;obtain⟨Av,cv,_,_,_,_,_,_,_,_,rfl,hbx⟩:=(h.on HB.out).box;have c0:=hbx.cell 0;have c1:=hbx.cell 1;simp only[qg]at c0 c1;have hs:=h.src.on HB.out;have hi:=h.num;have hl:=hs.len;have HS:=qb hs.lies;unfold I64 at hi;obtain⟨N,hN⟩:=qc l.length;rw[←hN]at c0 hl;have HN:=qb hN;have HW:=qb hW;have HRR:=qb hR;have HBx:=qb (fun q a b c d=>qG (g:=R) (below_drewN HB.out q) (by rw[hR];exact Nat.le_refl _) a b c d);obtain⟨P,hP⟩:=qc ((fun(e:Ending) (w':World)=>e=.returned (tkA (qh l i))∧Below w.heap.size w w'));rw[←hP];have HP:=qb hP;clear hW BX hN hR hP h hs hbx;by_cases hin:0≤i∧i<(N:Int)
 · obtain⟨k,rfl⟩:∃k:Nat,i=k:=⟨i.toNat,by omega⟩;have hk:k<l.length:=by rw[←HN.out];omega
   obtain⟨b,off,rfl,hbl,x⟩:=qb7.cells HS.out (by omega);obtain⟨x0,x1,x2,x3⟩:=x k hk;have HT:=qb (qjn hk);obtain⟨t,ht⟩:=qc (l[k]);rw[←ht]at x0 x1 x2 x3 HT;have h1:decide ((k:Int)<0)=false:=by rw[decide_eq_false_iff_not];omega
   have h2:decide ((N:Int)≤(k:Int))=false:=by rw[decide_eq_false_iff_not];omega
   have h3:(k:Int)<(N:Int):=hin.2;have h4:(0:Int)≤(k:Int):=hin.1;clear ht x hin hbl;go_enter Tryz.func63,Tryz.ntmps63
   go_wp2_with (first|(rw[←HW.out,←HRR.out]))
   go_quiet (fail)
   go_wp2_with fail;generalize hV:World.drewN W _=V;have HV:=qb (And.intro (show Below w.heap.size w V from by rw[←hV];exact below_drewN HB.out _) (show Box V R TkT _ from by rw[←hV];exact HX.out));have ec:∀p,V.cell? p=W.cell? p:=fun p=>by rw[←hV];rfl
   have ef:∀p,V.frozen? p=W.frozen? p:=fun p=>by rw[←hV];rfl
   have c0:=(ec _).trans c0;have c1:=(ec _).trans c1;have x0:=(ec _).trans x0;have x1:=(ec _).trans x1;have x2:=(ec _).trans x2;have x3:=(ec _).trans x3;have y0:=(ec _).trans y0;have y1:=(ec _).trans y1;have y2:=(ec _).trans y2;have y3:=(ec _).trans y3;have f0:=(ef _).trans f0;have f1:=(ef _).trans f1;have f2:=(ef _).trans f2;have f3:=(ef _).trans f3;clear ec ef hV
   go_still_tail 10,(by kernel_rfl)
   change wpList _ _ _ _ _ V.drew;go_wp2_with fail;try simp only[Exit.inBlock,Exit.then]
   refine bodyPost_ret (em.qcr rfl rfl (qN HV.out.2.drew _ _ _ _)) rfl ?_;rw[HP.out];exact⟨by rw[HT.out];rfl,qG HV.out.1.drew (by rw[HRR.out];exact Nat.le_refl _) _ _ _ _⟩
 · have HT:=qb (qeh (l:=l) (i:=i) (by rw[←HN.out];omega));by_cases h1:i<0
   · clear hin;go_enter Tryz.func63,Tryz.ntmps63
     go_wp2_with (first|(rw[←HW.out,←HRR.out]))
     go_quiet (fail)
     go_wp2_with fail;try simp only[Exit.inBlock,Exit.then]
     refine bodyPost_ret (em.qcr rfl rfl (qN HX.out _ _ _ _)) rfl ?_;rw[HP.out];exact⟨by rw[HT.out];rfl,HBx.out _ _ _ _ _⟩
   · have h1':decide (i<0)=false:=by rw[decide_eq_false_iff_not];omega
     have h2:(N:Int)≤i:=by omega
     clear hin h1;go_enter Tryz.func63,Tryz.ntmps63
     go_wp2_with (first|(rw[←HW.out,←HRR.out]))
     go_quiet (fail)
     go_wp2_with fail;try simp only[Exit.inBlock,Exit.then]
     refine bodyPost_ret (em.qcr rfl rfl (qN HX.out _ _ _ _)) rfl ?_;rw[HP.out];exact⟨by rw[HT.out];rfl,HBx.out _ _ _ _ _⟩
def isT(t:Tk)(k:Int)(s:List UInt8):Bool:=decide (t.kind=k)&&decide (t.text=s)
theorem qgA(k:Int)(s:List UInt8)(h:Rs l v w0 rb i w):
   Calls Tryz.prog 64 #[.pointer (some ⟨rb,0,none⟩),.int .i64 k,.string ⟨s.toArray⟩] w (fun e w'=>e=.returned (.bool (isT (qh l i) k s))∧Below w.heap.size w w'):=by
 have HC:=qb (qs h);obtain⟨t,ht⟩:=qc (qh l i);rw[←ht]at HC;rw[←ht];clear h ht;obtain⟨tk,ta,tn,ts⟩:=t;show Calls Tryz.prog _ _ w (fun e w'=>e=.returned (.bool (decide (tk=k)&&decide (ts=s)))∧Below w.heap.size w w')
 obtain⟨r,hr⟩:=qc ((decide (tk=k)&&decide (ts=s)));rw[←hr];unfold tkA at HC;simp only at HC;by_cases hk:tk=k
 · by_cases hm:ts=s
   · have HR:Hid (r=true):=qb (by rw[hr];simp[hk,hm]);clear hr;subst hk hm;go_enter Tryz.func64,Tryz.ntmps64
     go_wp2_with fail;refine HC.out.mono ?_;rintro e w1 ⟨rfl,hb1⟩;obtain⟨H,hH⟩:=qc w1.heap.size;obtain⟨W,hW⟩:=qc (w1.alloc (.cells #[.int .i64 tk,.int .i64 ta,.int .i64 tn,.string ⟨ts.toArray⟩] TkT));obtain⟨⟨x0,x1,x2,x3⟩,HB,_⟩:=em.qc9 hH hW;have HB1:=qb (hb1.trans (HB.out.mono hb1.size));have HW:=qb hW;have HHH:=qb hH;clear hH hW hb1;go_wp2_with (first|(rw[←HW.out,←HHH.out]));go_ret;exact⟨by rw[HR.out];rfl,HB1.out⟩
   · have HR:Hid (r=false):=qb (by rw[hr];simp[hm]);clear hr;subst hk;have e4:(ts==s)=false:=beq_eq_false_iff_ne.2 hm;clear hm;go_enter Tryz.func64,Tryz.ntmps64
     go_wp2_with fail;refine HC.out.mono ?_;rintro e w1 ⟨rfl,hb1⟩;obtain⟨H,hH⟩:=qc w1.heap.size;obtain⟨W,hW⟩:=qc (w1.alloc (.cells #[.int .i64 tk,.int .i64 ta,.int .i64 tn,.string ⟨ts.toArray⟩] TkT));obtain⟨⟨x0,x1,x2,x3⟩,HB,_⟩:=em.qc9 hH hW;have HB1:=qb (hb1.trans (HB.out.mono hb1.size));have HW:=qb hW;have HHH:=qb hH;clear hH hW hb1;go_wp2_with (first|(rw[←HW.out,←HHH.out]));go_ret;exact⟨by rw[HR.out];rfl,HB1.out⟩
 · have e4:(tk==k)=false:=beq_eq_false_iff_ne.2 hk;have HR:Hid (r=false):=qb (by rw[hr];simp[hk]);clear hk hr;go_enter Tryz.func64,Tryz.ntmps64
   go_wp2_with fail;refine HC.out.mono ?_;rintro e w1 ⟨rfl,hb1⟩;obtain⟨H,hH⟩:=qc w1.heap.size;obtain⟨W,hW⟩:=qc (w1.alloc (.cells #[.int .i64 tk,.int .i64 ta,.int .i64 tn,.string ⟨ts.toArray⟩] TkT));obtain⟨⟨x0,x1,x2,x3⟩,HB,_⟩:=em.qc9 hH hW;have HB1:=qb (hb1.trans (HB.out.mono hb1.size));have HW:=qb hW;have HHH:=qb hH;clear hH hW hb1;go_wp2_with (first|(rw[←HW.out,←HHH.out]));go_ret;exact⟨by rw[HR.out];rfl,HB1.out⟩
theorem qaC(s:List UInt8)(h:Rs l v w0 rb i w){b:Bool}(hb:isM l i s=b):
   Calls Tryz.prog 64 #[.pointer (some ⟨rb,0,none⟩),.int .i64 4,.string ⟨s.toArray⟩] w (fun e w'=>e=.returned (.bool b)∧Below w.heap.size w w'):=by subst hb;exact qgA 4 s h
theorem qd1(s:List UInt8)(h:Rs l v w0 rb i w){b:Bool}(hb:pm.isW l i s=b):
   Calls Tryz.prog 64 #[.pointer (some ⟨rb,0,none⟩),.int .i64 3,.string ⟨s.toArray⟩] w (fun e w'=>e=.returned (.bool b)∧Below w.heap.size w w'):=by subst hb;exact qgA 3 s h
theorem qM(w:World):
   Calls Tryz.prog 99 #[.pointer (some ⟨rb,0,none⟩),.bool false] w (fun e w'=>e=.returned (.bool false)∧Below w.heap.size w w'):=by
 have HB:=qb (Below.refl w.heap.size w);go_enter Tryz.func99,Tryz.ntmps99
 go_wp2_with fail;go_ret;exact⟨rfl,HB.out⟩
theorem qak(h:Rs l v w0 rb i w)(hi:-9223372036854775808≤i∧i≤9223372036854775806):
   Calls Tryz.prog 99 #[.pointer (some ⟨rb,0,none⟩),.bool true] w (fun e w'=>e=.returned (.bool true)∧Mv v rb i (i+1) w w'):=by
 have hx:IntKind.i64.wrap (i+1)=i+1:=IntWalk.i64_in _ (by omega);have HS:=qb h;obtain⟨Av,cv,_,_,_,_,_,_,_,_,_,hbx⟩:=h.box;have c1:=hbx.cell 1;have f1:=hbx.frozen 1;simp only[qg]at c1;clear h hi hbx;go_enter Tryz.func99,Tryz.ntmps99
 go_wp2_with fail;go_ret;refine⟨rfl,⟨⟨rfl,rfl,rfl,by simp[World.setCell],fun k hk hn=>Below.heap_setCell w ⟨rb,1,none⟩ _ k fun e=>hn (by rw[e])⟩,fun a b c d e f hb=>hb.set 1 _⟩⟩
theorem qal(s:List UInt8)(h:Rs l v w0 rb i w)(hm:pm.isW l i s=true):
   Calls Tryz.prog 67 #[.pointer (some ⟨rb,0,none⟩),.string ⟨s.toArray⟩] w (fun e w'=>e=.returned (.bool true)∧Mv v rb i (i+1) w w'):=by
 have HC:=qb (qd1 s h hm);have HS:=qb h;have hin:=qQ hm;have hlen:=h.env.src.len;have HI:Hid (-9223372036854775808≤i∧i≤9223372036854775806):=qb ⟨by omega,by omega⟩;clear h hm hin hlen;go_enter Tryz.func67,Tryz.ntmps67
 go_wp2_with fail;refine HC.out.mono ?_;rintro e w1 ⟨rfl,hb1⟩;have HT:=qb (qak (HS.out.on hb1) HI.out);have HM:=qb (Mv.of (v:=v) (rb:=rb) hb1 i);clear hb1;go_wp2_with fail;refine HT.out.mono ?_;rintro e w2 ⟨rfl,hm2⟩;have HM2:=qb (HM.out.trans hm2);clear hm2;go_wp2_with fail;go_ret;exact⟨rfl,HM2.out⟩
theorem qay(s:List UInt8)(h:Rs l v w0 rb i w)(hm:pm.isW l i s=false):
   Calls Tryz.prog 67 #[.pointer (some ⟨rb,0,none⟩),.string ⟨s.toArray⟩] w (fun e w'=>e=.returned (.bool false)∧Below w.heap.size w w'):=by
 have HC:=qb (qd1 s h hm);clear h hm;go_enter Tryz.func67,Tryz.ntmps67
 go_wp2_with fail;refine HC.out.mono ?_;rintro e w1 ⟨rfl,hb1⟩;have HT:=qb (qM (rb:=rb) w1);have HM:=qb hb1;clear hb1;go_wp2_with fail;refine HT.out.mono ?_;rintro e w2 ⟨rfl,hm2⟩;have HM2:=qb (HM.out.trans (hm2.mono HM.out.size));clear hm2;go_wp2_with fail;go_ret;exact⟨rfl,HM2.out⟩
theorem qac(s:List UInt8)(h:Rs l v w0 rb i w)(hm:isM l i s=true):
   Calls Tryz.prog 96 #[.pointer (some ⟨rb,0,none⟩),.string ⟨s.toArray⟩] w (fun e w'=>e=.returned (.bool true)∧Mv v rb i (i+1) w w'):=by
 have HC:=qb (qaC s h hm);have HS:=qb h;have hin:=qu hm;have hlen:=h.env.src.len;have HI:Hid (-9223372036854775808≤i∧i≤9223372036854775806):=qb ⟨by omega,by omega⟩;clear h hm hin hlen;go_enter Tryz.func96,Tryz.ntmps96
 go_wp2_with fail;refine HC.out.mono ?_;rintro e w1 ⟨rfl,hb1⟩;have HT:=qb (qak (HS.out.on hb1) HI.out);have HM:=qb (Mv.of (v:=v) (rb:=rb) hb1 i);clear hb1;go_wp2_with fail;refine HT.out.mono ?_;rintro e w2 ⟨rfl,hm2⟩;have HM2:=qb (HM.out.trans hm2);clear hm2;go_wp2_with fail;go_ret;exact⟨rfl,HM2.out⟩
theorem qai(s:List UInt8)(h:Rs l v w0 rb i w)(hm:isM l i s=false):
   Calls Tryz.prog 96 #[.pointer (some ⟨rb,0,none⟩),.string ⟨s.toArray⟩] w (fun e w'=>e=.returned (.bool false)∧Below w.heap.size w w'):=by
 have HC:=qb (qaC s h hm);clear h hm;go_enter Tryz.func96,Tryz.ntmps96
 go_wp2_with fail;refine HC.out.mono ?_;rintro e w1 ⟨rfl,hb1⟩;have HT:=qb (qM (rb:=rb) w1);have HM:=qb hb1;clear hb1;go_wp2_with fail;refine HT.out.mono ?_;rintro e w2 ⟨rfl,hm2⟩;have HM2:=qb (HM.out.trans (hm2.mono HM.out.size));clear hm2;go_wp2_with fail;go_ret;exact⟨rfl,HM2.out⟩
end Go.Proofs.YtdndfifkfjoffaaGreatDoor.pm.sx
namespace Go.Proofs.YtdndfifkfjoffaaGreatDoor.pm.em
open Go.RowKit wd lx nt ne pm mem
open vt (I64 qft qt qv qZ qee Typ qc6)
variable{l:List Tk}{v:Value}{w0:World}{rb:Nat}{A A':Nat→Prop}{i j:Int}{wants over:Bool}{rs:List NT}{G:List Frm}{w w':World}
abbrev qa4(w:World)(g o:Nat)(a b c d e:Value):World:=((((w.setCell ⟨g,o,none⟩ a).setCell ⟨g,o+1,none⟩ b).setCell ⟨g,o+2,none⟩ c).setCell ⟨g,o+3,none⟩ d).setCell ⟨g,o+4,none⟩ e
theorem qnI(xs:List Value)(n:Nat)(a b c d e a' b' c' d' e':Value)(hn:xs.length=n):((((((xs++[a,b,c,d,e]).set n a').set (n+1) b').set (n+2) c').set (n+3) d').set (n+4) e')=xs++[a',b',c',d',e']:=by
 subst hn;simp[List.set_append]
theorem qdp{n:NT}{s vo:Value}{Ar:Option Addr}{cr g cap N:Nat}{vs:List Value}{V w3:World}(h:Rd l v w0 rb A i wants over rs G V)(hb:Box V rb RdT #[v,.int .i64 i,.bool wants,.bool over,.slice Ar N cr,vo])(hr:Rows w0 rb A rs G (.slice Ar N cr) vo vs V)(hN:N=rs.length)(hd:Hd n)(hk:nt.ql (fun b=>A b) V n.kids s)
   (hown:w3.ownsRow w0.heap.size qi 5 (.slice (some ⟨g,0,none⟩) (N+1) cap) (N+1) (vs++[.int .i64 0,.int .i64 0,.int .i64 0,.string ⟨#[]⟩,.slice none 0 0]))(hg:V.grownBy w3 (Value.slice Ar N cr).ownBlock)(hat:(Value.slice Ar N cr).ownBlock=some g∨g=V.heap.size):
   (Rd l v w0 rb A i wants over (rs++[n]) G ((qa4 w3 g (N*5) (.int .i64 n.kind) (.int .i64 n.at_) (.int .i64 n.num) (.string ⟨n.name.toArray⟩) s).setCell ⟨rb,4,none⟩ (.slice (some ⟨g,0,none⟩) (N+1) cap))∧
     qF A V ((qa4 w3 g (N*5) (.int .i64 n.kind) (.int .i64 n.at_) (.int .i64 n.num) (.string ⟨n.name.toArray⟩) s).setCell ⟨rb,4,none⟩ (.slice (some ⟨g,0,none⟩) (N+1) cap)))∧
   (w3.cell? ⟨rb,4,none⟩=some (.slice Ar N cr)∧w3.frozen? ⟨rb,4,none⟩=false∧w3.frozen? ⟨rb,2,none⟩=false∧w3.cell? ⟨rb,2,none⟩=some (.bool wants))∧¬g=rb∧
   (w3.cell? ⟨g,N*5,none⟩=some (.int .i64 0)∧w3.cell? ⟨g,N*5+1,none⟩=some (.int .i64 0)∧w3.cell? ⟨g,N*5+2,none⟩=some (.int .i64 0)∧w3.cell? ⟨g,N*5+3,none⟩=some (.string ⟨#[]⟩)∧w3.cell? ⟨g,N*5+4,none⟩=some (.slice none 0 0))∧∀k,w3.frozen? ⟨g,k,none⟩=false:=by
 have ht:Typ V RdT rb:=⟨_,_,hb⟩;have hat':(Value.slice Ar N cr).ownBlock=some g∨V.heap.size≤g:=hat.imp id fun h=>by omega
 have hb3:Box w3 rb RdT _:=hb.grown hg fun e=>(Typ.own hr.own e.symm).ne ht (by decide) rfl
 have hgrb:¬g=rb:=by
   rintro rfl;rcases hat' with e|e
   · exact(Typ.own hr.own e).ne ht (by decide) rfl
   · have:=hb.lt;omega
 have hlv:=hr.nods.len;have hlN:vs.length=N*5:=by rw[hlv,hN]
 have c0:=hown.cellAt (N*5) (by omega);have c1:=hown.cellAt (N*5+1) (by omega);have c2:=hown.cellAt (N*5+2) (by omega);have c3:=hown.cellAt (N*5+3) (by omega);have c4:=hown.cellAt (N*5+4) (by omega);rw[List.getElem?_append_right (by omega),show N*5-vs.length=0 by omega]at c0;rw[List.getElem?_append_right (by omega),show N*5+1-vs.length=1 by omega]at c1;rw[List.getElem?_append_right (by omega),show N*5+2-vs.length=2 by omega]at c2;rw[List.getElem?_append_right (by omega),show N*5+3-vs.length=3 by omega]at c3;rw[List.getElem?_append_right (by omega),show N*5+4-vs.length=4 by omega]at c4;have o5:=(((((hown.stored (N*5) (.int .i64 n.kind)).1.stored (N*5+1) (.int .i64 n.at_)).1.stored (N*5+2) (.int .i64 n.num)).1.stored (N*5+3) (.string ⟨n.name.toArray⟩)).1.stored (N*5+4) s).1;rw[qnI _ _ _ _ _ _ _ _ _ _ _ _ hlN]at o5;have g5:=vt.qW (i:=N*5+4) (vt.qW (i:=N*5+3) (vt.qW (i:=N*5+2) (vt.qW (i:=N*5+1) (vt.qW (i:=N*5) hg hat' (.int .i64 n.kind)) hat' (.int .i64 n.at_)) hat' (.int .i64 n.num)) hat' (.string ⟨n.name.toArray⟩)) hat' s;replace o5:(qa4 w3 g (N*5) (.int .i64 n.kind) (.int .i64 n.at_) (.int .i64 n.num) (.string ⟨n.name.toArray⟩) s).ownsRow w0.heap.size qi 5 (.slice (some ⟨g,0,none⟩) (N+1) cap) (N+1) (vs++[.int .i64 n.kind,.int .i64 n.at_,.int .i64 n.num,.string ⟨n.name.toArray⟩,s]):=o5;replace g5:V.grownBy (qa4 w3 g (N*5) (.int .i64 n.kind) (.int .i64 n.at_) (.int .i64 n.num) (.string ⟨n.name.toArray⟩) s) (Value.slice Ar N cr).ownBlock:=g5;obtain⟨W4,hW4⟩:=qc (qa4 w3 g (N*5) (.int .i64 n.kind) (.int .i64 n.at_) (.int .i64 n.num) (.string ⟨n.name.toArray⟩) s);rw[←hW4]at o5 g5 ⊢;clear hW4;have key:∀b o,b<V.heap.size→some b≠(Value.slice Ar N cr).ownBlock→W4.cell? ⟨b,o,none⟩=V.cell? ⟨b,o,none⟩:=fun b o h1 h2=>World.cell?_of_block (w:=V) (w':=W4) (a:=⟨b,o,none⟩) (g5.block b h1 h2);have hlen:(rs++[n]).length=N+1:=by rw[List.length_append,hN];rfl
 refine⟨Rd.setr (w1:=W4) (vr':=.slice (some ⟨g,0,none⟩) (N+1) cap) h hb hr g5 (fun k hk=>?_) (by rw[hlen];exact o5) ?_,⟨hb3.cell 4,hb3.frozen 4,hb3.frozen 2,hb3.cell 2⟩,hgrb,⟨c0,c1,c2,c3,c4⟩,fun k=>hown.frozenAt k⟩
 · have e:g=k:=by simpa [Value.ownBlock]using hk
   rw[←e];exact hat'
 · refine qI.append (hr.nods.carry fun b o u q hc=>?_) ?_
   · have hlt:b<V.heap.size:=World.block_lt_of_cell? _ _ hc;exact⟨⟨q,hlt⟩,(key b o hlt q.2.2.1).trans hc⟩
   · rw[qI];refine⟨s,[],rfl,hd,hk.carry fun b o u q hc=>?_,by rw[qI]⟩;have hlt:b<V.heap.size:=World.block_lt_of_cell? _ _ hc;have ha:=h.ap b q;have hb2:=hr.apr b q;exact⟨⟨⟨ha.1,ha.2.2,hb2.1,hb2.2⟩,hlt⟩,(key b o hlt hb2.1).trans hc⟩
theorem qcn(w:World){g rb:Nat}(h:¬g=rb)(o k:Nat)(a b c d e u:Value):(((((w.setCell ⟨rb,k,none⟩ u).setCell ⟨g,o,none⟩ a).setCell ⟨g,o+1,none⟩ b).setCell ⟨g,o+2,none⟩ c).setCell ⟨g,o+3,none⟩ d).setCell ⟨g,o+4,none⟩ e=(((((w.setCell ⟨g,o,none⟩ a).setCell ⟨g,o+1,none⟩ b).setCell ⟨g,o+2,none⟩ c).setCell ⟨g,o+3,none⟩ d).setCell ⟨g,o+4,none⟩ e).setCell ⟨rb,k,none⟩ u:=by
 have h':rb≠g:=fun e=>h e.symm;rw[qc6 w h',qc6 _ h',qc6 _ h',qc6 _ h',qc6 _ h']
theorem qbB(n:NT)(s:Value)(h:Rd l v w0 rb A i wants over rs G w)(hl:rs.length≤1048590)(hd:Hd n)(hk:nt.ql (fun b=>A b) w n.kids s):
   Calls Tryz.prog 161 #[.pointer (some ⟨rb,0,none⟩),.agg #[.int .i64 n.kind,.int .i64 n.at_,.int .i64 n.num,.string ⟨n.name.toArray⟩,s]] w (fun e w'=>e=.returned (.tuple #[])∧Rd l v w0 rb A i false over (rs++[n]) G w'∧qF A w w'):=by
 obtain⟨As,cs,rfl,_⟩:=hk.form;obtain⟨H,hH⟩:=qc w.heap.size;obtain⟨M,hM⟩:=qc n.kids.length;rw[←hM]at hk ⊢;obtain⟨W,hW⟩:=qc (w.alloc (.cells #[.int .i64 n.kind,.int .i64 n.at_,.int .i64 n.num,.string ⟨n.name.toArray⟩,.slice As M cs] qi));have bH:Box W H qi #[.int .i64 n.kind,.int .i64 n.at_,.int .i64 n.num,.string ⟨n.name.toArray⟩,.slice As M cs]:=by rw[hW];exact Box.new _ _ _ _ hH
 have hb:Below w.heap.size w W:=by rw[hW];exact qd.alloc qe _
 obtain⟨vr,vo,vs,⟨_,_,_,_,c4,_⟩,hf,hbx,hr⟩:=(h.on_ hb).cells;obtain⟨Ar,cr,rfl⟩:=qt hr.own;have f4:=hf 4;have f2:=hf 2;have y0:=bH.cell 0;have y1:=bH.cell 1;have y2:=bH.cell 2;have y3:=bH.cell 3;have y4:=bH.cell 4;simp only[qg]at y0 y1 y2 y3 y4;have HW:=qb hW;have HHH:=qb hH;have hrz:rb<W.heap.size:=hbx.lt;have hHz:H<W.heap.size:=bH.lt;have HA:=qb (h.on_ hb);have HBX:=qb hbx;have HRW:=qb hr;obtain⟨N,hN⟩:=qc rs.length;have HST:Hid (∀V w3 g cap,Below W.heap.size W V→w3.ownsRow w0.heap.size qi 5 (.slice (some ⟨g,0,none⟩) (N+1) cap) (N+1) (vs++[.int .i64 0,.int .i64 0,.int .i64 0,.string ⟨#[]⟩,.slice none 0 0])→V.grownBy w3 (Value.slice Ar N cr).ownBlock→((Value.slice Ar N cr).ownBlock=some g∨g=V.heap.size)→_):=qb (fun V w3 g cap hV h1 h2 h3=>have p:=qdp (wants:=wants) (N:=N) ((h.on_ hb).on_ hV) (by rw[hN];exact hbx.on hV) (by rw[hN];exact⟨qv hr.own hV,hr.nods.below hV,qv hr.opn hV,hr.apr⟩) hN hd ((hk.below hb).below hV) h1 h2 h3;And.intro (And.intro p.1.1 ((h.keep hb).trans (((h.on_ hb).keep hV).trans p.1.2))) p.2);have HO:Hid (W.ownsRow w0.heap.size qi 5 (.slice Ar N cr) N vs):=qb (by rw[hN];exact hr.own);have HBz:Hid (w0.heap.size≤W.heap.size):=qb (Nat.le_trans h.low.size hb.size);have HKW:=qb (h.keep hb);obtain⟨i0,hi,hz0,hz1,hz2⟩:=info_parts qcX;have h1c:Hid (∀u∈[Value.int .i64 0,.int .i64 0,.int .i64 0,.string ⟨#[]⟩,.slice none 0 0],u.oneCell'=true):=qb (by intro u hu;simp at hu;rcases hu with rfl|rfl|rfl<;>rfl);rw[←hN]at c4 hl;have hN0:(0:Int)≤N:=by omega
 have hN1:(N:Int)<N+1:=by omega
 have HD:=qb hd;clear hW hH bH hb hbx hr hf h hN hk hd hM;go_enter Tryz.func161,Tryz.ntmps161
 go_wp2_with (first|(rw[←HW.out,←HHH.out]))
 go_region_law (first
   |(refine step_append_lies _ (by rfl) (.tmp 7) (.tmp 10) 27 (by rfl) w0.heap.size qi i0 (.agg #[.int .i64 0,.int .i64 0,.int .i64 0,.string ⟨#[]⟩,.slice none 0 0]) 5 64 Tryz.underlying27 hi hz0 hz1 hz2 (by rfl) (by decide) (.slice Ar N cr) N vs (by rfl) (HO.out.alloc _) ⟨W.heap.size,0,none⟩ 1 1 [.int .i64 0,.int .i64 0,.int .i64 0,.string ⟨#[]⟩,.slice none 0 0] (by rfl) (by rfl) (World.news_of_block (heap_alloc_new W _)) h1c.out (by decide) (by unfold maxLen;omega) (by omega) (by simp;have:=HBz.out;omega) (W.heap.size+1) (by simp) ?_;intro g cap w3 hown hgrow hat hlt;obtain⟨p1,⟨p2,p3,p4,p5⟩,p6,⟨q0,q1,q2,q3,q4⟩,p10⟩:=HST.out _ w3 g cap (((Below.refl W.heap.size W).alloc qe _).drew) hown hgrow (hat.imp id fun h=>by rw[h];simp);have HP1:=qb p1;have x0:=p10 (N*5);have x1:=p10 (N*5+1);have x2:=p10 (N*5+2);have x3:=p10 (N*5+3);have x4:=p10 (N*5+4);have p7:¬rb=g:=(fun e=>p6 e.symm);have P6:=qb p6;clear p1 p10 hown hgrow hat))
 all_goals
   go_wp2_with fail;go_end0;try rw[qcn _ P6.out]
   exact⟨rfl,HP1.out.1.setw false,HP1.out.2.set HA.out.not⟩
end Go.Proofs.YtdndfifkfjoffaaGreatDoor.pm.em

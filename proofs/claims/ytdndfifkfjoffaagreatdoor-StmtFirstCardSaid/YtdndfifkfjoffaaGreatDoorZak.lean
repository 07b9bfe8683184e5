/- The package's reader of statements in memory: its tokens, what is begun, what ended last. (and what it stands on) -/
import Derived.Test.YtdndfifkfjoffaaGreatDoorZah
import Derived.Test.YtdndfifkfjoffaaGreatDoorZaj
import Derived.Deep.RegionHeld
import Derived.Deep.AppendLies
import Derived.Test.YtdndfifkfjoffaaGreatDoorZag
import Derived.Test.YtdndfifkfjoffaaGreatDoorZaa
set_option maxRecDepth 100000
set_option maxHeartbeats 4000000
namespace Go.Proofs.YtdndfifkfjoffaaGreatDoor.pm
open Go.RowKit wd lx nt ne mem
open vt (I64)
theorem qhY{l:List Tk}{v:Value}{i kk aa:Int}{w:World}(hs:Src l v w)(h0:-9223372036854775808≤i){j:Int}(h1:i<l.length)(hk:(qh l i).kind=1)(ih:∀w',Src l v w'→Calls Tryz.prog 80 #[v,.int .i64 (i+1)] w' (qoF (.no j) w')):
   Calls Tryz.prog 166 #[v,.int .i64 i,.int .i64 kk,.int .i64 aa] w (qn9 (.no j) w):=by
 obtain⟨P,hP⟩:=qc (qn9 (.no j) w);rw[←hP];have HP:=qb hP;clear hP;have IH:=qb ih;clear ih;have HSRC:=qb hs;have hF:=hs.fair i;obtain⟨R,hR⟩:=qc w.heap.size;obtain⟨W,hW⟩:=qc (w.alloc (.cells #[.int .i64 0,.int .i64 0,.int .i64 0,.string ⟨#[]⟩,.slice none 0 0] qi));have hbW:Below w.heap.size w W:=by rw[hW];exact qd.alloc qe _
 have HBX:Hid (Box W R qi #[.int .i64 0,.int .i64 0,.int .i64 0,.string ⟨#[]⟩,.slice none 0 0]):=qb (by rw[hW];exact Box.new _ _ _ _ hR);have HC:=qb (qmv l v i W _ (hs.on hbW).lies hs.len (by unfold I64;have:=hs.len;omega));unfold qjt at HC;obtain⟨t,ht⟩:=qc (qh l i);rw[←ht]at HC hF hk;obtain⟨k,a,n,s⟩:=t;simp only[tkA]at HC hF hk;have HF:=qb hF;have HT0:=qb ht;have HW:=qb hW;have HRR:=qb hR;have HBW:=qb hbW;have hL:=hs.len;clear hW hR hbW hs hF ht;go_enter Tryz.func166,Tryz.ntmps166
 go_wp2_with (first|(rw[←HW.out,←HRR.out]));refine HC.out.mono ?_;rintro e w1 ⟨rfl,hb1⟩;obtain⟨T,hT⟩:=qc w1.heap.size;obtain⟨W1,hW1⟩:=qc (w1.alloc (.cells #[.int .i64 0,.int .i64 0,.int .i64 0,.string ⟨#[]⟩] TkT));have hRT:R<T:=by have:=HBX.out.lt;have:=hb1.size;omega
 have hB1:Below w.heap.size w W1:=by rw[hW1];exact(HBW.out.trans (hb1.mono HBW.out.size)).alloc (Nat.le_trans HBW.out.size hb1.size) _
 have bT:Box W1 T TkT #[.int .i64 0,.int .i64 0,.int .i64 0,.string ⟨#[]⟩]:=by rw[hW1];exact Box.new _ _ _ _ hT
 have bR:Box W1 R qi #[.int .i64 0,.int .i64 0,.int .i64 0,.string ⟨#[]⟩,.slice none 0 0]:=by rw[hW1];exact(HBX.out.on hb1).alloc _
 have hwT:w.heap.size≤T:=by have:=HRR.out;omega
 have HZT:=qb (qN bT (.int .i64 k) (.int .i64 a) (.int .i64 n) (.string ⟨s.toArray⟩));have HZR:Hid (Box ((((W1.setCell ⟨T,0,none⟩ (.int .i64 k)).setCell ⟨T,1,none⟩ (.int .i64 a)).setCell ⟨T,2,none⟩ (.int .i64 n)).setCell ⟨T,3,none⟩ (.string ⟨s.toArray⟩)) R qi #[.int .i64 0,.int .i64 0,.int .i64 0,.string ⟨#[]⟩,.slice none 0 0]):=qb ((((bR.far (by show R≠T;omega) _).far (by show R≠T;omega) _).far (by show R≠T;omega) _).far (by show R≠T;omega) _);have HZB:=qb (qG hB1 hwT (.int .i64 k) (.int .i64 a) (.int .i64 n) (.string ⟨s.toArray⟩));have f0:=bT.frozen 0;have f1:=bT.frozen 1;have f2:=bT.frozen 2;have f3:=bT.frozen 3;have y0:=bT.cell 0;have y1:=bT.cell 1;have y2:=bT.cell 2;have y3:=bT.cell 3;simp only[qg]at y0 y1 y2 y3;have HW1:=qb hW1;have HTT:=qb hT;have HRT:=qb hRT;have HWT:=qb hwT;clear hT hW1 hRT hB1 bT hb1 hwT HC;subst hk;go_wp2_with (first|(rw[←HW1.out,←HTT.out]));obtain⟨Z,hZ⟩:=qc ((((W1.setCell ⟨T,0,none⟩ (.int .i64 1)).setCell ⟨T,1,none⟩ (.int .i64 a)).setCell ⟨T,2,none⟩ (.int .i64 n)).setCell ⟨T,3,none⟩ (.string ⟨s.toArray⟩));rw[←hZ]at HZT HZR HZB ⊢
 have HM:Hid (∀w',Below (T+1) Z w'→Box w' R qi #[.int .i64 0,.int .i64 0,.int .i64 0,.string ⟨#[]⟩,.slice none 0 0]∧Box w' T TkT #[.int .i64 1,.int .i64 a,.int .i64 n,.string ⟨s.toArray⟩]∧Src l v w'∧T+1≤w'.heap.size∧Below w.heap.size w w'):=qb (fun w' hb=>by
   have hRT:=HRT.out;have hWT:=HWT.out;have q1:=HZR.out.below hb (by omega);have q2:=HZT.out.below hb (by omega);have q3:Below w.heap.size w w':=HZB.out.trans (hb.mono (by omega));exact⟨q1,q2,HSRC.out.on q3,q2.lt,q3⟩)
 have HB:Hid (Below (T+1) Z Z):=qb qd;clear f0 f1 f2 f3 y0 y1 y2 y3 hZ bR;refine(IH.out _ (HM.out _ HB.out).2.2.1).mono ?_;rintro e w7 ⟨rfl,hb7⟩;have HB7:=qb (HB.out.trans (hb7.mono (HM.out _ HB.out).2.2.2.1));have bR:=(HM.out _ HB7.out).1;have HE:=qb (qoo (j:=j) HRR.out bR (HM.out _ HB7.out).2.2.2.2);have r0:=bR.cell 0;have r1:=bR.cell 1;have r2:=bR.cell 2;have r3:=bR.cell 3;have r4:=bR.cell 4;have g0:=bR.frozen 0;have g1:=bR.frozen 1;have g2:=bR.frozen 2;have g3:=bR.frozen 3;have g4:=bR.frozen 4;simp only[qg]at r0 r1 r2 r3 r4;clear bR hb7;go_wp2_with fail;refine bodyPost_ret (qaK rfl rfl rfl rfl HE.out.1) rfl ?_;rw[HP.out];exact HE.out.2
end Go.Proofs.YtdndfifkfjoffaaGreatDoor.pm
namespace Go.Proofs.YtdndfifkfjoffaaGreatDoor.pm.em
open Go.RowKit wd lx nt ne pm mem
open vt (I64 qft qt qv qZ qee Typ)
abbrev RdT:TypeId:=117
abbrev BgT:TypeId:=136
def cnt:List Frm→Nat
 |[]=>0
 |f::G=>cnt G+f.kids.length
def rdL:List Frm→List NT
 |[]=>[]
 |f::G=>rdL G++f.kids
theorem qaU:∀G:List Frm,(rdL G).length=cnt G
 |[]=>rfl
 |f::G=>by rw[rdL,cnt,List.length_append,qaU G]
def Frm.first(G:List Frm):Frm→Nat
 |.brk=>0
 |_=>cnt G
abbrev qdM(G:List Frm)(f:Frm):List Value:=[.int .i64 f.node.kind,.int .i64 f.node.at_,.int .i64 f.node.num,.string ⟨f.node.name.toArray⟩,.slice none 0 0,.int .i64 (f.first G:Int),.int .i64 f.bind,.string ⟨f.shut.toArray⟩,.bool f.many]
def qag:List Frm→List Value
 |[]=>[]
 |f::G=>qag G++qdM G f
theorem qaY:∀G:List Frm,(qag G).length=G.length*9
 |[]=>rfl
 |f::G=>by rw[qag,List.length_append,qaY G,List.length_cons];simp;omega
structure Env(l:List Tk)(v:Value)(w0:World):Prop where
 src:Src l v w0
 good:qm2 l
 txt:∀i,(qh l i).text.length≤1048576
 ld:wd.LD w0
def KP(w0:World)(rb:Nat)(vr vo:Value)(b:Nat):Prop:=w0.heap.size≤b∧b≠rb∧some b≠vr.ownBlock∧some b≠vo.ownBlock
structure Rows(w0:World)(rb:Nat)(A:Nat→Prop)(rs:List NT)(G:List Frm)(vr vo:Value)(vs:List Value)(w:World):Prop where
 own:w.ownsRow w0.heap.size qi 5 vr rs.length vs
 nods:qI (KP w0 rb vr vo) w rs vs
 opn:w.ownsRow w0.heap.size BgT 9 vo G.length (qag G)
 apr:∀b,A b→some b≠vr.ownBlock∧some b≠vo.ownBlock
structure Rd(l:List Tk)(v:Value)(w0:World)(rb:Nat)(A:Nat→Prop)(i:Int)(wants over:Bool)(rs:List NT)(G:List Frm)(w:World):Prop where
 env:Env l v w0
 low:Below w0.heap.size w0 w
 hB:w0.heap.size≤rb
 ap:∀b,A b→w0.heap.size≤b∧b<w.heap.size∧b≠rb
 fit:∀f∈G,Hd f.node
 num:I64 i
 ex:∃vr vo vs,Box w rb RdT #[v,.int .i64 i,.bool wants,.bool over,vr,vo]∧Rows w0 rb A rs G vr vo vs w
variable{l:List Tk}{v:Value}{w0:World}{rb:Nat}{A A':Nat→Prop}{i j:Int}{wants over:Bool}{rs:List NT}{G:List Frm}{w w':World}
theorem Rd.lt(h:Rd l v w0 rb A i wants over rs G w):rb<w.heap.size:=by obtain⟨vr,vo,vs,hb,_⟩:=h.ex;exact hb.lt
theorem Rd.mono(h:Rd l v w0 rb A i wants over rs G w)(hA:∀b,A' b→A b):Rd l v w0 rb A' i wants over rs G w:=by
 obtain⟨vr,vo,vs,hb,hr⟩:=h.ex;exact⟨h.env,h.low,h.hB,fun b q=>h.ap b (hA b q),h.fit,h.num,vr,vo,vs,hb,hr.own,hr.nods,hr.opn,fun b q=>hr.apr b (hA b q)⟩
def Up(A:Nat→Prop)(w w':World)(b:Nat):Prop:=A b∨(w.heap.size≤b∧b<w'.heap.size)
theorem Rd.on(h:Rd l v w0 rb A i wants over rs G w)(hb:Below w.heap.size w w'):Rd l v w0 rb (Up A w w') i wants over rs G w':=by
 obtain⟨vr,vo,vs,hbx,hr⟩:=h.ex;have hlt:=h.low.size;refine⟨h.env,h.low.trans (hb.mono hlt),h.hB,fun b q=>?_,h.fit,h.num,vr,vo,vs,hbx.on hb,qv hr.own hb,hr.nods.below hb,qv hr.opn hb,fun b q=>?_⟩
 · rcases q with q|q
   · have:=h.ap b q;have:=hb.size;omega
   · have:=hbx.lt;omega
 · rcases q with q|q
   · exact hr.apr b q
   · exact⟨fun e=>by have:=(hr.own.lt b e.symm).2;omega,fun e=>by have:=(hr.opn.lt b e.symm).2;omega⟩
theorem Rd.on_(h:Rd l v w0 rb A i wants over rs G w)(hb:Below w.heap.size w w'):Rd l v w0 rb A i wants over rs G w':=(h.on hb).mono fun _ q=>Or.inl q
theorem qc2{vr vo x:Value}{vs:List Value}{cs:Array Value}{k:Nat}(hB:w0.heap.size≤rb)(hbx:Box w rb RdT cs)(hr:Rows w0 rb A rs G vr vo vs w):Rows w0 rb A rs G vr vo vs (w.setCell ⟨rb,k,none⟩ x):=by
 have ht:Typ w RdT rb:=⟨_,_,hbx⟩;refine⟨?_,hr.nods.keep fun b o hb _=>?_,?_,hr.apr⟩
 · exact qZ hr.own fun k hk=>qee _ _ _ _ _ ((Typ.own hr.own hk).ne ht (by decide))
 · exact World.cell?_of_block (Below.heap_setCell w ⟨rb,k,none⟩ x b hb.2.1)
 · exact qZ hr.opn fun k hk=>qee _ _ _ _ _ ((Typ.own hr.opn hk).ne ht (by decide))
theorem Rd.seti(h:Rd l v w0 rb A i wants over rs G w)(hj:I64 j):Rd l v w0 rb A j wants over rs G (w.setCell ⟨rb,1,none⟩ (.int .i64 j)):=by
 obtain⟨vr,vo,vs,hb,hr⟩:=h.ex;exact⟨h.env,h.low.setCell (p:=⟨rb,1,none⟩) h.hB _,h.hB,fun b q=>by simpa [World.setCell]using h.ap b q,h.fit,hj,vr,vo,vs,hb.set 1 _,qc2 h.hB hb hr⟩
theorem Rd.setw(h:Rd l v w0 rb A i wants over rs G w)(b:Bool):Rd l v w0 rb A i b over rs G (w.setCell ⟨rb,2,none⟩ (.bool b)):=by
 obtain⟨vr,vo,vs,hb,hr⟩:=h.ex;exact⟨h.env,h.low.setCell (p:=⟨rb,2,none⟩) h.hB _,h.hB,fun b q=>by simpa [World.setCell]using h.ap b q,h.fit,h.num,vr,vo,vs,hb.set 2 _,qc2 h.hB hb hr⟩
theorem Rd.seto(h:Rd l v w0 rb A i wants over rs G w)(b:Bool):Rd l v w0 rb A i wants b rs G (w.setCell ⟨rb,3,none⟩ (.bool b)):=by
 obtain⟨vr,vo,vs,hb,hr⟩:=h.ex;exact⟨h.env,h.low.setCell (p:=⟨rb,3,none⟩) h.hB _,h.hB,fun b q=>by simpa [World.setCell]using h.ap b q,h.fit,h.num,vr,vo,vs,hb.set 3 _,qc2 h.hB hb hr⟩
def qF(A:Nat→Prop)(w w':World):Prop:=∀b,A b→w'.heap[b]?=w.heap[b]?
theorem qF.refl(A:Nat→Prop)(w:World):qF A w w:=fun _ _=>rfl
theorem qF.trans{w2:World}(h:qF A w w')(h2:qF A w' w2):qF A w w2:=fun b hb=>(h2 b hb).trans (h b hb)
theorem qF.set{k:Nat}{x:Value}(h:qF A w w')(hA:¬A rb):qF A w (w'.setCell ⟨rb,k,none⟩ x):=fun b hb=>(Below.heap_setCell w' ⟨rb,k,none⟩ x b (fun e=>hA (by have e2:b=rb:=e;rw[←e2];exact hb))).trans (h b hb)
theorem Rd.keep(h:Rd l v w0 rb A i wants over rs G w)(hb:Below w.heap.size w w'):qF A w w':=fun b q=>hb.block b (h.ap b q).2.1
theorem Rd.not(h:Rd l v w0 rb A i wants over rs G w):¬A rb:=fun q=>(h.ap rb q).2.2 rfl
theorem Rd.setr{w1:World}{vr vo vr':Value}{vs vs':List Value}{rs':List NT}(h:Rd l v w0 rb A i wants over rs G w)(hb:Box w rb RdT #[v,.int .i64 i,.bool wants,.bool over,vr,vo])(hr:Rows w0 rb A rs G vr vo vs w)
   (hg:w.grownBy w1 vr.ownBlock)(hat:∀k,vr'.ownBlock=some k→vr.ownBlock=some k∨w.heap.size≤k)(ho:w1.ownsRow w0.heap.size qi 5 vr' rs'.length vs')(hv:qI (fun b=>KP w0 rb vr vo b∧b<w.heap.size) w1 rs' vs'):
   Rd l v w0 rb A i wants over rs' G (w1.setCell ⟨rb,4,none⟩ vr')∧qF A w (w1.setCell ⟨rb,4,none⟩ vr'):=by
 have ht:Typ w RdT rb:=⟨_,_,hb⟩;have hb1:Box w1 rb RdT _:=hb.grown hg fun e=>(Typ.own hr.own e.symm).ne ht (by decide) rfl;have ht1:Typ w1 RdT rb:=⟨_,_,hb1⟩;have hkeep:qF A w w1:=fun b q=>hg.block b (h.ap b q).2.1 (hr.apr b q).1;have hbw:Below w0.heap.size w0 w1:=h.low.grown hg h.low.size fun k hk=>(hr.own.lt k hk).1;have hopn:w1.ownsRow w0.heap.size BgT 9 vo G.length (qag G):=qZ hr.opn fun k hk=>hg.block k (Typ.own hr.opn hk).lt fun e=>(Typ.own hr.opn hk).ne (Typ.own hr.own e.symm) (by decide) rfl
 have hv2:qI (KP w0 rb vr' vo) w1 rs' vs':=hv.mono fun b q=>⟨q.1.1,q.1.2.1,fun e=>by
   rcases hat b e.symm with e2|e2
   · exact q.1.2.2.1 e2.symm
   · omega,q.1.2.2.2⟩
 have hr1:Rows w0 rb A rs' G vr' vo vs' w1:=⟨ho,hv2,hopn,fun b q=>⟨fun e=>?_,(hr.apr b q).2⟩⟩
 · refine⟨⟨h.env,hbw.setCell (p:=⟨rb,4,none⟩) h.hB _,h.hB,fun b q=>?_,h.fit,h.num,vr',vo,vs',hb1.set 4 _,qc2 h.hB hb1 hr1⟩,hkeep.set h.not⟩;have h1:=h.ap b q;have h2:=hg.size;have h3:(w1.setCell ⟨rb,4,none⟩ vr').heap.size=w1.heap.size:=by simp[World.setCell]
   rw[h3];omega
 · rcases hat b e.symm with e2|e2
   · exact(hr.apr b q).1 e2.symm
   · have:=(h.ap b q).2.1;omega
theorem Rd.setb{w1:World}{vr vo vo':Value}{vs:List Value}{G':List Frm}(h:Rd l v w0 rb A i wants over rs G w)(hb:Box w rb RdT #[v,.int .i64 i,.bool wants,.bool over,vr,vo])(hr:Rows w0 rb A rs G vr vo vs w)
   (hg:w.grownBy w1 vo.ownBlock)(hn:∀k,vo'.ownBlock=some k→vo.ownBlock=some k∨w.heap.size≤k)(ho:w1.ownsRow w0.heap.size BgT 9 vo' G'.length (qag G'))(hfit:∀f∈G',Hd f.node):
   Rd l v w0 rb A i wants over rs G' (w1.setCell ⟨rb,5,none⟩ vo')∧qF A w (w1.setCell ⟨rb,5,none⟩ vo'):=by
 have ht:Typ w RdT rb:=⟨_,_,hb⟩;have hb1:Box w1 rb RdT _:=hb.grown hg fun e=>(Typ.own hr.opn e.symm).ne ht (by decide) rfl;have hkeep:qF A w w1:=fun b q=>hg.block b (h.ap b q).2.1 (hr.apr b q).2;have hbw:Below w0.heap.size w0 w1:=h.low.grown hg h.low.size fun k hk=>(hr.opn.lt k hk).1;have hown:w1.ownsRow w0.heap.size qi 5 vr rs.length vs:=qZ hr.own fun k hk=>hg.block k (Typ.own hr.own hk).lt fun e=>(Typ.own hr.own hk).ne (Typ.own hr.opn e.symm) (by decide) rfl
 have hv2:qI (KP w0 rb vr vo') w1 rs vs:=by
   refine hr.nods.carry fun b o u q hc=>?_;have hlt:b<w.heap.size:=World.block_lt_of_cell? _ _ hc;refine⟨⟨q.1,q.2.1,q.2.2.1,fun e=>?_⟩,(World.cell?_of_block (hg.block b hlt q.2.2.2)).trans hc⟩;rcases hn b e.symm with e2|e2
   · exact q.2.2.2 e2.symm
   · omega
 have hr1:Rows w0 rb A rs G' vr vo' vs w1:=⟨hown,hv2,ho,fun b q=>⟨(hr.apr b q).1,fun e=>?_⟩⟩
 · refine⟨⟨h.env,hbw.setCell (p:=⟨rb,5,none⟩) h.hB _,h.hB,fun b q=>?_,hfit,h.num,vr,vo',vs,hb1.set 5 _,qc2 h.hB hb1 hr1⟩,hkeep.set h.not⟩;have h1:=h.ap b q;have h2:=hg.size;have h3:(w1.setCell ⟨rb,5,none⟩ vo').heap.size=w1.heap.size:=by simp[World.setCell]
   rw[h3];omega
 · rcases hn b e.symm with e2|e2
   · exact(hr.apr b q).2 e2.symm
   · have:=(h.ap b q).2.1;omega
theorem Rd.cells(h:Rd l v w0 rb A i wants over rs G w):∃vr vo vs,(w.cell? ⟨rb,0,none⟩=some v∧w.cell? ⟨rb,1,none⟩=some (.int .i64 i)∧w.cell? ⟨rb,2,none⟩=some (.bool wants)∧w.cell? ⟨rb,3,none⟩=some (.bool over)∧w.cell? ⟨rb,4,none⟩=some vr∧w.cell? ⟨rb,5,none⟩=some vo)∧(∀k,w.frozen? ⟨rb,k,none⟩=false)∧Box w rb RdT #[v,.int .i64 i,.bool wants,.bool over,vr,vo]∧Rows w0 rb A rs G vr vo vs w:=by
 obtain⟨vr,vo,vs,hb,hr⟩:=h.ex;exact⟨vr,vo,vs,⟨hb.cell 0,hb.cell 1,hb.cell 2,hb.cell 3,hb.cell 4,hb.cell 5⟩,hb.frozen,hb,hr⟩
theorem Rd.srcw(h:Rd l v w0 rb A i wants over rs G w):Src l v w:=h.env.src.on h.low
theorem Rd.ldw(h:Rd l v w0 rb A i wants over rs G w):wd.LD w:=h.env.ld.on h.low
end Go.Proofs.YtdndfifkfjoffaaGreatDoor.pm.em
namespace Go.Proofs.YtdndfifkfjoffaaGreatDoor.pm.sx
open Go.RowKit wd lx nt ne pm mem
open vt (I64 qft qt qv qZ qee Typ)
abbrev RdT:TypeId:=57
abbrev qhZ(n:NT)(s:Value):List Value:=[.int .i64 n.kind,.int .i64 n.at_,.int .i64 n.num,.string ⟨n.name.toArray⟩,s]
def qag:List NT→List Value→List Value
 |f::G,s::ss=>qag G ss++qhZ f s
 |_,_=>[]
def KP(w0:World)(rb:Nat)(A:Nat→Prop)(vo:Value)(ss:List Value)(b:Nat):Prop:=w0.heap.size≤b∧¬A b∧b≠rb∧vo.ownBlock≠some b∧∀s∈ss,s.ownBlock≠some b
def Frs(B:Nat)(P:Nat→Prop)(w:World):List NT→List Value→Prop
 |[],ss=>ss=[]
 |f::G,ss=>∃s rest xs,ss=s::rest∧w.ownsRow B qi 5 s f.kids.length xs∧qI P w f.kids xs∧Hd f∧(∀k,s.ownBlock=some k→∀s'∈rest,s'.ownBlock≠some k)∧Frs B P w G rest
theorem Frs.len{B:Nat}{P:Nat→Prop}{w:World}:∀{G:List NT} {ss:List Value},Frs B P w G ss→ss.length=G.length
 |[],ss,h=>by rw[Frs]at h;subst h;rfl
 |f::G,ss,h=>by
   rw[Frs]at h;obtain⟨s,rest,xs,rfl,_,_,_,_,hr⟩:=h;rw[List.length_cons,List.length_cons,hr.len]
theorem Frs.carry{B:Nat}{P P':Nat→Prop}{w w':World}:∀{G:List NT} {ss:List Value},Frs B P w G ss→(∀b o u,P b→w.cell? ⟨b,o,none⟩=some u→P' b∧w'.cell? ⟨b,o,none⟩=some u)→(∀s∈ss,∀k,s.ownBlock=some k→k<w.heap.size→w'.heap[k]?=w.heap[k]?)→Frs B P' w' G ss
 |[],ss,h,_,_=>by rw[Frs]at h ⊢;exact h
 |f::G,ss,h,hc,hr=>by
   rw[Frs]at h ⊢;obtain⟨s,rest,xs,rfl,h1,h2,h3,h4,h5⟩:=h;exact⟨s,rest,xs,rfl,qZ h1 fun k hk=>hr s (List.mem_cons_self ..) k hk (h1.lt k hk).2,h2.carry hc,h3,h4,h5.carry hc fun s' hs'=>hr s' (List.mem_cons_of_mem _ hs')⟩
theorem Frs.rows{B:Nat}{P:Nat→Prop}{w:World}:∀{G:List NT} {ss:List Value},Frs B P w G ss→∀s∈ss,∀k,s.ownBlock=some k→B≤k∧Typ w qi k
 |[],ss,h,s,hs,k,hk=>by rw[Frs]at h;subst h;cases hs
 |f::G,ss,h,s,hs,k,hk=>by
   rw[Frs]at h;obtain⟨s',rest,xs,rfl,h1,h2,h3,h4,h5⟩:=h;rcases List.mem_cons.1 hs with rfl|hs
   · exact⟨(h1.lt k hk).1,Typ.own h1 hk⟩
   · exact h5.rows s hs k hk
theorem qaY{B:Nat}{P:Nat→Prop}{w:World}:∀{G:List NT} {ss:List Value},Frs B P w G ss→(qag G ss).length=G.length*5
 |[],ss,h=>by rw[Frs]at h;subst h;rfl
 |f::G,ss,h=>by
   rw[Frs]at h;obtain⟨s',rest,xs,rfl,h1,h2,h3,h4,h5⟩:=h;rw[qag,List.length_append,qaY h5,List.length_cons];simp;omega
abbrev rdC(v:Value)(i:Int)(vo a b c d e:Value):Array Value:=#[v,.int .i64 i,vo,a,b,c,d,e]
def Up(A:Nat→Prop)(w w':World)(b:Nat):Prop:=A b∨(w.heap.size≤b∧b<w'.heap.size)
structure RdX(l:List Tk)(v:Value)(w0:World)(rb:Nat)(A:Nat→Prop)(i:Int)(G:List NT)(z:Option NT)(vo:Value)(ss:List Value)(w:World):Prop where
 env:em.Env l v w0
 low:Below w0.heap.size w0 w
 hB:w0.heap.size≤rb
 num:I64 i
 ap:∀b,A b→w0.heap.size≤b∧b<w.heap.size∧b≠rb∧vo.ownBlock≠some b∧∀s∈ss,s.ownBlock≠some b
 opn:w.ownsRow w0.heap.size qi 5 vo G.length (qag G ss)
 frs:Frs w0.heap.size (KP w0 rb A vo ss) w G ss
 sep:∀s∈ss,∀k,s.ownBlock=some k→vo.ownBlock≠some k
 box:∃(n:NT) (Al:Option Addr) (kl cl:Nat),Box w rb RdT (rdC v i vo (.int .i64 n.kind) (.int .i64 n.at_) (.int .i64 n.num) (.string ⟨n.name.toArray⟩) (.slice Al kl cl))∧∀m,z=some m→m=n∧nt.ql (KP w0 rb A vo ss) w n.kids (.slice Al kl cl)∧Hd n
def Rd(l:List Tk)(v:Value)(w0:World)(rb:Nat)(A:Nat→Prop)(i:Int)(G:List NT)(z:Option NT)(w:World):Prop:=∃vo ss,RdX l v w0 rb A i G z vo ss w
variable{l:List Tk}{v:Value}{w0:World}{rb:Nat}{A A':Nat→Prop}{i j:Int}{G:List NT}{z:Option NT}{vo:Value}{ss:List Value}{w w':World}
theorem RdX.lt(h:RdX l v w0 rb A i G z vo ss w):rb<w.heap.size:=by obtain⟨n,Al,kl,cl,hb,_⟩:=h.box;exact hb.lt
theorem Rd.lt(h:Rd l v w0 rb A i G z w):rb<w.heap.size:=by obtain⟨_,_,h⟩:=h;exact h.lt
theorem RdX.typ(h:RdX l v w0 rb A i G z vo ss w):Typ w RdT rb:=by obtain⟨n,Al,kl,cl,hb,_⟩:=h.box;exact⟨_,_,hb⟩
theorem RdX.not(h:RdX l v w0 rb A i G z vo ss w):¬A rb:=fun q=>(h.ap rb q).2.2.1 rfl
theorem RdX.mono(h:RdX l v w0 rb A i G z vo ss w)(hA:∀b,A' b→A b):RdX l v w0 rb A' i G z vo ss w:=by
 have hk:∀b,KP w0 rb A vo ss b→KP w0 rb A' vo ss b:=fun b q=>⟨q.1,fun e=>q.2.1 (hA b e),q.2.2⟩;refine⟨h.env,h.low,h.hB,h.num,fun b q=>h.ap b (hA b q),h.opn,h.frs.carry (fun b o u q hc=>⟨hk b q,hc⟩) (fun _ _ _ _ _=>rfl),h.sep,?_⟩;obtain⟨n,Al,kl,cl,hb,hz⟩:=h.box;exact⟨n,Al,kl,cl,hb,fun m hm=>by obtain⟨h1,h2,h3⟩:=hz m hm;exact⟨h1,h2.mono hk,h3⟩⟩
theorem Rd.mono(h:Rd l v w0 rb A i G z w)(hA:∀b,A' b→A b):Rd l v w0 rb A' i G z w:=by obtain⟨vo,ss,h⟩:=h;exact⟨vo,ss,h.mono hA⟩
theorem RdX.next(h:RdX l v w0 rb A i G z vo ss w)(hk:∀k,k<w.heap.size→¬A k→k≠rb→w'.heap[k]?=w.heap[k]?)(low:Below w0.heap.size w0 w')(hs:w.heap.size≤w'.heap.size)(hj:I64 j)
   (hb:∀a b c d e f,Box w rb RdT (rdC v i a b c d e f)→Box w' rb RdT (rdC v j a b c d e f)):RdX l v w0 rb (Up A w w') j G z vo ss w':=by
 have ho:∀k,vo.ownBlock=some k→k<w.heap.size∧¬A k∧k≠rb:=fun k e=>⟨(h.opn.lt k e).2,fun q=>(h.ap k q).2.2.2.1 e,(Typ.own h.opn e).ne h.typ (by decide)⟩;have hss:∀s∈ss,∀k,s.ownBlock=some k→k<w.heap.size∧¬A k∧k≠rb:=fun s hs k e=>⟨(h.frs.rows s hs k e).2.lt,fun q=>(h.ap k q).2.2.2.2 s hs e,(h.frs.rows s hs k e).2.ne h.typ (by decide)⟩
 have hc:∀b o u,KP w0 rb A vo ss b→w.cell? ⟨b,o,none⟩=some u→KP w0 rb (Up A w w') vo ss b∧w'.cell? ⟨b,o,none⟩=some u:=fun b o u q hc=>by
   have hlt:b<w.heap.size:=World.block_lt_of_cell? _ _ hc;exact⟨⟨q.1,fun e=>e.elim q.2.1 fun e=>by omega,q.2.2⟩,(World.cell?_of_block (w:=w) (w':=w') (a:=⟨b,o,none⟩) (hk b hlt q.2.1 q.2.2.1)).trans hc⟩
 refine⟨h.env,low,h.hB,hj,fun b q=>?_,qZ h.opn fun k e=>hk k (ho k e).1 (ho k e).2.1 (ho k e).2.2,h.frs.carry hc (fun s hs k e hlt=>hk k hlt (hss s hs k e).2.1 (hss s hs k e).2.2),h.sep,?_⟩
 · rcases q with q|q
   · have:=h.ap b q;exact⟨this.1,by omega,this.2.2⟩
   · have h1:=h.lt;have h2:=h.low.size;exact⟨by omega,q.2,by omega,fun e=>by have:=(ho b e).1;omega,fun s hs e=>by have:=(hss s hs b e).1;omega⟩
 · obtain⟨n,Al,kl,cl,hbx,hz⟩:=h.box;exact⟨n,Al,kl,cl,hb _ _ _ _ _ _ hbx,fun m hm=>by obtain⟨h1,h2,h3⟩:=hz m hm;exact⟨h1,h2.carry hc,h3⟩⟩
theorem Rd.held(h:Rd l v w0 rb A i G z w)(hk:∀k,k<w.heap.size→¬A k→w'.heap[k]?=w.heap[k]?)(low:Below w0.heap.size w0 w')(hs:w.heap.size≤w'.heap.size):Rd l v w0 rb (Up A w w') i G z w':=by
 obtain⟨vo,ss,h⟩:=h;exact⟨vo,ss,h.next (fun k h1 h2 _=>hk k h1 h2) low hs h.num fun _ _ _ _ _ _ hb=>(hk rb h.lt h.not).trans hb⟩
theorem Rd.low(h:Rd l v w0 rb A i G z w):Below w0.heap.size w0 w:=by obtain⟨_,_,h⟩:=h;exact h.low
theorem Rd.num(h:Rd l v w0 rb A i G z w):I64 i:=by obtain⟨_,_,h⟩:=h;exact h.num
theorem Rd.hB(h:Rd l v w0 rb A i G z w):w0.heap.size≤rb:=by obtain⟨_,_,h⟩:=h;exact h.hB
theorem Rd.env(h:Rd l v w0 rb A i G z w):em.Env l v w0:=by obtain⟨_,_,h⟩:=h;exact h.env
theorem Rd.not(h:Rd l v w0 rb A i G z w):¬A rb:=by obtain⟨_,_,h⟩:=h;exact h.not
theorem Rd.ap(h:Rd l v w0 rb A i G z w):∀b,A b→w0.heap.size≤b∧b<w.heap.size:=by obtain⟨_,_,h⟩:=h;exact fun b q=>⟨(h.ap b q).1,(h.ap b q).2.1⟩
theorem Rd.on(h:Rd l v w0 rb A i G z w)(hb:Below w.heap.size w w'):Rd l v w0 rb (Up A w w') i G z w':=
 h.held (fun k hk _=>hb.block k hk) (h.low.trans (hb.mono h.low.size)) hb.size
structure Mv(v:Value)(rb:Nat)(i j:Int)(w w':World):Prop where
 grow:w.grownBy w' (some rb)
 box:∀a b c d e f,Box w rb RdT (rdC v i a b c d e f)→Box w' rb RdT (rdC v j a b c d e f)
theorem Mv.of(hb:Below w.heap.size w w')(i:Int):Mv v rb i i w w':=⟨⟨hb.os,hb.tape,hb.output,hb.size,fun k hk _=>hb.block k hk⟩,fun _ _ _ _ _ _ h=>h.on hb⟩
theorem Mv.trans{k:Int}{w2:World}(h:Mv v rb i j w w')(h2:Mv v rb j k w' w2):Mv v rb i k w w2:=
 ⟨⟨h2.grow.os.trans h.grow.os,h2.grow.tape.trans h.grow.tape,h2.grow.output.trans h.grow.output,Nat.le_trans h.grow.size h2.grow.size,fun k hk hn=>(h2.grow.block k (Nat.lt_of_lt_of_le hk h.grow.size) hn).trans (h.grow.block k hk hn)⟩,fun _ _ _ _ _ _ q=>h2.box _ _ _ _ _ _ (h.box _ _ _ _ _ _ q)⟩
theorem Mv.other{Z:Nat}{T:TypeId}{cs:Array Value}(h:Mv v rb i j w w')(hz:Box w Z T cs)(hn:Z≠rb):Box w' Z T cs:=(h.grow.block Z hz.lt (fun e=>by injection e with e;exact hn e)).trans hz
theorem Rd.moved(h:Rd l v w0 rb A i G z w)(m:Mv v rb i j w w')(hj:I64 j):Rd l v w0 rb (Up A w w') j G z w':=by
 obtain⟨vo,ss,h⟩:=h;exact⟨vo,ss,h.next (fun k h1 _ h3=>m.grow.block k h1 (fun e=>by injection e with e;exact h3 e)) (h.low.grown m.grow h.low.size (fun k hk=>by injection hk with hk;rw[←hk];exact h.hB)) m.grow.size hj m.box⟩
structure Rs(l:List Tk)(v:Value)(w0:World)(rb:Nat)(i:Int)(w:World):Prop where
 env:em.Env l v w0
 low:Below w0.heap.size w0 w
 hB:w0.heap.size≤rb
 num:I64 i
 box:∃A c a b d e f g h k,v=.slice A l.length c∧Box w rb RdT (rdC v i a (.int .i64 b) (.int .i64 d) (.int .i64 e) (.string f) (.slice g h k))
theorem Rd.rs(h:Rd l v w0 rb A i G z w):Rs l v w0 rb i w:=by
 obtain⟨vo,ss,h⟩:=h;obtain⟨n,Al,kl,cl,hb,_⟩:=h.box;obtain⟨Av,cv,hv⟩:=h.env.src.lies.form;exact⟨h.env,h.low,h.hB,h.num,Av,cv,vo,_,_,_,_,Al,kl,cl,hv,hb⟩
theorem Rs.lt(h:Rs l v w0 rb i w):rb<w.heap.size:=by obtain⟨_,_,_,_,_,_,_,_,_,_,_,hb⟩:=h.box;exact hb.lt
theorem Rs.on(h:Rs l v w0 rb i w)(hb:Below w.heap.size w w'):Rs l v w0 rb i w':=by
 obtain⟨A,c,a,b,d,e,f,g,h1,k,hv,hbx⟩:=h.box;exact⟨h.env,h.low.trans (hb.mono h.low.size),h.hB,h.num,A,c,a,b,d,e,f,g,h1,k,hv,hbx.on hb⟩
theorem Rs.moved(h:Rs l v w0 rb i w)(m:Mv v rb i j w w')(hj:I64 j):Rs l v w0 rb j w':=by
 obtain⟨A,c,a,b,d,e,f,g,h1,k,hv,hbx⟩:=h.box;exact⟨h.env,h.low.grown m.grow h.low.size (fun k hk=>by injection hk with hk;rw[←hk];exact h.hB),h.hB,hj,A,c,a,b,d,e,f,g,h1,k,hv,m.box _ _ _ _ _ _ hbx⟩
theorem Rs.src(h:Rs l v w0 rb i w):Src l v w:=h.env.src.on h.low
theorem Rs.ld(h:Rs l v w0 rb i w):wd.LD w:=h.env.ld.on h.low
def qF(A:Nat→Prop)(w w':World):Prop:=∀b,A b→w'.heap[b]?=w.heap[b]?
theorem qF.refl(A:Nat→Prop)(w:World):qF A w w:=fun _ _=>rfl
theorem qF.trans{w2:World}(h:qF A w w')(h2:qF A w' w2):qF A w w2:=fun b hb=>(h2 b hb).trans (h b hb)
theorem qF.mono(h:qF A w w')(hA:∀b,A' b→A b):qF A' w w':=fun b q=>h b (hA b q)
theorem Rd.keep(h:Rd l v w0 rb A i G z w)(m:Mv v rb i j w w'):qF A w w':=by
 obtain⟨vo,ss,h⟩:=h;exact fun b q=>m.grow.block b (h.ap b q).2.1 fun e=>by injection e with e;exact(h.ap b q).2.2.1 e
theorem RdX.push{f:NT}{s vo':Value}{xs:List Value}{w4:World}(h:RdX l v w0 rb A i G z vo ss w)(hA:∀b,A' b→A b)(hg:w.grownBy w4 vo.ownBlock)(hat:∀k,vo'.ownBlock=some k→vo.ownBlock=some k∨w.heap.size≤k)
   (ho:w4.ownsRow w0.heap.size qi 5 vo' (G.length+1) (qag G ss++qhZ f s))(hs:w.ownsRow w0.heap.size qi 5 s f.kids.length xs)(hsA:∀k,s.ownBlock=some k→A k∧¬A' k)(hd:Hd f)
   (hn:qI (fun b=>KP w0 rb A' vo ss b∧s.ownBlock≠some b) w f.kids xs):
   RdX l v w0 rb A' i (f::G) z vo' (s::ss) (w4.setCell ⟨rb,2,none⟩ vo')∧qF A' w (w4.setCell ⟨rb,2,none⟩ vo'):=by
 have htO:∀k,vo.ownBlock=some k→Typ w qi k:=fun k e=>Typ.own h.opn e;have hnO:∀k,vo.ownBlock=some k→k≠rb:=fun k e=>(htO k e).ne h.typ (by decide);have hlow4:Below w0.heap.size w0 w4:=h.low.grown hg h.low.size fun k hk=>(h.opn.lt k hk).1;have hsz:(w4.setCell ⟨rb,2,none⟩ vo').heap.size=w4.heap.size:=by simp[World.setCell]
 have same:∀k,k<w.heap.size→vo.ownBlock≠some k→k≠rb→(w4.setCell ⟨rb,2,none⟩ vo').heap[k]?=w.heap[k]?:=fun k h1 h2 h3=>(Below.heap_setCell w4 ⟨rb,2,none⟩ vo' k h3).trans (hg.block k h1 fun e=>h2 e.symm)
 have hnew:∀b,b<w.heap.size→vo.ownBlock≠some b→vo'.ownBlock≠some b:=fun b h1 h2 e=>by
   rcases hat b e with e2|e2
   · exact h2 e2
   · omega
 have hcarry:∀b o u,KP w0 rb A' vo ss b→s.ownBlock≠some b→w.cell? ⟨b,o,none⟩=some u→KP w0 rb A' vo' (s::ss) b∧(w4.setCell ⟨rb,2,none⟩ vo').cell? ⟨b,o,none⟩=some u:=fun b o u q hns hc=>by
   have hlt:b<w.heap.size:=World.block_lt_of_cell? _ _ hc;refine⟨⟨q.1,q.2.1,q.2.2.1,hnew b hlt q.2.2.2.1,fun s' hs'=>?_⟩,(World.cell?_of_block (w:=w) (a:=⟨b,o,none⟩) (same b hlt q.2.2.2.1 q.2.2.1)).trans hc⟩;rcases List.mem_cons.1 hs' with rfl|hs'
   · exact hns
   · exact q.2.2.2.2 s' hs'
 have hA2:∀b,KP w0 rb A vo ss b→KP w0 rb A' vo ss b∧s.ownBlock≠some b:=fun b q=>⟨⟨q.1,fun e=>q.2.1 (hA b e),q.2.2⟩,fun e=>q.2.1 (hsA b e).1⟩;refine⟨⟨h.env,hlow4.setCell (p:=⟨rb,2,none⟩) h.hB _,h.hB,h.num,fun b q=>?_,qZ ho fun k hk=>qee _ _ _ _ _ fun e=>?_,?_,fun s' hs' k hk e=>?_,?_⟩,fun b q=>?_⟩
 · have ha:=h.ap b (hA b q);refine⟨ha.1,by rw[hsz];have:=hg.size;omega,ha.2.2.1,hnew b ha.2.1 ha.2.2.2.1,fun s' hs'=>?_⟩;rcases List.mem_cons.1 hs' with rfl|hs'
   · exact fun e=>(hsA b e).2 q
   · exact ha.2.2.2.2 s' hs'
 · rcases hat k hk with e2|e2
   · exact hnO k e2 e
   · have:=h.lt;omega
 · rw[Frs];refine⟨s,ss,xs,rfl,qZ hs fun k hk=>same k (hs.lt k hk).2 (h.ap k (hsA k hk).1).2.2.2.1 (h.ap k (hsA k hk).1).2.2.1,hn.carry fun b o u q hc=>hcarry b o u q.1 q.2 hc,hd,fun k hk s' hs'=>(h.ap k (hsA k hk).1).2.2.2.2 s' hs',h.frs.carry (fun b o u q hc=>hcarry b o u (hA2 b q).1 (hA2 b q).2 hc) fun s' hs' k hk hlt=>same k hlt (fun e=>h.sep s' hs' k hk e) ((h.frs.rows s' hs' k hk).2.ne h.typ (by decide))⟩
 · rcases List.mem_cons.1 hs' with rfl|hs'
   · exact hnew k (hs.lt k hk).2 (h.ap k (hsA k hk).1).2.2.2.1 e
   · exact hnew k (h.frs.rows s' hs' k hk).2.lt (h.sep s' hs' k hk) e
 · obtain⟨n,Al,kl,cl,hb,hz⟩:=h.box
   exact⟨n,Al,kl,cl,(hb.grown hg fun e=>hnO rb e.symm rfl).set 2 _,fun m hm=>by
     obtain⟨h1,h2,h3⟩:=hz m hm;exact⟨h1,h2.carry fun b o u q hc=>hcarry b o u (hA2 b q).1 (hA2 b q).2 hc,h3⟩⟩
 · have ha:=h.ap b (hA b q);exact same b ha.2.1 ha.2.2.2.1 ha.2.2.1
theorem RdX.pop{f:NT}{s:Value}{g c N:Nat}(h:RdX l v w0 rb A i (f::G) z (.slice (some ⟨g,0,none⟩) (N+1) c) (s::ss) w)(hN:N=G.length):
   RdX l v w0 rb A i G z (.slice (some ⟨g,0,none⟩) N c) ss (w.setCell ⟨rb,2,none⟩ (.slice (some ⟨g,0,none⟩) N c))∧nt.ql (KP w0 rb A (.slice (some ⟨g,0,none⟩) N c) ss) (w.setCell ⟨rb,2,none⟩ (.slice (some ⟨g,0,none⟩) N c)) f.kids s∧Hd f∧qF A w (w.setCell ⟨rb,2,none⟩ (.slice (some ⟨g,0,none⟩) N c)):=by
 have hfr:=h.frs;rw[Frs]at hfr;obtain⟨s1,rest,xs,he,h1,h2,h3,h4,h5⟩:=hfr;injection he with he1 he2
 subst he1 he2;have ho:=h.opn;rw[List.length_cons,qag,←hN]at ho;have hp:=ownsRow_pop (by rw[qaY h5,hN]) ho;have hgr:g≠rb:=(Typ.own h.opn (k:=g) rfl).ne h.typ (by decide);have same:∀k,k≠rb→(w.setCell ⟨rb,2,none⟩ (.slice (some ⟨g,0,none⟩) N c)).heap[k]?=w.heap[k]?:=fun k hk=>Below.heap_setCell w ⟨rb,2,none⟩ _ k hk
 have hcarry:∀b o u,KP w0 rb A (.slice (some ⟨g,0,none⟩) (N+1) c) (s::ss) b→w.cell? ⟨b,o,none⟩=some u→KP w0 rb A (.slice (some ⟨g,0,none⟩) N c) ss b∧(w.setCell ⟨rb,2,none⟩ (.slice (some ⟨g,0,none⟩) N c)).cell? ⟨b,o,none⟩=some u:=fun b o u q hc=>
   ⟨⟨q.1,q.2.1,q.2.2.1,q.2.2.2.1,fun s' hs'=>q.2.2.2.2 s' (List.mem_cons_of_mem _ hs')⟩,(World.cell?_of_block (w:=w) (a:=⟨b,o,none⟩) (same b q.2.2.1)).trans hc⟩
 refine⟨⟨h.env,h.low.setCell (p:=⟨rb,2,none⟩) h.hB _,h.hB,h.num,fun b q=>?_,?_,h5.carry hcarry (fun s' hs' k hk _=>same k ((h5.rows s' hs' k hk).2.ne h.typ (by decide))),fun s' hs'=>h.sep s' (List.mem_cons_of_mem _ hs'),?_⟩,?_,h3,fun b q=>same b (h.ap b q).2.2.1⟩
 · have ha:=h.ap b q;exact⟨ha.1,by simpa [World.setCell]using ha.2.1,ha.2.2.1,ha.2.2.2.1,fun s' hs'=>ha.2.2.2.2 s' (List.mem_cons_of_mem _ hs')⟩
 · rw[←hN];exact qZ hp fun k hk=>same k (by have e:g=k:=(by simpa [Value.ownBlock]using hk);rw[←e];exact hgr)
 · obtain⟨n,Al,kl,cl,hb,hz⟩:=h.box
   exact⟨n,Al,kl,cl,hb.set 2 _,fun m hm=>by
     obtain⟨q1,q2,q3⟩:=hz m hm;exact⟨q1,q2.carry hcarry,q3⟩⟩
 · have hks:nt.ql (fun b=>KP w0 rb A (.slice (some ⟨g,0,none⟩) (N+1) c) (s::ss) b∨s.ownBlock=some b) w f.kids s:=by
     have hx:=h1.1;rcases h1.2 with⟨hs,hn⟩|⟨q,cap,cur,hs,hb,hg',hnc,hcm,hcs,htake⟩
     · exact⟨none,0,by rw[hs,hn],⟨by omega,fun _=>rfl,by omega⟩,fun h=>by omega⟩
     · refine⟨_,cap,hs,⟨by unfold maxLen at hcm;omega,(fun h=>by cases h),hnc⟩,fun h=>⟨q,0,rfl,Or.inr (by rw[hs];rfl),qd6 (h2.mono fun b hb=>Or.inl hb) fun j u hu=>?_⟩⟩;rw[Nat.zero_add,cell_of_row w q j cur qi (0,0) hg'];rw[←htake,List.getElem?_take]at hu;split at hu
       · simpa using hu
       · cases hu
   refine hks.carry fun b o u q hc=>?_;rcases q with q|q
   · exact hcarry b o u q hc
   · have hnr:b≠rb:=(Typ.own h1 q).ne h.typ (by decide);refine⟨⟨(h1.lt b q).1,fun e=>(h.ap b e).2.2.2.2 s (List.mem_cons_self ..) q,hnr,fun e=>h.sep s (List.mem_cons_self ..) b q e,fun s' hs'=>h4 b q s' hs'⟩,(World.cell?_of_block (w:=w) (a:=⟨b,o,none⟩) (same b hnr)).trans hc⟩
theorem RdX.top{f:NT}(h:RdX l v w0 rb A i (f::G) z vo ss w):∃g c s rest,ss=s::rest∧vo=.slice (some ⟨g,0,none⟩) (G.length+1) c∧w0.heap.size≤g∧g<w.heap.size∧g≠rb∧G.length+1≤c∧(∀j u,(qhZ f s)[j]?=some u→w.cell? ⟨g,G.length*5+j,none⟩=some u)∧∀k,w.frozen? ⟨g,k,none⟩=false:=by
 have hfr:=h.frs;rw[Frs]at hfr;obtain⟨s,rest,xs,rfl,h1,h2,h3,h4,h5⟩:=hfr;have ho:=h.opn;rcases ho.2 with⟨_,hn⟩|⟨g,c,cur,hv,hb,hg,hc,_⟩
 · simp at hn
 · subst hv;have hlo:=qaY h5;refine⟨g,c,s,rest,rfl,rfl,hb,(Array.getElem?_eq_some_iff.1 hg).1,(Typ.own h.opn (k:=g) rfl).ne h.typ (by decide),by simpa using hc,fun j u hu=>?_,fun k=>ho.frozenAt k⟩
   have hj:j<5:=by
     obtain⟨h1,_⟩:=List.getElem?_eq_some_iff.1 hu;simpa using h1
   rw[ho.cellAt _ (by rw[List.length_cons];omega),qag,List.getElem?_append_right (by omega),show G.length*5+j-(qag G rest).length=j by omega];exact hu
theorem RdX.grow{f n:NT}{s s' sn:Value}{xs:List Value}{g c N:Nat}{w4:World}(h:RdX l v w0 rb A i (f::G) z (.slice (some ⟨g,0,none⟩) (N+1) c) (s::ss) w)(hN:N=G.length)
   (hg:w.grownBy w4 s.ownBlock)(hat:∀k,s'.ownBlock=some k→s.ownBlock=some k∨w.heap.size≤k)(hnx:qI (KP w0 rb A (.slice (some ⟨g,0,none⟩) (N+1) c) (s::ss)) w f.kids xs)
   (ho:w4.ownsRow w0.heap.size qi 5 s' (f.kids.length+1) (xs++qhZ n sn))(hd:Hd n)(hk:nt.ql (KP w0 rb A (.slice (some ⟨g,0,none⟩) (N+1) c) (s::ss)) w n.kids sn):
   RdX l v w0 rb A i (add f n::G) z (.slice (some ⟨g,0,none⟩) (N+1) c) (s'::ss) (w4.setCell ⟨g,N*5+4,none⟩ s')∧qF A w (w4.setCell ⟨g,N*5+4,none⟩ s'):=by
 subst hN;have hfr:=h.frs;rw[Frs]at hfr;obtain⟨s1,rest,xs1,he,h1,h2,h3,h4,h5⟩:=hfr;injection he with he1 he2
 subst he1 he2;have hgt:Typ w qi g:=Typ.own h.opn (k:=g) rfl;have hgr:g≠rb:=hgt.ne h.typ (by decide);have hsg:s.ownBlock≠some g:=fun e=>h.sep s (List.mem_cons_self ..) g e rfl;have hsr:s.ownBlock≠some rb:=fun e=>(Typ.own h1 e).ne h.typ (by decide) rfl;have hlow4:Below w0.heap.size w0 w4:=h.low.grown hg h.low.size fun k hk=>(h1.lt k hk).1;have hsz:(w4.setCell ⟨g,G.length*5+4,none⟩ s').heap.size=w4.heap.size:=by simp[World.setCell]
 have same:∀k,k<w.heap.size→s.ownBlock≠some k→k≠g→(w4.setCell ⟨g,G.length*5+4,none⟩ s').heap[k]?=w.heap[k]?:=fun k q1 q2 q3=>(Below.heap_setCell w4 ⟨g,G.length*5+4,none⟩ s' k q3).trans (hg.block k q1 fun e=>q2 e.symm)
 have hnew:∀b,b<w.heap.size→s.ownBlock≠some b→s'.ownBlock≠some b:=fun b q1 q2 e=>by
   rcases hat b e with e2|e2
   · exact q2 e2
   · omega
 have hcarry:∀b o u,KP w0 rb A (.slice (some ⟨g,0,none⟩) (G.length+1) c) (s::ss) b→w.cell? ⟨b,o,none⟩=some u→KP w0 rb A (.slice (some ⟨g,0,none⟩) (G.length+1) c) (s'::ss) b∧(w4.setCell ⟨g,G.length*5+4,none⟩ s').cell? ⟨b,o,none⟩=some u:=fun b o u q hc=>by
   have hlt:b<w.heap.size:=World.block_lt_of_cell? _ _ hc;have hns:=q.2.2.2.2 s (List.mem_cons_self ..);refine⟨⟨q.1,q.2.1,q.2.2.1,q.2.2.2.1,fun t ht=>?_⟩,(World.cell?_of_block (w:=w) (a:=⟨b,o,none⟩) (same b hlt hns fun e=>q.2.2.2.1 (by rw[e];rfl))).trans hc⟩;rcases List.mem_cons.1 ht with rfl|ht
   · exact hnew b hlt hns
   · exact q.2.2.2.2 t (List.mem_cons_of_mem _ ht)
 have hs'g:s'.ownBlock≠some g:=hnew g hgt.lt hsg;refine⟨⟨h.env,hlow4.setCell (p:=⟨g,G.length*5+4,none⟩) (h.opn.lt g rfl).1 _,h.hB,h.num,fun b q=>?_,?_,?_,fun t ht k hk e=>?_,?_⟩,fun b q=>?_⟩
 · have ha:=h.ap b q;refine⟨ha.1,by rw[hsz];have:=hg.size;omega,ha.2.2.1,ha.2.2.2.1,fun t ht=>?_⟩;rcases List.mem_cons.1 ht with rfl|ht
   · exact hnew b ha.2.1 (ha.2.2.2.2 s (List.mem_cons_self ..))
   · exact ha.2.2.2.2 t (List.mem_cons_of_mem _ ht)
 · have ho4:w4.ownsRow w0.heap.size qi 5 (.slice (some ⟨g,0,none⟩) (G.length+1) c) (G.length+1) (qag (f::G) (s::ss)):=qZ h.opn fun k hk=>by
     have e:g=k:=by simpa [Value.ownBlock]using hk
     rw[←e];exact hg.block g hgt.lt fun e=>hsg e.symm
   have hst:=(ho4.stored (G.length*5+4) s').1;rw[qag,List.set_append_right _ _ (by rw[qaY h5];omega),qaY h5,show G.length*5+4-G.length*5=4 by omega]at hst;exact hst
 · rw[Frs];have e:(add f n).kids=f.kids++[n]:=rfl;refine⟨s',ss,xs++qhZ n sn,rfl,?_,?_,h3,fun k hk t ht=>?_,h5.carry hcarry fun t ht k hk hlt=>same k hlt (fun e=>h4 k e t ht hk) fun e=>h.sep t (List.mem_cons_of_mem _ ht) k hk (by rw[e];rfl)⟩
   · rw[e,List.length_append];exact qZ ho fun k hk=>qee _ _ _ _ _ fun e=>hs'g (by rw[←e];exact hk)
   · rw[e];refine qI.append (hnx.carry hcarry) ?_;rw[qI];exact⟨sn,[],rfl,hd,hk.carry hcarry,by rw[qI]⟩
   · rcases hat k hk with e2|e2
     · exact h4 k e2 t ht
     · exact fun e=>by have:=(h5.rows t ht k e).2.lt;omega
 · rcases List.mem_cons.1 ht with rfl|ht
   · have e3:g=k:=by simpa [Value.ownBlock]using e
     rw[←e3]at hk;exact hs'g hk
   · exact h.sep t (List.mem_cons_of_mem _ ht) k hk e
 · obtain⟨m,Al,kl,cl,hb,hz⟩:=h.box
   exact⟨m,Al,kl,cl,(hb.grown hg fun e=>hsr e.symm).far (fun e=>hgr e.symm) _,fun m2 hm=>by
     obtain⟨q1,q2,q3⟩:=hz m2 hm;exact⟨q1,q2.carry hcarry,q3⟩⟩
 · have ha:=h.ap b q;exact same b ha.2.1 (ha.2.2.2.2 s (List.mem_cons_self ..)) fun e=>ha.2.2.2.1 (by rw[e];rfl)
theorem RdX.last{n:NT}{Al:Option Addr}{kl cl:Nat}(h:RdX l v w0 rb A i [] z vo ss w)(hd:Hd n)(hk:nt.ql (KP w0 rb A vo ss) w n.kids (.slice Al kl cl)):
   RdX l v w0 rb A i [] (some n) vo ss (((((w.setCell ⟨rb,3,none⟩ (.int .i64 n.kind)).setCell ⟨rb,4,none⟩ (.int .i64 n.at_)).setCell ⟨rb,5,none⟩ (.int .i64 n.num)).setCell ⟨rb,6,none⟩ (.string ⟨n.name.toArray⟩)).setCell ⟨rb,7,none⟩ (.slice Al kl cl))∧qF A w (((((w.setCell ⟨rb,3,none⟩ (.int .i64 n.kind)).setCell ⟨rb,4,none⟩ (.int .i64 n.at_)).setCell ⟨rb,5,none⟩ (.int .i64 n.num)).setCell ⟨rb,6,none⟩ (.string ⟨n.name.toArray⟩)).setCell ⟨rb,7,none⟩ (.slice Al kl cl))∧w.heap.size≤(((((w.setCell ⟨rb,3,none⟩ (.int .i64 n.kind)).setCell ⟨rb,4,none⟩ (.int .i64 n.at_)).setCell ⟨rb,5,none⟩ (.int .i64 n.num)).setCell ⟨rb,6,none⟩ (.string ⟨n.name.toArray⟩)).setCell ⟨rb,7,none⟩ (.slice Al kl cl)).heap.size:=by
 have same:∀k,k≠rb→(((((w.setCell ⟨rb,3,none⟩ (.int .i64 n.kind)).setCell ⟨rb,4,none⟩ (.int .i64 n.at_)).setCell ⟨rb,5,none⟩ (.int .i64 n.num)).setCell ⟨rb,6,none⟩ (.string ⟨n.name.toArray⟩)).setCell ⟨rb,7,none⟩ (.slice Al kl cl)).heap[k]?=w.heap[k]?:=fun k hk=>by
   rw[Below.heap_setCell _ ⟨rb,7,none⟩ _ k hk,Below.heap_setCell _ ⟨rb,6,none⟩ _ k hk,Below.heap_setCell _ ⟨rb,5,none⟩ _ k hk,Below.heap_setCell _ ⟨rb,4,none⟩ _ k hk,Below.heap_setCell _ ⟨rb,3,none⟩ _ k hk]
 have hlow:=((((h.low.setCell (p:=⟨rb,3,none⟩) h.hB (.int .i64 n.kind)).setCell (p:=⟨rb,4,none⟩) h.hB (.int .i64 n.at_)).setCell (p:=⟨rb,5,none⟩) h.hB (.int .i64 n.num)).setCell (p:=⟨rb,6,none⟩) h.hB (.string ⟨n.name.toArray⟩)).setCell (p:=⟨rb,7,none⟩) h.hB (.slice Al kl cl);obtain⟨m,Am,km,cm,hb,_⟩:=h.box;have hbx:=((((hb.set 3 (.int .i64 n.kind)).set 4 (.int .i64 n.at_)).set 5 (.int .i64 n.num)).set 6 (.string ⟨n.name.toArray⟩)).set 7 (.slice Al kl cl);obtain⟨V,hV⟩:=qc ((((((w.setCell ⟨rb,3,none⟩ (.int .i64 n.kind)).setCell ⟨rb,4,none⟩ (.int .i64 n.at_)).setCell ⟨rb,5,none⟩ (.int .i64 n.num)).setCell ⟨rb,6,none⟩ (.string ⟨n.name.toArray⟩)).setCell ⟨rb,7,none⟩ (.slice Al kl cl)));have hsz:V.heap.size=w.heap.size:=by rw[hV];simp[World.setCell]
 rw[←hV]at same hlow hbx ⊢;have hfr:=h.frs;rw[Frs]at hfr;have hcarry:∀b o u,KP w0 rb A vo ss b→w.cell? ⟨b,o,none⟩=some u→KP w0 rb A vo ss b∧V.cell? ⟨b,o,none⟩=some u:=fun b o u q hc=>⟨q,(World.cell?_of_block (w:=w) (a:=⟨b,o,none⟩) (same b q.2.2.1)).trans hc⟩;refine⟨⟨h.env,hlow,h.hB,h.num,fun b q=>by have:=h.ap b q;exact⟨this.1,by omega,this.2.2⟩,qZ h.opn fun k hk=>same k ((Typ.own h.opn hk).ne h.typ (by decide)),by rw[Frs];exact hfr,h.sep,n,Al,kl,cl,hbx,fun m2 hm=>?_⟩,fun b q=>same b (h.ap b q).2.2.1,by omega⟩;injection hm with hm
 exact⟨hm.symm,hk.carry hcarry,hd⟩
theorem RdX.hold(h:RdX l v w0 rb A i [] z vo ss w):RdX l v w0 rb (fun b=>A b∨(KP w0 rb A vo ss b∧b<w.heap.size)) i [] none vo ss w:=by
 have hfr:=h.frs;rw[Frs]at hfr;refine⟨h.env,h.low,h.hB,h.num,fun b q=>?_,h.opn,by rw[Frs];exact hfr,h.sep,?_⟩
 · rcases q with q|q
   · exact h.ap b q
   · exact⟨q.1.1,q.2,q.1.2.2⟩
 · obtain⟨m,Am,km,cm,hb,_⟩:=h.box;exact⟨m,Am,km,cm,hb,fun m hm=>by cases hm⟩
end Go.Proofs.YtdndfifkfjoffaaGreatDoor.pm.sx
